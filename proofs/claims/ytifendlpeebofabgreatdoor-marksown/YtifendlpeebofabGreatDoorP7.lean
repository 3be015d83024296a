import Derived.Test.YtifendlpeebofabGreatDoorP0
import Derived.Test.YtifendlpeebofabGreatDoorP6
import Derived.Test.YtifendlpeebofabGreatDoorRows
import Derived.WalkKit
import Derived.WalkSpells
import Derived.WalkLawsBesides
set_option linter.unusedSimpArgs false
set_option linter.unusedVariables false
set_option maxRecDepth 100000
set_option maxHeartbeats 4000000
namespace Go.Proofs.YtifendlpeebofabGreatDoor
open Go.RowKit
theorem fg_47_8 (b o:Nat) (w:World):(Instr.fieldAt 47 (.pointer (some ⟨b,o,none⟩)) 8).run Tryz.prog w= .ok (.pointer (some ⟨b,o+8,none⟩)) w:=by go_simp
def spN (s:ByteArray):SpV:=⟨0,0,s,zVa⟩
theorem ix_ee {b o m c i:Nat} (hi:i<m) (hm:m≤9223372036854775807) (W:World):(Instr.indexAt 36 (.slice (some ⟨b,o,none⟩) m c) (.int .i64 (i:Int))).run Tryz.prog W= .ok (.pointer (some ⟨b,o+i,none⟩)) W:=by go_simp
theorem build_spN (s:ByteArray) (w:World):(Instr.build 84 #[(2, .string s)]).run Tryz.prog w= .ok (spN s).a w:=by kernel_rfl
theorem exec_buildP {P:Program} {w:World} {a:Act} {o:Oper} {t:TypeId} {x:Operand} {u v:Value} (ho:o.op= .build t #[(2,x)]) (h0:a.eval x=u) (hl:(Instr.build t #[(2,u)]).run P w= .ok v w):(execOp a.eval o).run P w= .ok (.value v) w:=by
 unfold execOp;simp only [ho,List.map_toArray,List.map_cons,List.map_nil,h0,Sem.run_bind,hl,Result.andThen_ok,Sem.run_pure]
def alS7_ops:Array Oper:=(⟨_,rfl⟩:{o // some o=rgB Tryz.f32 7}).1
theorem alS7 {q B N cB g o n c m k:Nat} {TX:ByteArray} (S Fin:World→Prop) (a:Act) (w:World) (Q:Exit→Act→World→Prop) (zz:a.tmps.size=133)
 (t0:a.tmps.getD 0 undef= .pointer (some ⟨q,0,none⟩))
 (t3:a.tmps.getD 3 undef= .int .i64 (m:Int))
 (t4:a.tmps.getD 4 undef= .int .i64 (k:Int))
 (hm:m<N) (h63:N≤9223372036854775807) (hk:k<n) (h64:n≤9223372036854775807) (h0:S w.drew) (L1:∀W,S W→(Instr.loadAt 36 (.pointer (some ⟨q,0+8,none⟩))).run Tryz.prog W= .ok (.slice (some ⟨B,0,none⟩) N cB) W) (L2:∀W,S W→(Instr.loadAt 48 (.pointer (some ⟨B,0+m,none⟩))).run Tryz.prog W= .ok (.slice (some ⟨g,o,none⟩) n c) W) (CT:Calls Tryz.prog 68 #[.int .i64 (m:Int)] w.drew fun e w1=>e= .returned (.string TX)∧S w1∧∃w2,(Instr.storeAt 84 (.pointer (some ⟨g,o+7*k,none⟩)) ((spN TX).a)).run Tryz.prog w1= .ok () w2∧Fin w2)
 (h:∀a' w',Fin w'→a'=(((((((((((a.put (some 35) (.pointer (some ⟨q,0,none⟩))).put (some 36) (.pointer (some ⟨q,0,none⟩))).put (some 37) (.pointer (some ⟨q,0+8,none⟩))).put (some 38) (.slice (some ⟨B,0,none⟩) N cB)).put (some 39) (.int .i64 (m:Int))).put (some 40) (.pointer (some ⟨B,0+m,none⟩))).put (some 41) (.slice (some ⟨g,o,none⟩) n c)).put (some 42) (.int .i64 (k:Int))).put (some 43) (.int .i64 (m:Int))).put (some 44) (.string TX)).put (some 45) ((spN TX).a)).put (some 46) (.pointer (some ⟨g,o+7*k,none⟩))→Q .normal a' w') :
 (Code.region 7 alS7_ops true).wp Tryz.prog Q a w:=by
 refine x0 12 (fun w'=>S w') (h0) (fun hHeld=> ?_)
 refine xv 0 rfl rfl (fun w1 hw=>xmv rfl (zi t0 rfl)) hHeld ?_
 refine xv 1 rfl rfl (fun w1 hw=>xnc rfl (zg zz rfl)) hHeld ?_
 refine xv 2 rfl rfl (fun w1 hw=>xfa rfl (zg zz rfl) (fg_47_8 _ _ _)) hHeld ?_
 refine xv 3 rfl rfl (fun w1 hw=>xld rfl (zg zz rfl) (L1 _ hw)) hHeld ?_
 refine xv 4 rfl rfl (fun w1 hw=>xmv rfl (zi t3 rfl)) hHeld ?_
 refine xv 5 rfl rfl (fun w1 hw=>xia rfl (zg zz rfl) (zg zz rfl) (ix_ee hm h63 _)) hHeld ?_
 refine xv 6 rfl rfl (fun w1 hw=>xld rfl (zg zz rfl) (L2 _ hw)) hHeld ?_
 refine xv 7 rfl rfl (fun w1 hw=>xmv rfl (zi t4 rfl)) hHeld ?_
 refine xv 8 rfl rfl (fun w1 hw=>xmv rfl (zi t3 rfl)) hHeld ?_
 refine xc 9 rfl rfl (exec_c1 rfl (zg zz rfl)) (CT) (fun e x9 hx=> ?_)
 obtain ⟨rfl,S1,w2,ES,HF⟩:=hx
 refine ⟨_,rfl,fun _=>S1,fun hHeld=> ?_⟩
 replace hHeld:=hHeld (by decide)
 refine xv 10 rfl rfl (fun w1 hw=>exec_buildP rfl (zg zz rfl) (build_spN _ _)) hHeld ?_
 refine xv 11 rfl rfl (fun w1 hw=>xia rfl (zg zz rfl) (zg zz rfl) (ix_sp hk h64 _)) hHeld ?_
 refine xs 12 rfl rfl (exec_store rfl (zg zz rfl) (zg zz rfl) ES) (fun hne=>absurd rfl hne) (fun _=> ?_)
 exact xe rfl (h _ _ (HF) rfl)
def alS16_ops:Array Oper:=(⟨_,rfl⟩:{o // some o=rgB Tryz.f32 16}).1
theorem alS16 {gv:Value} {m:Nat} {TX:ByteArray} (Fin:Value→World→Prop) (a:Act) (w:World) (Q:Exit→Act→World→Prop) (zz:a.tmps.size=133)
 (t7:a.tmps.getD 7 undef=gv)
 (t6:a.tmps.getD 6 undef= .int .i64 (m:Int))
 (CT:Calls Tryz.prog 68 #[.int .i64 (m:Int)] w fun e w1=>e= .returned (.string TX)∧∃sv w2 rv w3,(Instr.buildSlice 48 1 #[(0,(spN TX).a)]).run Tryz.prog w1= .ok sv w2∧(Builtin.append_ #[48,48] 48 #[gv,sv]).run Tryz.prog w2= .ok rv w3∧Fin rv w3)
 (h:∀(sv rv:Value) a' w',Fin rv w'→a'=((((((a.put (some 67) (gv)).put (some 68) (.int .i64 (m:Int))).put (some 69) (.string TX)).put (some 70) ((spN TX).a)).put (some 71) (sv)).put (some 72) (rv)).put (some 7) (rv)→Q .normal a' w') :
 (Code.region 16 alS16_ops false).wp Tryz.prog Q a w:=by
 refine z0 rfl ?_
 refine zv rfl (xmv rfl (zi t7 rfl)) ?_
 refine zv rfl (xmv rfl (zi t6 rfl)) ?_
 refine zc rfl (exec_c1 rfl (zg zz rfl)) (CT) (fun e x2 hx=> ?_)
 obtain ⟨rfl,sv,w2,rv,w3,EB,EA,HF⟩:=hx
 replace h:=h sv rv
 refine ⟨_,rfl, ?_⟩
 refine zv rfl (exec_buildP rfl (zg zz rfl) (build_spN _ _)) ?_
 refine zv (v:=sv) rfl (exec_buildSlice rfl (zg zz rfl) EB) ?_
 refine zv (v:=rv) rfl (exec_append rfl (zg zz rfl) (zg zz rfl) EA) ?_
 refine zv rfl (xas rfl (zg zz rfl)) ?_
 exact ze rfl (h _ _ (HF) rfl)
def alS17_ops:Array Oper:=(⟨_,rfl⟩:{o // some o=rgB Tryz.f32 17}).1
theorem alS17 {av gv sv rv:Value} {w1 w2:World} (a:Act) (w:World) (Q:Exit→Act→World→Prop) (zz:a.tmps.size=133)
 (t5:a.tmps.getD 5 undef=av)
 (t7:a.tmps.getD 7 undef=gv)
 (EB:(Instr.buildSlice 36 1 #[(0,gv)]).run Tryz.prog w= .ok sv w1) (EA:(Builtin.append_ #[36,36] 36 #[av,sv]).run Tryz.prog w1= .ok rv w2)
 (h:∀a' w',w'=w2→a'=((((a.put (some 73) (av)).put (some 74) (gv)).put (some 75) (sv)).put (some 76) (rv)).put (some 5) (rv)→Q .normal a' w') :
 (Code.region 17 alS17_ops false).wp Tryz.prog Q a w:=by
 refine z0 rfl ?_
 refine zv rfl (xmv rfl (zi t5 rfl)) ?_
 refine zv rfl (xmv rfl (zi t7 rfl)) ?_
 refine zv (v:=sv) rfl (exec_buildSlice rfl (zg zz rfl) EB) ?_
 refine zv (v:=rv) rfl (exec_append rfl (zg zz rfl) (zg zz rfl) EA) ?_
 refine zv rfl (xas rfl (zg zz rfl)) ?_
 exact ze rfl (h _ _ (rfl) rfl)
def alS24_ops:Array Oper:=(⟨_,rfl⟩:{o // some o=rgB Tryz.f32 24}).1
theorem alS24 {eb B N cB g o n c m k:Nat} {TX:ByteArray} {w1 w2:World} (a:Act) (w:World) (Q:Exit→Act→World→Prop) (zz:a.tmps.size=133)
 (t5:a.tmps.getD 5 undef= .slice (some ⟨B,0,none⟩) N cB)
 (t9:a.tmps.getD 9 undef= .int .i64 (m:Int))
 (t10:a.tmps.getD 10 undef= .int .i64 (k:Int))
 (hm:m<N) (h63:N≤9223372036854775807) (hk:k<n) (h64:n≤9223372036854775807) (L2:∀W,W=w→(Instr.loadAt 48 (.pointer (some ⟨B,0+m,none⟩))).run Tryz.prog W= .ok (.slice (some ⟨g,o,none⟩) n c) W) (L3:∀W,W=w→(Instr.loadAt 84 (.pointer (some ⟨g,o+7*k,none⟩))).run Tryz.prog W= .ok ((spN TX).a) W) (EA:(Instr.alloc 84 true (.tuple #[])).run Tryz.prog w= .ok (.pointer (some ⟨eb,0,none⟩)) w1) (ES:(Instr.storeAt 84 (.pointer (some ⟨eb,0,none⟩)) ((spN TX).a)).run Tryz.prog w1= .ok () w2)
 (h:∀a' w',w'=w2→a'=(((((((a.put (some 92) (.slice (some ⟨B,0,none⟩) N cB)).put (some 93) (.int .i64 (m:Int))).put (some 94) (.pointer (some ⟨B,0+m,none⟩))).put (some 95) (.slice (some ⟨g,o,none⟩) n c)).put (some 96) (.int .i64 (k:Int))).put (some 97) (.pointer (some ⟨g,o+7*k,none⟩))).put (some 98) ((spN TX).a)).put (some 11) (.pointer (some ⟨eb,0,none⟩))→Q .normal a' w') :
 (Code.region 24 alS24_ops false).wp Tryz.prog Q a w:=by
 refine z0 rfl ?_
 refine zv rfl (xmv rfl (zi t5 rfl)) ?_
 refine zv rfl (xmv rfl (zi t9 rfl)) ?_
 refine zv rfl (xia rfl (zg zz rfl) (zg zz rfl) (ix_ee hm h63 _)) ?_
 refine zv rfl (xld rfl (zg zz rfl) (L2 _ rfl)) ?_
 refine zv rfl (xmv rfl (zi t10 rfl)) ?_
 refine zv rfl (xia rfl (zg zz rfl) (zg zz rfl) (ix_sp hk h64 _)) ?_
 refine zv rfl (xld rfl (zg zz rfl) (L3 _ rfl)) ?_
 refine zv (v:= .pointer (some ⟨eb,0,none⟩)) rfl (exec_alloc rfl EA) ?_
 refine zs rfl (exec_store rfl (zg zz rfl) (zg zz rfl) ES) ?_
 exact ze rfl (h _ _ (rfl) rfl)
def alS25_ops:Array Oper:=(⟨_,rfl⟩:{o // some o=rgB Tryz.f32 25}).1
theorem alS25 {eb m:Nat} {TX:ByteArray} (S:World→Prop) (a:Act) (w:World) (Q:Exit→Act→World→Prop) (zz:a.tmps.size=133)
 (t11:a.tmps.getD 11 undef= .pointer (some ⟨eb,0,none⟩))
 (t9:a.tmps.getD 9 undef= .int .i64 (m:Int))
 (h0:S w.drew) (L1:∀W,S W→(Instr.loadAt 9 (.pointer (some ⟨eb,0+2,none⟩))).run Tryz.prog W= .ok (.string TX) W) (CT:∀W,S W→Calls Tryz.prog 68 #[.int .i64 (m:Int)] W fun e w1=>e= .returned (.string TX)∧S w1)
 (h:∀a' w',S w'→a'=(((((a.put (some 99) (.pointer (some ⟨eb,0+2,none⟩))).put (some 100) (.string TX)).put (some 101) (.int .i64 (m:Int))).put (some 102) (.string TX)).put (some 103) (.bool true)).put (some 104) (.bool false)→Q .normal a' w') :
 (Code.region 25 alS25_ops true).wp Tryz.prog Q a w:=by
 refine y0 (fun w'=>S w') (h0) (fun hHeld=> ?_)
 refine yv 0 rfl rfl (fun w1 hw=>xfa rfl (zi t11 rfl) (fg_84_2 _ _ _)) hHeld ?_
 refine yv 1 rfl rfl (fun w1 hw=>xld rfl (zg zz rfl) (L1 _ hw)) hHeld ?_
 refine yv 2 rfl rfl (fun w1 hw=>xmv rfl (zi t9 rfl)) hHeld ?_
 refine yc 3 rfl rfl (exec_c1 rfl (zg zz rfl)) (CT _ hHeld) (fun e x3 hx=> ?_)
 obtain ⟨rfl,S1⟩:=hx
 refine ⟨_,rfl,S1,fun hHeld=> ?_⟩
 refine yv (v:= .bool true) 4 rfl rfl (fun w1 hw=>ex_eqT rfl (zg zz rfl) (zg zz rfl)) hHeld ?_
 refine yv 5 rfl rfl (fun w1 hw=>exec_not rfl (zg zz rfl)) hHeld ?_
 exact ye rfl (h _ _ (hHeld) rfl)
def alS30_ops:Array Oper:=(⟨_,rfl⟩:{o // some o=rgB Tryz.f32 30}).1
theorem alS30 {eb q B N cB g o n c m k:Nat} {TX:ByteArray} {w1 w2:World} (a:Act) (w:World) (Q:Exit→Act→World→Prop) (zz:a.tmps.size=133)
 (t0:a.tmps.getD 0 undef= .pointer (some ⟨q,0,none⟩))
 (t9:a.tmps.getD 9 undef= .int .i64 (m:Int))
 (t12:a.tmps.getD 12 undef= .int .i64 (k:Int))
 (hm:m<N) (h63:N≤9223372036854775807) (hk:k<n) (h64:n≤9223372036854775807) (L1:∀W,W=w→(Instr.loadAt 36 (.pointer (some ⟨q,0+8,none⟩))).run Tryz.prog W= .ok (.slice (some ⟨B,0,none⟩) N cB) W) (L2:∀W,W=w→(Instr.loadAt 48 (.pointer (some ⟨B,0+m,none⟩))).run Tryz.prog W= .ok (.slice (some ⟨g,o,none⟩) n c) W) (L3:∀W,W=w→(Instr.loadAt 84 (.pointer (some ⟨g,o+7*k,none⟩))).run Tryz.prog W= .ok ((spN TX).a) W) (EA:(Instr.alloc 84 true (.tuple #[])).run Tryz.prog w= .ok (.pointer (some ⟨eb,0,none⟩)) w1) (ES:(Instr.storeAt 84 (.pointer (some ⟨eb,0,none⟩)) ((spN TX).a)).run Tryz.prog w1= .ok () w2)
 (h:∀a' w',w'=w2→a'=((((((((((a.put (some 117) (.pointer (some ⟨q,0,none⟩))).put (some 118) (.pointer (some ⟨q,0,none⟩))).put (some 119) (.pointer (some ⟨q,0+8,none⟩))).put (some 120) (.slice (some ⟨B,0,none⟩) N cB)).put (some 121) (.int .i64 (m:Int))).put (some 122) (.pointer (some ⟨B,0+m,none⟩))).put (some 123) (.slice (some ⟨g,o,none⟩) n c)).put (some 124) (.int .i64 (k:Int))).put (some 125) (.pointer (some ⟨g,o+7*k,none⟩))).put (some 126) ((spN TX).a)).put (some 13) (.pointer (some ⟨eb,0,none⟩))→Q .normal a' w') :
 (Code.region 30 alS30_ops false).wp Tryz.prog Q a w:=by
 refine z0 rfl ?_
 refine zv rfl (xmv rfl (zi t0 rfl)) ?_
 refine zv rfl (xnc rfl (zg zz rfl)) ?_
 refine zv rfl (xfa rfl (zg zz rfl) (fg_47_8 _ _ _)) ?_
 refine zv rfl (xld rfl (zg zz rfl) (L1 _ rfl)) ?_
 refine zv rfl (xmv rfl (zi t9 rfl)) ?_
 refine zv rfl (xia rfl (zg zz rfl) (zg zz rfl) (ix_ee hm h63 _)) ?_
 refine zv rfl (xld rfl (zg zz rfl) (L2 _ rfl)) ?_
 refine zv rfl (xmv rfl (zi t12 rfl)) ?_
 refine zv rfl (xia rfl (zg zz rfl) (zg zz rfl) (ix_sp hk h64 _)) ?_
 refine zv rfl (xld rfl (zg zz rfl) (L3 _ rfl)) ?_
 refine zv (v:= .pointer (some ⟨eb,0,none⟩)) rfl (exec_alloc rfl EA) ?_
 refine zs rfl (exec_store rfl (zg zz rfl) (zg zz rfl) ES) ?_
 exact ze rfl (h _ _ (rfl) rfl)
def alS31_ops:Array Oper:=(⟨_,rfl⟩:{o // some o=rgB Tryz.f32 31}).1
theorem alS31 {eb m:Nat} {TX:ByteArray} (S:World→Prop) (a:Act) (w:World) (Q:Exit→Act→World→Prop) (zz:a.tmps.size=133)
 (t13:a.tmps.getD 13 undef= .pointer (some ⟨eb,0,none⟩))
 (t9:a.tmps.getD 9 undef= .int .i64 (m:Int))
 (h0:S w.drew) (L1:∀W,S W→(Instr.loadAt 9 (.pointer (some ⟨eb,0+2,none⟩))).run Tryz.prog W= .ok (.string TX) W) (CT:∀W,S W→Calls Tryz.prog 68 #[.int .i64 (m:Int)] W fun e w1=>e= .returned (.string TX)∧S w1)
 (h:∀a' w',S w'→a'=(((((a.put (some 127) (.pointer (some ⟨eb,0+2,none⟩))).put (some 128) (.string TX)).put (some 129) (.int .i64 (m:Int))).put (some 130) (.string TX)).put (some 131) (.bool true)).put (some 132) (.bool false)→Q .normal a' w') :
 (Code.region 31 alS31_ops true).wp Tryz.prog Q a w:=by
 refine y0 (fun w'=>S w') (h0) (fun hHeld=> ?_)
 refine yv 0 rfl rfl (fun w1 hw=>xfa rfl (zi t13 rfl) (fg_84_2 _ _ _)) hHeld ?_
 refine yv 1 rfl rfl (fun w1 hw=>xld rfl (zg zz rfl) (L1 _ hw)) hHeld ?_
 refine yv 2 rfl rfl (fun w1 hw=>xmv rfl (zi t9 rfl)) hHeld ?_
 refine yc 3 rfl rfl (exec_c1 rfl (zg zz rfl)) (CT _ hHeld) (fun e x3 hx=> ?_)
 obtain ⟨rfl,S1⟩:=hx
 refine ⟨_,rfl,S1,fun hHeld=> ?_⟩
 refine yv (v:= .bool true) 4 rfl rfl (fun w1 hw=>ex_eqT rfl (zg zz rfl) (zg zz rfl)) hHeld ?_
 refine yv 5 rfl rfl (fun w1 hw=>exec_not rfl (zg zz rfl)) hHeld ?_
 exact ye rfl (h _ _ (hHeld) rfl)
def tkS0_ops:Array Oper:=(⟨_,rfl⟩:{o // some o=rgB Tryz.f7 0}).1
theorem tkS0 {q:Nat} {lv av sv rv:Value} {w1 w2 w3:World} (a:Act) (w:World) (Q:Exit→Act→World→Prop) (zz:a.tmps.size=14)
 (t0:a.tmps.getD 0 undef= .pointer (some ⟨q,0,none⟩))
 (t1:a.tmps.getD 1 undef=lv)
 (L1:∀W,W=w→(Instr.loadAt 36 (.pointer (some ⟨q,0+8,none⟩))).run Tryz.prog W= .ok (av) W) (EB:(Instr.buildSlice 36 1 #[(0,lv)]).run Tryz.prog w= .ok sv w1) (EA:(Builtin.append_ #[36,36] 36 #[av,sv]).run Tryz.prog w1= .ok rv w2) (ES:(Instr.storeAt 36 (.pointer (some ⟨q,0+8,none⟩)) rv).run Tryz.prog w2= .ok () w3)
 (h:∀a' w',w'=w3→a'=(((((((((a.put (some 4) (.pointer (some ⟨q,0,none⟩))).put (some 5) (.pointer (some ⟨q,0,none⟩))).put (some 6) (.pointer (some ⟨q,0,none⟩))).put (some 7) (.pointer (some ⟨q,0+8,none⟩))).put (some 8) (av)).put (some 9) (lv)).put (some 10) (sv)).put (some 11) (rv)).put (some 12) (.pointer (some ⟨q,0,none⟩))).put (some 13) (.pointer (some ⟨q,0+8,none⟩))→Q .normal a' w') :
 (Code.region 0 tkS0_ops false).wp Tryz.prog Q a w:=by
 refine z0 rfl ?_
 iterate 2 refine zv rfl (xmv rfl (zi t0 rfl)) ?_
 refine zv rfl (xnc rfl (zg zz rfl)) ?_
 refine zv rfl (xfa rfl (zg zz rfl) (fg_47_8 _ _ _)) ?_
 refine zv rfl (xld rfl (zg zz rfl) (L1 _ rfl)) ?_
 refine zv rfl (xmv rfl (zi t1 rfl)) ?_
 refine zv (v:=sv) rfl (exec_buildSlice rfl (zg zz rfl) EB) ?_
 refine zv (v:=rv) rfl (exec_append rfl (zg zz rfl) (zg zz rfl) EA) ?_
 refine zv rfl (xnc rfl (zg zz rfl)) ?_
 refine zv rfl (xfa rfl (zg zz rfl) (fg_47_8 _ _ _)) ?_
 refine zs rfl (exec_store rfl (zg zz rfl) (zg zz rfl) ES) ?_
 exact ze rfl (h _ _ (rfl) rfl)
end Go.Proofs.YtifendlpeebofabGreatDoor
namespace Go.Proofs.YtifendlpeebofabGreatDoor.B
open Go.RowKit
theorem app_gen {e t sz y:Nat} {z:Value} (und:Tryz.prog.underlying t=some (.slice e)) (info:(Tryz.prog.info? e).map (fun i=>(i.zero,i.size,i.bytes))=some (some z,sz,y)) (hz:z.cells.size=sz) (hs0:0<sz) {w:World} {base n:Nat} {g:Value} {xs x:List Value} {xv:Value} (hx:x.length=sz) (one:∀u∈x,u.oneCell'=true)
 (hbs:(Instr.buildSlice t 1 #[(0,xv)]).run Tryz.prog w= .ok (.slice (some ⟨w.heap.size,0,none⟩) 1 1) (w.alloc (.cells x.toArray e))) (own:w.ownsRow base e sz g n xs) (h63:n+1≤maxLen) (hsz:(n+1)*y≤140737488355328) (hb:base≤w.heap.size) :
 ∃sv w1 g' w2,(Instr.buildSlice t 1 #[(0,xv)]).run Tryz.prog w= .ok sv w1∧(Builtin.append_ #[t,t] t #[g,sv]).run Tryz.prog w1= .ok g' w2∧w2.ownsRow base e sz g' (n+1) (xs++x)∧Below w.heap.size w w1∧w1.grownBy w2 g.ownBlock∧(g'.ownBlock=g.ownBlock∨g'.ownBlock=some w1.heap.size∧Below w1.heap.size w1 w2):=by
 obtain ⟨ie,hi,hz0,hs,hby⟩:=info_parts info
 have b1:Below w.heap.size w (w.alloc (.cells x.toArray e)):=(Below.refl _ _).alloc (Nat.le_refl _) _
 have hnew:∀k u,x[k]? =some u→(w.alloc (.cells x.toArray e)).cell? ((⟨w.heap.size,0,none⟩:Addr).add k)=some u:=fun k u hk=>by
  rw [Addr.add_mid,Nat.zero_add]
  exact cell_new w x e k u hk
 generalize w.alloc (.cells x.toArray e)=w1 at *
 obtain ⟨g',w2,e2,o2,g2,q2⟩:=run_app3 (P:=Tryz.prog) w1 base t t e ie z sz y und hi hz0 hs hby hz hs0 g n xs (own_below own b1) ⟨w.heap.size,0,none⟩ 1 x (by rw [hx,Nat.one_mul]) hnew one h63 hsz (Nat.le_trans hb b1.size)
 exact ⟨_,w1,g',w2,hbs,e2,o2,b1,g2,q2⟩
theorem Ph1.below {w0 w w':World} {base q fi B cB N e sz:Nat} {qo:Option Obj} {V:Nat→Lst} {tg:Nat→Nat} {F:Nat→List Value} (h:Ph1 w0 w base q fi B cB N e sz qo V tg F) (hb:Below w.heap.size w w') (hz:base≤w.heap.size) (hz0:w0.heap.size≤w.heap.size):Ph1 w0 w' base q fi B cB N e sz qo V tg F :=
 ⟨h.bk.keep (hb.block q h.bk.lq) (hb.block B h.bk.lB) hb.size,h.tq,h.tB,fun i hi=>⟨own_below (h.ow i hi).1 hb,(h.ow i hi).2⟩,h.be.trans (hb.mono hz),fun k hk ht=>(hb.block k (Nat.lt_of_lt_of_le hk hz0)).trans (h.fr k hk ht)⟩
theorem own_sameB {w w':World} {base e sz n:Nat} {v:Value} {xs:List Value} (h:w.ownsRow base e sz v n xs) (hk:∀b,v.ownBlock=some b→w'.heap[b]? =w.heap[b]?):w'.ownsRow base e sz v n xs:=by
 refine ⟨h.1, ?_⟩
 rcases h.2 with hn|⟨g,cap,cur,rfl,hbg,hg,rest⟩
 ·exact .inl hn
 ·exact .inr ⟨g,cap,cur,rfl,hbg,by rw [hk g rfl];exact hg,rest⟩
theorem Ph1.chg {w0 w w':World} {base q fi B cB N e sz:Nat} {qo:Option Obj} {V:Nat→Lst} {tg:Nat→Nat} {F:Nat→List Value} (h:Ph1 w0 w base q fi B cB N e sz qo V tg F) {m:Nat} (hm:m<N) {F':List Value} (own':w'.ownsRow base e sz (V m).v (V m).n F') (t:Tch (fun j=>(V m).v.ownBlock=some j) w w') (hz:base≤w.heap.size) (hz0:w0.heap.size≤w.heap.size) :
 Ph1 w0 w' base q fi B cB N e sz qo V tg (upF F m F'):=by
 have tm:=(h.ow m hm).2
 have ge:∀j,(V m).v.ownBlock=some j→base≤j:=fun j hj=>(World.ownsRow.lt (h.ow m hm).1 j hj).1
 have ne:∀b,b<w.heap.size→tg b≠m+1→w'.heap[b]? =w.heap[b]? :=fun b hb hq=>t.block b hb (fun e=>hq (tm b e))
 refine ⟨h.bk.keep (ne q h.bk.lq (by rw [h.tq];omega)) (ne B h.bk.lB (by rw [h.tB];omega)) t.size,h.tq,h.tB,fun i hi=> ?_,h.be.trans (t.below hz ge),fun k hk ht=>(ne k (by omega) (by rw [ht];omega)).trans (h.fr k hk ht)⟩
 obtain ⟨o,tt⟩:=h.ow i hi
 unfold upF
 by_cases e:i=m
 ·subst e;rw [if_pos rfl];exact ⟨own',tt⟩
 ·rw [if_neg e]
  exact ⟨own_sameB o fun b hb=>ne b (World.ownsRow.lt o b hb).2 (by rw [tt b hb];omega),tt⟩
theorem run_bs1 (T e y:TypeId) (z:Value) (ht:Tryz.prog.underlying T=some (.slice e)) (hi:(Tryz.prog.info? e).map (fun i=>(i.zero,i.size,i.bytes))=some (some z,1,y)) (hz:z.cells.size=1) (v:Value) (hc:v.cells= #[v]) (w:World):(Instr.buildSlice T 1 #[(0,v)]).run Tryz.prog w= .ok (.slice (some ⟨w.heap.size,0,none⟩) 1 1) (w.alloc (.cells #[v] e)):=by
 obtain ⟨ie,hi,hz0,hs,hby⟩:=info_parts hi
 refine run_buildSlice w T e 1 _ #[v] ie _ ht hi hz0 (by rw [hs];decide) (by rw [hs];decide) ?_
 rw [hs]
 have:=Go.Great.fill_whole (s:=1) (by decide) [v] ((Array.range (1*1)).map (z.cells[· % z.cells.size]!)) (by intro u hu;simp at hu;subst hu;rw [hc];rfl) (by simp)
 simpa [hc] using this
theorem ld_ee {w:World} {b o:Nat} {v:Value} (h:w.cell? ⟨b,o,none⟩=some v):(Instr.loadAt 36 (.pointer (some ⟨b,o,none⟩))).run Tryz.prog w= .ok v w:=by go_simp
theorem ld_el {w:World} {b o:Nat} {v:Value} (h:w.cell? ⟨b,o,none⟩=some v):(Instr.loadAt 48 (.pointer (some ⟨b,o,none⟩))).run Tryz.prog w= .ok v w:=by go_simp
theorem infoEl:(Tryz.prog.info? 48).map (fun i=>(i.zero,i.size,i.bytes))=some (some (.slice none 0 0),1,24):=by kernel_rfl
theorem txB_size (i:Nat):(txB i).size=8:=rfl
def mkS (i:Nat):SpV:=spN (txB i)
theorem spN_ok {s:ByteArray} (h:s.size≤maxLen):(spN s).ok:=⟨by show (-9223372036854775808:Int)≤0;decide,by show (0:Int)≤9223372036854775807;decide,by show (-9223372036854775808:Int)≤0;decide,by show (0:Int)≤9223372036854775807;decide,h,zVa_ok⟩
theorem mkS_ok (i:Nat):(mkS i).ok:=spN_ok (by rw [txB_size];decide)
def xS (i:Nat):List Value:=(mkS i).c
theorem xS_len (i:Nat):(xS i).length=7:=rfl
theorem rpS (n:Nat) (y:SpV):rpC n y.c=RSp.flat (List.replicate n y):=by
 induction n with
 |zero=>rfl
 |succ n ih=>rw [rpC_cons,ih,List.replicate_succ];rfl
theorem dropS:∀{L:List SpV},(∀x∈L,x.ok)→∀k,(RSp.flat L).drop (k*7)=RSp.flat (L.drop k)
 |L,ok,0=>by simp
 |[],ok,k+1=>by simp [RowT.flat]
 |x::L,ok,k+1=>by
  have l:=SpV.len x
  have h:=dropS (L:=L) (fun y hy=>ok y (List.mem_cons_of_mem _ hy)) k
  rw [List.drop_succ_cons, ←h,RowT.flat_cons,show (k+1)*7=x.c.length+k*7 by omega, ←List.drop_drop]
  exact congrArg (List.drop (k*7)) List.drop_left
theorem fillS {L:List SpV} (ok:∀x∈L,x.ok) (k i:Nat):fillC k (xS i) (RSp.flat L)=RSp.flat (List.replicate k (mkS i)++L.drop k):=by
 unfold fillC
 rw [xS_len,dropS ok,RowT.flat_app,xS,rpS]
theorem set_fillS {L:List SpV} {k:Nat} (hk:k<L.length) (y:SpV):(List.replicate k y++L.drop k).set k y=List.replicate (k+1) y++L.drop (k+1):=by
 rw [List.set_append_right _ _ (by simp),List.length_replicate,Nat.sub_self,List.drop_eq_getElem_cons hk,List.set_cons_zero,List.replicate_succ',List.append_assoc]
 rfl
theorem rdS_load {w:World} {a:Option Addr} {n i j:Nat} (h:RdC w a n (xS j)) (hi:i<n):∃b off,a=some ⟨b,off,none⟩∧(Instr.loadAt 84 (.pointer (some ⟨b,off+7*i,none⟩))).run Tryz.prog w= .ok (spN (txB j)).a w:=by
 rcases h with h|⟨b,off,rfl,hc⟩
 ·omega
 ·refine ⟨b,off,rfl,RowT.ld RSp_is (mkS_ok j) fun k v hv=> ?_⟩
  have hk:k<(xS j).length:=(List.getElem?_eq_some_iff.1 hv).1
  have:=hc (i*7+k) v (by have:=rpC_get (x:=xS j) hk hi;rw [xS_len] at this;rw [this];exact hv)
  rw [Nat.mul_comm] at this
  rwa [←Nat.add_assoc] at this
theorem sp_boxB (w:World) (x:SpV) (hx:x.ok):∃w1 w2,(Instr.alloc 84 true (.tuple #[])).run Tryz.prog w= .ok (.pointer (some ⟨w.heap.size,0,none⟩)) w1∧(Instr.storeAt 84 (.pointer (some ⟨w.heap.size,0,none⟩)) x.a).run Tryz.prog w1= .ok () w2∧RSp.Bx w2 w.heap.size x∧Below w.heap.size w w2:=by
 have n:=RowT.bx_is RSp w zSp7
 exact ⟨_,_,RowT.bx_zero RSp_is w,RowT.bx_store RSp_is zSp7_ok hx n.1,setRow_heap _ _ _ _ _ _ n.1,n.2.trans (set_below _ n.2.size (Nat.le_refl _))⟩
theorem aloneSpans_any (q B cB base N:Nat) (qo:Option Obj) (V:Nat→Lst) (L:Nat→List SpV) (tz:Nat→Nat) (w:World) (hN1:1≤N) (hN:N≤2600000000000) (hn:∀i,i<N→(V i).n≤1700000000000) (hLn:∀i,i<N→(L i).length=(V i).n) (okL:∀i,i<N→∀x∈L i,x.ok)
 (h:Ph1 w w base q 8 B cB N 84 7 qo V tz (fun i=>RSp.flat (L i))) (hbase:base≤w.heap.size) :
 Calls Tryz.prog 32 #[.pointer (some ⟨q,0,none⟩)] w fun e w'=>e= .returned (.bool true)∧Below base w w'∧w'.heap[q]? =qo∧∀k,k<w.heap.size→tz k=0→w'.heap[k]? =w.heap[k]? :=by
 have HP0:=hidMk h
 have HLN:=hidMk hLn
 have HOK:=hidMk okL
 clear h hLn okL
 go_enter Tryz.func32,Tryz.ntmps32
 go_wp2
 go_loopw [3] (fun v3 wr=> ∃m:Nat,m≤N∧v3= .int .i64 (m:Int)∧Hid (Ph1 w wr base q 8 B cB N 84 7 qo V tz (mF V xS (fun i=>RSp.flat (L i)) m))) (fun v3 _=>N-(intOf v3).toNat)
 case atStart =>
  refine ⟨0,by omega,rfl, ?_⟩
  have e0:mF V xS (fun i=>RSp.flat (L i)) 0=(fun i=>RSp.flat (L i)):=by funext i;unfold mF;rw [if_neg (by omega)]
  rw [e0]
  exact HP0
 case round =>
  clear HP0
  obtain ⟨m,hm,rfl,HP⟩:=hrel
  by_cases hlt:m<N
  ·obtain ⟨l,hl⟩:∃l,V m=l:=⟨_,rfl⟩
   obtain ⟨a0,n0,k0⟩:=l
   have hnm:n0≤1700000000000:=by have:=hn m hlt;rw [hl] at this;exact this
   have HLm:=hidMk (show (L m).length=n0 by have:=HLN.out m hlt;rw [hl] at this;exact this)
   have HS:Hid (Ph1 w wr base q 8 B cB N 84 7 qo V tz (upF (mF V xS (fun i=>RSp.flat (L i)) m) m (fillC 0 (xS m) (RSp.flat (L m))))):=by
        have e0:upF (mF V xS (fun i=>RSp.flat (L i)) m) m (fillC 0 (xS m) (RSp.flat (L m)))=mF V xS (fun i=>RSp.flat (L i)) m:=mF_start V xS (fun i=>RSp.flat (L i)) m
        rw [e0]
        exact HP
   have HV:=hidMk hl
   have cq:=HP.out.bk.cq
   clear HP hl
   go_wp2
   go_loopw [4] (fun v4 wx=> ∃k:Nat,k≤n0∧v4= .int .i64 (k:Int)∧Hid (Ph1 w wx base q 8 B cB N 84 7 qo V tz (upF (mF V xS (fun i=>RSp.flat (L i)) m) m (fillC k (xS m) (RSp.flat (L m)))))) (fun v4 _=>n0-(intOf v4).toNat)
   case atStart=>exact ⟨0,by omega,rfl,HS⟩
   case round =>
        clear HS cq
        obtain ⟨k,hk,rfl,HP⟩:=hrel
        have cq:=HP.out.bk.cq
        have cm:wr.cell? ⟨B,m,none⟩=some (.slice a0 n0 k0):=by have:=HP.out.bk.cr m hlt;rw [HV.out] at this;exact this
        by_cases hkn:k<n0
        ·have oo:=(HP.out.ow m hlt).1
         rw [upF_at,HV.out] at oo
         obtain ⟨g,rfl,hg1⟩:∃g,a0=some ⟨g,0,none⟩∧base≤g:=by
          rcases oo.2 with ⟨e,_⟩|⟨g,cap,cur,e,hbg,_⟩
          ·simp only [Lst.v,Value.slice.injEq] at e;omega
          ·simp only [Lst.v,Value.slice.injEq] at e;exact ⟨g,e.1,hbg⟩
         have hz0:w.heap.size≤wr.heap.size:=HP.out.be.size
         have hzb:base≤wr.heap.size:=Nat.le_trans hbase hz0
         have hlk:k<(L m).length:=by rw [HLm.out];exact hkn
         have hll:(List.replicate k (mkS m)++(L m).drop k).length=n0:=by rw [List.length_append,List.length_replicate,List.length_drop,HLm.out];omega
         have okm:=mkS_ok m
         have CT:Hid (Calls Tryz.prog 68 #[.int .i64 (m:Int)] wr.drew fun e w1=>e= .returned (.string (txB m))∧Below wr.heap.size wr w1∧∃w2,(Instr.storeAt 84 (.pointer (some ⟨g,0+7*k,none⟩)) (spN (txB m)).a).run Tryz.prog w1= .ok () w2∧Ph1 w w2 base q 8 B cB N 84 7 qo V tz (upF (mF V xS (fun i=>RSp.flat (L i)) m) m (fillC (k+1) (xS m) (RSp.flat (L m))))):=by
          refine (text_any m wr.drew (by omega)).mono ?_
          rintro e w1 ⟨rfl,b1⟩
          have b2:Below wr.heap.size wr w1:=((Below.refl wr.heap.size wr).drew).trans b1
          have P1:=HP.out.below b2 hzb hz0
          have o1:=own_below oo b2
          have oi:RSp.Own w1 base (.slice (some ⟨g,0,none⟩) n0 k0) (List.replicate k (mkS m)++(L m).drop k):=by
           unfold RowT.Own
           rw [hll]
           rw [fillS (HOK.out m hlt)] at o1
           exact o1
          obtain ⟨g',cap,ev,hgl,w2,es,o2,t2,z2⟩:=RowT.own_set RSp_is oi (fun x hx=>by
           rcases List.mem_append.1 hx with hx|hx
           ·rw [(List.mem_replicate.1 hx).2];exact okm
           ·exact HOK.out m hlt x (List.mem_of_mem_drop hx)) (i:=k) (by rw [hll];exact hkn) okm
          rw [hll] at ev
          injection ev with ev1 ev2 ev3
          injection ev1 with ev1
          injection ev1 with ev1
          subst ev1
          refine ⟨rfl,b2,w2,by rw [Nat.zero_add];exact es, ?_⟩
          have:=P1.chg hlt (F':=fillC (k+1) (xS m) (RSp.flat (L m))) (w':=w2) (by
           rw [fillS (HOK.out m hlt), ←set_fillS hlk (mkS m),HV.out]
           have o3:=o2
           unfold RowT.Own at o3
           rw [List.length_set,hll] at o3
           exact o3) (by rw [HV.out];exact t2) (Nat.le_trans hzb b2.size) (Nat.le_trans hz0 b2.size)
          rw [upF_up] at this
          exact this
         have bd:Hid (Below wr.heap.size wr wr.drew):=(Below.refl _ _).drew
         have LQ:Hid (∀W,Below wr.heap.size wr W→(Instr.loadAt 36 (.pointer (some ⟨q,0+8,none⟩))).run Tryz.prog W= .ok (.slice (some ⟨B,0,none⟩) N cB) W):=fun W b=>ld_ee (o:=0+8) ((b.cell (p:=⟨q,8,none⟩) (block_lt_of_cell cq)).trans cq)
         have LM:Hid (∀W,Below wr.heap.size wr W→(Instr.loadAt 48 (.pointer (some ⟨B,0+m,none⟩))).run Tryz.prog W= .ok (.slice (some ⟨g,0,none⟩) n0 k0) W):=fun W b=>ld_el (o:=0+m) (by rw [Nat.zero_add];exact (b.cell (p:=⟨B,m,none⟩) (block_lt_of_cell cm)).trans cm)
         clear oo HP hlk hll okm
         go_upto_region 7 with fail
         clear cq cm
         refine alS7 (q:=q) (B:=B) (N:=N) (cB:=cB) (g:=g) (o:=0) (n:=n0) (c:=k0) (m:=m) (k:=k) (TX:=txB m) (fun W=>Below wr.heap.size wr W) (fun W=>Ph1 w W base q 8 B cB N 84 7 qo V tz (upF (mF V xS (fun i=>RSp.flat (L i)) m) m (fillC (k+1) (xS m) (RSp.flat (L m))))) _ wr _ rfl rfl rfl rfl hlt (by omega) hkn (by omega) bd.out LQ.out LM.out CT.out ?_
         intro a' w' hw' ha
         subst ha
         simp only [Act.put,qsA,qsB,qsC]
         have NX:=hidMk hw'
         clear CT bd LQ LM hw'
         generalize txB m=TX at *
         go_wp2
         exact ⟨⟨k+1,by omega,by go_num,NX⟩,by simp [intOf];omega⟩
        ·obtain rfl:k=n0:=by omega
         have NX:Hid (Ph1 w wr base q 8 B cB N 84 7 qo V tz (mF V xS (fun i=>RSp.flat (L i)) (m+1))):=by
          have he:upF (mF V xS (fun i=>RSp.flat (L i)) m) m (fillC (V m).n (xS m) (RSp.flat (L m)))=mF V xS (fun i=>RSp.flat (L i)) (m+1):=mF_end V xS (fun i=>RSp.flat (L i)) m (by show (RSp.flat (L m)).length=_;rw [RowT.flat_len RSp_is (HOK.out m hlt),xS_len,HLm.out,HV.out];show 7*k=k*7;omega)
          rw [HV.out] at he
          rw [←he]
          exact HP
         clear HP
         go_wp2
         exact ⟨⟨m+1,by omega,by go_num,NX⟩,by simp [intOf];omega⟩
  ·obtain rfl:m=N:=by omega
   have zb:base≤wr.heap.size:=Nat.le_trans hbase HP.out.be.size
   have hz00:w.heap.size≤wr.heap.size:=HP.out.be.size
   have HQ:Hid (∃tg G,Ph2 w wr base q 8 B cB m 84 7 48 qo V xS tz tg 0 0 G (.slice none 0 0)):=⟨_,_,ph2_start HP.out zb hz00⟩
   have cq:=HP.out.bk.cq
   clear HP zb HLN HOK
   go_wp2
   clear cq
   go_loopw [5,6] (fun v5 v6 wr=> ∃j:Nat,j≤m∧v6= .int .i64 (j:Int)∧Hid (∃tg G,Ph2 w wr base q 8 B cB m 84 7 48 qo V xS tz tg j j G v5)) (fun _ v6 _=>m-(intOf v6).toNat)
   case atStart=>exact ⟨0,by omega,rfl,HQ⟩
   case round =>
        clear HQ
        obtain ⟨j,hj,rfl,HP⟩:=hrel
        by_cases hjm:j<m
        ·obtain ⟨tg1,G,hP⟩:=HP.out
         obtain ⟨l,hl⟩:∃l,V j=l:=⟨_,rfl⟩
         obtain ⟨a0,n0,k0⟩:=l
         have hnm:n0≤1700000000000:=by have:=hn j hjm;rw [hl] at this;exact this
         have HV:=hidMk hl
         have oo:wr.ownsRow base 84 7 (.slice a0 n0 k0) n0 (rpC n0 (xS j)):=by have:=hP.ow j (Nat.le_refl _) hjm;rw [hl] at this;exact this
         have tt:Tg tg1 (.slice a0 n0 k0) (j+1):=by have:=(hP.rd j hjm).2.1;rw [hl] at this;exact this
         obtain ⟨W,hW1,hW2⟩:∃W,wr.heap.size≤W∧W≤wr.heap.size:=⟨_,Nat.le_refl _,Nat.le_refl _⟩
         have hv:Hid (∀b off,0<n0→a0=some ⟨b,off,none⟩→(Value.slice a0 n0 k0).ownBlock=some b∧off=0∧b<W):=fun b off hn e=>by
          rcases oo.2 with ⟨e1,_⟩|⟨g,cap,cur,e1,_,hg,_⟩
          ·simp at e1;omega
          ·simp only [Value.slice.injEq] at e1
           rw [e] at e1
           obtain ⟨e2,_⟩:=e1
           simp at e2
           have:=(Array.getElem?_eq_some_iff.1 hg).1
           exact ⟨by rw [e];rfl,e2.2,by omega⟩
         obtain ⟨aA,cA,hA⟩:=own_slice hP.al.1
         subst hA
         have HI:Hid (∃tg,Ph2 w wr base q 8 B cB m 84 7 48 qo V xS tz tg (j+1) j G (.slice aA j cA)∧Gr wr base 84 7 W tg (xS j) j n0 k0 0 a0 (.slice a0 n0 k0)):=⟨tg1,hP.weak _ (by omega),oo,tt, .inl rfl,hW2⟩
         have cq:=hP.bk.cq
         have cm:wr.cell? ⟨B,j,none⟩=some (.slice a0 n0 k0):=by have:=hP.bk.cr j hjm;rw [hl] at this;exact this
         clear oo tt hP HP hl hW1 hW2
         go_wp2
         clear cq cm
         go_loopw [7,8] (fun v7 v8 wx=> ∃k:Nat,k≤20∧v8= .int .i64 (k:Int)∧Hid (∃tg,Ph2 w wx base q 8 B cB m 84 7 48 qo V xS tz tg (j+1) j G (.slice aA j cA)∧Gr wx base 84 7 W tg (xS j) j n0 k0 k a0 v7)) (fun _ v8 _=>20-(intOf v8).toNat)
         case atStart=>exact ⟨0,by omega,rfl,HI⟩
         case round =>
          clear HI
          obtain ⟨k,hk,rfl,HI⟩:=hrel
          obtain ⟨tg2,P,og,tgg,hg,hWx⟩:=HI.out
          obtain ⟨ga,gc,rfl⟩:=own_slice og
          obtain ⟨gn,hgn⟩:∃gn,n0+k=gn:=⟨_,rfl⟩
          have HGN:=hidMk hgn
          rw [hgn] at og tgg hg ⊢
          clear HI
          by_cases hlt:k<20
          ·have zb:base≤wr.heap.size:=P.zb
           have CT:Hid (Calls Tryz.prog 68 #[.int .i64 (j:Int)] wr fun e w1=>e= .returned (.string (txB j))∧∃sv w2 rv w3,(Instr.buildSlice 48 1 #[(0,(spN (txB j)).a)]).run Tryz.prog w1= .ok sv w2∧(Builtin.append_ #[48,48] 48 #[.slice ga gn gc,sv]).run Tryz.prog w2= .ok rv w3∧∃tg,Ph2 w w3 base q 8 B cB m 84 7 48 qo V xS tz tg (j+1) j G (.slice aA j cA)∧Gr w3 base 84 7 W tg (xS j) j n0 k0 (k+1) a0 rv):=by
            refine (text_any j wr (by omega)).mono ?_
            rintro e w0 ⟨rfl,b0⟩
            obtain ⟨sv,w1,g',w2,e1,e2,own',b1,gr,h4⟩:=app_gen RSp_is.und RSp_is.info (by show (RSp.c RSp.z).toArray.size=7;rw [List.size_toArray];exact RSp_is.len _ RSp_is.zok) (by decide) (x:=xS j) (xv:=(mkS j).a) (xS_len j) (RSp_is.one (mkS j)) (RowT.run_bs RSp_is (mkS j) (mkS_ok j) w0) (own_below og b0) (by unfold maxLen;omega) (by show _*72≤_;omega) (Nat.le_trans zb b0.size)
            have b01:=b0.trans (b1.mono b0.size)
            have PA:=P.below b01
            have YA:RdC w1 a0 n0 (xS j):=by have:=(PA.rd j hjm).1;rw [HV.out] at this;exact this
            have hl2:∀b,(Value.slice ga gn gc).ownBlock=some b→base≤b∧b<w1.heap.size:=fun b e=>by have:=World.ownsRow.lt og b e;have:=(b01).size;omega
            have own2:w2.ownsRow base 84 7 g' (n0+k+1) (rpC (n0+k+1) (xS j)):=by rw [HGN.out, ←rpC_succ];exact own'
            obtain ⟨yn,gn2⟩:=grow_step (cap:=k0) (Nat.le_trans hWx (b01).size) (by rw [xS_len];decide) YA hv.out own2 gr h4 hg
            have h5:g'.ownBlock=(Value.slice ga gn gc).ownBlock∨g'.ownBlock=some w1.heap.size:=by rcases h4 with e|⟨e,_⟩;exact .inl e;exact .inr e
            have hrd:∀i,i+1=j+1→i<m→RdC w2 (V i).a (V i).n (xS i):=fun i e hi=>by
                 obtain rfl:i=j:=by omega
                 rw [HV.out]
                 exact yn
            obtain ⟨P2,T2⟩:=PA.grow (j+1) (.slice ga gn gc) g' (by omega) gr tgg hl2 h5 hrd (fun i h1 _=>by omega) (fun i hi=>by omega) (by omega)
            exact ⟨rfl,sv,w1,g',w2,e1,e2,_,P2,own2,T2,gn2,Nat.le_trans (Nat.le_trans hWx b01.size) gr.size⟩
           clear P og tgg hg hWx zb
           go_upto_region 16 with fail
           refine alS16 (gv:= .slice ga gn gc) (m:=j) (TX:=txB j) (fun v7 wx=> ∃tg,Ph2 w wx base q 8 B cB m 84 7 48 qo V xS tz tg (j+1) j G (.slice aA j cA)∧Gr wx base 84 7 W tg (xS j) j n0 k0 (k+1) a0 v7) _ wr _ rfl rfl rfl CT.out ?_
           intro sv g' a' w' hw' ha
           subst ha
           simp only [Act.put,qsA,qsB,qsC]
           have NX:=hidMk hw'
           clear CT HGN hw'
           generalize txB j=TX at *
           go_wp2
           exact ⟨⟨k+1,by omega,by go_num,NX⟩,by simp [intOf];omega⟩
          ·obtain rfl:k=20:=by omega
           clear hlt
           have zb:base≤wr.heap.size:=P.zb
           have al0:=P.al.1
           obtain ⟨sv,w1,all',w2,e1,e2,rows',b1,gr,hblk⟩:=app_gen Tryz.underlying36 infoEl rfl (by decide) (x:=[.slice ga gn gc]) (xv:= .slice ga gn gc) rfl (fun u hu=>by simp at hu;subst hu;rfl) (run_bs1 36 48 24 (.slice none 0 0) Tryz.underlying36 infoEl rfl (.slice ga gn gc) rfl wr) al0 (by unfold maxLen;omega) (by omega) zb
           have E1:=hidMk e1
           have E2:=hidMk e2
           have og2:w1.ownsRow base 84 7 (.slice ga gn gc) ((V j).n+20) (rpC ((V j).n+20) (xS j)):=by
            have:=own_below og b1
            rw [HV.out]
            simp only
            rw [HGN.out]
            exact this
           obtain ⟨tg3,P3⟩:=(P.below b1).done hjm (.slice ga gn gc) all' og2 tgg gr (hblk.imp id (fun q=>q.1)) rows'
           have NX:Hid (∃tg G,Ph2 w w2 base q 8 B cB m 84 7 48 qo V xS tz tg (j+1) (j+1) G all'):=⟨_,_,P3⟩
           clear e1 e2 rows' b1 gr hblk og2 P3 P og tgg hg hWx zb al0 HGN
           go_upto_region 17 with fail
           refine alS17 (av:= .slice aA j cA) (gv:= .slice ga gn gc) (sv:=sv) (rv:=all') (w1:=w1) (w2:=w2) _ wr _ rfl rfl rfl E1.out E2.out ?_
           intro a' w' hw' ha
           obtain rfl:w2=w':=hw'.symm
           subst ha
           simp only [Act.put,qsA,qsB,qsC]
           clear E1 E2
           go_wp2
           exact ⟨⟨j+1,by omega,by go_num,NX⟩,by simp [intOf];omega⟩
        ·obtain rfl:j=m:=by omega
         obtain ⟨tg1,G,hP⟩:=HP.out
         obtain ⟨A,cA,rfl,cG⟩:∃A cA,u5= .slice (some ⟨A,0,none⟩) j cA∧∀wx,Below wr.heap.size wr wx→∀i,i<j→wx.cell? ⟨A,i,none⟩=some (G i):=by
          have hc:=fun g hg wx (hb:Below wr.heap.size wr wx)=>World.ownsRow.cells (own_below hP.al.1 hb) (g:=g) hg
          rcases hP.al.1.2 with ⟨_,hn0⟩|⟨g,cap,cur,rfl,_⟩
          ·omega
          ·refine ⟨g,cap,rfl,fun wx hb i hi=> ?_⟩
           have:=hc g rfl wx hb i (G i) (by rw [List.getElem?_map,List.getElem?_range hi];rfl)
           rw [Addr.add_mid,Nat.zero_add] at this
           exact this
         have HC:=hidMk cG
         have PP:Hid (∀wx,Below wr.heap.size wr wx→Ph2 w wx base q 8 B cB j 84 7 48 qo V xS tz tg1 j j G (.slice (some ⟨A,0,none⟩) j cA)):=fun wx hb=>hP.below hb
         have cq:=hP.bk.cq
         clear HP hP cG
         go_wp2
         clear cq
         generalize wr=wB at *
         go_loopw [9] (fun v9 wx=> ∃k:Nat,k≤j∧v9= .int .i64 (k:Int)∧Hid (Below wB.heap.size wB wx)) (fun v9 _=>j-(intOf v9).toNat)
         case atStart=>exact ⟨0,by omega,rfl,Below.refl _ _⟩
         case round =>
          obtain ⟨k,hk,rfl,HB⟩:=hrel
          by_cases hkj:k<j
          ·obtain ⟨l,hl⟩:∃l,V k=l:=⟨_,rfl⟩
           obtain ⟨a0,n0,k0⟩:=l
           have hnm:n0≤1700000000000:=by have:=hn k hkj;rw [hl] at this;exact this
           have PF:=PP.out _ HB.out
           have cg:=HC.out _ HB.out k hkj
           obtain ⟨og,_⟩:=PF.gs k hkj
           rw [hl] at og
           obtain ⟨nn,hnn⟩:∃nn,nn=n0+20:=⟨_,rfl⟩
           have hnb:nn≤1700000000020:=by omega
           have og':wr.ownsRow base 84 7 (G k) nn (rpC nn (xS k)):=by rw [hnn];exact og
           clear og hnn
           obtain ⟨ga,gc,e1⟩:=own_slice og'
           rw [e1] at cg og'
           have cm:wr.cell? ⟨B,k,none⟩=some (.slice a0 n0 k0):=by have:=PF.bk.cr k hkj;rw [hl] at this;exact this
           have rdk:RdC wr a0 n0 (xS k):=by have:=(PF.rd k hkj).1;rw [hl] at this;exact this
           have cq:=PF.bk.cq
           have ZC:Hid (∀wx,Below wr.heap.size wr wx→wx.cell? ⟨A,k,none⟩=some (.slice ga nn gc)∧RdC wx ga nn (xS k)):=fun wx hb=>⟨(hb.cell (p:=⟨A,k,none⟩) (block_lt_of_cell cg)).trans cg,(own_rd og').below hb⟩
           have YC:Hid (∀wx,Below wr.heap.size wr wx→wx.cell? ⟨q,8,none⟩=some (.slice (some ⟨B,0,none⟩) j cB)∧wx.cell? ⟨B,k,none⟩=some (.slice a0 n0 k0)∧RdC wx a0 n0 (xS k)):=fun wx hb=>⟨(hb.cell (p:=⟨q,8,none⟩) (block_lt_of_cell cq)).trans cq,(hb.cell (p:=⟨B,k,none⟩) (block_lt_of_cell cm)).trans cm,rdk.below hb⟩
           have TRW:Hid (∀wx,Below wr.heap.size wr wx→Below wB.heap.size wB wx):=fun wx hb=>HB.out.trans (hb.mono HB.out.size)
           have okk:=mkS_ok k
           have hkb:k≤7700000000000:=by omega
           clear PF hl og' e1 rdk
           generalize wr=wC at *
           go_wp2
           clear cq cm cg
           go_loopw [10] (fun v10 wx=> ∃i:Nat,i≤nn∧v10= .int .i64 (i:Int)∧Hid (Below wC.heap.size wC wx)) (fun v10 _=>nn-(intOf v10).toNat)
           case atStart=>exact ⟨0,by omega,rfl,Below.refl _ _⟩
           case round =>
            obtain ⟨i,hi,rfl,HB2⟩:=hrel
            obtain ⟨c1,rz⟩:=ZC.out _ HB2.out
            by_cases hlt:i<nn
            ·obtain ⟨bb,bo,rfl,hld⟩:=rdS_load rz hlt
             obtain ⟨w1,W3,ea,es,ne3,b3⟩:=sp_boxB wr (mkS k) okk
             have B3:=hidMk b3
             have I3:=hidMk ne3
             have EA:=hidMk ea
             have ES:=hidMk es
             have LD:=hidMk hld
             have LC:=hidMk (ld_el (o:=0+k) (by rw [Nat.zero_add];exact c1))
             have NB:Hid (Below wC.heap.size wC W3):=HB2.out.trans (B3.out.mono HB2.out.size)
             clear rz ea es hld b3 ne3
             go_upto_region 24 with fail
             clear c1
             refine alS24 (B:=A) (N:=j) (cB:=cA) (g:=bb) (o:=bo) (n:=nn) (c:=gc) (m:=k) (k:=i) (eb:=wr.heap.size) (w1:=w1) (w2:=W3) _ wr _ rfl rfl rfl rfl hkj (by omega) hlt (by omega) (fun W e=>by rw [e];exact LC.out) (fun W e=>by rw [e];exact LD.out) EA.out ES.out ?_
             intro a' w' hw' ha
             obtain rfl:W3=w':=hw'.symm
             subst ha
             simp only [Act.put,qsA,qsB,qsC]
             clear EA ES LD LC
             have CT:Hid (∀W,Below wC.heap.size wC W∧RSp.Bx W wr.heap.size (mkS k)→Calls Tryz.prog 68 #[.int .i64 (k:Int)] W fun e w1=>e= .returned (.string (txB k))∧Below wC.heap.size wC w1∧RSp.Bx w1 wr.heap.size (mkS k)):=fun W b=>(text_any k W (by omega)).mono fun e w1 h=>⟨h.1,b.1.trans (h.2.mono b.1.size),b.2.below h.2⟩
             have LN:Hid (∀W,Below wC.heap.size wC W∧RSp.Bx W wr.heap.size (mkS k)→(Instr.loadAt 9 (.pointer (some ⟨wr.heap.size,0+2,none⟩))).run Tryz.prog W= .ok (.string (txB k)) W):=fun W b=>sp_nm b.2
             have BD:=hidMk (And.intro NB.out.drew (show RSp.Bx W3.drew wr.heap.size (mkS k) from I3.out))
             clear B3 I3 NB
             go_upto_region 25 with fail
             refine alS25 (eb:=wr.heap.size) (m:=k) (TX:=txB k) (fun W=>Below wC.heap.size wC W∧RSp.Bx W wr.heap.size (mkS k)) _ W3 _ rfl rfl rfl BD.out LN.out CT.out ?_
             intro a' w' hw' ha
             subst ha
             simp only [Act.put,qsA,qsB,qsC]
             have NB:=hidMk hw'.1
             clear CT LN BD hw'
             generalize txB k=TX at *
             go_wp2
             exact ⟨⟨i+1,by omega,by go_num,NB⟩,by simp [intOf];omega⟩
            ·obtain rfl:i=nn:=by omega
             clear hlt rz
             obtain ⟨cq,cm,rz⟩:=YC.out _ HB2.out
             clear rz
             generalize wr=wD at *
             go_wp2
             clear c1 cq cm
             go_loopw [12] (fun v12 wx=> ∃i:Nat,i≤n0∧v12= .int .i64 (i:Int)∧Hid (Below wC.heap.size wC wx)) (fun v12 _=>n0-(intOf v12).toNat)
             case atStart=>exact ⟨0,by omega,rfl,HB2⟩
             case round =>
              obtain ⟨i2,hi2,rfl,HB3⟩:=hrel
              obtain ⟨cq,cm,rz⟩:=YC.out _ HB3.out
              by_cases hlt:i2<n0
              ·obtain ⟨bb,bo,rfl,hld⟩:=rdS_load rz hlt
               obtain ⟨w1,W3,ea,es,ne3,b3⟩:=sp_boxB wr (mkS k) okk
               have B3:=hidMk b3
               have I3:=hidMk ne3
               have EA:=hidMk ea
               have ES:=hidMk es
               have LD:=hidMk hld
               have LC:=hidMk (ld_el (o:=0+k) (by rw [Nat.zero_add];exact cm))
               have LQ:=hidMk (ld_ee (o:=0+8) cq)
               have NB:Hid (Below wC.heap.size wC W3):=HB3.out.trans (B3.out.mono HB3.out.size)
               clear rz ea es hld b3 ne3
               go_upto_region 30 with fail
               clear cq cm
               refine alS30 (q:=q) (B:=B) (N:=j) (cB:=cB) (g:=bb) (o:=bo) (n:=n0) (c:=k0) (m:=k) (k:=i2) (eb:=wr.heap.size) (w1:=w1) (w2:=W3) _ wr _ rfl rfl rfl rfl hkj (by omega) hlt (by omega) (fun W e=>by rw [e];exact LQ.out) (fun W e=>by rw [e];exact LC.out) (fun W e=>by rw [e];exact LD.out) EA.out ES.out ?_
               intro a' w' hw' ha
               obtain rfl:W3=w':=hw'.symm
               subst ha
               simp only [Act.put,qsA,qsB,qsC]
               clear EA ES LD LC LQ
               have CT:Hid (∀W,Below wC.heap.size wC W∧RSp.Bx W wr.heap.size (mkS k)→Calls Tryz.prog 68 #[.int .i64 (k:Int)] W fun e w1=>e= .returned (.string (txB k))∧Below wC.heap.size wC w1∧RSp.Bx w1 wr.heap.size (mkS k)):=fun W b=>(text_any k W (by omega)).mono fun e w1 h=>⟨h.1,b.1.trans (h.2.mono b.1.size),b.2.below h.2⟩
               have LN:Hid (∀W,Below wC.heap.size wC W∧RSp.Bx W wr.heap.size (mkS k)→(Instr.loadAt 9 (.pointer (some ⟨wr.heap.size,0+2,none⟩))).run Tryz.prog W= .ok (.string (txB k)) W):=fun W b=>sp_nm b.2
               have BD:=hidMk (And.intro NB.out.drew (show RSp.Bx W3.drew wr.heap.size (mkS k) from I3.out))
               clear B3 I3 NB
               go_upto_region 31 with fail
               refine alS31 (eb:=wr.heap.size) (m:=k) (TX:=txB k) (fun W=>Below wC.heap.size wC W∧RSp.Bx W wr.heap.size (mkS k)) _ W3 _ rfl rfl rfl BD.out LN.out CT.out ?_
               intro a' w' hw' ha
               subst ha
               simp only [Act.put,qsA,qsB,qsC]
               have NB:=hidMk hw'.1
               clear CT LN BD hw'
               generalize txB k=TX at *
               go_wp2
               exact ⟨⟨i2+1,by omega,by go_num,NB⟩,by simp [intOf];omega⟩
              ·obtain rfl:i2=n0:=by omega
               have NB:Hid (Below wB.heap.size wB wr):=TRW.out _ HB3.out
               clear hlt rz
               go_wp2
               exact ⟨⟨k+1,by omega,by go_num,NB⟩,by simp [intOf];omega⟩
          ·obtain rfl:k=j:=by omega
           have PF:=PP.out _ HB.out
           have HR:Hid (Below base w wr∧wr.heap[q]? =qo∧∀k,k<w.heap.size→tz k=0→wr.heap[k]? =w.heap[k]?):=⟨PF.be,PF.bk.ho,fun k hk ht=>(PF.fr k hk ht).2⟩
           clear hkj PF
           go_wp2
           go_ret
           exact ⟨rfl,HR.out.1,HR.out.2.1,HR.out.2.2⟩
end Go.Proofs.YtifendlpeebofabGreatDoor.B
namespace Go.Proofs.YtifendlpeebofabGreatDoor
open Go.RowKit
theorem aloneBytes (q:Nat) (w:World) (c:w.cell? ⟨q,0,none⟩=some (.slice none 0 0)) :
 Calls Tryz.prog 24 #[.pointer (some ⟨q,0,none⟩)] w fun e w'=>e= .returned (.bool true)∧w'=w:=by
 go_enter Tryz.func24,Tryz.ntmps24
 go_wp2
 go_loopw [3] (fun i wr=>i= .int .i64 0∧wr=w) (fun _ _=>0)
 case atStart=>exact ⟨rfl,rfl⟩
 case round =>
  obtain ⟨rfl,rfl⟩:=hrel
  go_wp2
  go_loopw [5,6] (fun all i wy=>all= .slice none 0 0∧i= .int .i64 0∧wy=wr) (fun _ _ _=>0)
  case atStart=>exact ⟨rfl,rfl,rfl⟩
  case round =>
   obtain ⟨rfl,rfl,rfl⟩:=hrel
   go_wp2
   go_loopw [9] (fun i wz=>i= .int .i64 0∧wz=wr) (fun _ _=>0)
   case atStart=>exact ⟨rfl,rfl⟩
   case round =>
        obtain ⟨rfl,rfl⟩:=hrel
        go_wp2
        go_ret
        exact ⟨rfl,rfl⟩
theorem aloneHashes (q:Nat) (w:World) (c:w.cell? ⟨q,1,none⟩=some (.slice none 0 0)) :
 Calls Tryz.prog 25 #[.pointer (some ⟨q,0,none⟩)] w fun e w'=>e= .returned (.bool true)∧w'=w:=by
 go_enter Tryz.func25,Tryz.ntmps25
 go_wp2
 go_loopw [3] (fun i wr=>i= .int .i64 0∧wr=w) (fun _ _=>0)
 case atStart=>exact ⟨rfl,rfl⟩
 case round =>
  obtain ⟨rfl,rfl⟩:=hrel
  go_wp2
  go_loopw [5,6] (fun all i wy=>all= .slice none 0 0∧i= .int .i64 0∧wy=wr) (fun _ _ _=>0)
  case atStart=>exact ⟨rfl,rfl,rfl⟩
  case round =>
   obtain ⟨rfl,rfl,rfl⟩:=hrel
   go_wp2
   go_loopw [9] (fun i wz=>i= .int .i64 0∧wz=wr) (fun _ _=>0)
   case atStart=>exact ⟨rfl,rfl⟩
   case round =>
        obtain ⟨rfl,rfl⟩:=hrel
        go_wp2
        go_ret
        exact ⟨rfl,rfl⟩
theorem aloneIds (q:Nat) (w:World) (c:w.cell? ⟨q,2,none⟩=some (.slice none 0 0)) :
 Calls Tryz.prog 26 #[.pointer (some ⟨q,0,none⟩)] w fun e w'=>e= .returned (.bool true)∧w'=w:=by
 go_enter Tryz.func26,Tryz.ntmps26
 go_wp2
 go_loopw [3] (fun i wr=>i= .int .i64 0∧wr=w) (fun _ _=>0)
 case atStart=>exact ⟨rfl,rfl⟩
 case round =>
  obtain ⟨rfl,rfl⟩:=hrel
  go_wp2
  go_loopw [5,6] (fun all i wy=>all= .slice none 0 0∧i= .int .i64 0∧wy=wr) (fun _ _ _=>0)
  case atStart=>exact ⟨rfl,rfl,rfl⟩
  case round =>
   obtain ⟨rfl,rfl,rfl⟩:=hrel
   go_wp2
   go_loopw [9] (fun i wz=>i= .int .i64 0∧wz=wr) (fun _ _=>0)
   case atStart=>exact ⟨rfl,rfl⟩
   case round =>
        obtain ⟨rfl,rfl⟩:=hrel
        go_wp2
        go_ret
        exact ⟨rfl,rfl⟩
theorem aloneTexts (q:Nat) (w:World) (c:w.cell? ⟨q,3,none⟩=some (.slice none 0 0)) :
 Calls Tryz.prog 27 #[.pointer (some ⟨q,0,none⟩)] w fun e w'=>e= .returned (.bool true)∧w'=w:=by
 go_enter Tryz.func27,Tryz.ntmps27
 go_wp2
 go_loopw [3] (fun i wr=>i= .int .i64 0∧wr=w) (fun _ _=>0)
 case atStart=>exact ⟨rfl,rfl⟩
 case round =>
  obtain ⟨rfl,rfl⟩:=hrel
  go_wp2
  go_loopw [5,6] (fun all i wy=>all= .slice none 0 0∧i= .int .i64 0∧wy=wr) (fun _ _ _=>0)
  case atStart=>exact ⟨rfl,rfl,rfl⟩
  case round =>
   obtain ⟨rfl,rfl,rfl⟩:=hrel
   go_wp2
   go_loopw [9] (fun i wz=>i= .int .i64 0∧wz=wr) (fun _ _=>0)
   case atStart=>exact ⟨rfl,rfl⟩
   case round =>
        obtain ⟨rfl,rfl⟩:=hrel
        go_wp2
        go_ret
        exact ⟨rfl,rfl⟩
theorem aloneInts (q:Nat) (w:World) (c:w.cell? ⟨q,4,none⟩=some (.slice none 0 0)) :
 Calls Tryz.prog 28 #[.pointer (some ⟨q,0,none⟩)] w fun e w'=>e= .returned (.bool true)∧w'=w:=by
 go_enter Tryz.func28,Tryz.ntmps28
 go_wp2
 go_loopw [3] (fun i wr=>i= .int .i64 0∧wr=w) (fun _ _=>0)
 case atStart=>exact ⟨rfl,rfl⟩
 case round =>
  obtain ⟨rfl,rfl⟩:=hrel
  go_wp2
  go_loopw [5,6] (fun all i wy=>all= .slice none 0 0∧i= .int .i64 0∧wy=wr) (fun _ _ _=>0)
  case atStart=>exact ⟨rfl,rfl,rfl⟩
  case round =>
   obtain ⟨rfl,rfl,rfl⟩:=hrel
   go_wp2
   go_loopw [9] (fun i wz=>i= .int .i64 0∧wz=wr) (fun _ _=>0)
   case atStart=>exact ⟨rfl,rfl⟩
   case round =>
        obtain ⟨rfl,rfl⟩:=hrel
        go_wp2
        go_ret
        exact ⟨rfl,rfl⟩
theorem aloneEntries (q:Nat) (w:World) (c:w.cell? ⟨q,5,none⟩=some (.slice none 0 0)) :
 Calls Tryz.prog 29 #[.pointer (some ⟨q,0,none⟩)] w fun e w'=>e= .returned (.bool true)∧w'=w:=by
 go_enter Tryz.func29,Tryz.ntmps29
 go_wp2
 go_loopw [3] (fun i wr=>i= .int .i64 0∧wr=w) (fun _ _=>0)
 case atStart=>exact ⟨rfl,rfl⟩
 case round =>
  obtain ⟨rfl,rfl⟩:=hrel
  go_wp2
  go_loopw [5,6] (fun all i wy=>all= .slice none 0 0∧i= .int .i64 0∧wy=wr) (fun _ _ _=>0)
  case atStart=>exact ⟨rfl,rfl,rfl⟩
  case round =>
   obtain ⟨rfl,rfl,rfl⟩:=hrel
   go_wp2
   go_loopw [9] (fun i wz=>i= .int .i64 0∧wz=wr) (fun _ _=>0)
   case atStart=>exact ⟨rfl,rfl⟩
   case round =>
        obtain ⟨rfl,rfl⟩:=hrel
        go_wp2
        go_ret
        exact ⟨rfl,rfl⟩
theorem aloneEdits (q:Nat) (w:World) (c:w.cell? ⟨q,6,none⟩=some (.slice none 0 0)) :
 Calls Tryz.prog 30 #[.pointer (some ⟨q,0,none⟩)] w fun e w'=>e= .returned (.bool true)∧w'=w:=by
 go_enter Tryz.func30,Tryz.ntmps30
 go_wp2
 go_loopw [3] (fun i wr=>i= .int .i64 0∧wr=w) (fun _ _=>0)
 case atStart=>exact ⟨rfl,rfl⟩
 case round =>
  obtain ⟨rfl,rfl⟩:=hrel
  go_wp2
  go_loopw [5,6] (fun all i wy=>all= .slice none 0 0∧i= .int .i64 0∧wy=wr) (fun _ _ _=>0)
  case atStart=>exact ⟨rfl,rfl,rfl⟩
  case round =>
   obtain ⟨rfl,rfl,rfl⟩:=hrel
   go_wp2
   go_loopw [9] (fun i wz=>i= .int .i64 0∧wz=wr) (fun _ _=>0)
   case atStart=>exact ⟨rfl,rfl⟩
   case round =>
        obtain ⟨rfl,rfl⟩:=hrel
        go_wp2
        go_ret
        exact ⟨rfl,rfl⟩
theorem aloneOps (q:Nat) (w:World) (c:w.cell? ⟨q,7,none⟩=some (.slice none 0 0)) :
 Calls Tryz.prog 31 #[.pointer (some ⟨q,0,none⟩)] w fun e w'=>e= .returned (.bool true)∧w'=w:=by
 go_enter Tryz.func31,Tryz.ntmps31
 go_wp2
 go_loopw [3] (fun i wr=>i= .int .i64 0∧wr=w) (fun _ _=>0)
 case atStart=>exact ⟨rfl,rfl⟩
 case round =>
  obtain ⟨rfl,rfl⟩:=hrel
  go_wp2
  go_loopw [5,6] (fun all i wy=>all= .slice none 0 0∧i= .int .i64 0∧wy=wr) (fun _ _ _=>0)
  case atStart=>exact ⟨rfl,rfl,rfl⟩
  case round =>
   obtain ⟨rfl,rfl,rfl⟩:=hrel
   go_wp2
   go_loopw [9] (fun i wz=>i= .int .i64 0∧wz=wr) (fun _ _=>0)
   case atStart=>exact ⟨rfl,rfl⟩
   case round =>
        obtain ⟨rfl,rfl⟩:=hrel
        go_wp2
        go_ret
        exact ⟨rfl,rfl⟩
theorem aloneSteps (q:Nat) (w:World) (c:w.cell? ⟨q,9,none⟩=some (.slice none 0 0)) :
 Calls Tryz.prog 33 #[.pointer (some ⟨q,0,none⟩)] w fun e w'=>e= .returned (.bool true)∧w'=w:=by
 go_enter Tryz.func33,Tryz.ntmps33
 go_wp2
 go_loopw [3] (fun i wr=>i= .int .i64 0∧wr=w) (fun _ _=>0)
 case atStart=>exact ⟨rfl,rfl⟩
 case round =>
  obtain ⟨rfl,rfl⟩:=hrel
  go_wp2
  go_loopw [5,6] (fun all i wy=>all= .slice none 0 0∧i= .int .i64 0∧wy=wr) (fun _ _ _=>0)
  case atStart=>exact ⟨rfl,rfl,rfl⟩
  case round =>
   obtain ⟨rfl,rfl,rfl⟩:=hrel
   go_wp2
   go_loopw [9] (fun i wz=>i= .int .i64 0∧wz=wr) (fun _ _=>0)
   case atStart=>exact ⟨rfl,rfl⟩
   case round =>
        obtain ⟨rfl,rfl⟩:=hrel
        go_wp2
        go_ret
        exact ⟨rfl,rfl⟩
theorem aloneCredits (q:Nat) (w:World) (c:w.cell? ⟨q,10,none⟩=some (.slice none 0 0)) :
 Calls Tryz.prog 34 #[.pointer (some ⟨q,0,none⟩)] w fun e w'=>e= .returned (.bool true)∧w'=w:=by
 go_enter Tryz.func34,Tryz.ntmps34
 go_wp2
 go_loopw [3] (fun i wr=>i= .int .i64 0∧wr=w) (fun _ _=>0)
 case atStart=>exact ⟨rfl,rfl⟩
 case round =>
  obtain ⟨rfl,rfl⟩:=hrel
  go_wp2
  go_loopw [5,6] (fun all i wy=>all= .slice none 0 0∧i= .int .i64 0∧wy=wr) (fun _ _ _=>0)
  case atStart=>exact ⟨rfl,rfl,rfl⟩
  case round =>
   obtain ⟨rfl,rfl,rfl⟩:=hrel
   go_wp2
   go_loopw [9] (fun i wz=>i= .int .i64 0∧wz=wr) (fun _ _=>0)
   case atStart=>exact ⟨rfl,rfl⟩
   case round =>
        obtain ⟨rfl,rfl⟩:=hrel
        go_wp2
        go_ret
        exact ⟨rfl,rfl⟩
theorem aloneRights (q:Nat) (w:World) (c:w.cell? ⟨q,11,none⟩=some (.slice none 0 0)) :
 Calls Tryz.prog 35 #[.pointer (some ⟨q,0,none⟩)] w fun e w'=>e= .returned (.bool true)∧w'=w:=by
 go_enter Tryz.func35,Tryz.ntmps35
 go_wp2
 go_loopw [3] (fun i wr=>i= .int .i64 0∧wr=w) (fun _ _=>0)
 case atStart=>exact ⟨rfl,rfl⟩
 case round =>
  obtain ⟨rfl,rfl⟩:=hrel
  go_wp2
  go_loopw [5,6] (fun all i wy=>all= .slice none 0 0∧i= .int .i64 0∧wy=wr) (fun _ _ _=>0)
  case atStart=>exact ⟨rfl,rfl,rfl⟩
  case round =>
   obtain ⟨rfl,rfl,rfl⟩:=hrel
   go_wp2
   go_loopw [9] (fun i wz=>i= .int .i64 0∧wz=wr) (fun _ _=>0)
   case atStart=>exact ⟨rfl,rfl⟩
   case round =>
        obtain ⟨rfl,rfl⟩:=hrel
        go_wp2
        go_ret
        exact ⟨rfl,rfl⟩
theorem aloneUpdates (q:Nat) (w:World) (c:w.cell? ⟨q,12,none⟩=some (.slice none 0 0)) :
 Calls Tryz.prog 36 #[.pointer (some ⟨q,0,none⟩)] w fun e w'=>e= .returned (.bool true)∧w'=w:=by
 go_enter Tryz.func36,Tryz.ntmps36
 go_wp2
 go_loopw [3] (fun i wr=>i= .int .i64 0∧wr=w) (fun _ _=>0)
 case atStart=>exact ⟨rfl,rfl⟩
 case round =>
  obtain ⟨rfl,rfl⟩:=hrel
  go_wp2
  go_loopw [5,6] (fun all i wy=>all= .slice none 0 0∧i= .int .i64 0∧wy=wr) (fun _ _ _=>0)
  case atStart=>exact ⟨rfl,rfl,rfl⟩
  case round =>
   obtain ⟨rfl,rfl,rfl⟩:=hrel
   go_wp2
   go_loopw [9] (fun i wz=>i= .int .i64 0∧wz=wr) (fun _ _=>0)
   case atStart=>exact ⟨rfl,rfl⟩
   case round =>
        obtain ⟨rfl,rfl⟩:=hrel
        go_wp2
        go_ret
        exact ⟨rfl,rfl⟩
theorem aloneNodes (q:Nat) (w:World) (c:w.cell? ⟨q,13,none⟩=some (.slice none 0 0)) :
 Calls Tryz.prog 37 #[.pointer (some ⟨q,0,none⟩)] w fun e w'=>e= .returned (.bool true)∧w'=w:=by
 go_enter Tryz.func37,Tryz.ntmps37
 go_wp2
 go_loopw [3] (fun i wr=>i= .int .i64 0∧wr=w) (fun _ _=>0)
 case atStart=>exact ⟨rfl,rfl⟩
 case round =>
  obtain ⟨rfl,rfl⟩:=hrel
  go_wp2
  go_loopw [5,6] (fun all i wy=>all= .slice none 0 0∧i= .int .i64 0∧wy=wr) (fun _ _ _=>0)
  case atStart=>exact ⟨rfl,rfl,rfl⟩
  case round =>
   obtain ⟨rfl,rfl,rfl⟩:=hrel
   go_wp2
   go_loopw [9] (fun i wz=>i= .int .i64 0∧wz=wr) (fun _ _=>0)
   case atStart=>exact ⟨rfl,rfl⟩
   case round =>
        obtain ⟨rfl,rfl⟩:=hrel
        go_wp2
        go_ret
        exact ⟨rfl,rfl⟩
theorem alonePatches (q:Nat) (w:World) (c:w.cell? ⟨q,14,none⟩=some (.slice none 0 0)) :
 Calls Tryz.prog 38 #[.pointer (some ⟨q,0,none⟩)] w fun e w'=>e= .returned (.bool true)∧w'=w:=by
 go_enter Tryz.func38,Tryz.ntmps38
 go_wp2
 go_loopw [3] (fun i wr=>i= .int .i64 0∧wr=w) (fun _ _=>0)
 case atStart=>exact ⟨rfl,rfl⟩
 case round =>
  obtain ⟨rfl,rfl⟩:=hrel
  go_wp2
  go_loopw [5,6] (fun all i wy=>all= .slice none 0 0∧i= .int .i64 0∧wy=wr) (fun _ _ _=>0)
  case atStart=>exact ⟨rfl,rfl,rfl⟩
  case round =>
   obtain ⟨rfl,rfl,rfl⟩:=hrel
   go_wp2
   go_loopw [9] (fun i wz=>i= .int .i64 0∧wz=wr) (fun _ _=>0)
   case atStart=>exact ⟨rfl,rfl⟩
   case round =>
        obtain ⟨rfl,rfl⟩:=hrel
        go_wp2
        go_ret
        exact ⟨rfl,rfl⟩
theorem aloneImages (q:Nat) (w:World) (c:w.cell? ⟨q,15,none⟩=some (.slice none 0 0)) :
 Calls Tryz.prog 39 #[.pointer (some ⟨q,0,none⟩)] w fun e w'=>e= .returned (.bool true)∧w'=w:=by
 go_enter Tryz.func39,Tryz.ntmps39
 go_wp2
 go_loopw [3] (fun i wr=>i= .int .i64 0∧wr=w) (fun _ _=>0)
 case atStart=>exact ⟨rfl,rfl⟩
 case round =>
  obtain ⟨rfl,rfl⟩:=hrel
  go_wp2
  go_loopw [5,6] (fun all i wy=>all= .slice none 0 0∧i= .int .i64 0∧wy=wr) (fun _ _ _=>0)
  case atStart=>exact ⟨rfl,rfl,rfl⟩
  case round =>
   obtain ⟨rfl,rfl,rfl⟩:=hrel
   go_wp2
   go_loopw [9] (fun i wz=>i= .int .i64 0∧wz=wr) (fun _ _=>0)
   case atStart=>exact ⟨rfl,rfl⟩
   case round =>
        obtain ⟨rfl,rfl⟩:=hrel
        go_wp2
        go_ret
        exact ⟨rfl,rfl⟩
theorem aloneForks (q:Nat) (w:World) (c:w.cell? ⟨q,16,none⟩=some (.slice none 0 0)) :
 Calls Tryz.prog 40 #[.pointer (some ⟨q,0,none⟩)] w fun e w'=>e= .returned (.bool true)∧w'=w:=by
 go_enter Tryz.func40,Tryz.ntmps40
 go_wp2
 go_loopw [3] (fun i wr=>i= .int .i64 0∧wr=w) (fun _ _=>0)
 case atStart=>exact ⟨rfl,rfl⟩
 case round =>
  obtain ⟨rfl,rfl⟩:=hrel
  go_wp2
  go_loopw [5,6] (fun all i wy=>all= .slice none 0 0∧i= .int .i64 0∧wy=wr) (fun _ _ _=>0)
  case atStart=>exact ⟨rfl,rfl,rfl⟩
  case round =>
   obtain ⟨rfl,rfl,rfl⟩:=hrel
   go_wp2
   go_loopw [9] (fun i wz=>i= .int .i64 0∧wz=wr) (fun _ _=>0)
   case atStart=>exact ⟨rfl,rfl⟩
   case round =>
        obtain ⟨rfl,rfl⟩:=hrel
        go_wp2
        go_ret
        exact ⟨rfl,rfl⟩
theorem aloneRows (q:Nat) (w:World) (c:w.cell? ⟨q,17,none⟩=some (.slice none 0 0)) :
 Calls Tryz.prog 41 #[.pointer (some ⟨q,0,none⟩)] w fun e w'=>e= .returned (.bool true)∧w'=w:=by
 go_enter Tryz.func41,Tryz.ntmps41
 go_wp2
 go_loopw [3] (fun i wr=>i= .int .i64 0∧wr=w) (fun _ _=>0)
 case atStart=>exact ⟨rfl,rfl⟩
 case round =>
  obtain ⟨rfl,rfl⟩:=hrel
  go_wp2
  go_loopw [5,6] (fun all i wy=>all= .slice none 0 0∧i= .int .i64 0∧wy=wr) (fun _ _ _=>0)
  case atStart=>exact ⟨rfl,rfl,rfl⟩
  case round =>
   obtain ⟨rfl,rfl,rfl⟩:=hrel
   go_wp2
   go_loopw [9] (fun i wz=>i= .int .i64 0∧wz=wr) (fun _ _=>0)
   case atStart=>exact ⟨rfl,rfl⟩
   case round =>
        obtain ⟨rfl,rfl⟩:=hrel
        go_wp2
        go_ret
        exact ⟨rfl,rfl⟩
end Go.Proofs.YtifendlpeebofabGreatDoor
namespace Go.Proofs.YtifendlpeebofabGreatDoor.B
open Go.RowKit
def bkI (all:Value):Array Value:= #[.slice none 0 0, .slice none 0 0, .slice none 0 0, .slice none 0 0, .slice none 0 0, .slice none 0 0, .slice none 0 0, .slice none 0 0,all, .slice none 0 0, .slice none 0 0, .slice none 0 0, .slice none 0 0, .slice none 0 0, .slice none 0 0, .slice none 0 0, .slice none 0 0, .slice none 0 0]
def BkI (w:World) (q base:Nat) (all:Value) (rows:List Value):Prop:=w.heap[q]? =some (.cells (bkI all) 47 (0,0))∧w.ownsRow base 48 1 all rows.length rows∧all.ownBlock≠some q
theorem takeS_any (q base:Nat) (all:Value) (rows:List Value) (a:Option Addr) (n c:Nat) (w:World) (hw:BkI w q base all rows) (hn:rows.length≤2600000000000) (hbq:base≤q) :
 Calls Tryz.prog 7 #[.pointer (some ⟨q,0,none⟩), .slice a n c] w fun e w'=>e= .returned (.tuple #[])∧(∃all',BkI w' q base all' (rows++[.slice a n c])∧(all'.ownBlock=all.ownBlock∨∃b,all'.ownBlock=some b∧w.heap.size≤b))∧Below base w w'∧∀k,k<w.heap.size→k≠q→all.ownBlock≠some k→w'.heap[k]? =w.heap[k]? :=by
 obtain ⟨hq,hr,hne⟩:=hw
 have zq:q<w.heap.size:=(Array.getElem?_eq_some_iff.1 hq).1
 obtain ⟨sv,w1,qv,w2,e1,e2,o2,b1,g2,h2'⟩:=app_gen Tryz.underlying36 infoEl rfl (by decide) (x:=[.slice a n c]) (xv:= .slice a n c) rfl (fun u hu=>by simp at hu;subst hu;rfl) (run_bs1 36 48 24 (.slice none 0 0) Tryz.underlying36 infoEl rfl (.slice a n c) rfl w) hr (by unfold maxLen;omega) (by omega) (by omega)
 have h2:qv.ownBlock=all.ownBlock∨qv.ownBlock=some w1.heap.size:=h2'.imp id fun q=>q.1
 have z1:=b1.size
 have z2:=g2.size
 have hq2:w2.heap[q]? =some (.cells (bkI all) 47 (0,0)):=(g2.block q (by omega) (fun e=>hne e.symm)).trans ((b1.block q zq).trans hq)
 have hne2:qv.ownBlock≠some q:=by
  rcases h2 with e|e
  ·rw [e];exact hne
  ·rw [e];intro h;simp at h;omega
 have one:qv.oneCell'=true:=by
  rcases o2.2 with ⟨rfl,_⟩|⟨g,cap,cur,rfl,_⟩ <;>rfl
 have c0:=(cell_of_row w q 8 _ _ _ hq).trans (show (bkI all)[8]? =some all from rfl)
 have d0:=(cell_of_row w2 q 8 _ _ _ hq2).trans (show (bkI all)[8]? =some all from rfl)
 have f0:=frozen_of_row w2 q 8 _ _ hq2
 obtain ⟨ga,gc,rfl⟩:=own_slice o2
 have ES:(Instr.storeAt 36 (.pointer (some ⟨q,8,none⟩)) (.slice ga (rows.length+1) gc)).run Tryz.prog w2= .ok () (w2.setCell ⟨q,8,none⟩ (.slice ga (rows.length+1) gc)):=by go_simp
 have W1:Hid (BkI (w2.setCell ⟨q,8,none⟩ (.slice ga (rows.length+1) gc)) q base (.slice ga (rows.length+1) gc) (rows++[.slice a n c])):=⟨by rw [heap_setCell_same w2 q 8 _ 47 _ hq2];rfl,by
  rw [List.length_append]
  exact own_other o2 hne2,hne2⟩
 have B1:Hid (Below base w (w2.setCell ⟨q,8,none⟩ (.slice ga (rows.length+1) gc))):=(((b1.mono (by omega)).grown g2 (by omega) (fun k hk=>(World.ownsRow.lt hr k hk).1))).setCell hbq _
 have FR:Hid (∀k,k<w.heap.size→k≠q→all.ownBlock≠some k→(w2.setCell ⟨q,8,none⟩ (.slice ga (rows.length+1) gc)).heap[k]? =w.heap[k]?):=fun k hk hkq hko=>by
  rw [Below.heap_setCell _ _ _ _ hkq,g2.block k (by omega) (fun e=>hko e.symm)]
  exact b1.block k hk
 have H5:Hid ((Value.slice ga (rows.length+1) gc).ownBlock=all.ownBlock∨∃b,(Value.slice ga (rows.length+1) gc).ownBlock=some b∧w.heap.size≤b):=by
  rcases h2 with e|e
  ·exact Or.inl e
  ·exact Or.inr ⟨_,e,z1⟩
 have E1:=hidMk e1
 have E2:=hidMk e2
 have E3:=hidMk ES
 have C0:=hidMk c0
 clear hq hr hne e1 e2 o2 b1 g2 h2 hq2 hne2 one c0 d0 f0 ES z1 z2
 go_enter Tryz.func7,Tryz.ntmps7
 refine tkS0 (q:=q) (lv:= .slice a n c) (av:=all) (sv:=sv) (rv:= .slice ga (rows.length+1) gc) (w1:=w1) (w2:=w2) (w3:=w2.setCell ⟨q,8,none⟩ (.slice ga (rows.length+1) gc)) _ w _ rfl rfl rfl (fun W e=>by rw [e];exact ld_ee (o:=0+8) C0.out) E1.out E2.out (by rw [Nat.zero_add];exact E3.out) ?_
 intro a' w' hw' ha
 subst hw' ha
 go_end0
 exact ⟨rfl,⟨_,W1.out,H5.out⟩,B1.out,FR.out⟩
theorem below_setRowY (B:Nat) (w:World) (g:Nat) (cs:Array Value) (h:B≤g):Below B w (w.setRow g cs) :=
 ⟨rfl,rfl,rfl,by simp,fun k hk=>setRow_other w g k cs (by omega)⟩
theorem hbBkI:Tryz.prog.built 47 []=some (bkI (.slice none 0 0)):=by kernel_rfl
theorem hsBkI:(Tryz.prog.info? 47).map (·.size)=some 18:=by kernel_rfl
theorem honeI (v:Value) (h:v= .slice none 0 0):(bkI v).all (·.oneCell')=true:=by subst h;kernel_rfl
theorem bookS_any (q base bb N:Nat) (all:Value) (V:Nat→Lst) (L:Nat→List SpV) (w:World) (hN1:1≤N) (hN:N≤2600000000000) (hn:∀i,i<N→(V i).n≤1700000000000) (hLn:∀i,i<N→(L i).length=(V i).n) (okL:∀i,i<N→∀x∈L i,x.ok)
 (bn:BkI w q bb all ((List.range N).map fun i=>(V i).v)) (hbq:base≤q) (hbb:base≤bb) (ow:∀i,i<N→w.ownsRow base 84 7 (V i).v (V i).n (RSp.flat (L i)))
 (sep:∀i j,i<N→j<N→∀b,(V i).v.ownBlock=some b→(V j).v.ownBlock=some b→i=j) :
 Calls Tryz.prog 9 #[.pointer (some ⟨q,0,none⟩)] w fun e w'=>e= .returned (.bool true)∧Below base w w'∧∀k,k<w.heap.size→k≠q→(∀i,i<N→(V i).v.ownBlock≠some k)→w'.heap[k]? =w.heap[k]? :=by
 obtain ⟨hq,rows,hne⟩:=bn
 have zq:q<w.heap.size:=(Array.getElem?_eq_some_iff.1 hq).1
 have hlen:((List.range N).map fun i=>(V i).v).length=N:=by simp
 rw [hlen] at rows
 have tyq:∀i,i<N→(V i).v.ownBlock≠some q:=fun i hi e=>by
  rcases (ow i hi).2 with ⟨e1,_⟩|⟨g,cap,cur,e1,_,hg,_⟩
  ·rw [e1] at e;cases e
  ·rw [e1] at e
   simp [Value.ownBlock] at e
   subst e
   rw [hq] at hg
   injection hg with hg
   injection hg with _ h2 _
   revert h2
   decide
 obtain ⟨B,cB,rfl,hBl,hc,hB⟩:∃B cB,all= .slice (some ⟨B,0,none⟩) N cB∧B<w.heap.size∧(∀i,i<N→w.cell? ⟨B,i,none⟩=some (V i).v)∧∃cur,w.heap[B]? =some (.cells cur 48 (0,0)):=by
  have hc:=fun g hg=>World.ownsRow.cells rows (g:=g) hg
  rcases rows.2 with ⟨_,hn0⟩|⟨g,cap,cur,rfl,hbg,hg,_⟩
  ·omega
  ·refine ⟨g,cap,rfl,(Array.getElem?_eq_some_iff.1 hg).1,fun i hi=> ?_,cur,hg⟩
   have:=hc g rfl i (V i).v (by rw [List.getElem?_map,List.getElem?_range hi];rfl)
   rw [Addr.add_mid,Nat.zero_add] at this
   exact this
 have tyB:∀i,i<N→(V i).v.ownBlock≠some B:=fun i hi e=>by
  obtain ⟨cur,hB⟩:=hB
  rcases (ow i hi).2 with ⟨e1,_⟩|⟨g,cap,cur2,e1,_,hg,_⟩
  ·rw [e1] at e;cases e
  ·rw [e1] at e
   simp [Value.ownBlock] at e
   subst e
   rw [hB] at hg
   injection hg with hg
   injection hg with _ h2 _
   revert h2
   decide
 have c0:w.cell? ⟨q,8,none⟩=some (.slice (some ⟨B,0,none⟩) N cB):=(cell_of_row w q 8 _ _ _ hq).trans rfl
 have HST:Hid (Calls Tryz.prog 32 #[.pointer (some ⟨q,0,none⟩)] w fun e w'=>e= .returned (.bool true)∧Below base w w'∧w'.heap[q]? =some (.cells (bkI (.slice (some ⟨B,0,none⟩) N cB)) 47 (0,0))∧∀k,k<w.heap.size→(∀i,i<N→(V i).v.ownBlock≠some k)→w'.heap[k]? =w.heap[k]?) :=
  (aloneSpans_any q B cB base N _ V L (tgOf N V) w hN1 hN hn hLn okL ⟨⟨c0,hc,hq,hBl⟩,tgOf_no q tyq,tgOf_no B tyB,fun i hi=>⟨ow i hi,tgOf_own sep i hi⟩,Below.refl _ _,fun _ _ _=>rfl⟩ (by omega)).mono fun e w' h=>⟨h.1,h.2.1,h.2.2.1,fun k hk hi=>h.2.2.2 k hk (tgOf_no k hi)⟩
 have CBytes:Hid (Calls Tryz.prog 24 #[.pointer (some ⟨q,0,none⟩)] w fun e w'=>e= .returned (.bool true)∧w'=w):=aloneBytes q w ((cell_of_row w q 0 _ _ _ hq).trans rfl)
 have CHashes:Hid (Calls Tryz.prog 25 #[.pointer (some ⟨q,0,none⟩)] w fun e w'=>e= .returned (.bool true)∧w'=w):=aloneHashes q w ((cell_of_row w q 1 _ _ _ hq).trans rfl)
 have CIds:Hid (Calls Tryz.prog 26 #[.pointer (some ⟨q,0,none⟩)] w fun e w'=>e= .returned (.bool true)∧w'=w):=aloneIds q w ((cell_of_row w q 2 _ _ _ hq).trans rfl)
 have CTexts:Hid (Calls Tryz.prog 27 #[.pointer (some ⟨q,0,none⟩)] w fun e w'=>e= .returned (.bool true)∧w'=w):=aloneTexts q w ((cell_of_row w q 3 _ _ _ hq).trans rfl)
 have CInts:Hid (Calls Tryz.prog 28 #[.pointer (some ⟨q,0,none⟩)] w fun e w'=>e= .returned (.bool true)∧w'=w):=aloneInts q w ((cell_of_row w q 4 _ _ _ hq).trans rfl)
 have CEntries:Hid (Calls Tryz.prog 29 #[.pointer (some ⟨q,0,none⟩)] w fun e w'=>e= .returned (.bool true)∧w'=w):=aloneEntries q w ((cell_of_row w q 5 _ _ _ hq).trans rfl)
 have CEdits:Hid (Calls Tryz.prog 30 #[.pointer (some ⟨q,0,none⟩)] w fun e w'=>e= .returned (.bool true)∧w'=w):=aloneEdits q w ((cell_of_row w q 6 _ _ _ hq).trans rfl)
 have COps:Hid (Calls Tryz.prog 31 #[.pointer (some ⟨q,0,none⟩)] w fun e w'=>e= .returned (.bool true)∧w'=w):=aloneOps q w ((cell_of_row w q 7 _ _ _ hq).trans rfl)
 clear hq rows hne hc c0 ow sep hlen tyq tyB hB
 go_enter Tryz.func9,Tryz.ntmps9
 go_wp2_with fail
 refine (CBytes.out).mono ?_
 rintro e wy ⟨rfl,hwy⟩
 obtain rfl:w=wy:=hwy.symm
 go_wp2_with fail
 refine (CHashes.out).mono ?_
 rintro e wy ⟨rfl,hwy⟩
 obtain rfl:w=wy:=hwy.symm
 go_wp2_with fail
 refine (CIds.out).mono ?_
 rintro e wy ⟨rfl,hwy⟩
 obtain rfl:w=wy:=hwy.symm
 go_wp2_with fail
 refine (CTexts.out).mono ?_
 rintro e wy ⟨rfl,hwy⟩
 obtain rfl:w=wy:=hwy.symm
 go_wp2_with fail
 refine (CInts.out).mono ?_
 rintro e wy ⟨rfl,hwy⟩
 obtain rfl:w=wy:=hwy.symm
 go_wp2_with fail
 refine (CEntries.out).mono ?_
 rintro e wy ⟨rfl,hwy⟩
 obtain rfl:w=wy:=hwy.symm
 go_wp2_with fail
 refine (CEdits.out).mono ?_
 rintro e wy ⟨rfl,hwy⟩
 obtain rfl:w=wy:=hwy.symm
 go_wp2_with fail
 refine (COps.out).mono ?_
 rintro e wy ⟨rfl,hwy⟩
 obtain rfl:w=wy:=hwy.symm
 go_wp2_with fail
 refine HST.out.mono ?_
 rintro e w1 ⟨rfl,b1,hq1,fr1⟩
 have FR:=hidMk fr1
 clear fr1
 have CSteps:Hid (Calls Tryz.prog 33 #[.pointer (some ⟨q,0,none⟩)] w1 fun e w'=>e= .returned (.bool true)∧w'=w1):=aloneSteps q w1 ((cell_of_row w1 q 9 _ _ _ hq1).trans rfl)
 have CCredits:Hid (Calls Tryz.prog 34 #[.pointer (some ⟨q,0,none⟩)] w1 fun e w'=>e= .returned (.bool true)∧w'=w1):=aloneCredits q w1 ((cell_of_row w1 q 10 _ _ _ hq1).trans rfl)
 have CRights:Hid (Calls Tryz.prog 35 #[.pointer (some ⟨q,0,none⟩)] w1 fun e w'=>e= .returned (.bool true)∧w'=w1):=aloneRights q w1 ((cell_of_row w1 q 11 _ _ _ hq1).trans rfl)
 have CUpdates:Hid (Calls Tryz.prog 36 #[.pointer (some ⟨q,0,none⟩)] w1 fun e w'=>e= .returned (.bool true)∧w'=w1):=aloneUpdates q w1 ((cell_of_row w1 q 12 _ _ _ hq1).trans rfl)
 have CNodes:Hid (Calls Tryz.prog 37 #[.pointer (some ⟨q,0,none⟩)] w1 fun e w'=>e= .returned (.bool true)∧w'=w1):=aloneNodes q w1 ((cell_of_row w1 q 13 _ _ _ hq1).trans rfl)
 have CPatches:Hid (Calls Tryz.prog 38 #[.pointer (some ⟨q,0,none⟩)] w1 fun e w'=>e= .returned (.bool true)∧w'=w1):=alonePatches q w1 ((cell_of_row w1 q 14 _ _ _ hq1).trans rfl)
 have CImages:Hid (Calls Tryz.prog 39 #[.pointer (some ⟨q,0,none⟩)] w1 fun e w'=>e= .returned (.bool true)∧w'=w1):=aloneImages q w1 ((cell_of_row w1 q 15 _ _ _ hq1).trans rfl)
 have CForks:Hid (Calls Tryz.prog 40 #[.pointer (some ⟨q,0,none⟩)] w1 fun e w'=>e= .returned (.bool true)∧w'=w1):=aloneForks q w1 ((cell_of_row w1 q 16 _ _ _ hq1).trans rfl)
 have CRows:Hid (Calls Tryz.prog 41 #[.pointer (some ⟨q,0,none⟩)] w1 fun e w'=>e= .returned (.bool true)∧w'=w1):=aloneRows q w1 ((cell_of_row w1 q 17 _ _ _ hq1).trans rfl)
 go_wp2_with fail
 refine (CSteps.out).mono ?_
 rintro e wy ⟨rfl,hwy⟩
 obtain rfl:w1=wy:=hwy.symm
 go_wp2_with fail
 refine (CCredits.out).mono ?_
 rintro e wy ⟨rfl,hwy⟩
 obtain rfl:w1=wy:=hwy.symm
 go_wp2_with fail
 refine (CRights.out).mono ?_
 rintro e wy ⟨rfl,hwy⟩
 obtain rfl:w1=wy:=hwy.symm
 go_wp2_with fail
 refine (CUpdates.out).mono ?_
 rintro e wy ⟨rfl,hwy⟩
 obtain rfl:w1=wy:=hwy.symm
 go_wp2_with fail
 refine (CNodes.out).mono ?_
 rintro e wy ⟨rfl,hwy⟩
 obtain rfl:w1=wy:=hwy.symm
 go_wp2_with fail
 refine (CPatches.out).mono ?_
 rintro e wy ⟨rfl,hwy⟩
 obtain rfl:w1=wy:=hwy.symm
 go_wp2_with fail
 refine (CImages.out).mono ?_
 rintro e wy ⟨rfl,hwy⟩
 obtain rfl:w1=wy:=hwy.symm
 go_wp2_with fail
 refine (CForks.out).mono ?_
 rintro e wy ⟨rfl,hwy⟩
 obtain rfl:w1=wy:=hwy.symm
 go_wp2_with fail
 refine (CRows.out).mono ?_
 rintro e wy ⟨rfl,hwy⟩
 obtain rfl:w1=wy:=hwy.symm
 clear HST CBytes CHashes CIds CTexts CInts CEntries CEdits COps CSteps CCredits CRights CUpdates CNodes CPatches CImages CForks CRows
 go_wp2_with (first|(refine wpList_build_row rfl 47 rfl (bkI (.slice none 0 0)) hbBkI ?_)|(refine wpList_store_row rfl 47 (.tmp 76) (.tmp 75) rfl q (bkI (.slice none 0 0)) rfl rfl 47 (bkI (.slice (some ⟨B,0,none⟩) N cB)) hq1 (hsBkI.trans rfl) rfl (honeI _ rfl) ?_)|fail)
 go_ret
 exact ⟨rfl,b1.trans (below_setRowY _ _ _ _ hbq),fun k hk hkq hi=>(setRow_other _ _ _ _ hkq).trans (FR.out k hk hi)⟩
end Go.Proofs.YtifendlpeebofabGreatDoor.B
namespace Go.Proofs.YtifendlpeebofabGreatDoor
open Go.RowKit
structure TB (bb q:Nat) (g:Nat→Nat) (w:World) (all:Value) (R:List (B.Lst × List SpV)):Prop where
 bk:B.BkI w q bb all (R.map fun r=>r.1.v)
 bq:bb≤q
 own:∀r∈R,RSp.Own w bb r.1.v r.2∧r.1.n=r.2.length∧r.2.length≤1700000000000∧∀x∈r.2,x.ok
 sep:∀(i j:Nat) (r r':B.Lst × List SpV) (b:Nat),R[i]? =some r→R[j]? =some r'→r.1.v.ownBlock=some b→r'.1.v.ownBlock=some b→i=j
 gq:g q=0
 ga:∀b,all.ownBlock=some b→g b=0
 gl:∀r∈R,∀b,r.1.v.ownBlock=some b→g b=0
 nl:R=[]→all= .slice none 0 0
theorem own_base {w:World} {b b' e sz n:Nat} {v:Value} {xs:List Value} (h:w.ownsRow b e sz v n xs) (hb:b'≤b):w.ownsRow b' e sz v n xs:=by
 refine ⟨h.1, ?_⟩
 rcases h.2 with hn|⟨g,cap,cur,e1,hbg,rest⟩
 ·exact .inl hn
 ·exact .inr ⟨g,cap,cur,e1,Nat.le_trans hb hbg,rest⟩
theorem OwnS.baseL {w:World} {b b':Nat} {v:Value} {L:List SpV} (h:RSp.Own w b v L) (hb:b'≤b):RSp.Own w b' v L:=own_base h hb
section
variable {bb q:Nat} {g g':Nat→Nat} {w w':World} {all:Value} {R:List (B.Lst × List SpV)}
theorem TB.lq (h:TB bb q g w all R):q<w.heap.size:=(Array.getElem?_eq_some_iff.1 h.bk.1).1
theorem TB.la (h:TB bb q g w all R) {b:Nat} (hb:all.ownBlock=some b):b<w.heap.size:=(World.ownsRow.lt h.bk.2.1 b hb).2
theorem TB.nq (h:TB bb q g w all R) {r:B.Lst × List SpV} (hr:r∈R) {b:Nat} (hb:r.1.v.ownBlock=some b):b≠q∧all.ownBlock≠some b:=by
 obtain ⟨_,c,hc⟩:=RowT.Own.cells (h.own r hr).1 hb
 refine ⟨fun e=> ?_,fun e=> ?_⟩
 ·subst e
  have:=h.bk.1
  rw [hc] at this
  injection this with this
  injection this with _ h2 _
  revert h2
  decide
 ·rcases h.bk.2.1.2 with ⟨e1,_⟩|⟨k,cap,cur,e1,_,hg,_⟩
  ·rw [e1] at e;cases e
  ·rw [e1] at e
   simp [Value.ownBlock] at e
   subst e
   rw [hc] at hg
   injection hg with hg
   injection hg with _ h2 _
   revert h2
   decide
theorem TB.keep (h:TB bb q g w all R) (hk:∀j,j<w.heap.size→(j=q∨all.ownBlock=some j∨∃r∈R,r.1.v.ownBlock=some j)→w'.heap[j]? =w.heap[j]?) (hg:∀j,j<w.heap.size→g' j=g j):TB bb q g' w' all R:=by
 refine ⟨⟨(hk q h.lq (Or.inl rfl)).trans h.bk.1,B.own_sameB h.bk.2.1 fun b hb=>hk b (h.la hb) (Or.inr (Or.inl hb)),h.bk.2.2⟩,h.bq,fun r hr=> ?_,h.sep,(hg q h.lq).trans h.gq,fun b hb=>(hg b (h.la hb)).trans (h.ga b hb),fun r hr b hb=>(hg b ((h.own r hr).1.lt hb)).trans (h.gl r hr b hb),h.nl⟩
 obtain ⟨o,rest⟩:=h.own r hr
 exact ⟨o.keep fun b hb=>hk b (o.lt hb) (Or.inr (Or.inr ⟨r,hr,hb⟩)),rest⟩
theorem TB.below (h:TB bb q g w all R) (b:Below w.heap.size w w'):TB bb q g w' all R:=h.keep (fun j hj _=>b.block j hj) (fun _ _=>rfl)
end
theorem TB.take {bb q:Nat} {g:Nat→Nat} {W W':World} {all:Value} {R:List (B.Lst × List SpV)} (tb:TB bb q g W all R) (hbb:bb≤W.heap.size) (gz:∀j,W'.heap.size≤j→g j=0) (hc:R.length≤2500000000000) {v:Value} (gv:∀j,v.ownBlock=some j→g j=0) {L:List SpV} (b:Below W.heap.size W W') (own:RSp.Own W' W.heap.size v L) (okL:∀y∈L,y.ok) (hL:L.length≤1700000000000) :
 Calls Tryz.prog 7 #[.pointer (some ⟨q,0,none⟩),v] W' fun e w'=>e= .returned (.tuple #[])∧∃all' R',TB bb q g w' all' R'∧R'.length=R.length+1∧Below bb W' w'∧Tch (fun j=>g j=0) W' w':=by
 obtain ⟨a,k,rfl,_,_⟩:=own.open RSp_is okL
 have tb':=tb.below b
 have hlen:(R.map fun r=>r.1.v).length=R.length:=List.length_map ..
 have own0:RSp.Own W' bb (.slice a L.length k) L:=OwnS.baseL own hbb
 refine (B.takeS_any q bb all _ a L.length k W' tb'.bk (by rw [hlen];omega) tb'.bq).mono ?_
 rintro e w' ⟨he,⟨all',bk',hall⟩,bl,fr⟩
 have new:∀j,(Value.slice a L.length k).ownBlock=some j→W.heap.size≤j∧j<W'.heap.size:=fun j hj=>⟨(RowT.Own.cells own hj).1,own.lt hj⟩
 have tch:Tch (fun j=>g j=0) W' w':=⟨bl.os,bl.tape,bl.output,bl.size,fun j hj hn=>fr j hj (fun e=>hn (by rw [e];exact tb'.gq)) (fun e=>hn (tb'.ga j e))⟩
 have nqN:∀j,(Value.slice a L.length k).ownBlock=some j→j≠q∧all.ownBlock≠some j:=fun j hj=>⟨fun e=>by have:=tb.lq;have:=(new j hj).1;omega,fun e=>by have:=tb.la e;have:=(new j hj).1;omega⟩
 refine ⟨he,all',R++[(⟨a,L.length,k⟩,L)],⟨by rw [List.map_append];exact bk',tb'.bq,fun r hr=> ?_,fun i j r r' b' h1 h2 h3 h4=> ?_,tb'.gq,fun b' hb=> ?_,fun r hr b' hb=> ?_,fun e=>by simp at e⟩,by rw [List.length_append];rfl,bl,tch⟩
 ·rcases List.mem_append.1 hr with hr|hr
  ·obtain ⟨o,rest⟩:=tb'.own r hr
   exact ⟨o.keep fun b' hb=>fr b' (o.lt hb) (tb'.nq hr hb).1 (tb'.nq hr hb).2,rest⟩
  ·simp at hr
   subst hr
   exact ⟨own0.keep fun b' hb=>fr b' (new b' hb).2 (nqN b' hb).1 (nqN b' hb).2,rfl,hL,okL⟩
 ·have old:∀{i:Nat} {r:B.Lst × List SpV},R[i]? =some r→r.1.v.ownBlock=some b'→b'<W.heap.size:=fun h1 h3=>(tb.own _ (List.mem_of_getElem? h1)).1.lt h3
  rw [List.getElem?_append] at h1 h2
  split at h1 <;>split at h2
  ·exact tb.sep i j r r' b' h1 h2 h3 h4
  ·next q1 q2 =>
   have e2:r'=(⟨a,L.length,k⟩,L):=by have:=List.mem_of_getElem? h2;simpa using this
   subst e2
   have:=old h1 h3
   have:=(new b' h4).1
   omega
  ·next q1 q2 =>
   have e1:r=(⟨a,L.length,k⟩,L):=by have:=List.mem_of_getElem? h1;simpa using this
   subst e1
   have:=old h2 h4
   have:=(new b' h3).1
   omega
  ·next q1 q2 =>
   have l1:=(List.getElem?_eq_some_iff.1 h1).1
   have l2:=(List.getElem?_eq_some_iff.1 h2).1
   simp at l1 l2
   omega
 ·rcases hall with e|⟨b2,e,h2⟩
  ·rw [e] at hb;exact tb'.ga b' hb
  ·rw [e] at hb
   injection hb with hb
   subst hb
   exact gz _ h2
 ·rcases List.mem_append.1 hr with hr|hr
  ·exact tb'.gl r hr b' hb
  ·simp at hr
   subst hr
   exact gv b' hb
theorem TB.alone {bb q:Nat} {g:Nat→Nat} {W:World} {all:Value} {R:List (B.Lst × List SpV)} (tb:TB bb q g W all R) (hbb:bb≤W.heap.size) (hc:R.length≤2500000000000) (h0:R≠[]) :
 Calls Tryz.prog 9 #[.pointer (some ⟨q,0,none⟩)] W fun e w'=>e= .returned (.bool true)∧Below bb W w'∧Tch (fun j=>g j=0) W w':=by
 ·obtain ⟨N,hN⟩:∃N,R.length=N:=⟨_,rfl⟩
  have hN1:1≤N:=by
   cases R with
   |nil=>exact absurd rfl h0
   |cons r R=>rw [←hN];simp
  have get:∀i,i<N→∃r,R[i]? =some r:=fun i hi=>⟨_,List.getElem?_eq_getElem (by omega)⟩
  let V:Nat→B.Lst:=fun i=>(R[i]?.map (·.1)).getD ⟨none,0,0⟩
  let LL:Nat→List SpV:=fun i=>(R[i]?.map (·.2)).getD []
  have hV:∀i r,R[i]? =some r→V i=r.1:=fun i r hr=>by show (R[i]?.map (·.1)).getD _=_;rw [hr];rfl
  have hLL:∀i r,R[i]? =some r→LL i=r.2:=fun i r hr=>by show (R[i]?.map (·.2)).getD _=_;rw [hr];rfl
  have hrows:(R.map fun r=>r.1.v)=(List.range N).map fun i=>(V i).v:=by
   refine List.ext_getElem? fun i=> ?_
   rw [List.getElem?_map,List.getElem?_map]
   by_cases hi:i<N
   ·obtain ⟨r,hr⟩:=get i hi
    rw [hr,List.getElem?_range hi,Option.map_some,Option.map_some,hV i r hr]
   ·rw [List.getElem?_eq_none (by omega),List.getElem?_eq_none (by simp;omega)]
    rfl
  have bk:=tb.bk
  rw [hrows] at bk
  refine (B.bookS_any q bb bb N all V LL W hN1 (by omega) (fun i hi=> ?_) (fun i hi=> ?_) (fun i hi=> ?_) bk tb.bq (Nat.le_refl _) (fun i hi=> ?_) (fun i j hi hj b h1 h2=> ?_)).mono ?_
  ·obtain ⟨r,hr⟩:=get i hi
   rw [hV i r hr,(tb.own r (List.mem_of_getElem? hr)).2.1]
   exact (tb.own r (List.mem_of_getElem? hr)).2.2.1
  ·obtain ⟨r,hr⟩:=get i hi
   rw [hV i r hr,hLL i r hr]
   exact (tb.own r (List.mem_of_getElem? hr)).2.1.symm
  ·obtain ⟨r,hr⟩:=get i hi
   rw [hLL i r hr]
   exact (tb.own r (List.mem_of_getElem? hr)).2.2.2
  ·obtain ⟨r,hr⟩:=get i hi
   have o:=(tb.own r (List.mem_of_getElem? hr))
   rw [hV i r hr,hLL i r hr,o.2.1]
   exact o.1
  ·obtain ⟨r,hr⟩:=get i hi
   obtain ⟨r',hr'⟩:=get j hj
   rw [hV i r hr] at h1
   rw [hV j r' hr'] at h2
   exact tb.sep i j r r' b hr hr' h1 h2
  ·rintro e w' ⟨he,bl,fr⟩
   refine ⟨he,bl,⟨bl.os,bl.tape,bl.output,bl.size,fun j hj hn=>fr j hj (fun e=>hn (by rw [e];exact tb.gq)) (fun i hi e=>hn ?_)⟩⟩
   obtain ⟨r,hr⟩:=get i hi
   rw [hV i r hr] at e
   exact tb.gl r (List.mem_of_getElem? hr) j e
theorem exec_buildS0 {P:Program} {w w2:World} {a:Act} {o:Oper} {t n:Nat} {v:Value} (ho:o.op= .buildSlice t n #[]) (hl:(Instr.buildSlice t n #[]).run P w= .ok v w2):(execOp a.eval o).run P w= .ok (.value v) w2:=by
 unfold execOp;simp only [ho,List.map_toArray,List.map_nil,Sem.run_bind,hl,Result.andThen_ok,Sem.run_pure]
def own1_ops:Array Oper:=(⟨_,rfl⟩:{o // some o=rgB Tryz.f3 1}).1
theorem own1 {n k:Int} {lv:Value} (Fin:Nat→Nat→World→Prop) (a:Act) (w:World) (Q:Exit→Act→World→Prop) (zz:a.tmps.size=54)
 (t0:a.tmps.getD 0 undef= .int .i64 n)
 (t1:a.tmps.getD 1 undef=lv)
 (CS:Calls Tryz.prog 5 #[.int .i64 n] w fun e w1=>e= .returned (.int .i64 k)∧Calls Tryz.prog 4 #[.int .i64 k,lv] w1 fun e w2=> ∃sb mb,e= .returned (.tuple #[.pointer (some ⟨sb,0,none⟩), .pointer (some ⟨mb,0,none⟩), .bool true])∧Fin sb mb w2)
 (h:∀(sb mb:Nat) a' w',Fin sb mb w'→a'=((((((((((a.put (some 13) (.int .i64 n)).put (some 14) (.int .i64 k)).put (some 15) (lv)).put (some 16) (.tuple #[.pointer (some ⟨sb,0,none⟩), .pointer (some ⟨mb,0,none⟩), .bool true])).put (some 12) (.tuple #[.pointer (some ⟨sb,0,none⟩), .pointer (some ⟨mb,0,none⟩), .bool true])).put (some 17) (.pointer (some ⟨sb,0,none⟩))).put (some 18) (.pointer (some ⟨mb,0,none⟩))).put (some 19) (.bool true)).put (some 5) (.pointer (some ⟨sb,0,none⟩))).put (some 6) (.pointer (some ⟨mb,0,none⟩))).put (some 7) (.bool true)→Q .normal a' w') :
 (Code.region 1 own1_ops false).wp Tryz.prog Q a w:=by
 refine z0 rfl ?_
 refine zv rfl (xmv rfl (zi t0 rfl)) ?_
 refine zc rfl (exec_c1 rfl (zg zz rfl)) (CS) (fun e x1 hx=> ?_)
 obtain ⟨rfl,CL⟩:=hx
 refine ⟨_,rfl, ?_⟩
 refine zv rfl (xmv rfl (zi t1 rfl)) ?_
 refine zc rfl (exec_c2 rfl (zg zz rfl) (zg zz rfl)) (CL) (fun e x3 hx=> ?_)
 obtain ⟨sb,mb,rfl,HF⟩:=hx
 replace h:=h sb mb
 refine ⟨_,rfl, ?_⟩
 refine zv rfl (xmv rfl (zg zz rfl)) ?_
 iterate 3 refine zv rfl (exec_extract rfl (zg zz rfl) rfl) ?_
 iterate 3 refine zv rfl (xas rfl (zg zz rfl)) ?_
 exact ze rfl (h _ _ (HF) rfl)
def own4_ops:Array Oper:=(⟨_,rfl⟩:{o // some o=rgB Tryz.f3 4}).1
theorem own4 {qb:Nat} {w1:World} (a:Act) (w:World) (Q:Exit→Act→World→Prop) (zz:a.tmps.size=54)
 (EA:(Instr.alloc 47 true (.tuple #[])).run Tryz.prog w= .ok (.pointer (some ⟨qb,0,none⟩)) w1)
 (h:∀a' w',w'=w1→a'=a.put (some 8) (.pointer (some ⟨qb,0,none⟩))→Q .normal a' w') :
 (Code.region 4 own4_ops false).wp Tryz.prog Q a w:=by
 refine z0 rfl ?_
 refine zv (v:= .pointer (some ⟨qb,0,none⟩)) rfl (exec_alloc rfl EA) ?_
 exact ze rfl (h _ _ (rfl) rfl)
def own5_ops:Array Oper:=(⟨_,rfl⟩:{o // some o=rgB Tryz.f3 5}).1
theorem own5 {sb mb:Nat} (Fin:Value→World→Prop) (a:Act) (w:World) (Q:Exit→Act→World→Prop) (zz:a.tmps.size=54)
 (t5:a.tmps.getD 5 undef= .pointer (some ⟨sb,0,none⟩))
 (t6:a.tmps.getD 6 undef= .pointer (some ⟨mb,0,none⟩))
 (CP:Calls Tryz.prog 6 #[.pointer (some ⟨mb,0,none⟩), .pointer (some ⟨sb,0,none⟩)] w fun e w1=> ∃v,e= .returned v∧Fin v w1)
 (h:∀(v:Value) a' w',Fin v w'→a'=(((a.put (some 22) (.pointer (some ⟨mb,0,none⟩))).put (some 23) (.pointer (some ⟨sb,0,none⟩))).put (some 24) (v)).put (some 9) (v)→Q .normal a' w') :
 (Code.region 5 own5_ops false).wp Tryz.prog Q a w:=by
 refine z0 rfl ?_
 refine zv rfl (xmv rfl (zi t6 rfl)) ?_
 refine zv rfl (xmv rfl (zi t5 rfl)) ?_
 refine zc rfl (exec_c2 rfl (zg zz rfl) (zg zz rfl)) (CP) (fun e x2 hx=> ?_)
 obtain ⟨v,rfl,HF⟩:=hx
 replace h:=h v
 refine ⟨_,rfl, ?_⟩
 refine zv rfl (xas rfl (zg zz rfl)) ?_
 exact ze rfl (h _ _ (HF) rfl)
def own6_ops:Array Oper:=(⟨_,rfl⟩:{o // some o=rgB Tryz.f3 6}).1
theorem own6 {v sv u:Value} {w1 w2:World} (a:Act) (w:World) (Q:Exit→Act→World→Prop) (zz:a.tmps.size=54)
 (t9:a.tmps.getD 9 undef=v)
 (EB:(Instr.buildSlice 48 0 #[]).run Tryz.prog w= .ok sv w1) (EA:(Builtin.append_ #[48,48] 48 #[sv,v]).run Tryz.prog w1= .ok u w2)
 (h:∀a' w',w'=w2→a'=(((a.put (some 25) (sv)).put (some 26) (v)).put (some 27) (u)).put (some 10) (u)→Q .normal a' w') :
 (Code.region 6 own6_ops false).wp Tryz.prog Q a w:=by
 refine z0 rfl ?_
 refine zv (v:=sv) rfl (exec_buildS0 rfl EB) ?_
 refine zv rfl (xmv rfl (zi t9 rfl)) ?_
 refine zv (v:=u) rfl (exec_append rfl (zg zz rfl) (zg zz rfl) EA) ?_
 refine zv rfl (xas rfl (zg zz rfl)) ?_
 exact ze rfl (h _ _ (rfl) rfl)
def own7_ops:Array Oper:=(⟨_,rfl⟩:{o // some o=rgB Tryz.f3 7}).1
theorem own7 {qb:Nat} {v:Value} (Fin:World→Prop) (a:Act) (w:World) (Q:Exit→Act→World→Prop) (zz:a.tmps.size=54)
 (t8:a.tmps.getD 8 undef= .pointer (some ⟨qb,0,none⟩))
 (t9:a.tmps.getD 9 undef=v)
 (CT:Calls Tryz.prog 7 #[.pointer (some ⟨qb,0,none⟩),v] w fun e w1=>e= .returned (.tuple #[])∧Fin w1)
 (h:∀a' w',Fin w'→a'=(a.put (some 28) (v)).put (some 29) (.tuple #[])→Q .normal a' w') :
 (Code.region 7 own7_ops false).wp Tryz.prog Q a w:=by
 refine z0 rfl ?_
 refine zv rfl (xmv rfl (zi t9 rfl)) ?_
 refine zc rfl (exec_c2 rfl (zi t8 rfl) (zg zz rfl)) (CT) (fun e x1 hx=> ?_)
 obtain ⟨rfl,HF⟩:=hx
 refine ⟨_,rfl, ?_⟩
 exact ze rfl (h _ _ (HF) rfl)
def own8_ops:Array Oper:=(⟨_,rfl⟩:{o // some o=rgB Tryz.f3 8}).1
theorem own8 {sb mb qb:Nat} (Fin:World→Prop) (a:Act) (w:World) (Q:Exit→Act→World→Prop) (zz:a.tmps.size=54)
 (t5:a.tmps.getD 5 undef= .pointer (some ⟨sb,0,none⟩))
 (t6:a.tmps.getD 6 undef= .pointer (some ⟨mb,0,none⟩))
 (t8:a.tmps.getD 8 undef= .pointer (some ⟨qb,0,none⟩))
 (CP:Calls Tryz.prog 6 #[.pointer (some ⟨mb,0,none⟩), .pointer (some ⟨sb,0,none⟩)] w fun e w1=> ∃v,e= .returned v∧Calls Tryz.prog 7 #[.pointer (some ⟨qb,0,none⟩),v] w1 fun e w2=>e= .returned (.tuple #[])∧Fin w2)
 (h:∀(v:Value) a' w',Fin w'→a'=(((a.put (some 30) (.pointer (some ⟨mb,0,none⟩))).put (some 31) (.pointer (some ⟨sb,0,none⟩))).put (some 32) (v)).put (some 33) (.tuple #[])→Q .normal a' w') :
 (Code.region 8 own8_ops false).wp Tryz.prog Q a w:=by
 refine z0 rfl ?_
 refine zv rfl (xmv rfl (zi t6 rfl)) ?_
 refine zv rfl (xmv rfl (zi t5 rfl)) ?_
 refine zc rfl (exec_c2 rfl (zg zz rfl) (zg zz rfl)) (CP) (fun e x2 hx=> ?_)
 obtain ⟨v,rfl,CT⟩:=hx
 replace h:=h v
 refine ⟨_,rfl, ?_⟩
 refine zc rfl (exec_c2 rfl (zi t8 rfl) (zg zz rfl)) (CT) (fun e x3 hx=> ?_)
 obtain ⟨rfl,HF⟩:=hx
 refine ⟨_,rfl, ?_⟩
 exact ze rfl (h _ _ (HF) rfl)
def own10_ops:Array Oper:=(⟨_,rfl⟩:{o // some o=rgB Tryz.f3 10}).1
theorem own10 {e:Nat} {z k:Int} {r:Bool} (Fin:World→Prop) (a:Act) (w:World) (Q:Exit→Act→World→Prop) (zz:a.tmps.size=54)
 (t0:a.tmps.getD 0 undef= .int .i64 z)
 (t11:a.tmps.getD 11 undef= .int .i64 (e:Int))
 (hr:decide ((e:Int)≤k)=r) (CS:Calls Tryz.prog 5 #[.int .i64 z] w fun e w1=>e= .returned (.int .i64 k)∧Fin w1)
 (h:∀a' w',Fin w'→a'=(((a.put (some 34) (.int .i64 (e:Int))).put (some 35) (.int .i64 z)).put (some 36) (.int .i64 k)).put (some 37) (.bool r)→Q .normal a' w') :
 (Code.region 10 own10_ops false).wp Tryz.prog Q a w:=by
 refine z0 rfl ?_
 refine zv rfl (xmv rfl (zi t11 rfl)) ?_
 refine zv rfl (xmv rfl (zi t0 rfl)) ?_
 refine zc rfl (exec_c1 rfl (zg zz rfl)) (CS) (fun e x2 hx=> ?_)
 obtain ⟨rfl,HF⟩:=hx
 refine ⟨_,rfl, ?_⟩
 refine zv (v:= .bool r) rfl (ex_leq rfl (zg zz rfl) (zg zz rfl) hr) ?_
 exact ze rfl (h _ _ (HF) rfl)
def own12_ops:Array Oper:=(⟨_,rfl⟩:{o // some o=rgB Tryz.f3 12}).1
theorem own12 {sb mb qb e:Nat} (Fin:World→Prop) (a:Act) (w:World) (Q:Exit→Act→World→Prop) (zz:a.tmps.size=54)
 (t5:a.tmps.getD 5 undef= .pointer (some ⟨sb,0,none⟩))
 (t6:a.tmps.getD 6 undef= .pointer (some ⟨mb,0,none⟩))
 (t8:a.tmps.getD 8 undef= .pointer (some ⟨qb,0,none⟩))
 (t11:a.tmps.getD 11 undef= .int .i64 (e:Int))
 (CO:Calls Tryz.prog 8 #[.pointer (some ⟨mb,0,none⟩), .pointer (some ⟨sb,0,none⟩),(idN (e:Int)).v] w fun e w1=> ∃v,e= .returned v∧Calls Tryz.prog 7 #[.pointer (some ⟨qb,0,none⟩),v] w1 fun e w2=>e= .returned (.tuple #[])∧Fin w2)
 (h:∀(v:Value) a' w',Fin w'→a'=(((((a.put (some 40) (.pointer (some ⟨mb,0,none⟩))).put (some 41) (.pointer (some ⟨sb,0,none⟩))).put (some 42) (.int .i64 (e:Int))).put (some 43) ((idN (e:Int)).v)).put (some 44) (v)).put (some 45) (.tuple #[])→Q .normal a' w') :
 (Code.region 12 own12_ops false).wp Tryz.prog Q a w:=by
 refine z0 rfl ?_
 refine zv rfl (xmv rfl (zi t6 rfl)) ?_
 refine zv rfl (xmv rfl (zi t5 rfl)) ?_
 refine zv rfl (xmv rfl (zi t11 rfl)) ?_
 refine zv rfl (exec_build1 rfl (zg zz rfl) (build_idN _ _)) ?_
 refine zc rfl (exec_c3 rfl (zg zz rfl) (zg zz rfl) (zg zz rfl)) (CO) (fun e x4 hx=> ?_)
 obtain ⟨v,rfl,CT⟩:=hx
 replace h:=h v
 refine ⟨_,rfl, ?_⟩
 refine zc rfl (exec_c2 rfl (zi t8 rfl) (zg zz rfl)) (CT) (fun e x5 hx=> ?_)
 obtain ⟨rfl,HF⟩:=hx
 refine ⟨_,rfl, ?_⟩
 exact ze rfl (h _ _ (HF) rfl)
def own13_ops:Array Oper:=(⟨_,rfl⟩:{o // some o=rgB Tryz.f3 13}).1
theorem own13 {sb mb qb:Nat} {u:Value} (Fin:World→Prop) (a:Act) (w:World) (Q:Exit→Act→World→Prop) (zz:a.tmps.size=54)
 (t5:a.tmps.getD 5 undef= .pointer (some ⟨sb,0,none⟩))
 (t6:a.tmps.getD 6 undef= .pointer (some ⟨mb,0,none⟩))
 (t8:a.tmps.getD 8 undef= .pointer (some ⟨qb,0,none⟩))
 (t10:a.tmps.getD 10 undef=u)
 (CA:Calls Tryz.prog 9 #[.pointer (some ⟨qb,0,none⟩)] w fun e w1=>e= .returned (.bool true)∧Calls Tryz.prog 6 #[.pointer (some ⟨mb,0,none⟩), .pointer (some ⟨sb,0,none⟩)] w1 fun e w2=> ∃v,e= .returned v∧Calls Tryz.prog 10 #[v,u] w2 fun e w3=>e= .returned (.bool true)∧Fin w3)
 (h:∀(v:Value) a' w',Fin w'→a'=((((((((a.put (some 46) (.bool true)).put (some 47) (.bool true)).put (some 48) (.pointer (some ⟨mb,0,none⟩))).put (some 49) (.pointer (some ⟨sb,0,none⟩))).put (some 50) (v)).put (some 51) (u)).put (some 52) (.bool true)).put (some 53) (.bool true)).put (some 4) (.bool true)→Q .normal a' w') :
 (Code.region 13 own13_ops false).wp Tryz.prog Q a w:=by
 refine z0 rfl ?_
 refine zc rfl (exec_c1 rfl (zi t8 rfl)) (CA) (fun e x0 hx=> ?_)
 obtain ⟨rfl,CP⟩:=hx
 refine ⟨_,rfl, ?_⟩
 refine zv rfl (xmv rfl (zg zz rfl)) ?_
 refine zv (zw zz rfl rfl rfl (zg zz rfl)) (xmv rfl (zi t6 rfl)) ?_
 refine zv (zw zz rfl rfl rfl (zg zz rfl)) (xmv rfl (zi t5 rfl)) ?_
 refine zc (zw zz rfl rfl rfl (zg zz rfl)) (exec_c2 rfl (zg zz rfl) (zg zz rfl)) (CP) (fun e x4 hx=> ?_)
 obtain ⟨v,rfl,CE⟩:=hx
 replace h:=h v
 refine ⟨_,rfl, ?_⟩
 refine zv (zw zz rfl rfl rfl (zg zz rfl)) (xmv rfl (zi t10 rfl)) ?_
 refine zc (zw zz rfl rfl rfl (zg zz rfl)) (exec_c2 rfl (zg zz rfl) (zg zz rfl)) (CE) (fun e x6 hx=> ?_)
 obtain ⟨rfl,HF⟩:=hx
 refine ⟨_,rfl, ?_⟩
 refine zv rfl (exec_pickT rfl (zg zz rfl) (zg zz rfl)) ?_
 refine zv rfl (xas rfl (zg zz rfl)) ?_
 exact ze rfl (h _ _ (HF) rfl)
end Go.Proofs.YtifendlpeebofabGreatDoor
namespace Go.Proofs.YtifendlpeebofabGreatDoor
open Go.RowKit Go.Shelf Sq
theorem cov_sub {E:List Elt} {r:Int}:∀(l acc:List MkV) (x:MkV),x∈l.foldl (covStep E r) acc→x∈acc∨x∈l
 |[],acc,x,h=> .inl h
 |y::l,acc,x,h=>by
  rw [List.foldl_cons] at h
  rcases cov_sub l _ x h with h|h
  ·unfold covStep at h
   split at h
   ·exact .inl h
   ·split at h
    ·rcases List.mem_append.1 h with h|h
     ·exact .inl h
     ·exact .inr (by simp at h;rw [h];exact List.mem_cons_self ..)
    ·exact .inl h
  ·exact .inr (List.mem_cons_of_mem _ h)
structure SpO (E:List Elt) (L:List MkV) (v:Value) (b:Nat) (S:List SpV) (W:World):Prop where
 own:RSp.Own W b v S
 is:SpansIs (hE E L) S
 ok:∀p∈S,p.ok
 len:S.length≤1700000000000
theorem SpO.w {E:List Elt} {L:List MkV} {v:Value} {b:Nat} {S:List SpV} {W:World} (h:SpO E L v b S W):SpW E L v b S W:=⟨h.own.lo,h.is,h.ok,Nat.le_trans h.len (by decide)⟩
section
variable {w W:World} {sb mb:Nat} {E:List Elt} {L:List MkV}
theorem Gr.spansO (h:Gr w sb mb E L W) (rt:∀x∈L,x.v.right=true) (hl:L.length≤800000000000) (hT:K.V.Tabs W):Calls Tryz.prog 6 #[.pointer (some ⟨mb,0,none⟩), .pointer (some ⟨sb,0,none⟩)] W fun e w'=> ∃v,e= .returned v∧(∃S,SpO E L v W.heap.size S w')∧Below W.heap.size W w':=by
 obtain ⟨⟨s,m,rfl,rfl,hs,hm,rfl,c1,c2,d⟩,b'⟩:=h
 refine (Spans_any hs hm rt hT).mono ?_
 rintro e w' ⟨v,rfl,S,own,is,ok,len,b⟩
 exact ⟨v,rfl,⟨S,own,is,fun p hp=>(ok p hp).1,by omega⟩,b⟩
theorem Gr.overO (h:Gr w sb mb E L W) (hl:L.length≤800000000000) (hE:E.length≤90) {k:IdK} (hk:k.ok):Calls Tryz.prog 8 #[.pointer (some ⟨mb,0,none⟩), .pointer (some ⟨sb,0,none⟩),k.v] W fun e w'=> ∃v,e= .returned v∧(∃O,RSp.Own w' W.heap.size v O∧(∀y∈O,y.ok)∧O.length≤1700000000000)∧Below W.heap.size W w':=by
 obtain ⟨⟨s,m,rfl,rfl,hs,hm,rfl,c1,c2,d⟩,b'⟩:=h
 refine (over_any hs hm hk).mono ?_
 rintro e w' ⟨v,O,rfl,own,hO,b⟩
 refine ⟨v,rfl,⟨O,own, ?_, ?_⟩,b⟩
 ·split at hO
  ·intro y hy
   have hy':=hO.1.mem_iff.1 hy
   have f1:=idx_bd E (aheadE E false k)
   have f2:=idx_bd E (aheadE E false k+1)
   refine spL_ok ⟨by omega,by omega⟩ ⟨by omega,by omega⟩ (fun x hx=> ?_) y hy'
   rcases cov_sub m.L.reverse [] x hx with q|q
   ·cases q
   ·exact (hm.ok x (List.mem_reverse.1 q)).1
  ·rw [hO];intro y hy;cases hy
 ·split at hO
  ·rw [hO.1.length_eq]
   have h1:=spL_len (idxE E (aheadE E false k)) (idxE E (aheadE E false k+1)) (covL E m.L (aheadE E false k))
   have h2:=covL_len E m.L (aheadE E false k)
   unfold ovL
   omega
  ·rw [hO];show (0:Nat)≤_;omega
end
theorem alloc_book (w:World):(Instr.alloc 47 true (.tuple #[])).run Tryz.prog w= .ok (.pointer (some ⟨w.heap.size,0,none⟩)) (w.alloc (.cells (B.bkI (.slice none 0 0)) 47)):=by
 kernel_rfl
theorem bs_none (w:World):(Instr.buildSlice 48 0 #[]).run Tryz.prog w= .ok (.slice (some ⟨w.heap.size,0,none⟩) 0 0) (w.alloc (.cells #[] 84)):=by
 kernel_rfl
theorem own_none (w:World):RSp.Own (w.alloc (.cells #[] 84)) w.heap.size (.slice (some ⟨w.heap.size,0,none⟩) 0 0) [] :=
 ⟨rfl,Or.inr ⟨w.heap.size,0, #[],rfl,Nat.le_refl _,heap_alloc_new _ _,Nat.le_refl _,Nat.zero_le _,rfl,rfl⟩⟩
def owG (d:Nat) (kv:Value) (j:Nat):Nat:=if j<d then 1 else if kv.ownBlock=some j then 1 else 0
structure OwS (w2:World) (E:List Elt) (L:List MkV) (S:List SpV) (kb:Nat) (kv:Value) (n:Nat) (W:World):Prop where
 b:Below w2.heap.size w2 W
 k:RSp.Own W kb kv S
 kd:w2.heap.size<kb
 tb:∃all R,TB w2.heap.size w2.heap.size (owG w2.heap.size kv) W all R∧R.length=n∧(kv.ownBlock=none∨True)
theorem OwS.take {w2 W W':World} {E:List Elt} {L:List MkV} {S:List SpV} {kb n:Nat} {kv v:Value} (h:OwS w2 E L S kb kv n W) (hn:n≤1000) (b:Below W.heap.size W W') {O:List SpV} (o:RSp.Own W' W.heap.size v O) (ok:∀y∈O,y.ok) (len:O.length≤1700000000000) :
 Calls Tryz.prog 7 #[.pointer (some ⟨w2.heap.size,0,none⟩),v] W' fun e w'=>e= .returned (.tuple #[])∧OwS w2 E L S kb kv (n+1) w':=by
 obtain ⟨all,R,t,e,_⟩:=h.tb
 have z:=h.b.size
 have lk:∀j,kv.ownBlock=some j→j<W.heap.size:=fun j hj=>h.k.lt hj
 have gz:∀j,W.heap.size≤j→owG w2.heap.size kv j=0:=fun j hj=>by
  unfold owG
  rw [if_neg (by omega),if_neg (fun q=>by have:=lk j q;omega)]
 refine (t.take z (fun j hj=>gz j (Nat.le_trans b.size hj)) (by omega) (fun j hj=>gz j (o.cells hj).1) b o ok len).mono ?_
 rintro e w' ⟨rfl,all',R',t',er,bl,tc⟩
 refine ⟨rfl,h.b.trans ((b.mono z).trans bl),(h.k.below b).keep (fun j hj=>tc.block j (Nat.lt_of_lt_of_le (lk j hj) b.size) (fun q=> ?_)),h.kd,all',R',t',by omega, .inr trivial⟩
 unfold owG at q
 split at q
 ·cases q
 ·first|cases q|(rw [if_pos hj] at q;cases q)
theorem OwS.alone {w2 W:World} {E:List Elt} {L:List MkV} {S:List SpV} {kb n:Nat} {kv:Value} (h:OwS w2 E L S kb kv n W) (hn:n≤1000) (h0:0<n) :
 Calls Tryz.prog 9 #[.pointer (some ⟨w2.heap.size,0,none⟩)] W fun e w'=>e= .returned (.bool true)∧Below w2.heap.size w2 w'∧RSp.Own w' kb kv S:=by
 obtain ⟨all,R,t,e,_⟩:=h.tb
 refine (t.alone h.b.size (by omega) (fun q=>by rw [q] at e;simp at e;omega)).mono ?_
 rintro e w' ⟨rfl,bl,tc⟩
 refine ⟨rfl,h.b.trans bl,h.k.keep (fun j hj=>tc.block j (h.k.lt hj) (fun q=> ?_))⟩
 unfold owG at q
 split at q
 ·cases q
 ·first|cases q|(rw [if_pos hj] at q;cases q)
theorem OwS.start {w2 W3 W5:World} {E:List Elt} {L:List MkV} {S:List SpV} {v kv:Value} (hv:SpO E L v (w2.alloc (.cells (B.bkI (.slice none 0 0)) 47)).heap.size S W3) (b3:Below (w2.alloc (.cells (B.bkI (.slice none 0 0)) 47)).heap.size (w2.alloc (.cells (B.bkI (.slice none 0 0)) 47)) W3) (b5:Below W3.heap.size W3 W5) (hk:RSp.Own W5 W3.heap.size kv S) :
 Calls Tryz.prog 7 #[.pointer (some ⟨w2.heap.size,0,none⟩),v] W5 fun e w'=>e= .returned (.tuple #[])∧OwS w2 E L S W3.heap.size kv 1 w':=by
 have n1:(w2.alloc (.cells (B.bkI (.slice none 0 0)) 47)).heap[w2.heap.size]? =some (.cells (B.bkI (.slice none 0 0)) 47 (0,0)):=heap_alloc_new _ _
 have b1:Below w2.heap.size w2 (w2.alloc (.cells (B.bkI (.slice none 0 0)) 47)):=(Below.refl _ _).alloc (Nat.le_refl _) _
 have z1:(w2.alloc (.cells (B.bkI (.slice none 0 0)) 47)).heap.size=w2.heap.size+1:=by simp
 generalize w2.alloc (.cells (B.bkI (.slice none 0 0)) 47)=w1 at *
 have z3:=b3.size
 have z5:=b5.size
 have kl:∀j,kv.ownBlock=some j→W3.heap.size≤j∧j<W5.heap.size:=fun j hj=>⟨(hk.cells hj).1,hk.lt hj⟩
 have vl:∀j,v.ownBlock=some j→w1.heap.size≤j∧j<W3.heap.size:=fun j hj=>⟨(hv.own.cells hj).1,hv.own.lt hj⟩
 have t:TB w2.heap.size w2.heap.size (owG w2.heap.size kv) w1 (.slice none 0 0) []:=by
  refine ⟨⟨n1,⟨rfl,Or.inl ⟨rfl,rfl⟩⟩,by simp [Value.ownBlock]⟩,Nat.le_refl _,fun r hr=>(by cases hr),fun i j r r' b h1=>(by simp at h1), ?_,fun b hb=>(by simp [Value.ownBlock] at hb),fun r hr=>(by cases hr),fun _=>rfl⟩
  unfold owG
  rw [if_neg (by omega),if_neg (fun q=>by have:=(kl _ q).1;omega)]
 have b35:Below w1.heap.size w1 W5:=b3.trans (b5.mono z3)
 refine (t.take (by omega) (fun j hj=> ?_) (by show (0:Nat)≤_;omega) (fun j hj=> ?_) b35 (hv.own.below b5) hv.ok hv.len).mono ?_
 ·unfold owG
  rw [if_neg (by omega),if_neg (fun q=>by have:=(kl _ q).2;omega)]
 ·unfold owG
  have:=vl j hj
  rw [if_neg (by omega),if_neg (fun q=>by have:=(kl _ q).1;omega)]
 ·rintro e w' ⟨rfl,all',R',t',er,bl,tc⟩
  refine ⟨rfl,b1.trans ((b35.mono (by omega)).trans bl),hk.keep (fun j hj=>tc.block j (kl j hj).2 (fun q=> ?_)),by omega,all',R',t',by rw [er];rfl, .inr trivial⟩
  unfold owG at q
  split at q
  ·cases q
  ·first|cases q|(rw [if_pos hj] at q;cases q)
attribute [local go_sem] Oper.semAt_some
theorem szN (n:Int):∃s:Nat,szP n=s∧s≤12:=by
 have:=szP_bd n
 exact ⟨(szP n).toNat,by omega,by omega⟩
set_option maxHeartbeats 8000000 in
theorem mown_any (n:Int) (w:World) (hT:K.V.Tabs w) {la:Option Addr} {lc:Nat} {O:List OpM} (hat:RO.At w la O) (hok:∀x∈O,x.ok) (hO:O.length≤800000000000) :
 Calls Tryz.prog 3 #[.int .i64 n, .slice la O.length lc] w fun e w'=>e= .returned (.bool true)∧Below w.heap.size w w':=by
 obtain ⟨k,hk,hk12⟩:=szN n
 have CL:=hidMk ((size_any n w).mono (R':=fun e W=>e= .returned (.int .i64 (k:Int))∧Calls Tryz.prog 4 #[.int .i64 (k:Int), .slice la O.length lc] W fun e w2=> ∃sb mb,e= .returned (.tuple #[.pointer (some ⟨sb,0,none⟩), .pointer (some ⟨mb,0,none⟩), .bool true])∧Gr w sb mb (seg 0 k) (addL [] O) w2) (fun e W q=>by
  obtain ⟨rfl,rfl⟩:=q
  exact ⟨by rw [hk],laidO_any k (by omega) _ hT hat hok hO⟩))
 have HT:=hidMk (fun (W:World) (b:Below w.heap.size w W)=>hT.below b)
 have SZ:Hid (∀W,Calls Tryz.prog 5 #[.int .i64 n] W fun e w'=>e= .returned (.int .i64 (k:Int))∧w'=W):=fun W=>by
  have:=size_any n W
  rw [hk] at this
  exact this
 obtain ⟨L,hL⟩:∃L,addL [] O=L:=⟨_,rfl⟩
 have RT:=hidMk (show ∀y∈L,y.v.right=true by rw [←hL];exact addL_right O (fun y hy=>by cases hy))
 have LB:=hidMk (show L.length≤800000000000 by rw [←hL];have:=addL_len [] O;have z:([]:List MkV).length=0:=rfl;omega)
 rw [hL] at CL
 clear hT hat hok hO hk hL
 go_enter Tryz.func3,Tryz.ntmps3
 go_upto_region 1 with fail
 refine own1 (n:=n) (k:=(k:Int)) (lv:= .slice la O.length lc) (fun sb mb W=>Gr w sb mb (seg 0 k) L W) _ w _ rfl rfl rfl CL.out ?_
 intro sb mb a' w2 hg ha
 subst ha
 simp only [Act.put,qsA,qsB,qsC]
 clear CL
 have G2:=hidMk hg
 have SPN:Hid (∀W,Below w2.heap.size w2 W→Calls Tryz.prog 6 #[.pointer (some ⟨mb,0,none⟩), .pointer (some ⟨sb,0,none⟩)] W fun e w'=> ∃v,e= .returned v∧(∃S,SpO (seg 0 k) L v W.heap.size S w')∧Below W.heap.size W w'):=fun W b=>(hg.below b).spansO RT.out LB.out (HT.out W (hg.below b).bel)
 have OVR:Hid (∀W,Below w2.heap.size w2 W→∀e:Nat,e≤100→Calls Tryz.prog 8 #[.pointer (some ⟨mb,0,none⟩), .pointer (some ⟨sb,0,none⟩),(idN (e:Int)).v] W fun en w'=> ∃v,en= .returned v∧(∃Q,RSp.Own w' W.heap.size v Q∧(∀y∈Q,y.ok)∧Q.length≤1700000000000)∧Below W.heap.size W w'):=fun W b e he=>(hg.below b).overO LB.out (by rw [seg_len];omega) (idN_ok (by omega))
 clear hg HT RT LB
 go_upto_region 4 with fail
 refine own4 (qb:=w2.heap.size) (w1:=w2.alloc (.cells (B.bkI (.slice none 0 0)) 47)) _ w2 _ rfl (alloc_book w2) ?_
 intro a' wx hw ha
 subst hw ha
 simp only [Act.put,qsA,qsB,qsC]
 have b1:Below w2.heap.size w2 (w2.alloc (.cells (B.bkI (.slice none 0 0)) 47)):=(Below.refl _ _).alloc (Nat.le_refl _) _
 have C1:=hidMk (SPN.out _ b1)
 have ST:Hid (∀(W3 W5:World) (S:List SpV) (v kv:Value),SpO (seg 0 k) L v (w2.alloc (.cells (B.bkI (.slice none 0 0)) 47)).heap.size S W3→Below (w2.alloc (.cells (B.bkI (.slice none 0 0)) 47)).heap.size (w2.alloc (.cells (B.bkI (.slice none 0 0)) 47)) W3→Below W3.heap.size W3 W5→RSp.Own W5 W3.heap.size kv S→Calls Tryz.prog 7 #[.pointer (some ⟨w2.heap.size,0,none⟩),v] W5 fun e w'=>e= .returned (.tuple #[])∧OwS w2 (seg 0 k) L S W3.heap.size kv 1 w'):=fun W3 W5 S v kv h1 h2 h3 h4=>OwS.start h1 h2 h3 h4
 obtain ⟨w3,hw3⟩:∃w3,w2.alloc (.cells (B.bkI (.slice none 0 0)) 47)=w3:=⟨_,rfl⟩
 rw [hw3] at C1 ST
 rw [hw3]
 clear b1 hw3
 go_upto_region 5 with fail
 refine own5 (sb:=sb) (mb:=mb) (fun v W=>(∃S,SpO (seg 0 k) L v w3.heap.size S W)∧Below w3.heap.size w3 W) _ w3 _ rfl rfl rfl C1.out ?_
 rintro v0 a' w4 ⟨⟨S,hS⟩,b4⟩ ha
 subst ha
 simp only [Act.put,qsA,qsB,qsC]
 clear C1
 obtain ⟨sa,sc,rfl,hat,_⟩:=hS.own.open RSp_is hS.ok
 have bb:Below w4.heap.size w4 (w4.alloc (.cells #[] 84)):=(Below.refl _ _).alloc (Nat.le_refl _) _
 have o0:=own_none w4
 have e0:=bs_none w4
 generalize w4.alloc (.cells #[] 84)=w5 at *
 obtain ⟨kv,w6,e1,o6,g6,q6⟩:=RowT.run_app RSp_is w5 w4.heap.size (.slice (some ⟨w4.heap.size,0,none⟩) 0 0) [] sa S sc o0 (hat.below bb) hS.ok (by unfold maxLen;have:=hS.len;simp;omega) (by have:=hS.len;show _*72≤_;simp;omega) bb.size
 have b6:Below w4.heap.size w4 w6:=bb.grown g6 bb.size (fun j hj=>(o0.cells hj).1)
 have T1:=hidMk (ST.out w4 w6 S _ kv hS b4 b6 o6)
 have HS:=hidMk (And.intro hS.is (And.intro hS.ok hS.len))
 have E0:=hidMk e0
 have E1:=hidMk e1
 obtain ⟨m,hm⟩:∃m,S.length=m:=⟨_,rfl⟩
 rw [hm] at T1 E1
 rw [hm]
 clear hS b4 hat bb o0 e0 e1 o6 g6 q6 b6 ST hm
 go_upto_region 6 with fail
 refine own6 (v:= .slice sa m sc) (sv:= .slice (some ⟨w4.heap.size,0,none⟩) 0 0) (u:=kv) (w1:=w5) (w2:=w6) _ w4 _ rfl rfl E0.out E1.out ?_
 intro a' wx hw ha
 obtain rfl:w6=wx:=hw.symm
 subst ha
 simp only [Act.put,qsA,qsB,qsC]
 clear E0 E1
 obtain ⟨kb,hkb⟩:∃kb,w4.heap.size=kb:=⟨_,rfl⟩
 rw [hkb] at T1
 clear hkb
 obtain ⟨q,hq⟩:∃q,w2.heap.size=q:=⟨_,rfl⟩
 rw [hq] at T1
 rw [hq]
 go_upto_region 7 with fail
 refine own7 (qb:=q) (v:= .slice sa m sc) (fun W=>OwS w2 (seg 0 k) L S kb kv 1 W) _ w6 _ rfl rfl rfl T1.out ?_
 intro a' w7 h7 ha
 subst ha
 simp only [Act.put,qsA,qsB,qsC]
 clear T1
 have C2:=hidMk ((SPN.out w7 h7.b).mono (R':=fun e W=> ∃v,e= .returned v∧Calls Tryz.prog 7 #[.pointer (some ⟨q,0,none⟩),v] W fun e w'=>e= .returned (.tuple #[])∧OwS w2 (seg 0 k) L S kb kv 2 w') (fun e W p=>by
  obtain ⟨v,rfl,⟨S2,h2⟩,b2⟩:=p
  refine ⟨v,rfl, ?_⟩
  rw [←hq]
  exact h7.take (by omega) b2 h2.own h2.ok h2.len))
 clear h7
 go_upto_region 8 with fail
 refine own8 (sb:=sb) (mb:=mb) (qb:=q) (fun W=>OwS w2 (seg 0 k) L S kb kv 2 W) _ w7 _ rfl rfl rfl rfl C2.out ?_
 intro v8 a' w8 h8 ha
 subst ha
 simp only [Act.put,qsA,qsB,qsC]
 clear C2
 have H8:=hidMk h8
 have HQ:=hidMk hq
 clear h8 hq
 go_wp2
 go_loopw [11] (fun v11 wr=> ∃e:Nat,v11= .int .i64 (e:Int)∧1≤e∧e≤k+1∧Hid (OwS w2 (seg 0 k) L S kb kv (e+1) wr)) (fun v11 _=>k+1-(intOf v11).toNat)
 case atStart=>exact ⟨1,rfl,Nat.le_refl _,by omega,H8⟩
 case round =>
  clear H8
  obtain ⟨e,rfl,he1,hle,HE⟩:=hrel
  have CS:=hidMk ((SZ.out wr).mono (R':=fun en w1=>en= .returned (.int .i64 (k:Int))∧OwS w2 (seg 0 k) L S kb kv (e+1) w1) (fun en w1 q=>⟨q.1,by rw [q.2];exact HE.out⟩))
  by_cases he:e≤k
  ·have he':(e:Int)≤(k:Int):=by omega
   go_upto_region 10 with fail
   refine own10 (e:=e) (z:=n) (k:=(k:Int)) (r:=true) (fun W=>OwS w2 (seg 0 k) L S kb kv (e+1) W) _ wr _ rfl rfl rfl (decide_eq_true he') CS.out ?_
   intro a' w9 h9 ha
   subst ha
   simp only [Act.put,qsA,qsB,qsC]
   have CO:=hidMk ((OVR.out w9 h9.b e (by omega)).mono (R':=fun en W=> ∃v,en= .returned v∧Calls Tryz.prog 7 #[.pointer (some ⟨q,0,none⟩),v] W fun e2 w'=>e2= .returned (.tuple #[])∧OwS w2 (seg 0 k) L S kb kv (e+1+1) w') (fun en W p=>by
        obtain ⟨v,rfl,⟨S2,h2,ok2,len2⟩,b2⟩:=p
        refine ⟨v,rfl, ?_⟩
        rw [←HQ.out]
        exact h9.take (by omega) b2 h2 ok2 len2))
   have MS:=hidMk (show k+1-(((e+1:Nat):Int)).toNat<k+1-((e:Nat):Int).toNat by simp only [Int.toNat_natCast];omega)
   clear CS HE h9
   go_upto_region 12 with fail
   refine own12 (sb:=sb) (mb:=mb) (qb:=q) (e:=e) (fun W=>OwS w2 (seg 0 k) L S kb kv (e+1+1) W) _ w9 _ rfl rfl rfl rfl rfl CO.out ?_
   intro v a' w10 h10 ha
   have H10:=hidMk h10
   subst ha
   simp only [Act.put,qsA,qsB,qsC]
   clear CO h10
   go_wp2
   rw [show ((e:Int)+1)=((e+1:Nat):Int) by omega]
   exact ⟨⟨e+1,rfl,by omega,by omega,H10⟩,MS.out⟩
  ·have he':¬((e:Int)≤(k:Int)):=by omega
   go_upto_region 10 with fail
   refine own10 (e:=e) (z:=n) (k:=(k:Int)) (r:=false) (fun W=>OwS w2 (seg 0 k) L S kb kv (e+1) W) _ wr _ rfl rfl rfl (decide_eq_false he') CS.out ?_
   intro a' w9 h9 ha
   subst ha
   simp only [Act.put,qsA,qsB,qsC]
   have CA:=hidMk ((h9.alone (by omega) (by omega)).mono (R':=fun en W=>en= .returned (.bool true)∧Calls Tryz.prog 6 #[.pointer (some ⟨mb,0,none⟩), .pointer (some ⟨sb,0,none⟩)] W fun en w3=> ∃v,en= .returned v∧Calls Tryz.prog 10 #[v,kv] w3 fun en w4=>en= .returned (.bool true)∧Below w.heap.size w w4) (fun en W p=>by
        obtain ⟨rfl,b3,o3⟩:=p
        refine ⟨rfl,(SPN.out W b3).mono ?_⟩
        rintro en w3 ⟨v,rfl,⟨S',hS'⟩,b4⟩
        have K:SpW (seg 0 k) L kv kb S w3:=⟨(o3.below b4).lo,HS.out.1,HS.out.2.1,Nat.le_trans HS.out.2.2 (by decide)⟩
        refine ⟨v,rfl,(same_g hS'.w K (hS'.is.unique HS.out.1)).mono ?_⟩
        rintro en w4 ⟨rfl,b5⟩
        have b34:=b3.trans (b4.mono b3.size)
        have b35:=b34.trans (b5.mono b34.size)
        exact ⟨rfl,G2.out.bel.trans (b35.mono G2.out.bel.size)⟩))
   rw [HQ.out] at CA
   clear CS HE h9
   go_upto_region 13 with fail
   refine own13 (sb:=sb) (mb:=mb) (qb:=q) (u:=kv) (fun W=>Below w.heap.size w W) _ w9 _ rfl rfl rfl rfl rfl CA.out ?_
   intro v a' w10 h10 ha
   have H10:=hidMk h10
   subst ha
   simp only [Act.put,qsA,qsB,qsC]
   clear CA h10
   go_wp2
   go_ret
   exact ⟨rfl,H10.out⟩
end Go.Proofs.YtifendlpeebofabGreatDoor
