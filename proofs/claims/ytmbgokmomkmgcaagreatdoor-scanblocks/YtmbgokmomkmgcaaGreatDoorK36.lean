/- Parts of the proof: what ScanBlocks reaches. No claim of its own. -/
import Derived.Lib.MakeNoZero
import Derived.Deep.DeepCutAuto
import Derived.Deep.RegionHeld3
import Derived.Laws.AppendOwnNone
import Derived.Lib.AppendZeros
import Derived.Lib.SliceRun
import Derived.Laws.StructEq
import Derived.ArgAppend
import Derived.WalkKit
import Derived.WalkSmall
import Derived.ProofKit
import Derived.OpenShut
import Derived.BigQuiet
import Derived.Deep.QuietTactic
import Derived.Deep.WholeRow
import Derived.Deep.MidRow
import Derived.Deep.RegionWith
import Derived.Deep.DeepHandedRow
import Derived.Lib.LaidTab
import Derived.Deep.Matrix
import Derived.OwnWalk
import Derived.Test.YtmbgokmomkmgcaaGreatDoorK00
import Derived.Test.YtmbgokmomkmgcaaGreatDoorK01
import Derived.Test.YtmbgokmomkmgcaaGreatDoorK02
import Derived.Test.YtmbgokmomkmgcaaGreatDoorK03
import Derived.Test.YtmbgokmomkmgcaaGreatDoorK04
import Derived.Test.YtmbgokmomkmgcaaGreatDoorK05
import Derived.Test.YtmbgokmomkmgcaaGreatDoorK06
import Derived.Test.YtmbgokmomkmgcaaGreatDoorK07
import Derived.Test.YtmbgokmomkmgcaaGreatDoorK08
import Derived.Test.YtmbgokmomkmgcaaGreatDoorK09
import Derived.Test.YtmbgokmomkmgcaaGreatDoorK10
import Derived.Test.YtmbgokmomkmgcaaGreatDoorK11
import Derived.Test.YtmbgokmomkmgcaaGreatDoorK12
import Derived.Test.YtmbgokmomkmgcaaGreatDoorK13
import Derived.Test.YtmbgokmomkmgcaaGreatDoorK14
import Derived.Test.YtmbgokmomkmgcaaGreatDoorK15
import Derived.Test.YtmbgokmomkmgcaaGreatDoorK16
import Derived.Test.YtmbgokmomkmgcaaGreatDoorK17
import Derived.Test.YtmbgokmomkmgcaaGreatDoorK18
import Derived.Test.YtmbgokmomkmgcaaGreatDoorK19
import Derived.Test.YtmbgokmomkmgcaaGreatDoorK20
import Derived.Test.YtmbgokmomkmgcaaGreatDoorK21
import Derived.Test.YtmbgokmomkmgcaaGreatDoorK22
import Derived.Test.YtmbgokmomkmgcaaGreatDoorK23
import Derived.Test.YtmbgokmomkmgcaaGreatDoorK24
import Derived.Test.YtmbgokmomkmgcaaGreatDoorK25
import Derived.Test.YtmbgokmomkmgcaaGreatDoorK26
import Derived.Test.YtmbgokmomkmgcaaGreatDoorK27
import Derived.Test.YtmbgokmomkmgcaaGreatDoorK28
import Derived.Test.YtmbgokmomkmgcaaGreatDoorK29
import Derived.Test.YtmbgokmomkmgcaaGreatDoorK30
import Derived.Test.YtmbgokmomkmgcaaGreatDoorK31
import Derived.Test.YtmbgokmomkmgcaaGreatDoorK32
import Derived.Test.YtmbgokmomkmgcaaGreatDoorK33
import Derived.Test.YtmbgokmomkmgcaaGreatDoorK34
import Derived.Test.YtmbgokmomkmgcaaGreatDoorK35
set_option maxHeartbeats 8000000
namespace Go.Proofs.YtmbgokmomkmgcaaGreatDoor.sc
open Go.RowKit Go.Proofs.YtmbgokmomkmgcaaGreatDoor.fa Go.Proofs.YtmbgokmomkmgcaaGreatDoor.he Go.Proofs.YtmbgokmomkmgcaaGreatDoor.pa
set_option maxRecDepth 20000
theorem blocks_yes1 (N P S:Nat) (g3 g4 g5:Int) (ao:Option Addr) (n cap:Nat) (u:Nat→Bool) (z e t:Nat→Int) (va:Nat→Option Addr) (vm vc:Nat→Nat) (bad:Int) (f:Nat→Pgd) (k:Nat) (ls0:Int) (w:World) (hT:Tab w) (hc:Lc (N:Int) (P:Int) (S:Int) g3 g4 g5 n z vm) (hp:Pgl w (.slice ao n cap) n f) (hk:k<N) (z1:ls0<1):Calls Tryz.prog 4 #[.agg (csz (N:Int) (P:Int) (S:Int) g3 g4 g5 (.slice ao n cap) u z e t (fun i=>.slice (va i) (vm i) (vc i)) bad).toArray,.int .i64 (k:Int),.int .i64 ls0] w fun e w'=>e=.returned (.bool true)∧Below w.heap.size w w':=by
 have HT:=hdH (hT)
 have SL:Hid (∀ w0,Calls Tryz.prog 6 #[.agg (csz (N:Int) (P:Int) (S:Int) g3 g4 g5 (.slice ao n cap) u z e t (fun i=>.slice (va i) (vm i) (vc i)) bad).toArray] w0 fun x w'=>x=.returned (.bool true)∧Below w0.heap.size w0 w'):=fun w0=>light_t _ _ _ _ _ _ ao n cap u z e t va vm vc bad hc w0
 have SHP:Hid (na.Shp [(N:Int),(P:Int),(S:Int),g3,g4,g5] N P (S+88)):=⟨rfl,hc.1,rfl,rfl,by show (S:Int)+88=((S+88 :Nat):Int);omega⟩
 have HPG:=hdH (hp)
 have N40:Hid (n≤40):=hc.2.2.2.2.1
 have RT:Hid (ge.Rt [(N:Int),(P:Int),(S:Int),g3,g4,g5]):=hc.1
 have HK:=hdH (hk)
 have lk0:¬(k:Int)<0:=by omega
 have lk1:¬(k:Int)≥(N:Int):=by omega
 have SB:Hid (∀ (w0:World) {g0 g3 g4 g5:Int} {S P bb bo pb po gc:Nat} (F:Nat→List Int),ge.Rt [g0,(P:Int),(S:Int),g3,g4,g5]→Tab w0→4≤P∧P≤32→Pq w0 bb bo k pb po P gc S F→Calls Tryz.prog 14 #[.agg (ints .i64 [g0,(P:Int),(S:Int),g3,g4,g5]),.int .i64 (k:Int),.slice (some ⟨pb,po,none⟩) P gc] w0 fun x w'=>Tlds S P (k:Int) F x w'∧Below w0.heap.size w0 w'):=fun w0 g0 g3 g4 g5 S P bb bo pb po gc F hr hT _ hq=>block_any g0 g3 g4 g5 (k:Int) S P pb po P gc F w0 hr hT (Nat.le_refl _) hq.hA
 have SR:Hid (∀ (w0:World) {g0 g3 g4 g5:Int} {S P bb bo pb po gc:Nat} (F:Nat→List Int),ge.Rt [g0,(P:Int),(S:Int),g3,g4,g5]→4≤P∧P≤32→Pq w0 bb bo k pb po P gc S F→Calls Tryz.prog 15 #[.agg (ints .i64 [g0,(P:Int),(S:Int),g3,g4,g5]),.int .i64 (k:Int),.slice (some ⟨pb,po,none⟩) P gc] w0 fun x w'=>Tlds S P (k:Int) F x w'∧Below w0.heap.size w0 w'):=fun w0 g0 g3 g4 g5 S P bb bo pb po gc F hr hP hq=>rblock_any g0 g3 g4 g5 (k:Int) S P pb po P gc F w0 hP (sec_le hr).2 (Nat.le_refl _) hq.hA
 clear hT hc hp hk
 have t0:=tR
 go_enter Tryz.func4,Tryz.ntmps4
 go_wp2_with (first
  |(refine wpl_op (v:=.bool false) (by rfl) (exec_neqHS (.tmp 113) (.tmp 115) rfl hk hn hc0 hl he9 ht9 rfl rfl _) ?_)
  |(refine wpl_op (v:=.agg (hv hk hn hc0 hl he9 ht9).toArray) (by rfl) (exec_loadN 64 (.tmp 114) rfl _ rfl _ _ (load_cells rowy_head (tg_ord V13.out.1))) ?_)
  |(refine wpl_op (v:=.agg (hv hk hn hc0 hl he9 ht9).toArray) (by rfl) (exec_loadN 64 (.tmp 112) rfl _ rfl _ _ (load_cells rowy_head (tg_ord V12.out.1))) ?_)
  |(refine wpl_op (v:=.pointer (some ⟨bb,bo+k*5,none⟩)) rfl (exec_idxK (.tmp 50) (.tmp 51) rfl bb bo H.N qb k rfl rfl HK.out _) ?_)
  |(have q14:=t14;(with_reducible refine at_store ?_);refine store_lawC _ (tg kn ns er hk hn hc0 hl he9 ht9 (.slice v2 ls.length x2)) w9.heap.size 0 rfl rfl V13.out.2 rowy_rtold.2 (tg_one _ _ _ _ _ _ _ _ _ _ _ _) ?_;intro wb E9 R9 T9 B9;have V13:Hid (Vr wb w9.heap.size (tg kn ns er hk hn hc0 hl he9 ht9 (.slice v2 ls.length x2))):=⟨R9,T9⟩;have BX:=hdH (BX.out.trans B9);have V12:=hdH (V12.out.below BX.out (range_lt V12.out.1 (Nat.succ_pos _)));have R12:=hdH (R12.out.below (by omega) BX.out);have R13:=hdH (R13.out.below (by omega) BX.out);have BB:=hdH (BB.out.trans (BX.out.mono BB.out.size));clear E9 R9 T9 B9 BX t14 c3_0 c9_6 cpg;have c12_0:=V12.out.cell 0 _ rfl;have c12_1:=V12.out.cell 1 _ rfl;have c12_2:=V12.out.cell 2 _ rfl;have c12_9:=V12.out.cell 9 _ rfl;have c13_0:=V13.out.cell 0 _ rfl;have c13_1:=V13.out.cell 1 _ rfl;have c13_2:=V13.out.cell 2 _ rfl;have c13_9:=V13.out.cell 9 _ rfl)
  |(have q13:=t13;(with_reducible refine at_alloc ?_);refine new_lawC _ Z10t zero_rtold ?_;intro wa X9 B9 l9;have V13:=hdH (X9);have BX:=hdH (B9);clear X9 B9 l9 t13;have t14:=tR)
  |(have q12:=t12;go_at_call 15;refine (SR.out w8 _ RT.out HM.out.2 (HP3.out.below BW.out)).mono ?_;rintro e9 w9 ⟨h9,B9⟩;obtain ⟨v2,x2,rfl,r9⟩:=UNI.out _ _ h9;have R13:=hdH (r9);have V12:=hdH (V12.out.below B9 (range_lt V12.out.1 (Nat.succ_pos _)));have R12:=hdH (R12.out.below (by omega) B9);have BB:=hdH (BB.out.trans (B9.mono BB.out.size));clear h9 r9 B9 t12 V3;have t13:=tR)
  |(have q11:=t11;refine load_lawC _ rfl [.int .i64 (H.N:Int),.int .i64 (H.P:Int),.int .i64 (H.S:Int),.int .i64 H.g3,.int .i64 H.g4,.int .i64 H.g5] w.heap.size 0 rfl (csz_geo V3.out) rowy_geo6 ?_;clear t11;have t12:=tR)
  |(have q10:=t10;(with_reducible refine at_store ?_);refine store_lawC _ (tg kn ns er hk hn hc0 hl he9 ht9 (.slice v1 ls.length x1)) w6.heap.size 0 rfl rfl V12.out.2 rowy_told.2 (tg_one _ _ _ _ _ _ _ _ _ _ _ _) ?_;intro w8 E9 R9 T9 B9;have V12:Hid (Vr w8 w6.heap.size (tg kn ns er hk hn hc0 hl he9 ht9 (.slice v1 ls.length x1))):=⟨R9,T9⟩;have BX:=hdH (BX.out.trans B9);have R12:=hdH (R12.out.below (by omega) BX.out);have BW:=hdH (BW.out.trans (BX.out.mono BW.out.size));have V3:=hdH (V3.out.below BX.out (range_lt V3.out.1 (Nat.succ_pos _)));have BB:=hdH (BB.out.trans (BX.out.mono BB.out.size));clear E9 R9 T9 B9 BX t10;have t11:=tR)
  |(have q9:=t9;(with_reducible refine at_alloc ?_);refine new_lawC _ Z10t zero_told ?_;intro w7 X9 B9 l9;have V12:=hdH (X9);have BX:=hdH (B9);clear X9 B9 l9 t9;have t10:=tR)
  |(have q8:=t8;go_at_call 14;refine (SB.out w5 _ RT.out (HT.out.below BB.out) HM.out.2 (HP3.out.below BW.out)).mono ?_;obtain ⟨kn,ns,er,hk,hn,hc0,hl,he9,ht9,ls,i9,l9,U9⟩:=tlds_uni H.S H.P (k:Int) (na.pgs (ast H 0 f n) k);rintro e9 w6 ⟨h9,B9⟩;obtain ⟨v1,x1,rfl,r9⟩:=U9 _ _ h9;have I14:=hdH (i9);have L14:Hid (ls.length≤40):=Nat.le_trans l9 (Nat.le_trans (Nat.sub_le _ _) (Nat.le_trans HM.out.2.2 (by decide)));have UNI:=hdH (U9);have R12:=hdH (r9);have BW:=hdH (BW.out.trans (B9.mono BW.out.size));have V3:=hdH (V3.out.below B9 (range_lt V3.out.1 (Nat.succ_pos _)));have BB:=hdH (BB.out.trans (B9.mono BB.out.size));clear i9 l9 U9 h9 r9 B9 t8;have t9:=tR)
  |(have q7:=t7;refine load_lawC _ rfl [.int .i64 (H.N:Int),.int .i64 (H.P:Int),.int .i64 (H.S:Int),.int .i64 H.g3,.int .i64 H.g4,.int .i64 H.g5] w.heap.size 0 rfl (csz_geo V3.out) rowy_geo6 ?_;clear t7;have t8:=tR)
  |(have q6:=t6;(with_reducible refine at_store ?_);refine store_lawC _ (chl H (some ⟨bb,bo,none⟩,qb,qc,qd,qe) (ast H 0 f n)) w3.heap.size 0 rfl rfl V9.out.2 rowy_chipR.2 (chl_one _ _ _) ?_;intro w5 E9 R9 T9 B9;have V9:Hid (Vr w5 w3.heap.size (chl H (some ⟨bb,bo,none⟩,qb,qc,qd,qe) (ast H 0 f n))):=⟨R9,T9⟩;have BW:=hdH (BX.out.trans B9);have V3:=hdH (V3.out.below BW.out (range_lt V3.out.1 (Nat.succ_pos _)));have BB:=hdH (BB.out.trans (BW.out.mono BB.out.size));have c9_6:=V9.out.cell 6 _ rfl;have cpg:=(HP3.out.below BW.out).1;have c3_0:=V3.out.cell 0 _ rfl;clear E9 R9 T9 B9 BX t6;have t7:=tR)
  |(have q5:=t5;(with_reducible refine at_alloc ?_);refine new_lawC _ Zc zero_chipR ?_;intro w4 X9 B9 l9;have V9:=hdH (X9);have BX:=hdH (B9);clear X9 B9 l9 t5;have t6:=tR)
  |(have q4:=t4;go_at_call 8;refine (array_any N P S g3 g4 g5 ao n cap u z e t (fun i=>.slice (va i) (vm i) (vc i)) bad 0 f w2 SHP.out (HPG.out.below BB.out) N40.out).mono ?_;rintro e9 w3 ⟨H,q,M,U,l,rfl,h1,h2, -, -,B9,⟨rfl,rfl,rfl,rfl,rfl,rfl⟩, -⟩;obtain ⟨bb,bo,pb,po,gc,hq,hp⟩:=pq_of h1 (rc_plain h2) k HK.out;obtain ⟨qa,qb,qc,qd,qe⟩:=q;obtain rfl:qa=some ⟨bb,bo,none⟩:=hq;have HP3:=hdH (hp);clear hp;have HM:Hid (H.N≤64∧4≤H.P∧H.P≤32):=⟨h1.num.2.1,h1.num.2.2.1,h1.num.2.2.2.1⟩;have V3:=hdH (V3.out.below (B9.mono (Nat.le_refl _)) (range_lt V3.out.1 (Nat.succ_pos _)));have BB:=hdH (BB.out.trans (B9.mono BB.out.size));clear h1 h2 B9 t4;have t5:=tR)
  |(have q3:=t3;refine load_lawC _ rfl (csz (N:Int) (P:Int) (S:Int) g3 g4 g5 (.slice ao n cap) u z e t (fun i=>.slice (va i) (vm i) (vc i)) bad) w.heap.size 0 rfl V3.out.1 rowy_scase ?_;clear t3;have t4:=tR)
  |(have q2:=t2;go_at_call 6;refine (SL.out _).mono ?_;rintro e9 w2 ⟨rfl,B9⟩;have V3:=hdH (V3.out.below B9 (range_lt V3.out.1 (Nat.succ_pos _)));have BB:=hdH (BB.out.trans (B9.mono BB.out.size));clear B9 t2;have t3:=tR)
  |(have q1:=t1;refine load_lawC _ rfl (csz (N:Int) (P:Int) (S:Int) g3 g4 g5 (.slice ao n cap) u z e t (fun i=>.slice (va i) (vm i) (vc i)) bad) w.heap.size 0 rfl V3.out.1 rowy_scase ?_;clear t1;have t2:=tR)
  |(have q0:=t0;refine box_lawC _ (csz (N:Int) (P:Int) (S:Int) g3 g4 g5 (.slice ao n cap) u z e t (fun i=>.slice (va i) (vm i) (vc i)) bad) rfl ?_;intro w1 X9 B9 l9;have V3:=hdH (X9);have BB:=hdH (B9);clear X9 B9 l9 t0;have t1:=tR))
 have BB0:=hdH (BB.out)
 clear c12_0 c12_1 c12_2 c12_9 c13_0 c13_1 c13_2 c13_9 BB
 go_loopw [14] (fun i wr=>∃ j:Nat,j≤ls.length∧i=.int .i64 (j:Int)∧Below wb.heap.size wb wr) (fun i _=>ls.length-(intOf i).toNat)
 case atStart=>exact ⟨0,Nat.zero_le _,rfl,Below.refl _ _⟩
 case round=>
 obtain ⟨j,hj,rfl,hB⟩:=hrel
 have BD:=hdH (hB)
 have V12:=hdH (V12.out.below BD.out (range_lt V12.out.1 (Nat.succ_pos _)));have V13:=hdH (V13.out.below BD.out (range_lt V13.out.1 (Nat.succ_pos _)));
 have c12_9:=V12.out.cell 9 _ rfl
 have l40:ls.length≤40:=L14.out
 clear hB
 by_cases hlt:j<ls.length
 ·have lj:(j:Int)<(ls.length:Int):=by omega
  have HJ:Hid (j<ls.length):=hlt
  obtain ⟨b1,o1,a1,g1⟩:=rws_at R12.out j hlt
  obtain ⟨b2,o2,a2,g2⟩:=rws_at R13.out j hlt
  obtain ⟨s1,s2,s3,s4,s5,s6,s7,s8,s9,y1,y2,y3,y4,y5,e14⟩:=I14.out j hlt
  rw [e14] at g1 g2
  have AO1:=hdH (a1)
  have AO2:=hdH (a2)
  have G1:Hid (wr.rangeAt b1 (o1+j*14) (sp14 s1 s2 s3 s4 s5 s6 s7 s8 s9 y1 y2 y3 y4 y5)):=range_heap g1 (BD.out.block b1 (range_lt g1 (Nat.succ_pos _)))
  have G2:Hid (wr.rangeAt b2 (o2+j*14) (sp14 s1 s2 s3 s4 s5 s6 s7 s8 s9 y1 y2 y3 y4 y5)):=range_heap g2 (BD.out.block b2 (range_lt g2 (Nat.succ_pos _)))
  clear a1 a2 g1 g2 e14
  go_wp2
  have BD:Hid (Below wb.heap.size wb wr.drew):=BD.out.trans ((Below.refl _ _).drew)
  have V12:Hid (Vr wr.drew w6.heap.size (tg kn ns er hk hn hc0 hl he9 ht9 (.slice v1 ls.length x1))):=V12.out.heap rfl
  have V13:Hid (Vr wr.drew w9.heap.size (tg kn ns er hk hn hc0 hl he9 ht9 (.slice v2 ls.length x2))):=V13.out.heap rfl
  have G1:Hid (wr.drew.rangeAt b1 (o1+j*14) (sp14 s1 s2 s3 s4 s5 s6 s7 s8 s9 y1 y2 y3 y4 y5)):=range_heap G1.out rfl
  have G2:Hid (wr.drew.rangeAt b2 (o2+j*14) (sp14 s1 s2 s3 s4 s5 s6 s7 s8 s9 y1 y2 y3 y4 y5)):=range_heap G2.out rfl
  refine wp_region_held_drew (S:=fun w'=>(Vr w' w6.heap.size (tg kn ns er hk hn hc0 hl he9 ht9 (.slice v1 ls.length x1))∧Vr w' w9.heap.size (tg kn ns er hk hn hc0 hl he9 ht9 (.slice v2 ls.length x2)))∧w'.rangeAt b1 (o1+j*14) (sp14 s1 s2 s3 s4 s5 s6 s7 s8 s9 y1 y2 y3 y4 y5)∧w'.rangeAt b2 (o2+j*14) (sp14 s1 s2 s3 s4 s5 s6 s7 s8 s9 y1 y2 y3 y4 y5)) (by kernel_rfl) ⟨⟨V12.out,V13.out⟩,G1.out,G2.out⟩ (fun hS=>?_)
  obtain ⟨yw1,hx0⟩:∃ x,x=wr.drew:=⟨_,rfl⟩
  rw [←hx0] at hS BD V12 V13 G1 G2 ⊢
  clear hx0
  refine tkH 0 (some 134) (.pointer (some ⟨w6.heap.size,9,none⟩)) rfl rfl (Or.inl ⟨by rfl,fun w' hw'=>by go_simp⟩) hS ?_
  simp only [Act.put,zE1,zE2,zE3]
  refine tkH 1 (some 135) (.slice v1 ls.length x1) rfl rfl (Or.inl ⟨by rfl,fun w' hw'=>by exact exec_loadN 65 (.tmp 134) rfl _ rfl _ _ (load_one one_spots (hw'.1.1.cell 9 _ rfl))⟩) hS ?_
  simp only [Act.put,zE1,zE2,zE3]
  refine tkH 2 (some 136) (.int .i64 (j:Int)) rfl rfl (Or.inl ⟨by rfl,fun w' hw'=>by rfl⟩) hS ?_
  simp only [Act.put,zE1,zE2,zE3]
  refine tkH 3 (some 137) (.pointer (some ⟨b1,o1+j*14,none⟩)) rfl rfl (Or.inl ⟨by rfl,fun w' hw'=>by exact exec_idxS (.tmp 135) (.tmp 136) rfl b1 o1 ls.length x1 j (congrArg (fun a=>Value.slice a ls.length x1) AO1.out) rfl HJ.out _⟩) hS ?_
  simp only [Act.put,zE1,zE2,zE3]
  refine tkH 4 (some 138) (.pointer (some ⟨b1,o1+j*14,none⟩)) rfl rfl (Or.inl ⟨by rfl,fun w' hw'=>by go_simp⟩) hS ?_
  simp only [Act.put,zE1,zE2,zE3]
  refine tkH 5 (some 139) (.agg ([.int .i64 s1,.int .i64 s2]:List Value).toArray) rfl rfl (Or.inl ⟨by rfl,fun w' hw'=>by exact exec_loadN 78 (.tmp 138) rfl _ rfl _ _ (load_cells rowy_place (sp_place hw'.2.1))⟩) hS ?_
  simp only [Act.put,zE1,zE2,zE3]
  refine tkH 6 (some 140) (.pointer (some ⟨w6.heap.size,9,none⟩)) rfl rfl (Or.inl ⟨by rfl,fun w' hw'=>by go_simp⟩) hS ?_
  simp only [Act.put,zE1,zE2,zE3]
  refine tkH 7 (some 141) (.slice v1 ls.length x1) rfl rfl (Or.inl ⟨by rfl,fun w' hw'=>by exact exec_loadN 65 (.tmp 140) rfl _ rfl _ _ (load_one one_spots (hw'.1.1.cell 9 _ rfl))⟩) hS ?_
  simp only [Act.put,zE1,zE2,zE3]
  refine tkH 8 (some 142) (.int .i64 (j:Int)) rfl rfl (Or.inl ⟨by rfl,fun w' hw'=>by rfl⟩) hS ?_
  simp only [Act.put,zE1,zE2,zE3]
  refine tkH 9 (some 143) (.pointer (some ⟨b1,o1+j*14,none⟩)) rfl rfl (Or.inl ⟨by rfl,fun w' hw'=>by exact exec_idxS (.tmp 141) (.tmp 142) rfl b1 o1 ls.length x1 j (congrArg (fun a=>Value.slice a ls.length x1) AO1.out) rfl HJ.out _⟩) hS ?_
  simp only [Act.put,zE1,zE2,zE3]
  refine tkH 10 (some 144) (.pointer (some ⟨b1,o1+j*14+2,none⟩)) rfl rfl (Or.inl ⟨by rfl,fun w' hw'=>by go_simp⟩) hS ?_
  simp only [Act.put,zE1,zE2,zE3]
  refine tkH 11 (some 145) (.agg (hv s3 s4 s5 s6 s7 s8).toArray) rfl rfl (Or.inl ⟨by rfl,fun w' hw'=>by exact exec_loadN 64 (.tmp 144) rfl _ rfl _ _ (load_cells rowy_head (sp_head hw'.2.1))⟩) hS ?_
  simp only [Act.put,zE1,zE2,zE3]
  refine tkH 12 (some 146) (.pointer (some ⟨w6.heap.size,9,none⟩)) rfl rfl (Or.inl ⟨by rfl,fun w' hw'=>by go_simp⟩) hS ?_
  simp only [Act.put,zE1,zE2,zE3]
  refine tkH 13 (some 147) (.slice v1 ls.length x1) rfl rfl (Or.inl ⟨by rfl,fun w' hw'=>by exact exec_loadN 65 (.tmp 146) rfl _ rfl _ _ (load_one one_spots (hw'.1.1.cell 9 _ rfl))⟩) hS ?_
  simp only [Act.put,zE1,zE2,zE3]
  refine tkH 14 (some 148) (.int .i64 (j:Int)) rfl rfl (Or.inl ⟨by rfl,fun w' hw'=>by rfl⟩) hS ?_
  simp only [Act.put,zE1,zE2,zE3]
  refine tkH 15 (some 149) (.pointer (some ⟨b1,o1+j*14,none⟩)) rfl rfl (Or.inl ⟨by rfl,fun w' hw'=>by exact exec_idxS (.tmp 147) (.tmp 148) rfl b1 o1 ls.length x1 j (congrArg (fun a=>Value.slice a ls.length x1) AO1.out) rfl HJ.out _⟩) hS ?_
  simp only [Act.put,zE1,zE2,zE3]
  refine tkH 16 (some 150) (.pointer (some ⟨b1,o1+j*14+8,none⟩)) rfl rfl (Or.inl ⟨by rfl,fun w' hw'=>by go_simp⟩) hS ?_
  simp only [Act.put,zE1,zE2,zE3]
  refine tkH 17 (some 151) (.agg (hv s9 y1 y2 y3 y4 y5).toArray) rfl rfl (Or.inl ⟨by rfl,fun w' hw'=>by exact exec_loadN 64 (.tmp 150) rfl _ rfl _ _ (load_cells rowy_head (sp_order hw'.2.1))⟩) hS ?_
  simp only [Act.put,zE1,zE2,zE3]
  refine tkH 18 (some 152) (.agg (sp14 s1 s2 s3 s4 s5 s6 s7 s8 s9 y1 y2 y3 y4 y5).toArray) rfl rfl (Or.inl ⟨by rfl,fun w' hw'=>by exact exec_buildS (.tmp 139) (.tmp 145) (.tmp 151) rfl s1 s2 s3 s4 s5 s6 s7 s8 s9 y1 y2 y3 y4 y5 rfl rfl rfl _⟩) hS ?_
  simp only [Act.put,zE1,zE2,zE3]
  refine tkH 19 (some 153) (.pointer (some ⟨w9.heap.size,9,none⟩)) rfl rfl (Or.inl ⟨by rfl,fun w' hw'=>by go_simp⟩) hS ?_
  simp only [Act.put,zE1,zE2,zE3]
  refine tkH 20 (some 154) (.slice v2 ls.length x2) rfl rfl (Or.inl ⟨by rfl,fun w' hw'=>by exact exec_loadN 73 (.tmp 153) rfl _ rfl _ _ (load_one one_rspots (hw'.1.2.cell 9 _ rfl))⟩) hS ?_
  simp only [Act.put,zE1,zE2,zE3]
  refine tkH 21 (some 155) (.int .i64 (j:Int)) rfl rfl (Or.inl ⟨by rfl,fun w' hw'=>by rfl⟩) hS ?_
  simp only [Act.put,zE1,zE2,zE3]
  refine tkH 22 (some 156) (.pointer (some ⟨b2,o2+j*14,none⟩)) rfl rfl (Or.inl ⟨by rfl,fun w' hw'=>by exact exec_idxRS (.tmp 154) (.tmp 155) rfl b2 o2 ls.length x2 j (congrArg (fun a=>Value.slice a ls.length x2) AO2.out) rfl HJ.out _⟩) hS ?_
  simp only [Act.put,zE1,zE2,zE3]
  refine tkH 23 (some 157) (.agg (sp14 s1 s2 s3 s4 s5 s6 s7 s8 s9 y1 y2 y3 y4 y5).toArray) rfl rfl (Or.inl ⟨by rfl,fun w' hw'=>by exact exec_loadN 81 (.tmp 156) rfl _ rfl _ _ (load_cells rowy_rspot hw'.2.2)⟩) hS ?_
  simp only [Act.put,zE1,zE2,zE3]
  refine tkH 24 (some 158) (.bool false) rfl rfl (Or.inl ⟨by rfl,fun w' hw'=>by exact exec_neqS (.tmp 152) (.tmp 157) rfl (sp14 s1 s2 s3 s4 s5 s6 s7 s8 s9 y1 y2 y3 y4 y5) ⟨_,_,_,_,_,_,_,_,_,_,_,_,_,_,rfl⟩ rfl rfl _⟩) hS ?_
  simp only [Act.put,zE1,zE2,zE3]
  refine wpAnyH_done (by kernel_rfl) ?_ _
  go_wp2
  go_roundw
  case rel=>exact ⟨j+1,by have:=HJ.out;omega,by go_num,BD.out⟩
  case measure=>simp [intOf];have:=HJ.out;omega
 ·have ej:j=ls.length:=by omega
  subst ej
  have BB:=hdH (BB0.out.trans (BD.out.mono BB0.out.size))
  go_wp2_with (go_at_call 7;refine (awake_any _ (HT.out.below BB.out)).mono ?_;rintro e9 wz ⟨rfl,B9⟩;have BB:=hdH (BB.out.trans (B9.mono BB.out.size));clear B9)
  go_ret
  exact ⟨rfl,BB.out⟩
end Go.Proofs.YtmbgokmomkmgcaaGreatDoor.sc
