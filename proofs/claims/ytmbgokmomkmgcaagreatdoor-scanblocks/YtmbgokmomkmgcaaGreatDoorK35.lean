/- Parts of the proof: what ScanBlocks reaches. No claim of its own. -/
import Derived.Lib.MakeNoZero
import Derived.Deep.DeepCutAuto
import Derived.Deep.RegionHeld3
import Derived.Laws.AppendOwnNone
import Derived.Lib.AppendZeros
import Derived.Lib.SliceRun
import Derived.Laws.StructEq
import Derived.ArgAppend
import Derived.WalkKit
import Derived.WalkSmall
import Derived.ProofKit
import Derived.OpenShut
import Derived.BigQuiet
import Derived.Deep.QuietTactic
import Derived.Deep.WholeRow
import Derived.Deep.MidRow
import Derived.Deep.RegionWith
import Derived.Deep.DeepHandedRow
import Derived.Lib.LaidTab
import Derived.Deep.Matrix
import Derived.OwnWalk
import Derived.Test.YtmbgokmomkmgcaaGreatDoorK00
import Derived.Test.YtmbgokmomkmgcaaGreatDoorK01
import Derived.Test.YtmbgokmomkmgcaaGreatDoorK02
import Derived.Test.YtmbgokmomkmgcaaGreatDoorK03
import Derived.Test.YtmbgokmomkmgcaaGreatDoorK04
import Derived.Test.YtmbgokmomkmgcaaGreatDoorK05
import Derived.Test.YtmbgokmomkmgcaaGreatDoorK06
import Derived.Test.YtmbgokmomkmgcaaGreatDoorK07
import Derived.Test.YtmbgokmomkmgcaaGreatDoorK08
import Derived.Test.YtmbgokmomkmgcaaGreatDoorK09
import Derived.Test.YtmbgokmomkmgcaaGreatDoorK10
import Derived.Test.YtmbgokmomkmgcaaGreatDoorK11
import Derived.Test.YtmbgokmomkmgcaaGreatDoorK12
import Derived.Test.YtmbgokmomkmgcaaGreatDoorK13
import Derived.Test.YtmbgokmomkmgcaaGreatDoorK14
import Derived.Test.YtmbgokmomkmgcaaGreatDoorK15
import Derived.Test.YtmbgokmomkmgcaaGreatDoorK16
import Derived.Test.YtmbgokmomkmgcaaGreatDoorK17
import Derived.Test.YtmbgokmomkmgcaaGreatDoorK18
import Derived.Test.YtmbgokmomkmgcaaGreatDoorK19
import Derived.Test.YtmbgokmomkmgcaaGreatDoorK20
import Derived.Test.YtmbgokmomkmgcaaGreatDoorK21
import Derived.Test.YtmbgokmomkmgcaaGreatDoorK22
import Derived.Test.YtmbgokmomkmgcaaGreatDoorK23
import Derived.Test.YtmbgokmomkmgcaaGreatDoorK24
import Derived.Test.YtmbgokmomkmgcaaGreatDoorK25
import Derived.Test.YtmbgokmomkmgcaaGreatDoorK26
import Derived.Test.YtmbgokmomkmgcaaGreatDoorK27
import Derived.Test.YtmbgokmomkmgcaaGreatDoorK28
import Derived.Test.YtmbgokmomkmgcaaGreatDoorK29
import Derived.Test.YtmbgokmomkmgcaaGreatDoorK30
import Derived.Test.YtmbgokmomkmgcaaGreatDoorK31
import Derived.Test.YtmbgokmomkmgcaaGreatDoorK32
import Derived.Test.YtmbgokmomkmgcaaGreatDoorK33
import Derived.Test.YtmbgokmomkmgcaaGreatDoorK34
set_option maxHeartbeats 8000000
namespace Go.Proofs.YtmbgokmomkmgcaaGreatDoor.sc
open Go.RowKit Go.Proofs.YtmbgokmomkmgcaaGreatDoor.fa Go.Proofs.YtmbgokmomkmgcaaGreatDoor.he Go.Proofs.YtmbgokmomkmgcaaGreatDoor.pa
set_option maxRecDepth 20000
theorem blocks_dark (g0 g1 g2 g3 g4 g5 bl ls:Int) (ao:Option Addr) (n cap:Nat) (u:Nat→Bool) (z e t:Nat→Int) (va:Nat→Option Addr) (vm vc:Nat→Nat) (bad:Int) (w:World) (hT:Tab w) (hc:¬Lc g0 g1 g2 g3 g4 g5 n z vm):Calls Tryz.prog 4 #[.agg (csz g0 g1 g2 g3 g4 g5 (.slice ao n cap) u z e t (fun i=>.slice (va i) (vm i) (vc i)) bad).toArray,.int .i64 bl,.int .i64 ls] w fun e w'=>e=.returned (.bool true)∧Below w.heap.size w w':=by
 have HT:=hdH (hT)
 have SL:Hid (∀ w0,Calls Tryz.prog 6 #[.agg (csz g0 g1 g2 g3 g4 g5 (.slice ao n cap) u z e t (fun i=>.slice (va i) (vm i) (vc i)) bad).toArray] w0 fun x w'=>x=.returned (.bool false)∧Below w0.heap.size w0 w'):=fun w0=>light_f _ _ _ _ _ _ ao n cap u z e t va vm vc bad hc w0
 clear hT hc
 have t0:=tR
 go_enter Tryz.func4,Tryz.ntmps4
 go_wp2_with (first
  |(go_at_call 7;refine (awake_any _ (HT.out.below BB.out)).mono ?_;rintro e9 w6 ⟨rfl,B9⟩;have BB:=hdH (BB.out.trans (B9.mono BB.out.size));clear B9)
  |(have q6:=t6;(with_reducible refine at_store ?_);refine store_lawC _ Z10t w3.heap.size 0 rfl rfl V7.out.2 rowy_told.2 z10_one ?_;intro w5 E9 R9 T9 B9;have V7:Hid (Vr w5 w3.heap.size Z10t):=⟨R9,T9⟩;have BB:=hdH (BB.out.trans ((BX.out.trans B9).mono BB.out.size));clear E9 R9 T9 B9 BX t6;have c7_0:=V7.out.cell 0 _ rfl;have c7_9:=V7.out.cell 9 _ rfl;have t7:=tR)
  |(have q5:=t5;(with_reducible refine at_alloc ?_);refine new_lawC _ Z10t zero_told ?_;intro w4 X9 B9 l9;have V7:=hdH (X9);have BX:=hdH (B9);clear X9 B9 l9 t5;have t6:=tR)
  |(have q4:=t4;go_at_call 14;refine (block_nil g0 g1 g2 g3 g4 g5 bl _).mono ?_;rintro e9 w3 ⟨rfl,B9⟩;have BB:=hdH (BB.out.trans (B9.mono BB.out.size));clear B9 t4;have t5:=tR)
  |(have q3:=t3;refine load_lawC _ rfl [.int .i64 g0,.int .i64 g1,.int .i64 g2,.int .i64 g3,.int .i64 g4,.int .i64 g5] w.heap.size 0 rfl (csz_geo V3.out) rowy_geo6 ?_;clear t3;have t4:=tR)
  |(have q2:=t2;go_at_call 6;refine (SL.out _).mono ?_;rintro e9 w2 ⟨rfl,B9⟩;have V3:=hdH (V3.out.below B9 (range_lt V3.out.1 (Nat.succ_pos _)));have BB:=hdH (BB.out.trans (B9.mono BB.out.size));clear B9 t2;have t3:=tR)
  |(have q1:=t1;refine load_lawC _ rfl (csz g0 g1 g2 g3 g4 g5 (.slice ao n cap) u z e t (fun i=>.slice (va i) (vm i) (vc i)) bad) w.heap.size 0 rfl V3.out.1 rowy_scase ?_;clear t1;have t2:=tR)
  |(have q0:=t0;refine box_lawC _ (csz g0 g1 g2 g3 g4 g5 (.slice ao n cap) u z e t (fun i=>.slice (va i) (vm i) (vc i)) bad) rfl ?_;intro w1 X9 B9 l9;have V3:=hdH (X9);have BB:=hdH (B9);clear X9 B9 l9 t0;have t1:=tR))
 go_ret
 exact ⟨rfl,BB.out⟩
theorem blocks_out (N P S:Nat) (g3 g4 g5:Int) (ao:Option Addr) (n cap:Nat) (u:Nat→Bool) (z e t:Nat→Int) (va:Nat→Option Addr) (vm vc:Nat→Nat) (bad:Int) (f:Nat→Pgd) (bl ls:Int) (w:World) (hT:Tab w) (hc:Lc (N:Int) (P:Int) (S:Int) g3 g4 g5 n z vm) (hp:Pgl w (.slice ao n cap) n f) (hb:bl<0∨(0≤bl∧(N:Int)≤bl)):Calls Tryz.prog 4 #[.agg (csz (N:Int) (P:Int) (S:Int) g3 g4 g5 (.slice ao n cap) u z e t (fun i=>.slice (va i) (vm i) (vc i)) bad).toArray,.int .i64 bl,.int .i64 ls] w fun e w'=>e=.returned (.bool true)∧Below w.heap.size w w':=by
 have HT:=hdH (hT)
 have SL:Hid (∀ w0,Calls Tryz.prog 6 #[.agg (csz (N:Int) (P:Int) (S:Int) g3 g4 g5 (.slice ao n cap) u z e t (fun i=>.slice (va i) (vm i) (vc i)) bad).toArray] w0 fun x w'=>x=.returned (.bool true)∧Below w0.heap.size w0 w'):=fun w0=>light_t _ _ _ _ _ _ ao n cap u z e t va vm vc bad hc w0
 have SHP:Hid (na.Shp [(N:Int),(P:Int),(S:Int),g3,g4,g5] N P (S+88)):=⟨rfl,hc.1,rfl,rfl,by show (S:Int)+88=((S+88 :Nat):Int);omega⟩
 have HPG:=hdH (hp)
 have N40:Hid (n≤40):=hc.2.2.2.2.1
 have RT:Hid (ge.Rt [(N:Int),(P:Int),(S:Int),g3,g4,g5]):=hc.1
 clear hT hc hp
 have t0:=tR
 go_enter Tryz.func4,Tryz.ntmps4
 rcases hb with h0 | ⟨h0,h1z⟩
 iterate 2
  ·go_wp2_with (first
   |(go_at_call 7;refine (awake_any _ (HT.out.below BB.out)).mono ?_;rintro e9 w6 ⟨rfl,B9⟩;have BB:=hdH (BB.out.trans (B9.mono BB.out.size));clear B9)
   |(have q6:=t6;(with_reducible refine at_store ?_);refine store_lawC _ (chl H q (ast H 0 f n)) w3.heap.size 0 rfl rfl V9.out.2 rowy_chipR.2 (chl_one _ _ _) ?_;intro w5 E9 R9 T9 B9;have V9:Hid (Vr w5 w3.heap.size (chl H q (ast H 0 f n))):=⟨R9,T9⟩;have BW:=hdH (BX.out.trans B9);have V3:=hdH (V3.out.below BW.out (range_lt V3.out.1 (Nat.succ_pos _)));have BB:=hdH (BB.out.trans (BW.out.mono BB.out.size));have c3_0:=V3.out.cell 0 _ rfl;clear E9 R9 T9 B9 BX t6;have t7:=tR)
   |(have q5:=t5;(with_reducible refine at_alloc ?_);refine new_lawC _ Zc zero_chipR ?_;intro w4 X9 B9 l9;have V9:=hdH (X9);have BX:=hdH (B9);clear X9 B9 l9 t5;have t6:=tR)
   |(have q4:=t4;go_at_call 8;refine (array_any N P S g3 g4 g5 ao n cap u z e t (fun i=>.slice (va i) (vm i) (vc i)) bad 0 f w2 SHP.out (HPG.out.below BB.out) N40.out).mono ?_;rintro e9 w3 ⟨H,q,M,U,l,rfl,h1,h2, -, -,B9,⟨rfl,rfl,rfl,rfl,rfl,rfl⟩, -⟩;have HM:Hid (H.N≤64∧4≤H.P∧H.P≤32):=⟨h1.num.2.1,h1.num.2.2.1,h1.num.2.2.2.1⟩;have V3:=hdH (V3.out.below (B9.mono (Nat.le_refl _)) (range_lt V3.out.1 (Nat.succ_pos _)));have BB:=hdH (BB.out.trans (B9.mono BB.out.size));clear h1 h2 B9 t4;have t5:=tR)
   |(have q3:=t3;refine load_lawC _ rfl (csz (N:Int) (P:Int) (S:Int) g3 g4 g5 (.slice ao n cap) u z e t (fun i=>.slice (va i) (vm i) (vc i)) bad) w.heap.size 0 rfl V3.out.1 rowy_scase ?_;clear t3;have t4:=tR)
   |(have q2:=t2;go_at_call 6;refine (SL.out _).mono ?_;rintro e9 w2 ⟨rfl,B9⟩;have V3:=hdH (V3.out.below B9 (range_lt V3.out.1 (Nat.succ_pos _)));have BB:=hdH (BB.out.trans (B9.mono BB.out.size));clear B9 t2;have t3:=tR)
   |(have q1:=t1;refine load_lawC _ rfl (csz (N:Int) (P:Int) (S:Int) g3 g4 g5 (.slice ao n cap) u z e t (fun i=>.slice (va i) (vm i) (vc i)) bad) w.heap.size 0 rfl V3.out.1 rowy_scase ?_;clear t1;have t2:=tR)
   |(have q0:=t0;refine box_lawC _ (csz (N:Int) (P:Int) (S:Int) g3 g4 g5 (.slice ao n cap) u z e t (fun i=>.slice (va i) (vm i) (vc i)) bad) rfl ?_;intro w1 X9 B9 l9;have V3:=hdH (X9);have BB:=hdH (B9);clear X9 B9 l9 t0;have t1:=tR))
   go_ret
   exact ⟨rfl,BB.out⟩
theorem blocks_less (N P S:Nat) (g3 g4 g5:Int) (ao:Option Addr) (n cap:Nat) (u:Nat→Bool) (z e t:Nat→Int) (va:Nat→Option Addr) (vm vc:Nat→Nat) (bad:Int) (f:Nat→Pgd) (k ln:Nat) (w:World) (hT:Tab w) (hc:Lc (N:Int) (P:Int) (S:Int) g3 g4 g5 n z vm) (hp:Pgl w (.slice ao n cap) n f) (hk:k<N) (h1:1≤ln) (h2:ln≤P):Calls Tryz.prog 4 #[.agg (csz (N:Int) (P:Int) (S:Int) g3 g4 g5 (.slice ao n cap) u z e t (fun i=>.slice (va i) (vm i) (vc i)) bad).toArray,.int .i64 (k:Int),.int .i64 (ln:Int)] w fun e w'=>e=.returned (.bool true)∧Below w.heap.size w w':=by
 have HT:=hdH (hT)
 have SL:Hid (∀ w0,Calls Tryz.prog 6 #[.agg (csz (N:Int) (P:Int) (S:Int) g3 g4 g5 (.slice ao n cap) u z e t (fun i=>.slice (va i) (vm i) (vc i)) bad).toArray] w0 fun x w'=>x=.returned (.bool true)∧Below w0.heap.size w0 w'):=fun w0=>light_t _ _ _ _ _ _ ao n cap u z e t va vm vc bad hc w0
 have SHP:Hid (na.Shp [(N:Int),(P:Int),(S:Int),g3,g4,g5] N P (S+88)):=⟨rfl,hc.1,rfl,rfl,by show (S:Int)+88=((S+88 :Nat):Int);omega⟩
 have HPG:=hdH (hp)
 have N40:Hid (n≤40):=hc.2.2.2.2.1
 have RT:Hid (ge.Rt [(N:Int),(P:Int),(S:Int),g3,g4,g5]):=hc.1
 have HK:=hdH (hk)
 have lk0:¬(k:Int)<0:=by omega
 have lk1:¬(k:Int)≥(N:Int):=by omega
 have LN:Hid (1≤ln∧ln≤P):=⟨h1,h2⟩
 have ll1:(1 :Int)≤(ln:Int):=by omega
 have ll2:(ln:Int)≤(P:Int):=by omega
 clear hT hc hp hk h1 h2
 have t0:=tR
 go_enter Tryz.func4,Tryz.ntmps4
 go_wp2_with (first
  |(refine wpl_op (v:=.pointer (some ⟨bb,bo+k*5,none⟩)) rfl (exec_idxK (.tmp 50) (.tmp 51) rfl bb bo H.N qb k rfl rfl HK.out _) ?_)
  |(have q6:=t6;(with_reducible refine at_store ?_);refine store_lawC _ (chl H (some ⟨bb,bo,none⟩,qb,qc,qd,qe) (ast H 0 f n)) w3.heap.size 0 rfl rfl V9.out.2 rowy_chipR.2 (chl_one _ _ _) ?_;intro w5 E9 R9 T9 B9;have V9:Hid (Vr w5 w3.heap.size (chl H (some ⟨bb,bo,none⟩,qb,qc,qd,qe) (ast H 0 f n))):=⟨R9,T9⟩;have BW:=hdH (BX.out.trans B9);have V3:=hdH (V3.out.below BW.out (range_lt V3.out.1 (Nat.succ_pos _)));have BB:=hdH (BB.out.trans (BW.out.mono BB.out.size));have c9_6:=V9.out.cell 6 _ rfl;have cpg:=(HP3.out.below BW.out).1;have c3_0:=V3.out.cell 0 _ rfl;clear E9 R9 T9 B9 BX t6;have t7:=tR)
  |(have q5:=t5;(with_reducible refine at_alloc ?_);refine new_lawC _ Zc zero_chipR ?_;intro w4 X9 B9 l9;have V9:=hdH (X9);have BX:=hdH (B9);clear X9 B9 l9 t5;have t6:=tR)
  |(have q4:=t4;go_at_call 8;refine (array_any N P S g3 g4 g5 ao n cap u z e t (fun i=>.slice (va i) (vm i) (vc i)) bad 0 f w2 SHP.out (HPG.out.below BB.out) N40.out).mono ?_;rintro e9 w3 ⟨H,q,M,U,l,rfl,h1,h2, -, -,B9,⟨rfl,rfl,rfl,rfl,rfl,rfl⟩, -⟩;obtain ⟨bb,bo,pb,po,gc,hq,hp⟩:=pq_of h1 (rc_plain h2) k HK.out;obtain ⟨qa,qb,qc,qd,qe⟩:=q;obtain rfl:qa=some ⟨bb,bo,none⟩:=hq;have HP3:=hdH (hp);clear hp;have HM:Hid (H.N≤64∧4≤H.P∧H.P≤32):=⟨h1.num.2.1,h1.num.2.2.1,h1.num.2.2.2.1⟩;have V3:=hdH (V3.out.below (B9.mono (Nat.le_refl _)) (range_lt V3.out.1 (Nat.succ_pos _)));have BB:=hdH (BB.out.trans (B9.mono BB.out.size));clear h1 h2 B9 t4;have t5:=tR)
  |(have q3:=t3;refine load_lawC _ rfl (csz (N:Int) (P:Int) (S:Int) g3 g4 g5 (.slice ao n cap) u z e t (fun i=>.slice (va i) (vm i) (vc i)) bad) w.heap.size 0 rfl V3.out.1 rowy_scase ?_;clear t3;have t4:=tR)
  |(have q2:=t2;go_at_call 6;refine (SL.out _).mono ?_;rintro e9 w2 ⟨rfl,B9⟩;have V3:=hdH (V3.out.below B9 (range_lt V3.out.1 (Nat.succ_pos _)));have BB:=hdH (BB.out.trans (B9.mono BB.out.size));clear B9 t2;have t3:=tR)
  |(have q1:=t1;refine load_lawC _ rfl (csz (N:Int) (P:Int) (S:Int) g3 g4 g5 (.slice ao n cap) u z e t (fun i=>.slice (va i) (vm i) (vc i)) bad) w.heap.size 0 rfl V3.out.1 rowy_scase ?_;clear t1;have t2:=tR)
  |(have q0:=t0;refine box_lawC _ (csz (N:Int) (P:Int) (S:Int) g3 g4 g5 (.slice ao n cap) u z e t (fun i=>.slice (va i) (vm i) (vc i)) bad) rfl ?_;intro w1 X9 B9 l9;have V3:=hdH (X9);have BB:=hdH (B9);clear X9 B9 l9 t0;have t1:=tR))
 have BB:Hid (Below w.heap.size w w5.drew):=BB.out.trans ((Below.refl _ _).drew)
 have V3:Hid (Vr w5.drew w.heap.size (csz (H.N:Int) (H.P:Int) (H.S:Int) H.g3 H.g4 H.g5 (.slice ao n cap) u z e t (fun i=>.slice (va i) (vm i) (vc i)) bad)):=V3.out.heap rfl
 refine wp_region_held_drew (S:=fun w'=>Vr w' w.heap.size (csz (H.N:Int) (H.P:Int) (H.S:Int) H.g3 H.g4 H.g5 (.slice ao n cap) u z e t (fun i=>.slice (va i) (vm i) (vc i)) bad)) (by kernel_rfl) V3.out (fun hS=>?_)
 obtain ⟨x1,hx0⟩:∃ x,x=w5.drew:=⟨_,rfl⟩
 rw [←hx0] at hS BB V3 ⊢
 clear hx0
 refine tkH 0 (some 63) (.pointer (some ⟨w.heap.size,0,none⟩)) rfl rfl (Or.inl ⟨by rfl,fun w' hw'=>by go_simp⟩) hS ?_
 simp only [Act.put,zE1,zE2,zE3]
 refine tkH 1 (some 64) (.agg ([.int .i64 (H.N:Int),.int .i64 (H.P:Int),.int .i64 (H.S:Int),.int .i64 H.g3,.int .i64 H.g4,.int .i64 H.g5]:List Value).toArray) rfl rfl (Or.inl ⟨by rfl,fun w' hw'=>by exact exec_loadN 23 (.tmp 63) rfl _ rfl _ _ (load_cells rowy_geo6 (csz_geo hw'))⟩) hS ?_
 simp only [Act.put,zE1,zE2,zE3]
 refine tkH 2 (some 65) (.int .i64 (k:Int)) rfl rfl (Or.inl ⟨by rfl,fun w' hw'=>by rfl⟩) hS ?_
 simp only [Act.put,zE1,zE2,zE3]
 refine tkH 3 (some 66) (.slice (some ⟨pb,po,none⟩) H.P gc) rfl rfl (Or.inl ⟨by rfl,fun w' hw'=>by rfl⟩) hS ?_
 simp only [Act.put,zE1,zE2,zE3]
 refine tkH 4 (some 67) (.int .i64 (ln:Int)) rfl rfl (Or.inl ⟨by rfl,fun w' hw'=>by rfl⟩) hS ?_
 simp only [Act.put,zE1,zE2,zE3]
 refine tkH 5 (some 68) (frmS pb po H.P gc ln) rfl rfl (Or.inl ⟨by rfl,fun w' hw'=>by exact exec_fromS (.tmp 66) (.tmp 67) rfl pb po H.P gc ln rfl rfl LN.out.2 _⟩) hS ?_
 simp only [Act.put,zE1,zE2,zE3]
 refine wpAnyH_ready (rs:=[6,7]) (by kernel_rfl) (by simp) ?_
 refine AllReadyH.cons rfl (fun K hK=>?_) (AllReadyH.cons rfl (fun K hK=>?_) AllReadyH.nil)
 ·refine step_callW _ (by rfl) (some 69) rfl 14 #[.tmp 64,.tmp 65,.tmp 68] #[23,3,69] rfl (fun q w'=>by rfl) #[.agg (ints .i64 [(H.N:Int),(H.P:Int),(H.S:Int),H.g3,H.g4,H.g5]),.int .i64 (k:Int),frmS pb po H.P gc ln] (by simp only [List.map_toArray,List.map_cons,List.map_nil];rfl) (fun zz w'=>zz=.agg Z10t.toArray∧Below x1.heap.size x1 w') ?_ ?_
  ·exact (block_few (H.N:Int) (H.P:Int) (H.S:Int) H.g3 H.g4 H.g5 (k:Int) (if gc=ln then some ⟨pb,po,none⟩ else some ⟨pb,po+ln,none⟩) (H.P-ln) (gc-ln) x1 RT.out (by have:=LN.out;omega)).mono fun e w' h=>⟨_,h.1,rfl,h.2⟩
  rintro _ x2 ⟨rfl,hb⟩
  have BB:=hdH (BB.out.trans (hb.mono BB.out.size))
  have V3:=hdH (V3.out.below hb (range_lt V3.out.1 (Nat.succ_pos _)))
  have hS:Vr x2 w.heap.size (csz (H.N:Int) (H.P:Int) (H.S:Int) H.g3 H.g4 H.g5 (.slice ao n cap) u z e t (fun i=>.slice (va i) (vm i) (vc i)) bad):=V3.out
  clear hb
  refine hK.out _ _ hS (fun _=>?_)
  simp only [Act.put,zE1,zE2,zE3]
  clear hK K
  refine wpAnyH_ready (rs:=[7]) (by kernel_rfl) (by simp) ?_
  refine AllReadyH.cons rfl (fun K hK=>?_) AllReadyH.nil
  refine step_newC _ rfl (some 11) rfl 67 rfl Z10t zero_told ?_
  intro x3 v9 hb l9
  have HV:=hdH (v9)
  have LV:Hid (w.heap.size<x2.heap.size):=range_lt V3.out.1 (Nat.succ_pos _)
  have BB:=hdH (BB.out.trans (hb.mono BB.out.size))
  have V3:=hdH (V3.out.below hb (range_lt V3.out.1 (Nat.succ_pos _)))
  have hS:Vr x3 w.heap.size (csz (H.N:Int) (H.P:Int) (H.S:Int) H.g3 H.g4 H.g5 (.slice ao n cap) u z e t (fun i=>.slice (va i) (vm i) (vc i)) bad):=V3.out
  clear v9 hb l9
  obtain ⟨gv,hg9⟩:∃ g,g=x2.heap.size:=⟨_,rfl⟩
  rw [←hg9] at HV LV ⊢
  clear hg9
  refine hK.out _ _ hS (fun _=>?_)
  simp only [Act.put,zE1,zE2,zE3]
  clear hK K
  refine wpAnyH_ready (rs:=[8]) (by kernel_rfl) (by simp) ?_
  refine AllReadyH.cons rfl (fun K hK=>?_) AllReadyH.nil
  refine step_storeC _ rfl none rfl (.tmp 11) (.tmp 69) 67 rfl gv Z10t Z10t rfl rfl HV.out rfl rowy_told.2 z10_one ?_
  intro x4 v9 B9
  have HV:=hdH (v9)
  have BB:=hdH (BB.out.trans (B9.mono (Nat.le_of_lt LV.out)))
  have V3:=hdH (V3.out.heap (B9.block _ LV.out))
  have hS:Vr x4 w.heap.size (csz (H.N:Int) (H.P:Int) (H.S:Int) H.g3 H.g4 H.g5 (.slice ao n cap) u z e t (fun i=>.slice (va i) (vm i) (vc i)) bad):=V3.out
  clear v9 B9
  refine hK.out _ _ hS (fun _=>?_)
  simp only [Act.put]
  clear hK K
  refine wpAnyH_done (by kernel_rfl) ?_ _
  have c11_0:=HV.out.cell 0 _ rfl
  have c11_9:=HV.out.cell 9 _ rfl
  go_wp2_with (go_at_call 7;refine (awake_any _ (HT.out.below BB.out)).mono ?_;rintro e9 wz ⟨rfl,B9⟩;have BB:=hdH (BB.out.trans (B9.mono BB.out.size));clear B9)
  go_ret
  exact ⟨rfl,BB.out⟩
 ·refine step_newC _ rfl (some 11) rfl 67 rfl Z10t zero_told ?_
  intro x5 v9 hb l9
  have HV:=hdH (v9)
  have LV:Hid (w.heap.size<x1.heap.size):=range_lt V3.out.1 (Nat.succ_pos _)
  have BB:=hdH (BB.out.trans (hb.mono BB.out.size))
  have V3:=hdH (V3.out.below hb (range_lt V3.out.1 (Nat.succ_pos _)))
  have hS:Vr x5 w.heap.size (csz (H.N:Int) (H.P:Int) (H.S:Int) H.g3 H.g4 H.g5 (.slice ao n cap) u z e t (fun i=>.slice (va i) (vm i) (vc i)) bad):=V3.out
  clear v9 hb l9
  obtain ⟨gv,hg9⟩:∃ g,g=x1.heap.size:=⟨_,rfl⟩
  rw [←hg9] at HV LV ⊢
  clear hg9
  refine hK.out _ _ hS (fun _=>?_)
  simp only [Act.put,zE1,zE2,zE3]
  clear hK K
  refine wpAnyH_ready (rs:=[6]) (by kernel_rfl) (by simp) ?_
  refine AllReadyH.cons rfl (fun K hK=>?_) AllReadyH.nil
  refine step_callW _ (by rfl) (some 69) rfl 14 #[.tmp 64,.tmp 65,.tmp 68] #[23,3,69] rfl (fun q w'=>by rfl) #[.agg (ints .i64 [(H.N:Int),(H.P:Int),(H.S:Int),H.g3,H.g4,H.g5]),.int .i64 (k:Int),frmS pb po H.P gc ln] (by simp only [List.map_toArray,List.map_cons,List.map_nil];rfl) (fun zz w'=>zz=.agg Z10t.toArray∧Below x5.heap.size x5 w') ?_ ?_
  ·exact (block_few (H.N:Int) (H.P:Int) (H.S:Int) H.g3 H.g4 H.g5 (k:Int) (if gc=ln then some ⟨pb,po,none⟩ else some ⟨pb,po+ln,none⟩) (H.P-ln) (gc-ln) x5 RT.out (by have:=LN.out;omega)).mono fun e w' h=>⟨_,h.1,rfl,h.2⟩
  rintro _ x6 ⟨rfl,hb⟩
  have BB:=hdH (BB.out.trans (hb.mono BB.out.size))
  have HV:=hdH (HV.out.below hb (range_lt HV.out.1 (Nat.succ_pos _)))
  have V3:=hdH (V3.out.below hb (range_lt V3.out.1 (Nat.succ_pos _)))
  have hS:Vr x6 w.heap.size (csz (H.N:Int) (H.P:Int) (H.S:Int) H.g3 H.g4 H.g5 (.slice ao n cap) u z e t (fun i=>.slice (va i) (vm i) (vc i)) bad):=V3.out
  clear hb
  refine hK.out _ _ hS (fun _=>?_)
  simp only [Act.put,zE1,zE2,zE3]
  clear hK K
  refine wpAnyH_ready (rs:=[8]) (by kernel_rfl) (by simp) ?_
  refine AllReadyH.cons rfl (fun K hK=>?_) AllReadyH.nil
  refine step_storeC _ rfl none rfl (.tmp 11) (.tmp 69) 67 rfl gv Z10t Z10t rfl rfl HV.out rfl rowy_told.2 z10_one ?_
  intro x7 v9 B9
  have HV:=hdH (v9)
  have BB:=hdH (BB.out.trans (B9.mono (Nat.le_of_lt LV.out)))
  have V3:=hdH (V3.out.heap (B9.block _ LV.out))
  have hS:Vr x7 w.heap.size (csz (H.N:Int) (H.P:Int) (H.S:Int) H.g3 H.g4 H.g5 (.slice ao n cap) u z e t (fun i=>.slice (va i) (vm i) (vc i)) bad):=V3.out
  clear v9 B9
  refine hK.out _ _ hS (fun _=>?_)
  simp only [Act.put]
  clear hK K
  refine wpAnyH_done (by kernel_rfl) ?_ _
  have c11_0:=HV.out.cell 0 _ rfl
  have c11_9:=HV.out.cell 9 _ rfl
  go_wp2_with (go_at_call 7;refine (awake_any _ (HT.out.below BB.out)).mono ?_;rintro e9 wz ⟨rfl,B9⟩;have BB:=hdH (BB.out.trans (B9.mono BB.out.size));clear B9)
  go_ret
  exact ⟨rfl,BB.out⟩
end Go.Proofs.YtmbgokmomkmgcaaGreatDoor.sc
namespace Go.Proofs.YtmbgokmomkmgcaaGreatDoor.sc
open Go.RowKit Go.Proofs.YtmbgokmomkmgcaaGreatDoor.fa Go.Proofs.YtmbgokmomkmgcaaGreatDoor.he Go.Proofs.YtmbgokmomkmgcaaGreatDoor.pa
set_option maxRecDepth 20000
theorem sp_place {w:World} {g p:Nat} {b i k n c l e t k' n' c' l' e' t':Int} (h:w.rangeAt g p (sp14 b i k n c l e t k' n' c' l' e' t')):w.rangeAt g p [.int .i64 b,.int .i64 i]:=fun j u hj=>h j u (by
 match j,hj with
 |0,hj=>exact hj
 |1,hj=>exact hj)
theorem sp_head {w:World} {g p:Nat} {b i k n c l e t k' n' c' l' e' t':Int} (h:w.rangeAt g p (sp14 b i k n c l e t k' n' c' l' e' t')):w.rangeAt g (p+2) (hv k n c l e t):=fun j u hj=>by
 have z:=h (2+j) u (by
  match j,hj with
  |0,hj=>exact hj
  |1,hj=>exact hj
  |2,hj=>exact hj
  |3,hj=>exact hj
  |4,hj=>exact hj
  |5,hj=>exact hj)
 rw [←Nat.add_assoc] at z
 exact z
theorem sp_order {w:World} {g p:Nat} {b i k n c l e t k' n' c' l' e' t':Int} (h:w.rangeAt g p (sp14 b i k n c l e t k' n' c' l' e' t')):w.rangeAt g (p+8) (hv k' n' c' l' e' t'):=fun j u hj=>by
 have z:=h (8+j) u (by
  match j,hj with
  |0,hj=>exact hj
  |1,hj=>exact hj
  |2,hj=>exact hj
  |3,hj=>exact hj
  |4,hj=>exact hj
  |5,hj=>exact hj)
 rw [←Nat.add_assoc] at z
 exact z
theorem rws_at {w:World} {vo:Option Addr} {m vc:Nat} {ls:List (List Value)} (h:na.Rws w (.slice vo m vc) 14 ls) (i:Nat) (hi:i<ls.length):∃ b off,vo=some ⟨b,off,none⟩∧w.rangeAt b (off+i*14) (na.el ls i):=by
 obtain ⟨ao,cap,e,h1,h2,h3,h4,h5⟩:=h
 injection e with e _ _
 obtain ⟨b,off,e1,hc⟩:=h5 (by omega)
 exact ⟨b,off,e.trans e1,hc i hi⟩
theorem build_sp14 (b i k n c l e t k' n' c' l' e' t':Int) (w:World):(Instr.build 81 #[(0,.agg ([.int .i64 b,.int .i64 i]:List Value).toArray),(1,.agg (hv k n c l e t).toArray),(2,.agg (hv k' n' c' l' e' t').toArray)]).run Tryz.prog w=.ok (.agg (sp14 b i k n c l e t k' n' c' l' e' t').toArray) w:=by kernel_rfl
theorem exec_buildS {ev:Operand→Value} {o:Oper} (x y z:Operand) (hop:o.op=Op.build 81 #[(0,x),(1,y),(2,z)]) (b i k n c l e t k' n' c' l' e' t':Int) (hx:ev x=.agg ([.int .i64 b,.int .i64 i]:List Value).toArray) (hy:ev y=.agg (hv k n c l e t).toArray) (hz:ev z=.agg (hv k' n' c' l' e' t').toArray) (w:World):(execOp ev o).run Tryz.prog w=.ok (.value (.agg (sp14 b i k n c l e t k' n' c' l' e' t').toArray)) w:=by
 have h:=build_sp14 b i k n c l e t k' n' c' l' e' t' w
 unfold execOp
 simp only [hop,List.map_toArray,List.map_cons,List.map_nil,hx,hy,hz,Sem.run_bind,Sem.run_pure,Result.andThen_ok,h]
theorem rowy_rspot:Rowy 81 14:=⟨⟨_,Tryz.underlying81,rfl⟩,by kernel_rfl⟩
end Go.Proofs.YtmbgokmomkmgcaaGreatDoor.sc
