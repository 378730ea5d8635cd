/- Parts of the proof: what ScanBlocks reaches. No claim of its own. -/
import Derived.Lib.MakeNoZero
import Derived.Deep.DeepCutAuto
import Derived.Deep.RegionHeld3
import Derived.Laws.AppendOwnNone
import Derived.Lib.AppendZeros
import Derived.Lib.SliceRun
import Derived.Laws.StructEq
import Derived.ArgAppend
import Derived.WalkKit
import Derived.WalkSmall
import Derived.ProofKit
import Derived.OpenShut
import Derived.BigQuiet
import Derived.Deep.QuietTactic
import Derived.Deep.WholeRow
import Derived.Deep.MidRow
import Derived.Deep.DeepHandedRow
import Derived.Lib.LaidTab
import Derived.Deep.Matrix
import Derived.Test.YtmbgokmomkmgcaaGreatDoorK00
import Derived.Test.YtmbgokmomkmgcaaGreatDoorK01
import Derived.Test.YtmbgokmomkmgcaaGreatDoorK02
import Derived.Test.YtmbgokmomkmgcaaGreatDoorK03
import Derived.Test.YtmbgokmomkmgcaaGreatDoorK04
import Derived.Test.YtmbgokmomkmgcaaGreatDoorK05
import Derived.Test.YtmbgokmomkmgcaaGreatDoorK06
import Derived.Test.YtmbgokmomkmgcaaGreatDoorK07
import Derived.Test.YtmbgokmomkmgcaaGreatDoorK08
import Derived.Test.YtmbgokmomkmgcaaGreatDoorK09
import Derived.Test.YtmbgokmomkmgcaaGreatDoorK10
import Derived.Test.YtmbgokmomkmgcaaGreatDoorK11
import Derived.Test.YtmbgokmomkmgcaaGreatDoorK12
import Derived.Test.YtmbgokmomkmgcaaGreatDoorK13
import Derived.Test.YtmbgokmomkmgcaaGreatDoorK14
import Derived.Test.YtmbgokmomkmgcaaGreatDoorK15
import Derived.Test.YtmbgokmomkmgcaaGreatDoorK16
import Derived.Test.YtmbgokmomkmgcaaGreatDoorK17
import Derived.Test.YtmbgokmomkmgcaaGreatDoorK18
import Derived.Test.YtmbgokmomkmgcaaGreatDoorK19
import Derived.Test.YtmbgokmomkmgcaaGreatDoorK20
import Derived.Test.YtmbgokmomkmgcaaGreatDoorK21
import Derived.Test.YtmbgokmomkmgcaaGreatDoorK22
import Derived.Test.YtmbgokmomkmgcaaGreatDoorK23
set_option maxHeartbeats 8000000
namespace Go.Proofs.YtmbgokmomkmgcaaGreatDoor.sc
open Go.RowKit Go.Proofs.YtmbgokmomkmgcaaGreatDoor.fa Go.Proofs.YtmbgokmomkmgcaaGreatDoor.he Go.Proofs.YtmbgokmomkmgcaaGreatDoor.pa
set_option maxRecDepth 20000
section
variable {ev:Operand→Value} {o:Oper}
theorem exec_lenB (x:Operand) (hop:o.op=.call {callee:=.builtin .len,args:=#[x],argTypes:=#[26]}) (ao:Option Addr) (n c:Nat) (hx:ev x=.slice ao n c) (w:World):(execOp ev o).run Tryz.prog w=.ok (.value (.int .i64 (n:Int))) w:=by
 simp [execOp,hop,resolve,invoke,builtin,hx,Result.andThen]
 rfl
theorem exec_neqI (x y:Operand) (hop:o.op=Op.binOp .neq 3 x y 3) (A B:Int) (hx:ev x=.int .i64 A) (hy:ev y=.int .i64 B) (b:Bool) (hb:(A != B)=b) (w:World):(execOp ev o).run Tryz.prog w=.ok (.value (.bool b)) w:=by
 subst hb
 unfold execOp
 simp only [hop,hx,hy]
 rfl
end
theorem at_loadH {ops:Array Oper} {rest:List Oper} {a:Act} {Q:Exit→Act→World→Prop} {w:World} {d:Option Tmp} {x:Operand} {ty:TypeId} {pos:String} {af:Array Edge} (h:wpList Tryz.prog ops Q (⟨d,Op.load 64 x,ty,pos,af,none⟩ :: rest) a w):wpList Tryz.prog ops Q (⟨d,Op.load 64 x,ty,pos,af,none⟩ :: rest) a w:=h
theorem rpg_head {w:World} {g:Nat} {k n c l e t:Int} {pv tv:Value} {d q:Bool} (h:w.rangeAt g 0 (pg10 k n c l e t pv tv d q)):w.rangeAt g 0 (hv k n c l e t):=fun j v hj=>h j v (by
 match j,hj with
 |0,hj=>exact hj
 |1,hj=>exact hj
 |2,hj=>exact hj
 |3,hj=>exact hj
 |4,hj=>exact hj
 |5,hj=>exact hj)
theorem rrd_any (g0 g1 g3 g4 g5:Int) (S:Nat) (z:Value) (xs:List Int) (w:World) (h2:Byt w z xs) (h3:xs.length=S+88):
  ∃ (K N C L E T:Int) (D O:Bool),Cm S xs=(O && D)∧(O=true→K=qk (xs.drop S)∧N=qn (xs.drop S)∧C=qc (xs.drop S)∧L=ql (xs.drop S)∧E=qe (xs.drop S)∧T=qt (xs.drop S))∧
   ∀ w0,Below w.heap.size w w0→Calls Tryz.prog 44 #[.agg (ints .i64 [g0,g1,(S:Int),g3,g4,g5]),z] w0 fun x w'=>∃ p1 a1 b1 q1 d1 f1,x=.returned (.agg (pg10 K N C L E T (.slice p1 a1 b1) (.slice q1 d1 f1) D O).toArray)∧Below w0.heap.size w0 w':=by
 by_cases ht:Tl (xs.drop S)
 ·refine ⟨_,_,_,_,_,_,decide ((xs.drop S).drop 80=List.replicate 8 0),true,?_,fun _=>⟨rfl,rfl,rfl,rfl,rfl,rfl⟩,fun w0 q=>(rpread_yes g0 g1 g3 g4 g5 S z xs w0 (h2.below q) h3 ht).mono ?_⟩
  ·unfold Cm;rw [decide_eq_true ht]
  ·rintro _ w' ⟨po,pc,uo,uc,rfl, -, -,h⟩
   exact ⟨po,S,pc,uo,32,uc,rfl,h⟩
 ·refine ⟨0,0,0,0,0,0,false,false,?_,fun q=>absurd q Bool.false_ne_true,fun w0 q=>(rpread_no g0 g1 g3 g4 g5 S z xs w0 (h2.below q) h3 ht).mono ?_⟩
  ·unfold Cm;rw [decide_eq_false ht];rfl
  ·rintro _ w' ⟨rfl,h⟩
   exact ⟨none,0,0,none,0,0,rfl,h⟩
theorem rdn_any (g0 g1 g3 g4 g5:Int) (S:Nat) (z:Value) (xs:List Int) (w:World) (h2:Byt w z xs) (h3:xs.length=S+88):
  ∃ (K N C L E T:Int) (D O:Bool),(Cm S xs && decide (qk (xs.drop S)=3))=O∧(O=true→K=qk (xs.drop S)∧N=qn (xs.drop S)∧C=qc (xs.drop S)∧L=ql (xs.drop S)∧E=qe (xs.drop S)∧T=qt (xs.drop S))∧
   ∀ w0,Below w.heap.size w w0→Calls Tryz.prog 43 #[.agg (ints .i64 [g0,g1,(S:Int),g3,g4,g5]),z,.int .i64 3] w0 fun x w'=>∃ p1 a1 b1 q1 d1 f1,x=.returned (.agg (pg10 K N C L E T (.slice p1 a1 b1) (.slice q1 d1 f1) D O).toArray)∧Below w0.heap.size w0 w':=by
 have none':∀ (D:Bool),D=false→(∀ w0,Below w.heap.size w w0→Calls Tryz.prog 43 #[.agg (ints .i64 [g0,g1,(S:Int),g3,g4,g5]),z,.int .i64 3] w0 fun x w'=>x=.returned (.agg Z10.toArray)∧Below w0.heap.size w0 w')→(Cm S xs && decide (qk (xs.drop S)=3))=false→
   ∃ (K N C L E T:Int) (D O:Bool),(Cm S xs && decide (qk (xs.drop S)=3))=O∧(O=true→K=qk (xs.drop S)∧N=qn (xs.drop S)∧C=qc (xs.drop S)∧L=ql (xs.drop S)∧E=qe (xs.drop S)∧T=qt (xs.drop S))∧
   ∀ w0,Below w.heap.size w w0→Calls Tryz.prog 43 #[.agg (ints .i64 [g0,g1,(S:Int),g3,g4,g5]),z,.int .i64 3] w0 fun x w'=>∃ p1 a1 b1 q1 d1 f1,x=.returned (.agg (pg10 K N C L E T (.slice p1 a1 b1) (.slice q1 d1 f1) D O).toArray)∧Below w0.heap.size w0 w':=fun _ _ h e=>by
  refine ⟨0,0,0,0,0,0,false,false,e,fun q=>absurd q Bool.false_ne_true,fun w0 q=>(h w0 q).mono ?_⟩
  rintro _ w' ⟨rfl,h⟩
  exact ⟨none,0,0,none,0,0,rfl,h⟩
 by_cases ht:Tl (xs.drop S)
 ·have R:=fun w0 q=>rpread_yes g0 g1 g3 g4 g5 S z xs w0 (h2.below q) h3 ht
  by_cases hc:(xs.drop S).drop 80=List.replicate 8 0
  ·have e:Cm S xs=true:=by unfold Cm;rw [decide_eq_true ht,decide_eq_true hc];rfl
   by_cases hk:qk (xs.drop S)=3
   ·refine ⟨_,_,_,_,_,_,true,true,by rw [e,decide_eq_true hk];rfl,fun _=>⟨rfl,rfl,rfl,rfl,rfl,rfl⟩,fun w0 q=>(rpdone_ok g0 g1 g3 g4 g5 S z 3 w0 _ _ _ _ _ _ _ _ _ (decide_eq_true hc) hk (fun w1 q1=>R w1 (q.trans (q1.mono q.size)))).mono ?_⟩
    rintro _ w' ⟨po,pc,uo,uc,rfl, -, -,h⟩
    exact ⟨po,S,pc,uo,32,uc,rfl,h⟩
   ·exact none' false rfl (fun w0 q=>rpdone_un1 g0 g1 g3 g4 g5 S z 3 w0 _ _ _ _ _ _ _ _ _ (decide_eq_true hc) hk (fun w1 q1=>R w1 (q.trans (q1.mono q.size)))) (by rw [decide_eq_false hk,Bool.and_false])
  ·exact none' false rfl (fun w0 q=>rpdone_un0 g0 g1 g3 g4 g5 S z 3 w0 _ _ _ _ _ _ _ _ _ (decide_eq_false hc) (fun w1 q1=>R w1 (q.trans (q1.mono q.size)))) (by unfold Cm;rw [decide_eq_false hc,Bool.and_false];rfl)
 ·exact none' false rfl (fun w0 q=>rpdone_err g0 g1 g3 g4 g5 S z 3 w0 (fun w1 q1=>rpread_no g0 g1 g3 g4 g5 S z xs w1 (h2.below (q.trans (q1.mono q.size))) h3 ht)) (by unfold Cm;rw [decide_eq_false ht];rfl)
theorem ql_bound {xs:List Int} {S:Nat} (ha:AllB xs) (hl:xs.length=S+88):0≤ql (xs.drop S)∧ql (xs.drop S)≤4294967295:=by
 have h1:(sub (xs.drop S) 4 8).length =4:=by rw [sub_len _ _ _ (by simp;omega)]
 exact (be_num4 h1 (allB_sub (fun j=>by have:=ha (S+j);simpa [gb,List.getD] using this) 4 8)).2
theorem rblock_any (g0 g3 g4 g5 bl:Int) (S P:Nat) (b off n cap:Nat) (f:Nat→List Int) (w:World) (hP:4≤P∧P≤32) (hS:S≤4096) (hn:P≤n) (hA:∀ i,i<n→∃ z,(∀ w',Below w.heap.size w w'→w'.cell? ⟨b,off+i,none⟩=some z)∧Byt w z (f i)∧(f i).length =S+88):
  Calls Tryz.prog 15 #[.agg (ints .i64 [g0,(P:Int),(S:Int),g3,g4,g5]),.int .i64 bl,.slice (some ⟨b,off,none⟩) n cap] w fun x w'=>Tlds S P bl f x w'∧Below w.heap.size w w':=by
 have P4:4≤P∧P≤32:=hP
 have W88:Hid (IntKind.i64.wrap ((S:Int)+88)=((S+88 :Nat):Int)):=(by show _=_;rw [IntKind.wrap_i64];omega)
 have BN:Hid ((((S+88 :Nat):Int) != ((S+88 :Nat):Int))=false):=bne_self_eq_false _
 have HN:=hdH (hn)
 have HA:=hdH (hA)
 have HI0:Hid (0<n):=(by show 0<n;omega)
 obtain ⟨z,a1,a2,a3⟩:=hA 0 (by omega)
 obtain ⟨k0,n0,c0,l0,e0,t0z,D0,O0,hO,hX,hD⟩:=rdn_any g0 (P:Int) g3 g4 g5 S z (f 0) w a2 a3
 obtain ⟨z0,y0,rfl⟩:=byt_form a2 a3
 have HZ0:Hid (w.cell? ⟨b,off+0,none⟩=some (.slice z0 (S+88) y0)∧b<w.heap.size):=⟨a1 w (Below.refl _ _),World.block_lt_of_cell? _ _ (a1 w (Below.refl _ _))⟩
 have SD:=hdH hD
 have HO0:=hdH (hO)
 have HX0:=hdH hX
 have hlB:0≤ql ((f 0).drop S)∧ql ((f 0).drop S)≤4294967295:=ql_bound a2.all a3
 clear hn hA hS hP a1 a2 a3 hO hX hD
 have t0:=tR
 go_enter Tryz.func15,Tryz.ntmps15
 go_wp2_with (first
  |(have q1:=t1;(with_reducible refine at_alloc ?_);refine new_lawN _ Z10t zero_rtold z10_nob ?_;intro w2 X9 N9 B9;have LT_HB0_HV6:Hid (w.heap.size<w1.heap.size):=range_lt HB0.out.1 (Nat.succ_pos _);have LE_HV6:Hid (w.heap.size≤w1.heap.size):=BB.out.size;have HB0:=hdH (HB0.out.below B9 (range_lt HB0.out.1 (Nat.succ_pos _)));have HV6:=hdH (X9);have NB_HV6:=hdH (N9);have BB:=hdH (BB.out.trans (B9.mono BB.out.size));clear hb0_0 hb0_1 hb0_2 hb0_3 hb0_4 hb0_5;have hb0_0:=HB0.out.cell 0 _ rfl;have hb0_1:=HB0.out.cell 1 _ rfl;have hb0_2:=HB0.out.cell 2 _ rfl;have hb0_3:=HB0.out.cell 3 _ rfl;have hb0_4:=HB0.out.cell 4 _ rfl;have hb0_5:=HB0.out.cell 5 _ rfl;clear X9 N9 B9;clear t1;have t2:=tR)
  |(have q0:=t0;refine box_lawC _ [.int .i64 g0,.int .i64 (P:Int),.int .i64 (S:Int),.int .i64 g3,.int .i64 g4,.int .i64 g5] rfl ?_;intro w1 X9 B9 l9;have HB0:=hdH (X9);have BB:=hdH (B9);have hb0_0:=HB0.out.cell 0 _ rfl;have hb0_1:=HB0.out.cell 1 _ rfl;have hb0_2:=HB0.out.cell 2 _ rfl;have hb0_3:=HB0.out.cell 3 _ rfl;have hb0_4:=HB0.out.cell 4 _ rfl;have hb0_5:=HB0.out.cell 5 _ rfl;clear X9 B9 l9;clear t0;have t1:=tR))
 have L6:Hid (w1.heap.size<w2.heap.size):=range_lt HV6.out.1 (Nat.succ_pos _)
 have BW:=hdH (BB.out)
 clear hb0_0 hb0_1 hb0_2 hb0_3 hb0_4 hb0_5
 have HB0:Hid (Vr w2.drew w.heap.size [.int .i64 g0,.int .i64 (P:Int),.int .i64 (S:Int),.int .i64 g3,.int .i64 g4,.int .i64 g5]):=HB0.out.drewN 1
 have HV6:Hid (Vr w2.drew w1.heap.size Z10t):=HV6.out.drewN 1
 have NB_HV6:Hid (NoB w2.drew w1.heap.size):=NB_HV6.out
 have BW:Hid (Below w.heap.size w w2.drew):=BW.out.drew
 refine wp_region_held_drew (S:=fun w'=>Vr w' w.heap.size [.int .i64 g0,.int .i64 (P:Int),.int .i64 (S:Int),.int .i64 g3,.int .i64 g4,.int .i64 g5]∧Below w.heap.size w w') (by kernel_rfl) ⟨HB0.out,BW.out⟩ (fun hS=>?_)
 obtain ⟨x1,hx0⟩:∃ x,x=w2.drew:=⟨_,rfl⟩
 rw [←hx0] at hS HB0 HV6 NB_HV6 BW ⊢
 clear hx0
 refine tkH 0 (some 11) (.slice (some ⟨b,off,none⟩) n cap) rfl rfl (Or.inl ⟨by rfl,fun w' hw'=>by rfl⟩) hS ?_
 simp only [Act.put,zE1,zE2,zE3]
 refine tkH 1 (some 12) (.pointer (some ⟨b,off+0,none⟩)) rfl rfl (Or.inl ⟨by rfl,fun w' hw'=>by exact exec_idxR (.tmp 11) (.const (.int .i64 0)) rfl b off n cap 0 rfl rfl HI0.out _⟩) hS ?_
 simp only [Act.put,zE1,zE2,zE3]
 refine tkH 2 (some 13) (.slice z0 (S+88) y0) rfl rfl (Or.inl ⟨by rfl,fun w' hw'=>by exact exec_loadN 26 (.tmp 12) rfl _ rfl _ _ (load_one one_bytes (by rw [(hw'.2.cell HZ0.out.2)];exact HZ0.out.1))⟩) hS ?_
 simp only [Act.put,zE1,zE2,zE3]
 refine tkH 3 (some 14) (.int .i64 ((S+88 :Nat):Int)) rfl rfl (Or.inl ⟨by rfl,fun w' hw'=>by exact exec_lenB (.tmp 13) rfl _ _ _ rfl _⟩) hS ?_
 simp only [Act.put,zE1,zE2,zE3]
 refine tkH 4 (some 15) (.pointer (some ⟨w.heap.size,2,none⟩)) rfl rfl (Or.inl ⟨by rfl,fun w' hw'=>by go_simp⟩) hS ?_
 simp only [Act.put,zE1,zE2,zE3]
 refine tkH 5 (some 16) (.int .i64 (S:Int)) rfl rfl (Or.inl ⟨by rfl,fun w' hw'=>by exact exec_loadN 3 (.tmp 15) rfl _ rfl _ _ (ld_int (hw'.1.cell 2 _ rfl))⟩) hS ?_
 simp only [Act.put,zE1,zE2,zE3]
 refine tkH 6 (some 17) (.int .i64 ((S+88 :Nat):Int)) rfl rfl (Or.inl ⟨by rfl,fun w' hw'=>by exact na.exec_add (.tmp 16) (.const (.int .i64 88)) rfl (S:Int) 88 _ rfl rfl W88.out⟩) hS ?_
 simp only [Act.put,zE1,zE2,zE3]
 refine tkH 7 (some 18) (.bool false) rfl rfl (Or.inl ⟨by rfl,fun w' hw'=>by exact exec_neqI (.tmp 14) (.tmp 17) rfl _ _ rfl rfl false BN.out _⟩) hS ?_
 simp only [Act.put,zE1,zE2,zE3]
 refine wpAnyH_done (by kernel_rfl) ?_ _
 go_wp2_with fail
 go_cut [7] (fun r7 wc=>∃ (gv:Nat) (p9:Option Addr) (a9 b9:Nat) (q9:Option Addr) (d9 f9:Nat),r7=.pointer (some ⟨gv,0,none⟩)∧Vr wc gv (pg10 k0 n0 c0 l0 e0 t0z (.slice p9 a9 b9) (.slice q9 d9 f9) D0 O0)∧Below x1.heap.size x1 wc∧x1.heap.size≤gv)
 case first=>
  refine wp_region_held_drew (S:=fun w'=>Below x1.heap.size x1 w') (by kernel_rfl) (Below.refl _ _).drew (fun hS=>?_)
  obtain ⟨y1,hx0⟩:∃ x,x=x1.drew:=⟨_,rfl⟩
  rw [←hx0] at hS ⊢
  clear hx0
  refine tkH 0 (some 20) (.agg ([.int .i64 g0,.int .i64 (P:Int),.int .i64 (S:Int),.int .i64 g3,.int .i64 g4,.int .i64 g5]:List Value).toArray) rfl rfl (Or.inl ⟨by rfl,fun w' hw'=>by exact exec_loadN 23 (.tmp 3) rfl _ rfl _ _ (load_cells rowy_geo6 (HB0.out.below hw' (range_lt HB0.out.1 (Nat.succ_pos _))).1)⟩) hS ?_
  simp only [Act.put,zE1,zE2,zE3]
  refine tkH 1 (some 21) (.slice (some ⟨b,off,none⟩) n cap) rfl rfl (Or.inl ⟨by rfl,fun w' hw'=>by rfl⟩) hS ?_
  simp only [Act.put,zE1,zE2,zE3]
  refine tkH 2 (some 22) (.pointer (some ⟨b,off+0,none⟩)) rfl rfl (Or.inl ⟨by rfl,fun w' hw'=>by exact exec_idxR (.tmp 21) (.const (.int .i64 0)) rfl b off n cap 0 rfl rfl HI0.out _⟩) hS ?_
  simp only [Act.put,zE1,zE2,zE3]
  refine tkH 3 (some 23) (.slice z0 (S+88) y0) rfl rfl (Or.inl ⟨by rfl,fun w' hw'=>by exact exec_loadN 26 (.tmp 22) rfl _ rfl _ _ (load_one one_bytes (by rw [(BW.out.trans (hw'.mono BW.out.size)).cell HZ0.out.2];exact HZ0.out.1))⟩) hS ?_
  simp only [Act.put,zE1,zE2,zE3]
  refine wpAnyH_ready (rs:=[4,5]) (by kernel_rfl) (by simp) ?_
  refine AllReadyH.cons rfl (fun K hK=>?_) (AllReadyH.cons rfl (fun K hK=>?_) AllReadyH.nil)
  ·refine step_callW _ (by rfl) (some 24) rfl 43 #[.tmp 20,.tmp 23,.const (.int .i64 3)] #[23,26,3] rfl (fun q w'=>by rfl) #[.agg ([.int .i64 g0,.int .i64 (P:Int),.int .i64 (S:Int),.int .i64 g3,.int .i64 g4,.int .i64 g5]:List Value).toArray,.slice z0 (S+88) y0,.int .i64 3] (by simp only [List.map_toArray,List.map_cons,List.map_nil];rfl) (fun z w'=>(∃ p9 a9 b9 q9 d9 f9,z=.agg (pg10 k0 n0 c0 l0 e0 t0z (.slice p9 a9 b9) (.slice q9 d9 f9) D0 O0).toArray)∧Below y1.heap.size y1 w') ?_ ?_
   ·exact (SD.out y1 (BW.out.trans (hS.mono BW.out.size))).mono fun e w' ⟨p9,a9,b9,q9,d9,f9,h1,h3⟩=>⟨_,h1,⟨p9,a9,b9,q9,d9,f9,rfl⟩,h3⟩
   rintro _ y2 ⟨⟨p9,a9,b9,q9,d9,f9,rfl⟩,hb⟩
   have hS:Below x1.heap.size x1 y2:=hS.trans (hb.mono hS.size)
   clear hb
   refine hK.out _ _ hS (fun _=>?_)
   simp only [Act.put,zE1,zE2,zE3]
   clear hK K
   refine wpAnyH_ready (rs:=[5]) (by kernel_rfl) (by simp) ?_
   refine AllReadyH.cons rfl (fun K hK=>?_) AllReadyH.nil
   refine step_newC _ rfl (some 7) rfl 131 rfl Z10 zero_rpage ?_
   intro y3 v9 hb l9
   have HV:=hdH (v9)
   have LV:Hid (x1.heap.size≤y2.heap.size):=hS.size
   have hS:Below x1.heap.size x1 y3:=hS.trans (hb.mono hS.size)
   clear v9 hb l9
   obtain ⟨gv,hg9⟩:∃ g,g=y2.heap.size:=⟨_,rfl⟩
   rw [←hg9] at HV LV ⊢
   clear hg9
   refine hK.out _ _ hS (fun _=>?_)
   simp only [Act.put,zE1,zE2,zE3]
   clear hK K
   refine wpAnyH_ready (rs:=[6]) (by kernel_rfl) (by simp) ?_
   refine AllReadyH.cons rfl (fun K hK=>?_) AllReadyH.nil
   refine step_storeC _ rfl none rfl (.tmp 7) (.tmp 24) 131 rfl gv Z10 (pg10 k0 n0 c0 l0 e0 t0z (.slice p9 a9 b9) (.slice q9 d9 f9) D0 O0) rfl rfl HV.out rfl rowy_rpage.2 (pg10_one _ _ _ _ _ _ _ _ _ _ _ _ _ _) ?_
   intro y4 v9 B9
   have HP:=hdH (v9)
   have hS:Below x1.heap.size x1 y4:=hS.trans (B9.mono LV.out)
   clear v9 B9
   refine hK.out _ _ hS (fun _=>?_)
   simp only [Act.put]
   clear hK K
   refine wpAnyH_done (by kernel_rfl) ?_ _
   go_wp2_with fail
   go_meet
   exact ⟨gv,p9,a9,b9,q9,d9,f9,rfl,HP.out,hS,LV.out⟩
  ·refine step_newC _ rfl (some 7) rfl 131 rfl Z10 zero_rpage ?_
   intro y5 v9 hb l9
   have HV:=hdH (v9)
   have LV:Hid (x1.heap.size≤y1.heap.size):=hS.size
   have hS:Below x1.heap.size x1 y5:=hS.trans (hb.mono hS.size)
   clear v9 hb l9
   obtain ⟨gv,hg9⟩:∃ g,g=y1.heap.size:=⟨_,rfl⟩
   rw [←hg9] at HV LV ⊢
   clear hg9
   refine hK.out _ _ hS (fun _=>?_)
   simp only [Act.put,zE1,zE2,zE3]
   clear hK K
   refine wpAnyH_ready (rs:=[4]) (by kernel_rfl) (by simp) ?_
   refine AllReadyH.cons rfl (fun K hK=>?_) AllReadyH.nil
   refine step_callW _ (by rfl) (some 24) rfl 43 #[.tmp 20,.tmp 23,.const (.int .i64 3)] #[23,26,3] rfl (fun q w'=>by rfl) #[.agg ([.int .i64 g0,.int .i64 (P:Int),.int .i64 (S:Int),.int .i64 g3,.int .i64 g4,.int .i64 g5]:List Value).toArray,.slice z0 (S+88) y0,.int .i64 3] (by simp only [List.map_toArray,List.map_cons,List.map_nil];rfl) (fun z w'=>(∃ p9 a9 b9 q9 d9 f9,z=.agg (pg10 k0 n0 c0 l0 e0 t0z (.slice p9 a9 b9) (.slice q9 d9 f9) D0 O0).toArray)∧Below y5.heap.size y5 w') ?_ ?_
   ·exact (SD.out y5 (BW.out.trans (hS.mono BW.out.size))).mono fun e w' ⟨p9,a9,b9,q9,d9,f9,h1,h3⟩=>⟨_,h1,⟨p9,a9,b9,q9,d9,f9,rfl⟩,h3⟩
   rintro _ y6 ⟨⟨p9,a9,b9,q9,d9,f9,rfl⟩,hb⟩
   have HV:=hdH (HV.out.below hb (range_lt HV.out.1 (Nat.succ_pos _)))
   have hS:Below x1.heap.size x1 y6:=hS.trans (hb.mono hS.size)
   clear hb
   refine hK.out _ _ hS (fun _=>?_)
   simp only [Act.put,zE1,zE2,zE3]
   clear hK K
   refine wpAnyH_ready (rs:=[6]) (by kernel_rfl) (by simp) ?_
   refine AllReadyH.cons rfl (fun K hK=>?_) AllReadyH.nil
   refine step_storeC _ rfl none rfl (.tmp 7) (.tmp 24) 131 rfl gv Z10 (pg10 k0 n0 c0 l0 e0 t0z (.slice p9 a9 b9) (.slice q9 d9 f9) D0 O0) rfl rfl HV.out rfl rowy_rpage.2 (pg10_one _ _ _ _ _ _ _ _ _ _ _ _ _ _) ?_
   intro y7 v9 B9
   have HP:=hdH (v9)
   have hS:Below x1.heap.size x1 y7:=hS.trans (B9.mono LV.out)
   clear v9 B9
   refine hK.out _ _ hS (fun _=>?_)
   simp only [Act.put]
   clear hK K
   refine wpAnyH_done (by kernel_rfl) ?_ _
   go_wp2_with fail
   go_meet
   exact ⟨gv,p9,a9,b9,q9,d9,f9,rfl,HP.out,hS,LV.out⟩
 case rest=>
  obtain ⟨gv,p9,a9,b9,q9,d9,f9,rfl,h1,h2,h3⟩:=hcut
  obtain ⟨wq,rfl⟩:∃ x,x=wc:=⟨_,rfl⟩
  have HP:=hdH (h1)
  have HB0:=hdH (HB0.out.below h2 (range_lt HB0.out.1 (Nat.succ_pos _)))
  have HV6:=hdH (HV6.out.below h2 (range_lt HV6.out.1 (Nat.succ_pos _)))
  have BW:=hdH (BW.out.trans (h2.mono BW.out.size))
  have L6C:Hid (w1.heap.size<wq.heap.size):=range_lt HV6.out.1 (Nat.succ_pos _)
  have LB0:Hid (w.heap.size<wq.heap.size):=range_lt HB0.out.1 (Nat.succ_pos _)
  clear h1 h2 h3
  have hp_0:=HP.out.cell 0 _ rfl
  have hp_1:=HP.out.cell 1 _ rfl
  have hp_2:=HP.out.cell 2 _ rfl
  have hp_3:=HP.out.cell 3 _ rfl
  have hp_4:=HP.out.cell 4 _ rfl
  have hp_5:=HP.out.cell 5 _ rfl
  have hp_8:=HP.out.cell 8 _ rfl
  have hp_9:=HP.out.cell 9 _ rfl
  have hb0_0:=HB0.out.cell 0 _ rfl
  have hb0_1:=HB0.out.cell 1 _ rfl
  have hb0_2:=HB0.out.cell 2 _ rfl
  have hb0_3:=HB0.out.cell 3 _ rfl
  have hb0_4:=HB0.out.cell 4 _ rfl
  have hb0_5:=HB0.out.cell 5 _ rfl
  by_cases hkn:O0=true∧n0<4
  ·obtain ⟨rfl,h4⟩:=hkn
   have d1:decide (n0>3)=false:=decide_eq_false (by omega)
   have d2:¬n0>3:=by omega
   have d3:¬ 3<n0:=by omega
   have HXD:=hdH (HX0.out rfl)
   have HXC:Hid (hc S (f 0)=hv k0 n0 c0 l0 e0 t0z∧qn ((f 0).drop S)=n0):=(by obtain ⟨rfl,rfl,rfl,rfl,rfl,rfl⟩:=HX0.out rfl;exact ⟨rfl,rfl⟩)
   have KN:Hid (Kn S (f 0)=true):=(by show _=_;unfold Kn;rw [←Bool.and_assoc,HO0.out,←HXD.out.2.1,decide_eq_true h4];rfl)
   have hlb:0≤l0∧l0≤4294967295:=by rw [HXD.out.2.2.2.1];exact hlB
   have hl1:=hlb.1
   have hl2:=hlb.2
   have cv:IntKind.i64.wrap l0=l0:=by rw [IntKind.wrap_i64];omega
   clear hlb HX0 hlB h4
   have t0:=tR
   go_wp2_with (first
    |(have q3:=t3;(with_reducible refine at_store ?_);refine store_lawC _ (tdz k0 n0 c0 l0 e0 t0z (.slice none 0 0)) wq.heap.size 0 rfl rfl HN9.out.2 rowy_rtold.2 (tdz_one _ _ _ _ _ _ rfl) ?_;intro wz E9 R9 T9 B9;have HT:Hid (Vr wz wq.heap.size (tdz k0 n0 c0 l0 e0 t0z (.slice none 0 0))):=⟨R9,T9⟩;have BZ:=hdH (BA9.out.trans B9);clear E9 R9 T9 B9 t3 HN9 BA9 hp_0 hp_1 hp_2 hp_3 hp_4 hp_5 hp_8 hp_9 hb0_0 hb0_1 hb0_2 hb0_3 hb0_4 hb0_5;have HB0:=hdH (HB0.out.below BZ.out (range_lt HB0.out.1 (Nat.succ_pos _)));have hb0_1:=HB0.out.cell 1 _ rfl)
    |(have q2:=t2;(with_reducible refine at_alloc ?_);refine new_lawC _ Z10t zero_rtold ?_;intro wa X9 B9 l9;have HN9:=hdH (X9);have BA9:=hdH (B9);clear X9 B9 l9 t2;have t3:=tR)
    |(have q1:=t1;refine build_law _ rfl 75 _ rfl (.agg (tdz k0 n0 c0 l0 e0 t0z (.slice none 0 0)).toArray) (by kernel_rfl) ?_;clear t1;have t2:=tR)
    |(have q0:=t0;refine load_lawC _ rfl (hv k0 n0 c0 l0 e0 t0z) gv 0 rfl (rpg_head HP.out.1) rowy_head ?_;clear t0;have t1:=tR))
   have WZ0:Hid (wq.heap.size<wz.heap.size):=range_lt HT.out.1 (Nat.succ_pos _)
   have BW1:=hdH (BW.out.trans (BZ.out.mono BW.out.size))
   have LT0:Hid (w.heap.size<wq.heap.size∧w.heap.size≤wq.heap.size):=⟨LB0.out,Nat.le_of_lt LB0.out⟩
   go_loopw [9] (fun i wr=>∃ (k:Nat) (v:Value),k+1≤P∧i=.int .i64 ((k+1 :Nat):Int)∧na.OwR wz.heap.size wr v 81 14 (sps S bl f k)∧Vr wr wq.heap.size (tdz k0 n0 c0 l0 e0 t0z (v))∧Below wq.heap.size wz wr) (fun i _=>P-(intOf i).toNat)
   case atStart=>exact ⟨0,_,by omega,rfl,na.OwR.nil _ _ _ _,HT.out,Below.refl _ _⟩
   case round=>
    obtain ⟨k,v,hk,rfl,hO,hV,hB⟩:=hrel
    obtain ⟨-, -,so,sc,rfl⟩:=owr_slice hO
    have EL:Hid ((sps S bl f k).length ≤32):=Nat.le_trans (sps_len _ _ _ _) (by omega)
    have RZ:=hdH hO.rws
    have HO:=hdH (hO)
    have BX:=hdH (hB)
    have LZ:=hdH (WZ0.out)
    have WZ:Hid (wz.heap.size≤wr.heap.size):=hB.size
    have BW:=hdH (BW1.out.trans (hB.mono LT0.out.2))
    have HB0:=hdH (HB0.out.below hB LT0.out.1)
    have HV6:Hid (Vr wr w1.heap.size Z10t):=(HV6.out.below BZ.out L6C.out).below hB L6C.out
    have HT:=hdH (hV)
    clear hb0_1
    by_cases hlt:k+1<P
    ·have lk:((k+1 :Nat):Int)<(P:Int):=by omega
     have HI1:Hid (k+1<n):=(by have:=HN.out;show _<_;omega)
     obtain ⟨z,a1,a2,a3⟩:=HA.out (k+1) HI1.out
     obtain ⟨k1,n1,c1,l1,e1,t1z,D1,O1,hCm,hX1,hR1⟩:=rrd_any g0 (P:Int) g3 g4 g5 S z (f (k+1)) w a2 a3
     obtain ⟨z1,y1,rfl⟩:=byt_form a2 a3
     have HZ1:Hid (w.cell? ⟨b,off+(k+1),none⟩=some (.slice z1 (S+88) y1)∧b<w.heap.size):=⟨a1 w (Below.refl _ _),World.block_lt_of_cell? _ _ (a1 w (Below.refl _ _))⟩
     have SR:=hdH hR1
     have SPQ:Hid (Sp S (qn ((f 0).drop S)) (f (k+1))=((O1 && D1) && ((decide (qk ((f (k+1)).drop S)=1) || decide (qk ((f (k+1)).drop S)=2)) && decide (qn ((f (k+1)).drop S)=n0)))):=(by show _=_;unfold Sp;rw [hCm,HXC.out.2])
     have HX1:=hdH hX1
     have SX:Hid (O1=true→sc14 S bl f (k+1)=(([.int .i64 bl,.int .i64 ((k+1 :Nat):Int)]:List Value) ++ (hv k1 n1 c1 l1 e1 t1z ++ hv k0 n0 c0 l0 e0 t0z))):=fun q=>by
      obtain ⟨rfl,rfl,rfl,rfl,rfl,rfl⟩:=hX1 q
      unfold sc14;rw [HXC.out.1];rfl
     have SN:Hid (Sp S (qn ((f 0).drop S)) (f (k+1))=true→sps S bl f (k+1)=sps S bl f k ++ [sc14 S bl f (k+1)]):=sps_yes
     have SM:Hid (Sp S (qn ((f 0).drop S)) (f (k+1))=false→sps S bl f (k+1)=sps S bl f k):=sps_no
     generalize sps S bl f k=E at HO HT EL SN SM RZ
     generalize sn':E.length=sn at HO HT
     clear a1 a2 a3 hCm hX1 hR1 HA
     have hb0_0:=HB0.out.cell 0 _ rfl
     have hb0_1:=HB0.out.cell 1 _ rfl
     have hb0_2:=HB0.out.cell 2 _ rfl
     have hb0_3:=HB0.out.cell 3 _ rfl
     have hb0_4:=HB0.out.cell 4 _ rfl
     have hb0_5:=HB0.out.cell 5 _ rfl
     have t0:=tR
     go_wp2_with fail
     have HB0:Hid (Vr wr.drew w.heap.size [.int .i64 g0,.int .i64 (P:Int),.int .i64 (S:Int),.int .i64 g3,.int .i64 g4,.int .i64 g5]):=HB0.out.drewN 1
     have HT:Hid (Vr wr.drew wq.heap.size (tdz k0 n0 c0 l0 e0 t0z (.slice so sn sc))):=HT.out.drewN 1
     have HO:Hid (na.OwR wz.heap.size wr.drew (.slice so sn sc) 81 14 E):=HO.out.low (Below.refl _ _).drew
     have BW:Hid (Below w.heap.size w wr.drew):=BW.out.drew
     have BX:Hid (Below wq.heap.size wz wr.drew):=BX.out.drew
     refine wp_region_held_drew (S:=fun w'=>Vr w' w.heap.size [.int .i64 g0,.int .i64 (P:Int),.int .i64 (S:Int),.int .i64 g3,.int .i64 g4,.int .i64 g5]∧Below w.heap.size w w') (by kernel_rfl) ⟨HB0.out,BW.out⟩ (fun hS=>?_)
     obtain ⟨u1,hx0⟩:∃ x,x=wr.drew:=⟨_,rfl⟩
     rw [←hx0] at hS HB0 HT HO BW BX ⊢
     clear hx0
     refine tkH 0 (some 51) (.slice (some ⟨b,off,none⟩) n cap) rfl rfl (Or.inl ⟨by rfl,fun w' hw'=>by rfl⟩) hS ?_
     simp only [Act.put,zE1,zE2,zE3]
     refine tkH 1 (some 52) (.int .i64 ((k+1 :Nat):Int)) rfl rfl (Or.inl ⟨by rfl,fun w' hw'=>by rfl⟩) hS ?_
     simp only [Act.put,zE1,zE2,zE3]
     refine tkH 2 (some 53) (.pointer (some ⟨b,off+(k+1),none⟩)) rfl rfl (Or.inl ⟨by rfl,fun w' hw'=>by exact exec_idxR (.tmp 51) (.tmp 52) rfl b off n cap (k+1) rfl rfl HI1.out _⟩) hS ?_
     simp only [Act.put,zE1,zE2,zE3]
     refine tkH 3 (some 54) (.slice z1 (S+88) y1) rfl rfl (Or.inl ⟨by rfl,fun w' hw'=>by exact exec_loadN 26 (.tmp 53) rfl _ rfl _ _ (load_one one_bytes (by rw [(hw'.2.cell HZ1.out.2)];exact HZ1.out.1))⟩) hS ?_
     simp only [Act.put,zE1,zE2,zE3]
     refine tkH 4 (some 55) (.int .i64 ((S+88 :Nat):Int)) rfl rfl (Or.inl ⟨by rfl,fun w' hw'=>by exact exec_lenB (.tmp 54) rfl _ _ _ rfl _⟩) hS ?_
     simp only [Act.put,zE1,zE2,zE3]
     refine tkH 5 (some 56) (.pointer (some ⟨w.heap.size,2,none⟩)) rfl rfl (Or.inl ⟨by rfl,fun w' hw'=>by go_simp⟩) hS ?_
     simp only [Act.put,zE1,zE2,zE3]
     refine tkH 6 (some 57) (.int .i64 (S:Int)) rfl rfl (Or.inl ⟨by rfl,fun w' hw'=>by exact exec_loadN 3 (.tmp 56) rfl _ rfl _ _ (ld_int (hw'.1.cell 2 _ rfl))⟩) hS ?_
     simp only [Act.put,zE1,zE2,zE3]
     refine tkH 7 (some 58) (.int .i64 ((S+88 :Nat):Int)) rfl rfl (Or.inl ⟨by rfl,fun w' hw'=>by exact na.exec_add (.tmp 57) (.const (.int .i64 88)) rfl (S:Int) 88 _ rfl rfl W88.out⟩) hS ?_
     simp only [Act.put,zE1,zE2,zE3]
     refine tkH 8 (some 59) (.bool false) rfl rfl (Or.inl ⟨by rfl,fun w' hw'=>by exact exec_neqI (.tmp 55) (.tmp 58) rfl _ _ rfl rfl false BN.out _⟩) hS ?_
     simp only [Act.put,zE1,zE2,zE3]
     refine wpAnyH_done (by kernel_rfl) ?_ _
     go_wp2_with fail
     have WZ9:Hid (wz.heap.size≤u1.heap.size):=BX.out.size
     clear hb0_0 hb0_1 hb0_2 hb0_3 hb0_4 hb0_5
     go_cut [10] (fun r7 wd=>∃ (gv:Nat) (p9:Option Addr) (a9 b9:Nat) (q9:Option Addr) (d9 f9:Nat),r7=.pointer (some ⟨gv,0,none⟩)∧Vr wd gv (pg10 k1 n1 c1 l1 e1 t1z (.slice p9 a9 b9) (.slice q9 d9 f9) D1 O1)∧Below u1.heap.size u1 wd∧u1.heap.size≤gv)
     case first=>
      refine wp_region_held_drew (S:=fun w'=>Below u1.heap.size u1 w') (by kernel_rfl) (Below.refl _ _).drew (fun hS=>?_)
      obtain ⟨v1,hx0⟩:∃ x,x=u1.drew:=⟨_,rfl⟩
      rw [←hx0] at hS ⊢
      clear hx0
      refine tkH 0 (some 60) (.agg ([.int .i64 g0,.int .i64 (P:Int),.int .i64 (S:Int),.int .i64 g3,.int .i64 g4,.int .i64 g5]:List Value).toArray) rfl rfl (Or.inl ⟨by rfl,fun w' hw'=>by exact exec_loadN 23 (.tmp 3) rfl _ rfl _ _ (load_cells rowy_geo6 (HB0.out.below hw' (range_lt HB0.out.1 (Nat.succ_pos _))).1)⟩) hS ?_
      simp only [Act.put,zE1,zE2,zE3]
      refine tkH 1 (some 61) (.slice (some ⟨b,off,none⟩) n cap) rfl rfl (Or.inl ⟨by rfl,fun w' hw'=>by rfl⟩) hS ?_
      simp only [Act.put,zE1,zE2,zE3]
      refine tkH 2 (some 62) (.int .i64 ((k+1 :Nat):Int)) rfl rfl (Or.inl ⟨by rfl,fun w' hw'=>by rfl⟩) hS ?_
      simp only [Act.put,zE1,zE2,zE3]
      refine tkH 3 (some 63) (.pointer (some ⟨b,off+(k+1),none⟩)) rfl rfl (Or.inl ⟨by rfl,fun w' hw'=>by exact exec_idxR (.tmp 61) (.tmp 62) rfl b off n cap (k+1) rfl rfl HI1.out _⟩) hS ?_
      simp only [Act.put,zE1,zE2,zE3]
      refine tkH 4 (some 64) (.slice z1 (S+88) y1) rfl rfl (Or.inl ⟨by rfl,fun w' hw'=>by exact exec_loadN 26 (.tmp 63) rfl _ rfl _ _ (load_one one_bytes (by rw [(BW.out.trans (hw'.mono BW.out.size)).cell HZ1.out.2];exact HZ1.out.1))⟩) hS ?_
      simp only [Act.put,zE1,zE2,zE3]
      refine wpAnyH_ready (rs:=[5,6]) (by kernel_rfl) (by simp) ?_
      refine AllReadyH.cons rfl (fun K hK=>?_) (AllReadyH.cons rfl (fun K hK=>?_) AllReadyH.nil)
      ·refine step_callW _ (by rfl) (some 65) rfl 44 #[.tmp 60,.tmp 64] #[23,26] rfl (fun q w'=>by rfl) #[.agg ([.int .i64 g0,.int .i64 (P:Int),.int .i64 (S:Int),.int .i64 g3,.int .i64 g4,.int .i64 g5]:List Value).toArray,.slice z1 (S+88) y1] (by simp only [List.map_toArray,List.map_cons,List.map_nil];rfl) (fun z w'=>(∃ p9 a9 b9 q9 d9 f9,z=.agg (pg10 k1 n1 c1 l1 e1 t1z (.slice p9 a9 b9) (.slice q9 d9 f9) D1 O1).toArray)∧Below v1.heap.size v1 w') ?_ ?_
       ·exact (SR.out v1 (BW.out.trans (hS.mono BW.out.size))).mono fun e w' ⟨p9,a9,b9,q9,d9,f9,h1,h3⟩=>⟨_,h1,⟨p9,a9,b9,q9,d9,f9,rfl⟩,h3⟩
       rintro _ v2 ⟨⟨p9,a9,b9,q9,d9,f9,rfl⟩,hb⟩
       have hS:Below u1.heap.size u1 v2:=hS.trans (hb.mono hS.size)
       clear hb
       refine hK.out _ _ hS (fun _=>?_)
       simp only [Act.put,zE1,zE2,zE3]
       clear hK K
       refine wpAnyH_ready (rs:=[6]) (by kernel_rfl) (by simp) ?_
       refine AllReadyH.cons rfl (fun K hK=>?_) AllReadyH.nil
       refine step_newC _ rfl (some 10) rfl 131 rfl Z10 zero_rpage ?_
       intro v3 v9 hb l9
       have HV:=hdH (v9)
       have LV:Hid (u1.heap.size≤v2.heap.size):=hS.size
       have hS:Below u1.heap.size u1 v3:=hS.trans (hb.mono hS.size)
       clear v9 hb l9
       obtain ⟨gv,hg9⟩:∃ g,g=v2.heap.size:=⟨_,rfl⟩
       rw [←hg9] at HV LV ⊢
       clear hg9
       refine hK.out _ _ hS (fun _=>?_)
       simp only [Act.put,zE1,zE2,zE3]
       clear hK K
       refine wpAnyH_ready (rs:=[7]) (by kernel_rfl) (by simp) ?_
       refine AllReadyH.cons rfl (fun K hK=>?_) AllReadyH.nil
       refine step_storeC _ rfl none rfl (.tmp 10) (.tmp 65) 131 rfl gv Z10 (pg10 k1 n1 c1 l1 e1 t1z (.slice p9 a9 b9) (.slice q9 d9 f9) D1 O1) rfl rfl HV.out rfl rowy_rpage.2 (pg10_one _ _ _ _ _ _ _ _ _ _ _ _ _ _) ?_
       intro v4 v9 B9
       have HP:=hdH (v9)
       have hS:Below u1.heap.size u1 v4:=hS.trans (B9.mono LV.out)
       clear v9 B9
       refine hK.out _ _ hS (fun _=>?_)
       simp only [Act.put]
       clear hK K
       refine wpAnyH_done (by kernel_rfl) ?_ _
       go_wp2_with fail
       go_meet
       exact ⟨gv,p9,a9,b9,q9,d9,f9,rfl,HP.out,hS,LV.out⟩
      ·refine step_newC _ rfl (some 10) rfl 131 rfl Z10 zero_rpage ?_
       intro v5 v9 hb l9
       have HV:=hdH (v9)
       have LV:Hid (u1.heap.size≤v1.heap.size):=hS.size
       have hS:Below u1.heap.size u1 v5:=hS.trans (hb.mono hS.size)
       clear v9 hb l9
       obtain ⟨gv,hg9⟩:∃ g,g=v1.heap.size:=⟨_,rfl⟩
       rw [←hg9] at HV LV ⊢
       clear hg9
       refine hK.out _ _ hS (fun _=>?_)
       simp only [Act.put,zE1,zE2,zE3]
       clear hK K
       refine wpAnyH_ready (rs:=[5]) (by kernel_rfl) (by simp) ?_
       refine AllReadyH.cons rfl (fun K hK=>?_) AllReadyH.nil
       refine step_callW _ (by rfl) (some 65) rfl 44 #[.tmp 60,.tmp 64] #[23,26] rfl (fun q w'=>by rfl) #[.agg ([.int .i64 g0,.int .i64 (P:Int),.int .i64 (S:Int),.int .i64 g3,.int .i64 g4,.int .i64 g5]:List Value).toArray,.slice z1 (S+88) y1] (by simp only [List.map_toArray,List.map_cons,List.map_nil];rfl) (fun z w'=>(∃ p9 a9 b9 q9 d9 f9,z=.agg (pg10 k1 n1 c1 l1 e1 t1z (.slice p9 a9 b9) (.slice q9 d9 f9) D1 O1).toArray)∧Below v5.heap.size v5 w') ?_ ?_
       ·exact (SR.out v5 (BW.out.trans (hS.mono BW.out.size))).mono fun e w' ⟨p9,a9,b9,q9,d9,f9,h1,h3⟩=>⟨_,h1,⟨p9,a9,b9,q9,d9,f9,rfl⟩,h3⟩
       rintro _ v6 ⟨⟨p9,a9,b9,q9,d9,f9,rfl⟩,hb⟩
       have HV:=hdH (HV.out.below hb (range_lt HV.out.1 (Nat.succ_pos _)))
       have hS:Below u1.heap.size u1 v6:=hS.trans (hb.mono hS.size)
       clear hb
       refine hK.out _ _ hS (fun _=>?_)
       simp only [Act.put,zE1,zE2,zE3]
       clear hK K
       refine wpAnyH_ready (rs:=[7]) (by kernel_rfl) (by simp) ?_
       refine AllReadyH.cons rfl (fun K hK=>?_) AllReadyH.nil
       refine step_storeC _ rfl none rfl (.tmp 10) (.tmp 65) 131 rfl gv Z10 (pg10 k1 n1 c1 l1 e1 t1z (.slice p9 a9 b9) (.slice q9 d9 f9) D1 O1) rfl rfl HV.out rfl rowy_rpage.2 (pg10_one _ _ _ _ _ _ _ _ _ _ _ _ _ _) ?_
       intro v7 v9 B9
       have HP:=hdH (v9)
       have hS:Below u1.heap.size u1 v7:=hS.trans (B9.mono LV.out)
       clear v9 B9
       refine hK.out _ _ hS (fun _=>?_)
       simp only [Act.put]
       clear hK K
       refine wpAnyH_done (by kernel_rfl) ?_ _
       go_wp2_with fail
       go_meet
       exact ⟨gv,p9,a9,b9,q9,d9,f9,rfl,HP.out,hS,LV.out⟩
     case rest=>
      obtain ⟨gq,p9,a9,b9,q9,d9,f9,rfl,h1,h2, -⟩:=hcut
      obtain ⟨wd,rfl⟩:∃ x,x=wc:=⟨_,rfl⟩
      have HQ:=hdH (h1)
      have BD:=hdH (h2)
      have HT:=hdH (HT.out.below h2 (range_lt HT.out.1 (Nat.succ_pos _)))
      have HO:=hdH (HO.out.low h2)
      have HB0:=hdH (HB0.out.below h2 (range_lt HB0.out.1 (Nat.succ_pos _)))
      have WZ9:Hid (wz.heap.size≤wd.heap.size):=Nat.le_trans WZ9.out h2.size
      have LU:Hid (wq.heap.size≤u1.heap.size):=Nat.le_trans (Nat.le_of_lt LZ.out) BX.out.size
      clear h1 h2
      have hq_0:=HQ.out.cell 0 _ rfl
      have hq_1:=HQ.out.cell 1 _ rfl
      have hq_8:=HQ.out.cell 8 _ rfl
      have hq_9:=HQ.out.cell 9 _ rfl
      have ht_1:=HT.out.cell 1 _ rfl
      have ht_9:=HT.out.cell 9 _ rfl
      have hb0_1:=HB0.out.cell 1 _ rfl
      have SPK:O1=true→Sp S (qn ((f 0).drop S)) (f (k+1))=(D1 && ((decide (k1=1) || decide (k1=2)) && decide (n1=n0))):=fun q=>by
       rw [SPQ.out,q,Bool.true_and]
       obtain ⟨rfl,rfl,rfl,rfl,rfl,rfl⟩:=HX1.out q
       rfl
      cases hsp:Sp S (qn ((f 0).drop S)) (f (k+1)) with
      |true=>
       have c:O1=true∧D1=true∧((k1 == 1)=true∨((k1 == 1)=false∧(k1 == 2)=true))∧(n1 == n0)=true:=by
        cases O1 with
        |false=>rw [SPQ.out] at hsp;simp at hsp
        |true=>
         rw [SPK rfl] at hsp
         simp only [Bool.and_eq_true,Bool.or_eq_true,decide_eq_true_eq] at hsp
         refine ⟨rfl,hsp.1,?_,beq_iff_eq.2 hsp.2.2⟩
         rcases hsp.2.1 with q | q
         ·exact .inl (beq_iff_eq.2 q)
         ·exact .inr ⟨beq_eq_false_iff_ne.2 (by rw [q];decide),beq_iff_eq.2 q⟩
       obtain ⟨rfl,rfl,ck,cn⟩:=c
       have ES:=hdH (SN.out hsp)
       rw [SX.out rfl] at ES
       clear SPK hsp SPQ HX1 SX SN SM SR
       have t0:=tR
       rcases ck with ck | ⟨ck,ck2⟩ <;>
       (go_wp2_with (first
       |(have q5:=t5;(with_reducible refine at_store ?_);obtain ⟨u7,u8, -⟩:=owr_slice HO2.out;refine set_law1 _ rfl _ _ 73 rfl (tdz k0 n0 c0 l0 e0 t0z (.slice so sn sc)) wq.heap.size 9 v9 rfl rfl HT.out (by show 9<10;omega) u7 u8 one_rspots.2 ?_;intro w73 V9 G9;have BQ:Hid (Below wq.heap.size w72 w73):=below_gr G9 (Nat.le_refl _) (Nat.le_of_lt (range_lt HT.out.1 (Nat.succ_pos _)));have HT:=hdH (V9);have HO2:Hid (na.OwR wz.heap.size w73 v9 81 14 (E ++ [(([.int .i64 bl,.int .i64 ((k+1 :Nat):Int)]:List Value) ++ (hv k1 n1 c1 l1 e1 t1z ++ hv k0 n0 c0 l0 e0 t0z))])):=owr_grown HO2.out G9 LZ.out;clear V9 G9 u7 u8 ht_9 t5;have t6:=tR)
       |(have q4:=t4;refine na.push_lawT _ Tryz.underlying73 _ 14 112 info_rspot rfl (by omega) wz.heap.size WZ9.out (.slice so sn sc) _ E [(([.int .i64 bl,.int .i64 ((k+1 :Nat):Int)]:List Value) ++ (hv k1 n1 c1 l1 e1 t1z ++ hv k0 n0 c0 l0 e0 t0z))] rfl rfl HO.out RW.out (by intro u hu;simp only [List.flatten_cons,List.flatten_nil,List.append_nil] at hu;exact sp_one _ _ _ _ _ _ _ _ _ _ _ _ _ _ u hu) (by have:=EL.out;simp;omega) (by have:=EL.out;simp;omega) (by simp) ?_;intro v9 w72 O9 G9;have HO2:=hdH (O9);have BP:Hid (Below wq.heap.size w71 w72):=push_below G9 HO.out (Nat.le_of_lt LZ.out) (Nat.le_of_lt (range_lt HT.out.1 (Nat.succ_pos _)));have HT:=hdH (HT.out.heap (push_heap G9 HO.out LZ.out (range_lt HT.out.1 (Nat.succ_pos _))));clear O9 G9 ht_1 ht_9 hq_0 hq_1 hq_8 hq_9 hb0_1 t4;have ht_9:=HT.out.cell 9 _ rfl;have t5:=tR)
       |(have q3:=t3;refine one_lawT _ rfl _ 73 81 rfl (([.int .i64 bl,.int .i64 ((k+1 :Nat):Int)]:List Value) ++ (hv k1 n1 c1 l1 e1 t1z ++ hv k0 n0 c0 l0 e0 t0z)) rfl (fun w=>build_rsp _ _ _ _ _ _ _ _ _ _ _ _ _ _ w) ?_;intro w71 R9 B9;have RW:=hdH (R9);have HT:=hdH (HT.out.below B9 (range_lt HT.out.1 (Nat.succ_pos _)));have HO:=hdH (HO.out.low B9);have BD:=hdH (BD.out.trans (B9.mono BD.out.size));have WZ9:Hid (wz.heap.size≤w71.heap.size):=Nat.le_trans WZ9.out B9.size;clear R9 B9 t3 ht_1 ht_9;have ht_9:=HT.out.cell 9 _ rfl;have ht_1:=HT.out.cell 1 _ rfl;have t4:=tR)
       |(have q2:=t2;refine build_law _ rfl 81 _ rfl (.agg (([.int .i64 bl,.int .i64 ((k+1 :Nat):Int)]:List Value) ++ (hv k1 n1 c1 l1 e1 t1z ++ hv k0 n0 c0 l0 e0 t0z)).toArray) (by kernel_rfl) ?_;clear t2;have t3:=tR)
       |(have q1:=t1;refine load_lawC _ rfl (hv k0 n0 c0 l0 e0 t0z) wq.heap.size 3 rfl (tdz_ord HT.out.1) rowy_head ?_;clear t1;have t2:=tR)
       |(have q0:=t0;(with_reducible refine at_loadH ?_);refine load_lawC _ rfl (hv k1 n1 c1 l1 e1 t1z) gq 0 rfl (rpg_head HQ.out.1) rowy_head ?_;clear t0;have t1:=tR))
        go_roundw
        case rel=>exact ⟨k+1,v9,by omega,by go_num,by rw [ES.out];exact HO2.out,HT.out,BX.out.trans ((BD.out.mono LU.out).trans (BP.out.trans BQ.out))⟩
        case measure=>simp [intOf];omega)
      |false=>
       have c:O1=false∨(O1=true∧D1=false)∨(O1=true∧D1=true∧(k1 == 1)=false∧(k1 == 2)=false)∨(O1=true∧D1=true∧(k1 == 1)=true∧(n1 == n0)=false)∨(O1=true∧D1=true∧(k1 == 1)=false∧(k1 == 2)=true∧(n1 == n0)=false):=by
        cases O1 with
        |false=>exact .inl rfl
        |true=>
         cases D1 with
         |false=>exact .inr (.inl ⟨rfl,rfl⟩)
         |true=>
          rw [SPK rfl,Bool.true_and] at hsp
          by_cases c1:k1=1
          ·rw [decide_eq_true c1,Bool.true_or,Bool.true_and] at hsp
           exact .inr (.inr (.inr (.inl ⟨rfl,rfl,beq_iff_eq.2 c1,beq_eq_false_iff_ne.2 (of_decide_eq_false hsp)⟩)))
          ·by_cases c2:k1=2
           ·rw [decide_eq_true c2,Bool.or_true,Bool.true_and] at hsp
            exact .inr (.inr (.inr (.inr ⟨rfl,rfl,beq_eq_false_iff_ne.2 c1,beq_iff_eq.2 c2,beq_eq_false_iff_ne.2 (of_decide_eq_false hsp)⟩)))
           ·exact .inr (.inr (.inl ⟨rfl,rfl,beq_eq_false_iff_ne.2 c1,beq_eq_false_iff_ne.2 c2⟩))
       have ES:=hdH (SM.out hsp)
       clear SPK hsp SPQ HX1 SX SN SM SR
       rcases c with rfl | ⟨rfl,rfl⟩ | ⟨rfl,rfl,ck,ck2⟩ | ⟨rfl,rfl,ck,cn⟩ | ⟨rfl,rfl,ck,ck2,cn⟩ <;>
       (go_wp2
        go_roundw
        case rel=>exact ⟨k+1,_,by omega,by go_num,by rw [ES.out];exact HO.out,HT.out,BX.out.trans (BD.out.mono LU.out)⟩
        case measure=>simp [intOf];omega)
    ·have ek:k+1=P:=by omega
     have nk:¬((k+1 :Nat):Int)<(P:Int):=by omega
     have PK:Hid (P-1=k):=(by show _=_;omega)
     have hb0_1:=HB0.out.cell 1 _ rfl
     have t0:=tR
     go_wp2_with (first
      |(have q1:=t1;(with_reducible refine at_store ?_);refine store_lawC _ (tdz k0 n0 c0 l0 e0 t0z (.slice so (sps S bl f k).length sc)) w1.heap.size 0 rfl rfl HV6.out.2 rowy_rtold.2 (tdz_one _ _ _ _ _ _ rfl) ?_;intro w50 E9 R9 T9 B9;have HF:Hid (Vr w50 w1.heap.size (tdz k0 n0 c0 l0 e0 t0z (.slice so (sps S bl f k).length sc))):=⟨R9,T9⟩;have BF:=hdH (BW.out.trans (B9.mono LE_HV6.out));have RZ:Hid (na.Rws w50 (.slice so (sps S bl f k).length sc) 14 (sps S bl f k)):=(owr_grown HO.out (by rw [E9.out];exact grown_cells _ _ _ _) (Nat.lt_trans L6C.out LZ.out)).rws;clear E9 R9 T9 B9 t1;have t2:=tR)
      |(have q0:=t0;refine load_lawC _ rfl (tdz k0 n0 c0 l0 e0 t0z (.slice so (sps S bl f k).length sc)) wq.heap.size 0 rfl HT.out.1 rowy_rtold ?_;clear t0;have t1:=tR))
     exact bodyPost_ret (v:=.agg (tdz k0 n0 c0 l0 e0 t0z (.slice so (sps S bl f k).length sc)).toArray) (results_c rfl _ _ w1.heap.size _ rowy_rtold rfl HF.out.1) rfl ⟨.inr ⟨KN.out,_,by rw [td_eq,←HXD.out.1,←HXD.out.2.1,←HXD.out.2.2.1,←HXD.out.2.2.2.1,←HXD.out.2.2.2.2.1,←HXD.out.2.2.2.2.2],by rw [PK.out];exact RZ.out⟩,BF.out⟩
  ·have KN:Hid (Kn S (f 0)=false):=(by
    show _=_
    unfold Kn
    rw [←Bool.and_assoc,HO0.out]
    cases hq:O0 with
    |false=>rfl
    |true=>
     have z:=HX0.out hq
     rw [←z.2.1,decide_eq_false (fun q=>hkn ⟨hq,q⟩)];rfl)
   have c:O0=false∨(O0=true∧decide (n0>3)=true∧n0>3):=by
    cases O0 with
    |false=>exact .inl rfl
    |true=>
     have z:¬n0<4:=fun q=>hkn ⟨rfl,q⟩
     exact .inr ⟨rfl,decide_eq_true (by omega),by omega⟩
   clear hkn hlB HX0 HO0
   rcases c with rfl | ⟨rfl,d1,d2⟩ <;>
   (
    have t0:=tR
    go_wp2_with (first
     |(have q1:=t1;(with_reducible refine at_store ?_);refine store_lawC _ Z10t w1.heap.size 0 rfl rfl HV6.out.2 rowy_rtold.2 z10_one ?_;intro w60 E9 R9 T9 B9;have HV6:Hid (Vr w60 w1.heap.size Z10t):=⟨R9,T9⟩;have BB:=hdH (BW.out.trans (B9.mono LE_HV6.out));clear E9 R9 T9 B9 t1;have t2:=tR)
     |(have q0:=t0;refine build_law _ rfl 75 _ rfl (.agg Z10t.toArray) (by kernel_rfl) ?_;clear t0;have t1:=tR))
    exact bodyPost_ret (v:=.agg Z10t.toArray) (results_c rfl _ _ w1.heap.size _ rowy_rtold rfl HV6.out.1) rfl ⟨.inl ⟨KN.out,rfl⟩,BB.out⟩)
end Go.Proofs.YtmbgokmomkmgcaaGreatDoor.sc
