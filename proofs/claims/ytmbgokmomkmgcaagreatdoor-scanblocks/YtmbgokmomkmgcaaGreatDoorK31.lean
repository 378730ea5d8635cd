/- Parts of the proof: what ScanBlocks reaches. No claim of its own. -/
import Derived.Lib.MakeNoZero
import Derived.Deep.DeepCutAuto
import Derived.Deep.RegionHeld3
import Derived.Laws.AppendOwnNone
import Derived.Lib.AppendZeros
import Derived.Lib.SliceRun
import Derived.Laws.StructEq
import Derived.ArgAppend
import Derived.WalkKit
import Derived.WalkSmall
import Derived.ProofKit
import Derived.OpenShut
import Derived.BigQuiet
import Derived.Deep.QuietTactic
import Derived.Deep.WholeRow
import Derived.Deep.MidRow
import Derived.Deep.RegionWith
import Derived.Deep.DeepHandedRow
import Derived.Lib.LaidTab
import Derived.Deep.Matrix
import Derived.OwnWalk
import Derived.Test.YtmbgokmomkmgcaaGreatDoorK00
import Derived.Test.YtmbgokmomkmgcaaGreatDoorK01
import Derived.Test.YtmbgokmomkmgcaaGreatDoorK02
import Derived.Test.YtmbgokmomkmgcaaGreatDoorK03
import Derived.Test.YtmbgokmomkmgcaaGreatDoorK04
import Derived.Test.YtmbgokmomkmgcaaGreatDoorK05
import Derived.Test.YtmbgokmomkmgcaaGreatDoorK06
import Derived.Test.YtmbgokmomkmgcaaGreatDoorK07
import Derived.Test.YtmbgokmomkmgcaaGreatDoorK08
import Derived.Test.YtmbgokmomkmgcaaGreatDoorK09
import Derived.Test.YtmbgokmomkmgcaaGreatDoorK10
import Derived.Test.YtmbgokmomkmgcaaGreatDoorK11
import Derived.Test.YtmbgokmomkmgcaaGreatDoorK12
import Derived.Test.YtmbgokmomkmgcaaGreatDoorK13
import Derived.Test.YtmbgokmomkmgcaaGreatDoorK14
import Derived.Test.YtmbgokmomkmgcaaGreatDoorK15
import Derived.Test.YtmbgokmomkmgcaaGreatDoorK16
import Derived.Test.YtmbgokmomkmgcaaGreatDoorK17
import Derived.Test.YtmbgokmomkmgcaaGreatDoorK18
import Derived.Test.YtmbgokmomkmgcaaGreatDoorK19
import Derived.Test.YtmbgokmomkmgcaaGreatDoorK20
import Derived.Test.YtmbgokmomkmgcaaGreatDoorK21
import Derived.Test.YtmbgokmomkmgcaaGreatDoorK22
import Derived.Test.YtmbgokmomkmgcaaGreatDoorK23
import Derived.Test.YtmbgokmomkmgcaaGreatDoorK25
import Derived.Test.YtmbgokmomkmgcaaGreatDoorK26
import Derived.Test.YtmbgokmomkmgcaaGreatDoorK27
import Derived.Test.YtmbgokmomkmgcaaGreatDoorK28
import Derived.Test.YtmbgokmomkmgcaaGreatDoorK29
import Derived.Test.YtmbgokmomkmgcaaGreatDoorK30
set_option maxHeartbeats 8000000
namespace Go.Proofs.YtmbgokmomkmgcaaGreatDoor.sc
open Go.RowKit Go.Proofs.YtmbgokmomkmgcaaGreatDoor.fa Go.Proofs.YtmbgokmomkmgcaaGreatDoor.he Go.Proofs.YtmbgokmomkmgcaaGreatDoor.pa
set_option maxRecDepth 20000
def Pd (w:World) (g P T k:Nat):Prop:=∃ vs:List Value,vs.length=P∧Vr w g vs∧NoB w g∧∀ j,j<k→∃ z,vs[j]? =some z∧Byt w z (List.replicate T 255)
theorem Pd.lt {w:World} {g P T k:Nat} (h:Pd w g P T k) (hP:0<P):g<w.heap.size:=by
 obtain ⟨vs,e1,e2, -⟩:=h
 exact range_lt e2.1 (by omega)
theorem Pd.below {w w':World} {g P T k:Nat} (h:Pd w g P T k) (hP:0<P) (hb:Below w.heap.size w w'):Pd w' g P T k:=by
 have l:=h.lt hP
 obtain ⟨vs,e1,e2,e3,e4⟩:=h
 exact ⟨vs,e1,e2.below hb l,e3.heap (hb.block g l),fun j hj=>by
  obtain ⟨z,a,b⟩:=e4 j hj
  exact ⟨z,a,b.below hb⟩⟩
theorem Pd.set {w w':World} {g P T k:Nat} {vs:List Value} {v:Value} (e1:vs.length=P) (e4:∀ j,j<k→∃ z,vs[j]? =some z∧Byt w z (List.replicate T 255)) (nb:NoB w g) (h2:Vr w' g (vs.set k v)) (n:NoB w' g) (hk:k<P) (k9:∀ c,c≠g→w'.heap[c]? =w.heap[c]?) (hv:Byt w v (List.replicate T 255)):Pd w' g P T (k+1):=
 ⟨vs.set k v,by simp [e1],h2,n,fun j hj=>by
  by_cases e:j=k
  ·subst e
   exact ⟨v,by rw [List.getElem?_set_self (by omega)],byt_nob hv nb k9⟩
  ·obtain ⟨z,a,b⟩:=e4 j (by omega)
   exact ⟨z,by rw [List.getElem?_set_ne (Ne.symm e)];exact a,byt_nob b nb k9⟩⟩
theorem block_new (g0 g3 g4 g5 bl:Int) (S P b:Nat) (w:World) (hr:ge.Rt [g0,(P:Int),(S:Int),g3,g4,g5]) (hT:Tab w) (hP:0<P) (h:Pd w b P (S+88) P):
  Calls Tryz.prog 14 #[.agg (ints .i64 [g0,(P:Int),(S:Int),g3,g4,g5]),.int .i64 bl,.slice (some ⟨b,0,none⟩) P P] w fun x w'=>x=.returned (.agg Z10t.toArray)∧Below w.heap.size w w':=by
 have l:=h.lt hP
 obtain ⟨vs,e1,e2,e3,e4⟩:=h
 refine (block_any g0 g3 g4 g5 bl S P b 0 P P (fun _=>List.replicate (S+88) 255) w hr hT (Nat.le_refl _) (fun i hi=>?_)).mono ?_
 ·obtain ⟨z,h1,h2⟩:=e4 i hi
  exact ⟨z,fun w' hb=>by rw [Nat.zero_add];exact (e2.below hb l).cell i z h1,h2,by simp⟩
 ·rintro x w' ⟨h1,h2⟩
  refine ⟨?_,h2⟩
  rcases h1 with ⟨-,h1⟩ | ⟨h1, -⟩
  ·exact h1
  ·rw [kn_blank] at h1;cases h1
section
variable {ops:Array Oper} {o:Oper} {a:Act} {Q:Exit→Act→World→Prop} {K:Act→World→Prop} {E:Prop}
theorem step_storeZ (w:World) (hg:o.guard=none) (d:Option Tmp) (hd:o.dst=d) (x y:Operand) (t:TypeId) (hop:o.op=Op.store t x y) (c p:Nat) (cs:List Value) (hx:a.eval x=.pointer (some ⟨c,p,none⟩)) (hy:a.eval y=.agg cs.toArray) (ht:w.there c p cs.length) (hs:(Tryz.prog.info? t).map (·.size)=some cs.length) (h1:∀ v ∈ cs,v.oneCell'=true)
  (hK:∀ w',Hid (w'=w.setCells c p cs)→K (a.put d undef) w'):if Region.wanted o (yielded ops a.tmps)=true then Oper.wp Tryz.prog o a w K Q else E:=by
 have hw:Region.wanted o (yielded ops a.tmps)=true:=by simp [Region.wanted,hg]
 rw [if_pos hw]
 subst hd
 exact wp_store_mid t x y hop c p cs.toArray hx hy (by simpa using ht) (by simpa using hs) (all_oneCell_toArray h1) (hK _ rfl)
end
theorem zero_geo6:(Tryz.prog.info? 23).map (fun i=>(i.zero,i.size))=some (some (.agg ([.int .i64 0,.int .i64 0,.int .i64 0,.int .i64 0,.int .i64 0,.int .i64 0]:List Value).toArray),6):=by kernel_rfl
theorem data_new (H:Ch) (M:Nat→Bool) (n:Nat) (w:World) (h:Cs H M w (na.new H.T) []) (hT:Tab w) (hr:ge.Rt [(H.N:Int),(H.P:Int),(H.S:Int),H.g3,H.g4,H.g5]) (hn:H.N=n+4):Calls Tryz.prog 26 #[.pointer (some ⟨H.c,0,none⟩)] w fun e w'=>(∃ g,e=.returned (.slice (some ⟨g,0,none⟩) n n)∧Zr w' g n 10 Z10t)∧Below w.heap.size w w':=by
 have hm:=h.num
 have HC:=hdH (h)
 have HT:=hdH (hT)
 have RT:=hdH (hr)
 have HN:=hdH (hn)
 have NL:Hid (n≤60∧H.P≤32):=⟨by omega,by omega⟩
 have NL:Hid (n≤64∧H.P≤32):=⟨by omega,by omega⟩
 have HP0:Hid (0<H.P):=by have:=hm.2.2.1;exact (by omega:0<H.P)
 have SD:Hid (∀ w,Calls Tryz.prog 61 #[.agg (ints .i64 [(H.N:Int),(H.P:Int),(H.S:Int),H.g3,H.g4,H.g5])] w fun x w'=>x=.returned (.int .i64 (n:Int))∧Below w.heap.size w w'):=fun w=>(ge.data_yes _ rfl hr w).mono fun e w' q=>⟨q.1.trans (congrArg (fun z=>Ending.returned (.int .i64 z)) (by show (H.N:Int)-4=(n:Int);omega)),q.2⟩
 have nb:n≤60:=by omega
 have pb:H.P≤32:=by omega
 clear h hT hr hn hm
 have t0:=tR
 go_enter Tryz.func26,Tryz.ntmps26
 go_wp2_with (first
  |(have q5:=t5;refine make_lawT _ rfl _ _ rfl _ n rfl rfl rfl NL.out.1 ?_;intro we Z9 B9 l9;have HZ:=hdH (Z9);have LZ:Hid (wa.heap.size<wd.heap.size∧w.heap.size≤wa.heap.size∧wd.heap.size<we.heap.size):=⟨range_lt H3.out.1 (Nat.succ_pos _),WA.out,l9⟩;have BB:=hdH (BB.out.trans (B9.mono BB.out.size));have H3:=hdH (H3.out.below B9 LZ.out.1);clear Z9 B9 l9 t5)
  |(have q4:=t4;go_at_call 61;refine (SD.out _).mono ?_;rintro e9 wd ⟨rfl,B9⟩;have BB:=hdH (BB.out.trans (B9.mono BB.out.size));have H3:=hdH (H3.out.below B9 (range_lt H3.out.1 (Nat.succ_pos _)));clear B9 t4;have t5:=tR)
  |(have q3:=t3;refine load_lawC _ rfl [.int .i64 (H.N:Int),.int .i64 (H.P:Int),.int .i64 (H.S:Int),.int .i64 H.g3,.int .i64 H.g4,.int .i64 H.g5] wa.heap.size 0 rfl H3.out.1 rowy_geo6 ?_;clear t3;have t4:=tR)
  |(have q2:=t2;(with_reducible refine at_store ?_);refine store_lawC _ [.int .i64 (H.N:Int),.int .i64 (H.P:Int),.int .i64 (H.S:Int),.int .i64 H.g3,.int .i64 H.g4,.int .i64 H.g5] wa.heap.size 0 rfl rfl H3.out.2 rowy_geo6.2 (by intro v hv;simp at hv;rcases hv with rfl | rfl | rfl | rfl | rfl | rfl <;> rfl) ?_;intro wc E9 R9 T9 B9;have H3:Hid (Vr wc wa.heap.size [.int .i64 (H.N:Int),.int .i64 (H.P:Int),.int .i64 (H.S:Int),.int .i64 H.g3,.int .i64 H.g4,.int .i64 H.g5]):=⟨R9,T9⟩;have BB:=hdH (BB.out.trans ((B3.out.trans B9).mono BB.out.size));clear E9 R9 T9 B9 B3 t2;have t3:=tR)
  |(have q1:=t1;(with_reducible refine at_alloc ?_);refine new_lawC _ [.int .i64 0,.int .i64 0,.int .i64 0,.int .i64 0,.int .i64 0,.int .i64 0] zero_geo6 ?_;intro wb X9 B9 l9;have H3:=hdH (X9);have B3:=hdH (B9);clear X9 B9 l9 t1;have t2:=tR)
  |(have q0:=t0;go_at_call 25;refine (geo_cs HC.out).mono ?_;rintro e9 wa ⟨rfl,B9⟩;have WA:Hid (w.heap.size≤wa.heap.size):=B9.size;have BB:=hdH (B9);clear B9 t0;have t1:=tR))
 go_loopw [5,6,7,15,23] (fun _ _ _ i _ wr=>∃ k:Nat,k≤n∧i=.int .i64 (k:Int)∧Zr wr wd.heap.size n 10 Z10t∧Vr wr wa.heap.size [.int .i64 (H.N:Int),.int .i64 (H.P:Int),.int .i64 (H.S:Int),.int .i64 H.g3,.int .i64 H.g4,.int .i64 H.g5]∧Below w.heap.size w wr∧wd.heap.size<wr.heap.size) (fun _ _ _ i _ _=>n-(intOf i).toNat)
 case atStart=>exact ⟨0,Nat.zero_le _,rfl,HZ.out,H3.out,BB.out,LZ.out.2.2⟩
 case round=>
  obtain ⟨k,hk,rfl,h1,h2,h3,h4⟩:=hrel
  obtain ⟨wo,rfl⟩:∃ x,x=wr:=⟨_,rfl⟩
  have HZ:=hdH (h1)
  have H3:=hdH (h2)
  have BB:=hdH (h3)
  have LO:=hdH (h4)
  have c3_1:=H3.out.cell 1 _ rfl
  clear h1 h2 h3 h4
  by_cases hlt:k<n
  ·have lk:(k:Int)<(n:Int):=by omega
   have HK:Hid (k<n):=hlt
   have t0:=tR
   go_wp2_with (first
    |(have q0:=t0;refine ck.make_lawR _ rfl _ _ rfl _ H.P rfl rfl rfl (by have:=NL.out.2;omega) ?_;intro w5 V9 N9 B9;have HPD:Hid (Pd w5 wo.heap.size H.P (H.S+88) 0):=⟨_,by simp,V9,N9,fun j hj=>absurd hj (Nat.not_lt_zero j)⟩;have LP:Hid (wd.heap.size<wo.heap.size∧wo.heap.size<w5.heap.size):=⟨LO.out,HPD.out.lt HP0.out⟩;have BB:=hdH (BB.out.trans (B9.mono BB.out.size));have HZ:=hdH (HZ.out.below B9 (Nat.succ_pos _));have H3:=hdH (H3.out.below B9 (range_lt H3.out.1 (Nat.succ_pos _)));clear V9 N9 B9 t0))
   clear c3_1
   go_loopw [7,23] (fun _ i wr=>∃ j:Nat,j≤H.P∧i=.int .i64 (j:Int)∧Pd wr wo.heap.size H.P (H.S+88) j∧Zr wr wd.heap.size n 10 Z10t∧Vr wr wa.heap.size [.int .i64 (H.N:Int),.int .i64 (H.P:Int),.int .i64 (H.S:Int),.int .i64 H.g3,.int .i64 H.g4,.int .i64 H.g5]∧Below w.heap.size w wr) (fun _ i _=>H.P-(intOf i).toNat)
   case atStart=>exact ⟨0,Nat.zero_le _,rfl,HPD.out,HZ.out,H3.out,BB.out⟩
   case round=>
   obtain ⟨j,hj,rfl,h1,h2,h3,h4⟩:=hrel
   have HPD:=hdH (h1)
   have HZ:=hdH (h2)
   have H3:=hdH (h3)
   have BB:=hdH (h4)
   clear h1 h2 h3 h4
   by_cases hjt:j<H.P
   ·have lj:(j:Int)<(H.P:Int):=by omega
    have HJ:Hid (j<H.P):=hjt
    have t0:=tR
    go_wp2_with (first
     |(refine wpl_op (v:=.pointer (some ⟨wo.heap.size,j,none⟩)) rfl (by have z:=exec_idxR _ _ rfl wo.heap.size 0 H.P H.P j rfl rfl HJ.out _;rw [Nat.zero_add] at z;exact z) ?_)
     |(have q2:=t2;(with_reducible refine at_store ?_);obtain ⟨vs,e1,e2,e3,e4⟩:=HPD.out;refine ck.set_lawK _ vs wo.heap.size j (.slice ao H.T cap) rfl rfl e2 e3 (by rw [e1];exact HJ.out) rfl rfl (fun y z=>by cases z) one_bytes.2 ?_;intro w8 V9 N9 B9 k9;have HPD:Hid (Pd w8 wo.heap.size H.P (H.S+88) (j+1)):=Pd.set e1 e4 e3 V9 N9 HJ.out k9 YV.out;have BB:=hdH (BB.out.trans (B9.mono (Nat.le_trans LZ.out.2.1 (Nat.le_of_lt (Nat.lt_trans LZ.out.1 LP.out.1)))));have HZ:=hdH (HZ.out.heap (k9 _ (Nat.ne_of_lt LP.out.1)));have H3:=hdH (H3.out.heap (k9 _ (Nat.ne_of_lt (Nat.lt_trans LZ.out.1 LP.out.1))));clear V9 N9 B9 k9 e1 e2 e3 e4 t2)
     |(have q1:=t1;go_at_call 62;refine (read_cs (HC.out.below BB.out) rfl (4+k) j (by have:=HN.out;have:=HK.out;omega) HJ.out).mono ?_;rintro e9 w7 ⟨ao,cap,rfl,O9,B9⟩;have YV:Hid (Byt w7 (.slice ao H.T cap) (List.replicate (H.S+88) 255)):=O9.byt (allB_replicate 255 _ (by omega));have BB:=hdH (BB.out.trans (B9.mono BB.out.size));have HZ:=hdH (HZ.out.below B9 (Nat.succ_pos _));have H3:=hdH (H3.out.below B9 (range_lt H3.out.1 (Nat.succ_pos _)));have HPD:=hdH (HPD.out.below HP0.out B9);clear O9 B9 t1;have t2:=tR)
     |(have q0:=t0;go_at_call 63;refine (place_any k j (by have:=NL.out.1;have:=HK.out;omega) _).mono ?_;rintro e9 w6 ⟨rfl,B9⟩;have BB:=hdH (BB.out.trans (B9.mono BB.out.size));have HZ:=hdH (HZ.out.below B9 (Nat.succ_pos _));have H3:=hdH (H3.out.below B9 (range_lt H3.out.1 (Nat.succ_pos _)));have HPD:=hdH (HPD.out.below HP0.out B9);clear B9 t0;have t1:=tR))
    go_roundw
    case rel=>exact ⟨j+1,by have:=HJ.out;omega,by go_num,HPD.out,HZ.out,H3.out,BB.out⟩
    case measure=>simp [intOf];have:=HJ.out;omega
   ·have ej:j=H.P:=by omega
    subst ej
    clear lk hjt
    go_wp2
    have BB:Hid (Below w.heap.size w wr.drew):=BB.out.trans ((Below.refl _ _).drew)
    have HZ:Hid (Zr wr.drew wd.heap.size n 10 Z10t):=HZ.out.heap rfl
    have HPD:Hid (Pd wr.drew wo.heap.size H.P (H.S+88) H.P):=HPD.out.below HP0.out ((Below.refl _ _).drew)
    have H3:Hid (Vr wr.drew wa.heap.size [.int .i64 (H.N:Int),.int .i64 (H.P:Int),.int .i64 (H.S:Int),.int .i64 H.g3,.int .i64 H.g4,.int .i64 H.g5]):=H3.out.heap rfl
    refine wp_region_held_drew (S:=fun w'=>Vr w' wa.heap.size [.int .i64 (H.N:Int),.int .i64 (H.P:Int),.int .i64 (H.S:Int),.int .i64 H.g3,.int .i64 H.g4,.int .i64 H.g5]) (by kernel_rfl) H3.out (fun hS=>?_)
    obtain ⟨x1,hx0⟩:∃ x,x=wr.drew:=⟨_,rfl⟩
    rw [←hx0] at hS BB HZ HPD H3 ⊢
    clear hx0
    refine tkH 0 (some 38) (.slice (some ⟨wd.heap.size,0,none⟩) n n) rfl rfl (Or.inl ⟨by rfl,fun w' hw'=>by rfl⟩) hS ?_
    simp only [Act.put,zE1,zE2,zE3]
    refine tkH 1 (some 39) (.int .i64 (k:Int)) rfl rfl (Or.inl ⟨by rfl,fun w' hw'=>by rfl⟩) hS ?_
    simp only [Act.put,zE1,zE2,zE3]
    refine tkH 2 (some 40) (.agg ([.int .i64 (H.N:Int),.int .i64 (H.P:Int),.int .i64 (H.S:Int),.int .i64 H.g3,.int .i64 H.g4,.int .i64 H.g5]:List Value).toArray) rfl rfl (Or.inl ⟨by rfl,fun w' hw'=>by exact exec_loadN 23 (.tmp 3) rfl _ rfl _ _ (load_cells rowy_geo6 hw'.1)⟩) hS ?_
    simp only [Act.put,zE1,zE2,zE3]
    refine tkH 3 (some 41) (.int .i64 (k:Int)) rfl rfl (Or.inl ⟨by rfl,fun w' hw'=>by rfl⟩) hS ?_
    simp only [Act.put,zE1,zE2,zE3]
    refine tkH 6 (some 44) (.slice (some ⟨wo.heap.size,0,none⟩) H.P H.P) rfl rfl (Or.inl ⟨by rfl,fun w' hw'=>by rfl⟩) hS ?_
    simp only [Act.put,zE1,zE2,zE3]
    refine wpAnyH_ready (rs:=[4]) (by kernel_rfl) (by simp) ?_
    refine AllReadyH.cons rfl (fun K hK=>?_) AllReadyH.nil
    refine step_callW _ (by rfl) (some 42) rfl 63 #[.tmp 41,.const (.int .i64 0)] #[3,3] rfl (fun q w'=>by rfl) #[.int .i64 (k:Int),.int .i64 ((0 :Nat):Int)] (by simp only [List.map_toArray,List.map_cons,List.map_nil];rfl) (fun zz w'=>zz=.agg (ints .i64 [((4+k:Nat):Int),((0 :Nat):Int)])∧Below x1.heap.size x1 w') ?_ ?_
    ·exact (place_any k 0 (by have:=NL.out.1;have:=HK.out;omega) x1).mono fun e w' h=>⟨_,h.1,rfl,h.2⟩
    rintro _ x2 ⟨rfl,hb⟩
    have HPD:=hdH (HPD.out.below HP0.out hb)
    have BB:=hdH (BB.out.trans (hb.mono BB.out.size))
    have HZ:=hdH (HZ.out.below hb (Nat.succ_pos _))
    have H3:=hdH (H3.out.below hb (range_lt H3.out.1 (Nat.succ_pos _)))
    have hS:Vr x2 wa.heap.size [.int .i64 (H.N:Int),.int .i64 (H.P:Int),.int .i64 (H.S:Int),.int .i64 H.g3,.int .i64 H.g4,.int .i64 H.g5]:=H3.out
    clear hb
    refine hK.out _ _ hS (fun _=>?_)
    simp only [Act.put,zE1,zE2,zE3]
    clear hK K
    refine tkH 5 (some 43) (.int .i64 ((4+k:Nat):Int)) rfl rfl (Or.inl ⟨by rfl,fun w' hw'=>by rfl⟩) hS ?_
    simp only [Act.put,zE1,zE2,zE3]
    refine wpAnyH_ready (rs:=[7]) (by kernel_rfl) (by simp) ?_
    refine AllReadyH.cons rfl (fun K hK=>?_) AllReadyH.nil
    refine step_callW _ (by rfl) (some 45) rfl 14 #[.tmp 40,.tmp 43,.tmp 44] #[23,3,69] rfl (fun q w'=>by rfl) #[.agg (ints .i64 [(H.N:Int),(H.P:Int),(H.S:Int),H.g3,H.g4,H.g5]),.int .i64 ((4+k:Nat):Int),.slice (some ⟨wo.heap.size,0,none⟩) H.P H.P] (by simp only [List.map_toArray,List.map_cons,List.map_nil];rfl) (fun zz w'=>zz=.agg Z10t.toArray∧Below x2.heap.size x2 w') ?_ ?_
    ·exact (block_new (H.N:Int) H.g3 H.g4 H.g5 _ H.S H.P wo.heap.size x2 RT.out (HT.out.below BB.out) HP0.out HPD.out).mono fun e w' h=>⟨_,h.1,rfl,h.2⟩
    rintro _ x3 ⟨rfl,hb⟩
    have HPD:=hdH (HPD.out.below HP0.out hb)
    have BB:=hdH (BB.out.trans (hb.mono BB.out.size))
    have HZ:=hdH (HZ.out.below hb (Nat.succ_pos _))
    have H3:=hdH (H3.out.below hb (range_lt H3.out.1 (Nat.succ_pos _)))
    have hS:Vr x3 wa.heap.size [.int .i64 (H.N:Int),.int .i64 (H.P:Int),.int .i64 (H.S:Int),.int .i64 H.g3,.int .i64 H.g4,.int .i64 H.g5]:=H3.out
    clear hb
    refine hK.out _ _ hS (fun _=>?_)
    simp only [Act.put,zE1,zE2,zE3]
    clear hK K
    refine tkH 8 (some 46) (.pointer (some ⟨wd.heap.size,k*10,none⟩)) rfl rfl (Or.inl ⟨by rfl,fun w' hw'=>by exact exec_idxT (.tmp 38) (.tmp 39) rfl wd.heap.size n n k rfl rfl HK.out _⟩) hS ?_
    simp only [Act.put,zE1,zE2,zE3]
    refine wpAnyH_ready (rs:=[9]) (by kernel_rfl) (by simp) ?_
    refine AllReadyH.cons rfl (fun K hK=>?_) AllReadyH.nil
    refine step_storeZ _ rfl none rfl (.tmp 46) (.tmp 45) 67 rfl wd.heap.size (k*10) Z10t rfl rfl (HZ.out k HK.out).2 rowy_told.2 z10_one ?_
    intro x4 E9
    have HZ:Hid (Zr x4 wd.heap.size n 10 Z10t):=(by rw [E9.out];exact HZ.out.same (HZ.out k HK.out).1 (HZ.out k HK.out).2)
    have BB:Hid (Below w.heap.size w x4):=(by rw [E9.out];exact BB.out.trans (below_gr (grown_cells _ _ _ _) (Nat.le_trans LZ.out.2.1 (Nat.le_of_lt LZ.out.1)) BB.out.size))
    have H3:Hid (Vr x4 wa.heap.size [.int .i64 (H.N:Int),.int .i64 (H.P:Int),.int .i64 (H.S:Int),.int .i64 H.g3,.int .i64 H.g4,.int .i64 H.g5]):=(by rw [E9.out];exact H3.out.heap (he.heap_cells _ _ _ _ _ (Nat.ne_of_lt LZ.out.1)))
    have hS:Vr x4 wa.heap.size [.int .i64 (H.N:Int),.int .i64 (H.P:Int),.int .i64 (H.S:Int),.int .i64 H.g3,.int .i64 H.g4,.int .i64 H.g5]:=H3.out
    have L8:Hid (wd.heap.size<x4.heap.size):=HZ.out.lt (Nat.lt_of_le_of_lt (Nat.zero_le _) HK.out) (Nat.succ_pos _)
    clear E9
    refine hK.out _ _ hS (fun _=>?_)
    simp only [Act.put]
    clear hK K
    refine wpAnyH_done (by kernel_rfl) ?_ _
    go_wp2
    go_roundw
    case rel=>exact ⟨k+1,by have:=HK.out;omega,by go_num,HZ.out,H3.out,BB.out,L8.out⟩
    case measure=>simp [intOf];have:=HK.out;omega
  ·have ek:k=n:=by omega
   subst ek
   go_wp2
   go_ret
   exact ⟨⟨_,rfl,HZ.out⟩,BB.out⟩
end Go.Proofs.YtmbgokmomkmgcaaGreatDoor.sc
namespace Go.Proofs.YtmbgokmomkmgcaaGreatDoor.sc
open Go.RowKit Go.Proofs.YtmbgokmomkmgcaaGreatDoor.fa Go.Proofs.YtmbgokmomkmgcaaGreatDoor.he Go.Proofs.YtmbgokmomkmgcaaGreatDoor.pa
set_option maxRecDepth 20000
def Z3f:List Value:=[.pointer none,.pointer none,.slice none 0 0]
theorem zero_found:(Tryz.prog.info? 45).map (fun i=>(i.zero,i.size))=some (some (.agg Z3f.toArray),3):=by kernel_rfl
theorem rowy_found:Rowy 45 3:=⟨⟨_,Tryz.underlying45,rfl⟩,by kernel_rfl⟩
theorem led_other {w:World} {c d n b:Nat} {f:Nat→le.Bk} {cs:List Value} (h:le.Led w c d n f) (h1:c≠b) (h2:d≠b):le.Led (w.setCells b 0 cs) c d n f:=by
 have e:∀ k,k≠b→(w.setCells b 0 cs).heap[k]? =w.heap[k]? :=fun k hk=>he.heap_cells w b 0 cs k hk
 exact ⟨h.1.heap (e c h1),fun i hi=>(h.2.1 i hi).heap (e d h2),h.2.2⟩
def ArN (n:Nat) (e:Ending) (w':World):Prop:=∃ mp c d og,e=.returned (.tuple #[.agg ([.pointer (some ⟨mp,0,none⟩),le.pt c,.slice (some ⟨og,0,none⟩) n n]:List Value).toArray,.int .i64 0])∧le.Led w' c d n (fun _=>le.bn)
theorem led_ne {w:World} {c d n b:Nat} (h:le.Led w c d n (fun _=>le.bn)) (h0:0<n) (hV:Vr w b Z3f):c≠b∧d≠b:=by
 have z:=hV.cell 0 _ rfl
 constructor
 ·intro e
  subst e
  have y:=h.1.cell 0 _ rfl
  rw [z] at y
  cases y
 ·intro e
  subst e
  have y:=(h.2.1 0 h0).1 0 (.int .i64 (-1)) rfl
  rw [Nat.zero_mul,Nat.zero_add,z] at y
  cases y
theorem array_new (H:Ch) (M:Nat→Bool) (n:Nat) (w:World) (h:Cs H M w (na.new H.T) []) (hT:Tab w) (hr:ge.Rt [(H.N:Int),(H.P:Int),(H.S:Int),H.g3,H.g4,H.g5]) (hn:H.N=n+4) (h0:0<n):Calls Tryz.prog 9 #[.pointer (some ⟨H.c,0,none⟩),.agg Z20.toArray,.int .u64 0] w fun e w'=>ArN n e w'∧Below w.heap.size w w':=by
 have hm:=h.num
 have HC:=hdH (h)
 have HT:=hdH (hT)
 have RT:=hdH (hr)
 have HN:=hdH (hn)
 have NB:Hid (n≤60):=(by omega:n≤60)
 have SO:Hid (∀ w1,Below w.heap.size w w1→Calls Tryz.prog 23 #[.pointer (some ⟨H.c,0,none⟩)] w1 fun e w'=>e=.returned (.bool true)∧w'=w1):=fun w1 hb=>on_cs (h.below hb)
 have SK:Hid (∀ w1,Calls Tryz.prog 24 #[.agg (ints .i64 [(H.N:Int),(H.P:Int),(H.S:Int),H.g3,H.g4,H.g5])] w1 fun x w'=>x=.returned (.int .i64 0)∧Below w1.heap.size w1 w'):=ge.check_yes _ rfl hr
 have H0:=hdH (h0)
 clear h hT hr hn hm h0
 have t0:=tR
 go_enter Tryz.func9,Tryz.ntmps9
 go_wp2_with (first
  |(have q13:=t13;(with_reducible refine at_store ?_);have LCD:Hid (c≠w1.heap.size∧d≠w1.heap.size):=led_ne HL.out H0.out V6.out;refine store_lawC _ [.pointer (some ⟨mp,0,none⟩),le.pt c,.slice (some ⟨og,0,none⟩) n n] w1.heap.size 0 rfl rfl V6.out.2 rowy_found.2 (by intro v hv;simp at hv;rcases hv with rfl | rfl | rfl <;> rfl) ?_;intro wc E9 R9 T9 B9;have V6:Hid (Vr wc w1.heap.size [.pointer (some ⟨mp,0,none⟩),le.pt c,.slice (some ⟨og,0,none⟩) n n]):=⟨R9,T9⟩;have L6:=hdH (WL.out);have HL:Hid (le.Led wc c d n (fun _=>le.bn)):=(by rw [E9.out];exact led_other HL.out LCD.out.1 LCD.out.2);have BB:=hdH (BB.out.trans (B9.mono L6.out));clear E9 R9 T9 B9 t13)
  |(have q12:=t12;refine build_law _ rfl 45 _ rfl (.agg ([.pointer (some ⟨mp,0,none⟩),le.pt c,.slice (some ⟨og,0,none⟩) n n]:List Value).toArray) (by kernel_rfl) ?_;clear t12;have t13:=tR)
  |(have q11:=t11;go_at_call 30;refine (orders_zero dg n n NB.out _ HZ.out).mono ?_;rintro e9 wb ⟨⟨og,rfl⟩,B9⟩;have HL:=hdH (HL.out.below B9);have V1:=hdH (V1.out.below B9 (range_lt V1.out.1 (Nat.succ_pos _)));have V6:=hdH (V6.out.below B9 (range_lt V6.out.1 (Nat.succ_pos _)));have BB:=hdH (BB.out.trans (B9.mono BB.out.size));clear B9 t11 HZ;have t12:=tR)
  |(have q10:=t10;go_at_call 29;refine (ledger_zero (H.N:Int) (H.P:Int) (H.S:Int) H.g3 H.g4 H.g5 _ dg n n NB.out _ HZ.out).mono ?_;rintro e9 wa ⟨⟨c,d,rfl,z9⟩,B9⟩;have HL:=hdH (z9);have V1:=hdH (V1.out.below B9 (range_lt V1.out.1 (Nat.succ_pos _)));have V6:=hdH (V6.out.below B9 (range_lt V6.out.1 (Nat.succ_pos _)));have HZ:=hdH (HZ.out.below B9 (Nat.succ_pos _));have BB:=hdH (BB.out.trans (B9.mono BB.out.size));clear z9 B9 t10;have t11:=tR)
  |(have q9:=t9;go_at_call 25;refine (geo_cs (HC.out.below BB.out)).mono ?_;rintro e9 w8 ⟨rfl,B9⟩;have V1:=hdH (V1.out.below B9 (range_lt V1.out.1 (Nat.succ_pos _)));have V6:=hdH (V6.out.below B9 (range_lt V6.out.1 (Nat.succ_pos _)));have HZ:=hdH (HZ.out.below B9 (Nat.succ_pos _));have BB:=hdH (BB.out.trans (B9.mono BB.out.size));clear B9 t9;have t10:=tR)
  |(have q8:=t8;go_at_call 27;refine (mapof_zero dg n n NB.out _ HZ.out).mono ?_;rintro e9 w7 ⟨⟨mp,rfl⟩,B9⟩;have V1:=hdH (V1.out.below B9 (range_lt V1.out.1 (Nat.succ_pos _)));have V6:=hdH (V6.out.below B9 (range_lt V6.out.1 (Nat.succ_pos _)));have HZ:=hdH (HZ.out.below B9 (Nat.succ_pos _));have BB:=hdH (BB.out.trans (B9.mono BB.out.size));clear B9 t8;have t9:=tR)
  |(have q7:=t7;go_at_call 28;refine (rights_zero _).mono ?_;rintro e9 w6 ⟨rfl,B9⟩;have V1:=hdH (V1.out.below B9 (range_lt V1.out.1 (Nat.succ_pos _)));have V6:=hdH (V6.out.below B9 (range_lt V6.out.1 (Nat.succ_pos _)));have HZ:=hdH (HZ.out.below B9 (Nat.succ_pos _));have BB:=hdH (BB.out.trans (B9.mono BB.out.size));clear B9 t7;have t8:=tR)
  |(have q6:=t6;refine load_lawC _ rfl Z20 w.heap.size 0 rfl V1.out.1 rowy_slots4 ?_;clear t6;have t7:=tR)
  |(have q5:=t5;go_at_call 26;refine (data_new H M n _ (HC.out.below BB.out) (HT.out.below BB.out) RT.out HN.out).mono ?_;rintro e9 w5 ⟨⟨dg,rfl,z9⟩,B9⟩;have HZ:=hdH (z9);have V1:=hdH (V1.out.below B9 (range_lt V1.out.1 (Nat.succ_pos _)));have V6:=hdH (V6.out.below B9 (range_lt V6.out.1 (Nat.succ_pos _)));have BB:=hdH (BB.out.trans (B9.mono BB.out.size));clear z9 B9 t5;have t6:=tR)
  |(have q4:=t4;go_at_call 24;refine (SK.out _).mono ?_;rintro e9 w4 ⟨rfl,B9⟩;have V1:=hdH (V1.out.below B9 (range_lt V1.out.1 (Nat.succ_pos _)));have V6:=hdH (V6.out.below B9 (range_lt V6.out.1 (Nat.succ_pos _)));have BB:=hdH (BB.out.trans (B9.mono BB.out.size));clear B9 t4;have t5:=tR)
  |(have q3:=t3;go_at_call 25;refine (geo_cs (HC.out.below BB.out)).mono ?_;rintro e9 w3 ⟨rfl,B9⟩;have V1:=hdH (V1.out.below B9 (range_lt V1.out.1 (Nat.succ_pos _)));have V6:=hdH (V6.out.below B9 (range_lt V6.out.1 (Nat.succ_pos _)));have BB:=hdH (BB.out.trans (B9.mono BB.out.size));clear B9 t3;have t4:=tR)
  |(have q2:=t2;go_at_call 23;refine (SO.out _ BB.out).mono ?_;rintro e9 w9 ⟨rfl,hw⟩;obtain rfl:=hw.symm;clear t2;have t3:=tR)
  |(have q1:=t1;(with_reducible refine at_alloc ?_);refine new_lawC _ Z3f zero_found ?_;intro w2 X9 B9 l9;have V6:=hdH (X9);have V1:=hdH (V1.out.below B9 (range_lt V1.out.1 (Nat.succ_pos _)));have BB:=hdH (BB.out.trans (B9.mono BB.out.size));have WL:=hdH (BB0.out);clear X9 B9 l9 t1;have t2:=tR)
  |(have q0:=t0;refine box_lawC _ Z20 rfl ?_;intro w1 X9 B9 l9;have V1:=hdH (X9);have BB:=hdH (B9);have BB0:Hid (w.heap.size≤w1.heap.size):=B9.size;clear X9 B9 l9 t0;have t1:=tR))
 exact bodyPost_ret (v:=.tuple #[.agg ([.pointer (some ⟨mp,0,none⟩),le.pt c,.slice (some ⟨og,0,none⟩) n n]:List Value).toArray,.int .i64 0]) (results_cv rfl _ _ w1.heap.size _ _ rowy_found rfl rfl V6.out.1) rfl ⟨⟨mp,c,d,og,rfl,HL.out⟩,BB.out⟩
theorem shp_awk:na.Shp [((7 :Nat):Int),((10 :Nat):Int),((64 :Nat):Int),0,1,1] 7 10 (64+88):=by
 refine ⟨rfl,⟨⟨by decide,by decide,by decide,by decide,by decide,by decide⟩,by decide,by decide,by decide⟩,rfl,rfl,rfl⟩
theorem g7_one:∀ v ∈ ([.int .i64 7,.int .i64 10,.int .i64 64,.int .i64 0,.int .i64 1,.int .i64 1]:List Value),v.oneCell'=true:=List.all_eq_true.1 (rfl:([.int .i64 7,.int .i64 10,.int .i64 64,.int .i64 0,.int .i64 1,.int .i64 1]:List Value).all (·.oneCell')=true)
theorem awake_any (w:World) (hT:Tab w):Calls Tryz.prog 7 #[] w fun e w'=>e=.returned (.bool true)∧Below w.heap.size w w':=by
 have HT:=hdH (hT)
 have SN:Hid (∀ w0,Calls Tryz.prog 18 #[.agg ([.int .i64 7,.int .i64 10,.int .i64 64,.int .i64 0,.int .i64 1,.int .i64 1]:List Value).toArray,.slice none 0 0] w0 fun e w'=>∃ H M,e=.returned (.tuple #[.pointer (some ⟨H.c,0,none⟩),.int .i64 0])∧Cs H M w' (na.new (64+88)) []∧(∀ k,M k=true→w0.heap.size≤k)∧Below w0.heap.size w0 w'∧(7=H.N∧10=H.P∧64=H.S∧0=H.g3∧1=H.g4∧1=H.g5)∧∀ n,H.pl n=none):=fun w0=>new_cs 7 10 64 0 1 1 shp_awk w0
 have SAT:Hid (∀ c d w0,le.Led w0 c d 3 (fun _=>le.bn)→Calls Tryz.prog 20 #[le.pt c,.int .i64 0] w0 fun e w'=>e=.returned (.agg #[.int .i64 (-1),.int .i64 0,.int .i64 0,.int .i64 0,.bool false,.bool false,.bool false,.bool false,.bool false])∧Below w0.heap.size w0 w'):=fun c d w0 h=>le.at_yes c d 3 0 (fun _=>le.bn) w0 h (by omega)
 clear hT
 have t0:=tR
 go_enter Tryz.func7,Tryz.ntmps7
 go_wp2_with (first
  |(have q11:=t11;refine wpl_op (v:=.int .i64 (-1)) (by rfl) (by rfl) ?_;clear t11)
  |(have q10:=t10;go_at_call 20;refine (SAT.out c d _ HL.out).mono ?_;rintro e9 w7 ⟨rfl,B9⟩;have BB:=hdH (BB.out.trans (B9.mono BB.out.size));clear B9 t10;have t11:=tR)
  |(have q9:=t9;go_at_call 19;refine (le.len_any (le.pt c) 3 (fun _=>le.bn) _ (.inr ⟨c,d,rfl,HL.out⟩)).mono ?_;rintro e9 w9 ⟨rfl,hw⟩;obtain rfl:=hw.symm;clear t9;have t10:=tR)
  |(have q8:=t8;(with_reducible refine at_store ?_);refine store_lawC _ [.pointer (some ⟨mp,0,none⟩),le.pt c,.slice (some ⟨og,0,none⟩) 3 3] w4.heap.size 0 rfl rfl V6.out.2 rowy_found.2 (by intro v hv;simp at hv;rcases hv with rfl | rfl | rfl <;> rfl) ?_;intro w6 E9 R9 T9 B9;have V6:Hid (Vr w6 w4.heap.size [.pointer (some ⟨mp,0,none⟩),le.pt c,.slice (some ⟨og,0,none⟩) 3 3]):=⟨R9,T9⟩;have HL:Hid (le.Led w6 c d 3 (fun _=>le.bn)):=(by rw [E9.out];exact led_other HL.out (Nat.ne_of_lt LB.out.1) (Nat.ne_of_lt LB.out.2));have BB:=hdH (BB.out.trans (B9.mono W4.out));have c6_1:=V6.out.cell 1 _ rfl;have c6_2:=V6.out.cell 2 _ rfl;clear E9 R9 T9 B9 t8;have t9:=tR)
  |(have q7:=t7;(with_reducible refine at_alloc ?_);refine new_lawC _ Z3f zero_found ?_;intro w5 X9 B9 l9;have V6:=hdH (X9);have LB:Hid (c<w4.heap.size∧d<w4.heap.size):=⟨HL.out.lt,(HL.out.2.1 0 (by omega)).lt (Nat.succ_pos _)⟩;have HL:=hdH (HL.out.below B9);have BB:=hdH (BB.out.trans (B9.mono BB.out.size));clear X9 B9 l9 t7;have t8:=tR)
  |(have q6:=t6;go_at_call 9;refine (array_new H M 3 _ HC.out (HT.out.below BB.out) H7.out.2 H7.out.1 (by omega)).mono ?_;rintro e9 w4 ⟨⟨mp,c,d,og,rfl,z9⟩,B9⟩;have HL:=hdH (z9);have BB:=hdH (BB.out.trans (B9.mono BB.out.size));have W4:Hid (w.heap.size≤w4.heap.size):=BB.out.size;clear z9 B9 t6;have t7:=tR)
  |(have q5:=t5;refine build_law _ rfl 29 _ rfl (.agg Z20.toArray) (by kernel_rfl) ?_;clear t5;have t6:=tR)
  |(have q4:=t4;go_at_call 18;refine (SN.out _).mono ?_;rintro e9 w3 ⟨H,M,rfl,h1,h2,B9,h3,h4⟩;have HC:Hid (Cs H M w3 (na.new H.T) []):=(by have e:H.T=64+88:=(by show H.S+88=_;rw [←h3.2.2.1]);rw [e];exact h1);have H7:Hid (H.N=3+4∧ge.Rt [(H.N:Int),(H.P:Int),(H.S:Int),H.g3,H.g4,H.g5]):=⟨h3.1.symm,by rw [←h3.1,←h3.2.1,←h3.2.2.1,←h3.2.2.2.1,←h3.2.2.2.2.1,←h3.2.2.2.2.2];exact shp_awk.2.1⟩;have BB:=hdH (BB.out.trans (B9.mono BB.out.size));clear h1 h2 h3 h4 B9 t4;have t5:=tR)
  |(have q3:=t3;refine load_lawC _ rfl [.int .i64 7,.int .i64 10,.int .i64 64,.int .i64 0,.int .i64 1,.int .i64 1] w.heap.size 0 rfl V1.out.1 rowy_geo6 ?_;clear t3;have t4:=tR)
  |(have q2:=t2;(with_reducible refine at_store ?_);refine store_lawC _ [.int .i64 7,.int .i64 10,.int .i64 64,.int .i64 0,.int .i64 1,.int .i64 1] w.heap.size 0 rfl rfl V1.out.2 rowy_geo6.2 g7_one ?_;intro w2 E9 R9 T9 B9;have V1:Hid (Vr w2 w.heap.size [.int .i64 7,.int .i64 10,.int .i64 64,.int .i64 0,.int .i64 1,.int .i64 1]):=⟨R9,T9⟩;have BB:=hdH (BB.out.trans B9);clear E9 R9 T9 B9 t2;have t3:=tR)
  |(have q1:=t1;(with_reducible refine at_alloc ?_);refine new_lawC _ [.int .i64 0,.int .i64 0,.int .i64 0,.int .i64 0,.int .i64 0,.int .i64 0] zero_geo6 ?_;intro w1 X9 B9 l9;have V1:=hdH (X9);have BB:=hdH (B9);clear X9 B9 l9 t1;have t2:=tR)
  |(have q0:=t0;refine build_law _ rfl 23 _ rfl (.agg ([.int .i64 7,.int .i64 10,.int .i64 64,.int .i64 0,.int .i64 1,.int .i64 1]:List Value).toArray) (by kernel_rfl) ?_;clear t0;have t1:=tR))
 go_ret
 exact ⟨rfl,BB.out⟩
end Go.Proofs.YtmbgokmomkmgcaaGreatDoor.sc
