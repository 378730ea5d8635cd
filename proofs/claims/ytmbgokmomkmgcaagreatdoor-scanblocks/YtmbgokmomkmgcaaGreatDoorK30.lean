/- Parts of the proof: what ScanBlocks reaches. No claim of its own. -/
import Derived.Lib.MakeNoZero
import Derived.Deep.DeepCutAuto
import Derived.Deep.RegionHeld3
import Derived.Laws.AppendOwnNone
import Derived.Lib.AppendZeros
import Derived.Lib.SliceRun
import Derived.Laws.StructEq
import Derived.ArgAppend
import Derived.WalkKit
import Derived.WalkSmall
import Derived.ProofKit
import Derived.OpenShut
import Derived.BigQuiet
import Derived.Deep.QuietTactic
import Derived.Deep.WholeRow
import Derived.Deep.MidRow
import Derived.Deep.RegionWith
import Derived.Deep.DeepHandedRow
import Derived.Lib.LaidTab
import Derived.Deep.Matrix
import Derived.OwnWalk
import Derived.Test.YtmbgokmomkmgcaaGreatDoorK00
import Derived.Test.YtmbgokmomkmgcaaGreatDoorK01
import Derived.Test.YtmbgokmomkmgcaaGreatDoorK02
import Derived.Test.YtmbgokmomkmgcaaGreatDoorK03
import Derived.Test.YtmbgokmomkmgcaaGreatDoorK04
import Derived.Test.YtmbgokmomkmgcaaGreatDoorK05
import Derived.Test.YtmbgokmomkmgcaaGreatDoorK06
import Derived.Test.YtmbgokmomkmgcaaGreatDoorK07
import Derived.Test.YtmbgokmomkmgcaaGreatDoorK08
import Derived.Test.YtmbgokmomkmgcaaGreatDoorK09
import Derived.Test.YtmbgokmomkmgcaaGreatDoorK10
import Derived.Test.YtmbgokmomkmgcaaGreatDoorK11
import Derived.Test.YtmbgokmomkmgcaaGreatDoorK12
import Derived.Test.YtmbgokmomkmgcaaGreatDoorK13
import Derived.Test.YtmbgokmomkmgcaaGreatDoorK14
import Derived.Test.YtmbgokmomkmgcaaGreatDoorK15
import Derived.Test.YtmbgokmomkmgcaaGreatDoorK16
import Derived.Test.YtmbgokmomkmgcaaGreatDoorK17
import Derived.Test.YtmbgokmomkmgcaaGreatDoorK18
import Derived.Test.YtmbgokmomkmgcaaGreatDoorK19
import Derived.Test.YtmbgokmomkmgcaaGreatDoorK20
import Derived.Test.YtmbgokmomkmgcaaGreatDoorK21
import Derived.Test.YtmbgokmomkmgcaaGreatDoorK22
import Derived.Test.YtmbgokmomkmgcaaGreatDoorK23
import Derived.Test.YtmbgokmomkmgcaaGreatDoorK25
import Derived.Test.YtmbgokmomkmgcaaGreatDoorK26
import Derived.Test.YtmbgokmomkmgcaaGreatDoorK27
import Derived.Test.YtmbgokmomkmgcaaGreatDoorK28
import Derived.Test.YtmbgokmomkmgcaaGreatDoorK29
set_option maxHeartbeats 8000000
namespace Go.Proofs.YtmbgokmomkmgcaaGreatDoor.sc
open Go.RowKit Go.Proofs.YtmbgokmomkmgcaaGreatDoor.fa Go.Proofs.YtmbgokmomkmgcaaGreatDoor.he Go.Proofs.YtmbgokmomkmgcaaGreatDoor.pa
set_option maxRecDepth 20000
def Z5:List Value:=[.bool false,.int .i64 0,.int .u64 0,.int .u64 0,.slice none 0 0]
def Z20:List Value:=[.bool false,.int .i64 0,.int .u64 0,.int .u64 0,.slice none 0 0,.bool false,.int .i64 0,.int .u64 0,.int .u64 0,.slice none 0 0,.bool false,.int .i64 0,.int .u64 0,.int .u64 0,.slice none 0 0,.bool false,.int .i64 0,.int .u64 0,.int .u64 0,.slice none 0 0]
def ZN:List Value:=[.int .u64 0,.int .u64 0,.int .u64 0,.int .u64 0,.int .u64 0]
theorem z5_one:∀ v ∈ Z5,v.oneCell'=true:=by
 intro v h
 simp [Z5] at h
 rcases h with rfl | rfl | rfl | rfl <;> rfl
theorem z20_one:∀ v ∈ Z20,v.oneCell'=true:=List.all_eq_true.1 (rfl:Z20.all (·.oneCell')=true)
theorem at_index {ops:Array Oper} {rest:List Oper} {a:Act} {Q:Exit→Act→World→Prop} {w:World} {d:Option Tmp} {t:TypeId} {x y:Operand} {ty:TypeId} {pos:String} {af:Array Edge} (h:wpList Tryz.prog ops Q (⟨d,Op.index t x y,ty,pos,af,none⟩ :: rest) a w):wpList Tryz.prog ops Q (⟨d,Op.index t x y,ty,pos,af,none⟩ :: rest) a w:=h
theorem zn_one:∀ v ∈ ZN,v.oneCell'=true:=by
 intro v h
 simp [ZN] at h
 subst h;rfl
theorem zero_slot:(Tryz.prog.info? 28).map (fun i=>(i.zero,i.size))=some (some (.agg Z5.toArray),5):=by kernel_rfl
theorem zero_slots4:(Tryz.prog.info? 29).map (fun i=>(i.zero,i.size))=some (some (.agg Z20.toArray),20):=by kernel_rfl
theorem zero_nums5:(Tryz.prog.info? 215).map (fun i=>(i.zero,i.size))=some (some (.agg ZN.toArray),5):=by kernel_rfl
theorem rowy_slot:Rowy 28 5:=⟨⟨_,Tryz.underlying28,rfl⟩,by kernel_rfl⟩
theorem rowy_slots4:Rowy 29 20:=⟨⟨_,Tryz.underlying29,rfl⟩,by kernel_rfl⟩
theorem rowy_nums5:Rowy 215 5:=⟨⟨_,Tryz.underlying215,rfl⟩,by kernel_rfl⟩
theorem nums_zero (w:World):Calls Tryz.prog 108 #[.agg Z5.toArray] w fun e w'=>e=.returned (.agg ZN.toArray)∧Below w.heap.size w w':=by
 have t0:=tR
 go_enter Tryz.func108,Tryz.ntmps108
 go_wp2_with (first
  |(have q7:=t7;(with_reducible refine at_store ?_);refine store_lawC _ ZN w1.heap.size 0 rfl rfl V2.out.2 rowy_nums5.2 zn_one ?_;intro w5 E9 R9 T9 B9;have HR:Hid (Vr w5 w1.heap.size ZN):=⟨R9,T9⟩;have BB:=hdH (BB.out.trans (B9.mono L1.out));clear E9 R9 T9 B9 t7)
  |(have q6:=t6;refine load_lawC _ rfl ZN w2.heap.size 0 rfl V3.out.1 rowy_nums5 ?_;clear t6;have t7:=tR)
  |(have q5:=t5;(with_reducible refine at_store ?_);refine store_lawC _ ZN w2.heap.size 0 rfl rfl V3.out.2 rowy_nums5.2 zn_one ?_;intro w4 E9 R9 T9 B9;have V3:Hid (Vr w4 w2.heap.size ZN):=⟨R9,T9⟩;have V1:=hdH (V1.out.below B9 (Nat.lt_of_lt_of_le (range_lt W1.out.1 (Nat.succ_pos _)) L2.out));have V2:=hdH (V2.out.below B9 (range_lt W2.out.1 (Nat.succ_pos _)));have BB:=hdH (BB.out.trans (B9.mono (Nat.le_trans L1.out L2.out)));clear E9 R9 T9 B9 t5 c1_0 c1_1 c1_2 c1_3;have c1_0:=V1.out.cell 0 _ rfl;have t6:=tR)
  |(have q4:=t4;(with_reducible refine at_alloc ?_);refine new_lawC _ ZN zero_nums5 ?_;intro w3 X9 B9 l9;have W2:=V2;have V3:=hdH (X9);have V1:=hdH (V1.out.below B9 (range_lt V1.out.1 (Nat.succ_pos _)));have V2:=hdH (V2.out.below B9 (range_lt V2.out.1 (Nat.succ_pos _)));have L2:=hdH (BL.out);have BB:=hdH (BB.out.trans (B9.mono BB.out.size));clear X9 B9 l9 t4 c1_0 c1_1 c1_2 c1_3;have c1_0:=V1.out.cell 0 _ rfl;have c1_1:=V1.out.cell 1 _ rfl;have c1_2:=V1.out.cell 2 _ rfl;have c1_3:=V1.out.cell 3 _ rfl;have t5:=tR)
  |(have q3:=t3;refine build_law _ rfl 215 _ rfl (.agg ZN.toArray) (by kernel_rfl) ?_;clear t3;have t4:=tR)
  |(have q1:=t1;(with_reducible refine at_alloc ?_);refine new_lawC _ ZN zero_nums5 ?_;intro w2 X9 B9 l9;have W1:=V1;have V2:=hdH (X9);have V1:=hdH (V1.out.below B9 (range_lt V1.out.1 (Nat.succ_pos _)));have BL:Hid (w1.heap.size≤w2.heap.size):=B9.size;have L1:Hid (w.heap.size≤w1.heap.size):=BB.out.size;have BB:=hdH (BB.out.trans (B9.mono BB.out.size));clear X9 B9 l9 t1;have c1_0:=V1.out.cell 0 _ rfl;have c1_1:=V1.out.cell 1 _ rfl;have c1_2:=V1.out.cell 2 _ rfl;have c1_3:=V1.out.cell 3 _ rfl;have t3:=tR)
  |(have q0:=t0;refine box_lawC _ Z5 rfl ?_;intro w1 X9 B9 l9;have V1:=hdH (X9);have BB:=hdH (B9);clear X9 B9 l9 t0;have t1:=tR))
 exact bodyPost_ret (v:=.agg ZN.toArray) (results_c rfl _ _ w1.heap.size _ rowy_nums5 rfl HR.out.1) rfl ⟨rfl,BB.out⟩
theorem right_zero (w:World):Calls Tryz.prog 68 #[.agg Z5.toArray] w fun e w'=>e=.returned (.bool true)∧Below w.heap.size w w':=by
 have t0:=tR
 go_enter Tryz.func68,Tryz.ntmps68
 go_wp2_with (first
  |(have q4:=t4;refine wpl_op (v:=.bool true) rfl (by kernel_rfl) ?_;clear t4)
  |(have q3:=t3;refine build_law _ rfl 215 _ rfl (.agg ZN.toArray) (by kernel_rfl) ?_;clear t3;have t4:=tR)
  |(have q2:=t2;go_at_call 108;refine (nums_zero _).mono ?_;rintro e9 w2 ⟨rfl,B9⟩;have V1:=hdH (V1.out.below B9 (range_lt V1.out.1 (Nat.succ_pos _)));have BB:=hdH (BB.out.trans (B9.mono BB.out.size));clear B9 t2 c1_0;have c1_4:=V1.out.cell 4 _ rfl;have t3:=tR)
  |(have q1:=t1;refine load_lawC _ rfl Z5 w.heap.size 0 rfl V1.out.1 rowy_slot ?_;clear t1;have t2:=tR)
  |(have q0:=t0;refine box_lawC _ Z5 rfl ?_;intro w1 X9 B9 l9;have V1:=hdH (X9);have BB:=hdH (B9);have c1_0:=V1.out.cell 0 _ rfl;clear X9 B9 l9 t0;have t1:=tR))
 go_ret
 exact ⟨rfl,BB.out⟩
theorem rights_zero (w:World):Calls Tryz.prog 28 #[.agg Z20.toArray] w fun e w'=>e=.returned (.agg Z20.toArray)∧Below w.heap.size w w':=by
 have t0:=tR
 go_enter Tryz.func28,Tryz.ntmps28
 go_wp2_with (first
  |(have q2:=t2;refine load_lawC _ rfl Z20 w.heap.size 0 rfl V1.out.1 rowy_slots4 ?_;clear t2)
  |(have q1:=t1;(with_reducible refine at_alloc ?_);refine new_lawC _ Z20 zero_slots4 ?_;intro wb X9 B9 l9;have V2:=hdH (X9);have L2:Hid (w.heap.size<wa.heap.size):=range_lt V1.out.1 (Nat.succ_pos _);have V1:=hdH (V1.out.below B9 L2.out);have BB:=hdH (BB.out.trans (B9.mono BB.out.size));clear X9 B9 l9 t1;have t2:=tR)
  |(have q0:=t0;refine box_lawC _ Z20 rfl ?_;intro wa X9 B9 l9;have V1:=hdH (X9);have BB:=hdH (B9);clear X9 B9 l9 t0;have t1:=tR))
 have BQ:=BB
 go_loopw [6] (fun i wr=>∃ k:Nat,k≤4∧i=.int .i64 (k:Int)∧Below wb.heap.size wb wr) (fun i _=>4-(intOf i).toNat)
 case atStart=>exact ⟨0,by omega,rfl,Below.refl _ _⟩
 case round=>
  obtain ⟨k,hk,rfl,hB⟩:=hrel
  have BB:=hdH (hB)
  clear hB
  have t0:=tR
  rcases (show k=0∨k=1∨k=2∨k=3∨k=4 by omega) with rfl | rfl | rfl | rfl | rfl
  iterate 4
   ·go_wp2_with (first
    |(have q3:=t3;go_at_call 68;refine (right_zero _).mono ?_;rintro e9 w3 ⟨rfl,B9⟩;have BB:=hdH (BB.out.trans (B9.mono BB.out.size));clear B9 t3)
    |(have q2:=t2;refine load_lawC _ rfl Z5 wr.heap.size 0 rfl V4.out.1 rowy_slot ?_;clear t2;have t3:=tR)
    |(have q1:=t1;(with_reducible refine at_store ?_);refine store_lawC _ Z5 wr.heap.size 0 rfl rfl V4.out.2 rowy_slot.2 z5_one ?_;intro w2 E9 R9 T9 B9;have V4:Hid (Vr w2 wr.heap.size Z5):=⟨R9,T9⟩;have BB:=hdH (BB.out.trans ((BV.out.trans B9).mono BB.out.size));have c4_0:=V4.out.cell 0 _ rfl;clear E9 R9 T9 B9 t1;have t2:=tR)
    |(have q0:=t0;(with_reducible refine at_alloc ?_);refine new_lawC _ Z5 zero_slot ?_;intro w1 X9 B9 l9;have V4:=hdH (X9);have BV:=hdH (B9);clear X9 B9 l9 t0;have t1:=tR)
    |((with_reducible refine at_index ?_);refine wpl_op (v:=.agg Z5.toArray) rfl (by kernel_rfl) ?_))
    go_roundw
    case rel=>first | exact ⟨1,by omega,by go_num,BB.out⟩ | exact ⟨2,by omega,by go_num,BB.out⟩ | exact ⟨3,by omega,by go_num,BB.out⟩ | exact ⟨4,by omega,by go_num,BB.out⟩
    case measure=>simp [intOf]
  ·have V1:=hdH (V1.out.below BB.out (range_lt V1.out.1 (Nat.succ_pos _)))
   have V2:=hdH (V2.out.below BB.out (range_lt V2.out.1 (Nat.succ_pos _)))
   have BZ:=hdH (BQ.out.trans (BB.out.mono BQ.out.size))
   go_wp2_with (first
    |(have q1:=t1;(with_reducible refine at_store ?_);refine store_lawC _ Z20 wa.heap.size 0 rfl rfl V2.out.2 rowy_slots4.2 z20_one ?_;intro w2 E9 R9 T9 B9;have HR:Hid (Vr w2 wa.heap.size Z20):=⟨R9,T9⟩;have BZ:=hdH (BZ.out.trans (B9.mono (Nat.le_of_lt L2.out)));clear E9 R9 T9 B9 t1)
    |(have q0:=t0;refine load_lawC _ rfl Z20 w.heap.size 0 rfl V1.out.1 rowy_slots4 ?_;clear t0;have t1:=tR))
   exact bodyPost_ret (v:=.agg Z20.toArray) (results_c rfl _ _ wa.heap.size _ rowy_slots4 rfl HR.out.1) rfl ⟨rfl,BZ.out⟩
theorem mapof_zero (g n cap:Nat) (hn:n≤60) (w:World) (h:Zr w g n 10 Z10t):Calls Tryz.prog 27 #[.agg Z20.toArray,.slice (some ⟨g,0,none⟩) n cap] w fun e w'=>(∃ p,e=.returned (.pointer (some ⟨p,0,none⟩)))∧Below w.heap.size w w':=by
 have HZ:=hdH (h)
 clear h
 have t0:=tR
 go_enter Tryz.func27,Tryz.ntmps27
 go_wp2_with (first
  |(have q2:=t2;refine load_lawC _ rfl Z20 w.heap.size 0 rfl V1.out.1 rowy_slots4 ?_;clear t2)
  |(have q1:=t1;go_at_call 64;refine (pmnew_any _).mono ?_;rintro e9 wb ⟨p,rfl,B9⟩;have V1:=hdH (V1.out.below B9 (range_lt V1.out.1 (Nat.succ_pos _)));have BG:=hdH (BG.out.trans (B9.mono BG.out.size));clear B9 t1;have t2:=tR)
  |(have q0:=t0;refine box_lawC _ Z20 rfl ?_;intro wa X9 B9 l9;have V1:=hdH (X9);have BG:=hdH (B9);clear X9 B9 l9 t0;have t1:=tR))
 go_loopw [14] (fun i wr=>∃ k:Nat,k≤4∧i=.int .i64 (k:Int)∧Below wb.heap.size wb wr) (fun i _=>4-(intOf i).toNat)
 case atStart=>exact ⟨0,by omega,rfl,Below.refl _ _⟩
 case round=>
  obtain ⟨k,hk,rfl,hB⟩:=hrel
  have BB:=hdH (hB)
  clear hB
  have t0:=tR
  rcases (show k=0∨k=1∨k=2∨k=3∨¬k<4 by omega) with rfl | rfl | rfl | rfl | h4
  iterate 4
   ·go_wp2_with (first
    |(have q3:=t3;go_at_call 68;refine (right_zero _).mono ?_;rintro e9 w3 ⟨rfl,B9⟩;have BB:=hdH (BB.out.trans (B9.mono BB.out.size));clear B9 t3)
    |(have q2:=t2;refine load_lawC _ rfl Z5 wr.heap.size 0 rfl V4.out.1 rowy_slot ?_;clear t2;have t3:=tR)
    |(have q1:=t1;(with_reducible refine at_store ?_);refine store_lawC _ Z5 wr.heap.size 0 rfl rfl V4.out.2 rowy_slot.2 z5_one ?_;intro w2 E9 R9 T9 B9;have V4:Hid (Vr w2 wr.heap.size Z5):=⟨R9,T9⟩;have BB:=hdH (BB.out.trans ((BV.out.trans B9).mono BB.out.size));have c4_0:=V4.out.cell 0 _ rfl;clear E9 R9 T9 B9 t1;have t2:=tR)
    |(have q0:=t0;(with_reducible refine at_alloc ?_);refine new_lawC _ Z5 zero_slot ?_;intro w1 X9 B9 l9;have V4:=hdH (X9);have BV:=hdH (B9);clear X9 B9 l9 t0;have t1:=tR)
    |((with_reducible refine at_index ?_);refine wpl_op (v:=.agg Z5.toArray) rfl (by kernel_rfl) ?_))
    go_roundw
    case rel=>first | exact ⟨1,by omega,by go_num,BB.out⟩ | exact ⟨2,by omega,by go_num,BB.out⟩ | exact ⟨3,by omega,by go_num,BB.out⟩ | exact ⟨4,by omega,by go_num,BB.out⟩
    case measure=>simp [intOf]
  ·have BG:=hdH (BG.out.trans (BB.out.mono BG.out.size))
   have h5:¬(k:Int)<4:=by omega
   clear BB t0 hk h4
   go_wp2
   obtain ⟨wc,rfl⟩:∃ x,x=wr:=⟨_,rfl⟩
   go_loopw [9,11,28,35] (fun _ _ i _ wr=>∃ k:Nat,k≤n∧i=.int .i64 (k:Int)∧Below wc.heap.size wc wr) (fun _ _ i _ _=>n-(intOf i).toNat)
   case atStart=>exact ⟨0,Nat.zero_le _,rfl,Below.refl _ _⟩
   case round=>
    obtain ⟨k,hk,rfl,hB⟩:=hrel
    have BB:=hdH (hB)
    clear hB
    by_cases hlt:k<n
    ·have lk:(k:Int)<(n:Int):=by omega
     have HK:Hid (k<n):=hlt
     have t0:=tR
     go_wp2_with (first
    |(have q2:=t2;(with_reducible refine at_store ?_);refine store_lawC _ Z10t wr.heap.size 0 rfl rfl V9.out.2 rowy_told.2 z10_one ?_;intro w2 E9 R9 T9 B9;have V9:Hid (Vr w2 wr.heap.size Z10t):=⟨R9,T9⟩;have BB:=hdH (BB.out.trans ((BV.out.trans B9).mono BB.out.size));have c9_9:=V9.out.cell 9 _ rfl;clear E9 R9 T9 B9 t2;have t3:=tR)
    |(have q1:=t1;(with_reducible refine at_alloc ?_);refine new_lawC _ Z10t zero_told ?_;intro w1 X9 B9 l9;have V9:=hdH (X9);have BV:=hdH (B9);clear X9 B9 l9 t1;have t2:=tR)
    |(have q0:=t0;refine load_lawC _ rfl Z10t g (k*10) rfl ((HZ.out.below (BG.out.trans (BB.out.mono BG.out.size)) (Nat.succ_pos _)) k HK.out).1 rowy_told ?_;clear t0;have t1:=tR)
    |(refine wpl_op (v:=.pointer (some ⟨g,k*10,none⟩)) rfl (exec_idxT _ _ rfl g n cap k rfl rfl HK.out _) ?_))
     obtain ⟨wd,rfl⟩:∃ x,x=w2:=⟨_,rfl⟩
     go_loopw [35] (fun i wr=>i=.int .i64 0∧Below wc.heap.size wc wr) (fun _ _=>0)
     case atStart=>exact ⟨rfl,BB.out⟩
     case round=>
      obtain ⟨rfl,hB⟩:=hrel
      have BB:=hdH (hB)
      clear hB
      go_wp2
      go_roundw
      case rel=>exact ⟨k+1,by omega,by go_num,BB.out⟩
      case measure=>simp [intOf];omega
    ·have ek:k=n:=by omega
     subst ek
     go_wp2
     go_ret
     exact ⟨⟨_,rfl⟩,BG.out.trans (BB.out.mono BG.out.size)⟩
theorem und_hds:Tryz.prog.underlying 43=some (.slice (Tryz.prog.elem 43)):=by kernel_rfl
theorem elem_hds:Tryz.prog.elem 43=64:=by kernel_rfl
theorem size_hd6 (w:World):(sizeOf 64).run Tryz.prog w=.ok 6 w:=by kernel_rfl
theorem exec_idxH {ev:Operand→Value} {o:Oper} (x y:Operand) (hop:o.op=Op.indexAddr 43 x y) (g n cap i:Nat) (hx:ev x=.slice (some ⟨g,0,none⟩) n cap) (hy:ev y=.int .i64 (i:Int)) (hi:i<n) (w:World):(execOp ev o).run Tryz.prog w=.ok (.value (.pointer (some ⟨g,i*6,none⟩))) w:=by
 have hr:(Instr.indexAt 43 (.slice (some ⟨g,0,none⟩) n cap) (.int .i64 (i:Int))).run Tryz.prog w=.ok (.pointer (some ⟨g,i*6,none⟩)) w:=by
  rw [run_indexAt_slice _ _ _ _ _ _ _ und_hds,if_pos (by omega),elem_hds,size_hd6]
  simp only [Result.andThen_ok,Int.toNat_natCast]
  rw [Addr.add_lit,Nat.zero_add]
 unfold execOp
 simp only [hop,hx,hy,Sem.run_bind,Sem.run_pure,Result.andThen_ok,hr]
theorem z10_ord {w:World} {g:Nat} (h:w.rangeAt g 0 Z10t):w.rangeAt g 3 hv0:=fun j u hj=>by
 have z:=h (3+j) u (by
  match j,hj with
  |0,hj=>exact hj
  |1,hj=>exact hj
  |2,hj=>exact hj
  |3,hj=>exact hj
  |4,hj=>exact hj
  |5,hj=>exact hj)
 rwa [Nat.zero_add] at z
theorem orders_zero (g n cap:Nat) (hn:n≤60) (w:World) (h:Zr w g n 10 Z10t):Calls Tryz.prog 30 #[.slice (some ⟨g,0,none⟩) n cap] w fun e w'=>(∃ p,e=.returned (.slice (some ⟨p,0,none⟩) n n))∧Below w.heap.size w w':=by
 have HZ:=hdH (h)
 have N6:Hid (n≤64):=(by show n≤64;omega)
 clear h
 go_enter Tryz.func30,Tryz.ntmps30
 go_wp2_with (at_make;refine make_lawH _ rfl _ _ rfl _ n rfl rfl rfl N6.out ?_;intro wb X9 B9 l9;have HO:=hdH (X9);have BG:=hdH (B9);have LB:=hdH (l9);clear X9 B9 l9)
 go_loopw [11] (fun i wr=>∃ k:Nat,k≤n∧i=.int .i64 (k:Int)∧Zr wr w.heap.size n 6 hv0∧Below w.heap.size w wr∧wb.heap.size≤wr.heap.size) (fun i _=>n-(intOf i).toNat)
 case atStart=>exact ⟨0,Nat.zero_le _,rfl,HO.out,BG.out,Nat.le_refl _⟩
 case round=>
  obtain ⟨k,hk,rfl,hO,hB,hs⟩:=hrel
  have HO:=hdH (hO)
  have BG:=hdH (hB)
  have BB:Hid (Below wr.heap.size wr wr):=Below.refl _ _
  have LS:Hid (w.heap.size<wr.heap.size):=Nat.lt_of_lt_of_le LB.out hs
  have LS2:=hdH (hs)
  clear hB hO hs
  by_cases hlt:k<n
  ·have lk:(k:Int)<(n:Int):=by omega
   have HK:Hid (k<n):=hlt
   have t0:=tR
   go_wp2_with (first
    |(have q4:=t4;(with_reducible refine at_store ?_);refine store_lawC _ hv0 w.heap.size (k*6) rfl rfl ((HO.out.below BB.out (Nat.succ_pos _)) k HK.out).2 rowy_head.2 (hv_one _ _ _ _ _ _) ?_;intro w5 E9 R9 T9 B9;have HO:Hid (Zr w5 w.heap.size n 6 hv0):=(by rw [E9.out];exact (HO.out.below BB.out (Nat.succ_pos _)).same ((HO.out.below BB.out (Nat.succ_pos _)) k HK.out).1 ((HO.out.below BB.out (Nat.succ_pos _)) k HK.out).2);have BG:Hid (Below w.heap.size w w5):=(BG.out.trans (BB.out.mono (Nat.le_of_lt LS.out))).trans B9;have LS3:Hid (wb.heap.size≤w5.heap.size):=Nat.le_trans LS2.out (Nat.le_trans BB.out.size B9.size);clear E9 R9 T9 B9 t4)
    |(have q3:=t3;refine load_lawC _ rfl hv0 wr.heap.size 3 rfl (z10_ord V9.out.1) rowy_head ?_;clear t3;have t4:=tR)
    |(refine wpl_op (v:=.pointer (some ⟨w.heap.size,k*6,none⟩)) rfl (exec_idxH _ _ rfl w.heap.size n n k rfl rfl HK.out _) ?_)
    |(have q2:=t2;(with_reducible refine at_store ?_);refine store_lawC _ Z10t wr.heap.size 0 rfl rfl V9.out.2 rowy_told.2 z10_one ?_;intro w2 E9 R9 T9 B9;have V9:Hid (Vr w2 wr.heap.size Z10t):=⟨R9,T9⟩;have BB:=hdH (BB.out.trans ((BV.out.trans B9).mono BB.out.size));clear E9 R9 T9 B9 t2;have t3:=tR)
    |(have q1:=t1;(with_reducible refine at_alloc ?_);refine new_lawC _ Z10t zero_told ?_;intro w1 X9 B9 l9;have V9:=hdH (X9);have BV:=hdH (B9);clear X9 B9 l9 t1;have t2:=tR)
    |(have q0:=t0;refine load_lawC _ rfl Z10t g (k*10) rfl ((HZ.out.below (BG.out.trans (BB.out.mono BG.out.size)) (Nat.succ_pos _)) k HK.out).1 rowy_told ?_;clear t0;have t1:=tR)
    |(refine wpl_op (v:=.pointer (some ⟨g,k*10,none⟩)) rfl (exec_idxT _ _ rfl g n cap k rfl rfl HK.out _) ?_))
   go_roundw
   case rel=>exact ⟨k+1,by omega,by go_num,HO.out,BG.out,LS3.out⟩
   case measure=>simp [intOf];omega
  ·have ek:k=n:=by omega
   subst ek
   go_wp2
   go_ret
   exact ⟨⟨_,rfl⟩,BG.out⟩
end Go.Proofs.YtmbgokmomkmgcaaGreatDoor.sc
namespace Go.Proofs.YtmbgokmomkmgcaaGreatDoor.sc
open Go.RowKit Go.Proofs.YtmbgokmomkmgcaaGreatDoor.fa Go.Proofs.YtmbgokmomkmgcaaGreatDoor.he Go.Proofs.YtmbgokmomkmgcaaGreatDoor.pa
set_option maxRecDepth 20000
theorem ledger_zero (g0 g1 g2 g3 g4 g5:Int) (mv:Value) (g n cap:Nat) (hn:n≤60) (w:World) (h:Zr w g n 10 Z10t):Calls Tryz.prog 29 #[.agg (ints .i64 [g0,g1,g2,g3,g4,g5]),.slice (some ⟨g,0,none⟩) n cap,mv,.int .u64 0] w fun e w'=>(∃ c d,e=.returned (le.pt c)∧le.Led w' c d n (fun _=>le.bn))∧Below w.heap.size w w':=by
 have HZ:=hdH (h)
 have SM:Hid (∀ w0,Below w.heap.size w w0→Calls Tryz.prog 70 #[.slice (some ⟨g,0,none⟩) n cap] w0 fun e w'=>e=.returned (.int .i64 0)∧Below w0.heap.size w0 w'):=fun w0 q=>most_zero g n cap hn w0 (h.below q (Nat.succ_pos _))
 have SN:Hid (∀ w0,Calls Tryz.prog 69 #[.int .i64 (n:Int)] w0 fun e w'=>∃ c d,e=.returned (.tuple #[le.pt c,.int .i64 0])∧le.Led w' c d n (fun _=>le.bn)∧w0.heap.size≤c∧w0.heap.size≤d∧d<w'.heap.size∧Below w0.heap.size w0 w'):=fun w0=>le.new_yes n w0 (by omega)
 clear h
 have t0:=tR
 go_enter Tryz.func29,Tryz.ntmps29
 go_wp2_with (first
  |(have q2:=t2;go_at_call 70;refine (SM.out _ BG.out).mono ?_;rintro e9 wc ⟨rfl,B9⟩;have HL:=hdH (HL.out.below B9);have LD:Hid (w.heap.size≤d∧d<wc.heap.size):=⟨LD.out.1,Nat.lt_of_lt_of_le LD.out.2 B9.size⟩;have BG:=hdH (BG.out.trans (B9.mono BG.out.size));clear B9 t2)
  |(have q1:=t1;go_at_call 69;refine (SN.out _).mono ?_;rintro e9 wb ⟨c,d,rfl,h1,h2,h3,h4,B9⟩;have HL:=hdH (h1);have LD:Hid (w.heap.size≤d∧d<wb.heap.size):=⟨Nat.le_trans BG.out.size h3,h4⟩;have BG:=hdH (BG.out.trans (B9.mono BG.out.size));clear B9 h1 h2 h3 h4 t1;have t2:=tR)
  |(have q0:=t0;refine box_lawC _ [.int .i64 g0,.int .i64 g1,.int .i64 g2,.int .i64 g3,.int .i64 g4,.int .i64 g5] rfl ?_;intro wa X9 B9 l9;have BG:=hdH (B9);clear X9 B9 l9 t0;have t1:=tR))
 go_loopw [26] (fun i wr=>∃ k:Nat,k≤n∧i=.int .i64 (k:Int)∧le.Led wr c d n (fun _=>le.bn)∧Below w.heap.size w wr∧d<wr.heap.size) (fun i _=>n-(intOf i).toNat)
 case atStart=>exact ⟨0,Nat.zero_le _,rfl,HL.out,BG.out,LD.out.2⟩
 case round=>
  obtain ⟨k,hk,rfl,h1,h2,h3⟩:=hrel
  have HL:=hdH (h1)
  have BG:=hdH (h2)
  have L3:=hdH (h3)
  have BB:Hid (Below wr.heap.size wr wr):=Below.refl _ _
  clear h1 h2 h3
  by_cases hlt:k<n
  ·have lk:(k:Int)<(n:Int):=by omega
   have HK:Hid (k<n):=hlt
   have kb:k≤60:=by omega
   have SP:Hid (∀ w0,Calls Tryz.prog 63 #[.int .i64 (k:Int),.int .i64 0] w0 fun e w'=>e=.returned (.agg #[.int .i64 (4+(k:Int)),.int .i64 0])∧Below w0.heap.size w0 w'):=fun w0=>(place_any k 0 (by omega) w0).mono (fun e w' h=>⟨h.1.trans (by simp [ints]),h.2⟩)
   have sh0:(0 :Int)≤4+(k:Int):=by omega
   have t0:=tR
   go_wp2_with (first
    |(have q9:=t9;go_at_call 73;refine (le.set_un c d n k (fun _=>le.bn) _ (HL.out.below BB.out) HK.out).mono ?_;rintro e9 w9 ⟨rfl,h1,h2⟩;rw [le.up_bn] at h1;have HL:=hdH (h1);have BG:Hid (Below w.heap.size w w9):=(BG.out.trans (BB.out.mono BG.out.size)).trans (below_gr h2 LD.out.1 (Nat.le_trans BG.out.size BB.out.size));have L9:Hid (d<w9.heap.size):=Nat.lt_of_lt_of_le L3.out (Nat.le_trans BB.out.size h2.size);clear h1 h2 t9)
    |(have q8:=t8;refine load_lawC _ rfl le.bn.cs w2.heap.size 0 rfl VX.out.1 le.rowy_lblk ?_;clear t8;have t9:=tR)
    |(have q7:=t7;(with_reducible refine at_store ?_);refine set_law1 _ rfl _ _ 4 rfl le.bn.cs w2.heap.size 6 (.bool false) rfl rfl VX.out (by show 6<9;omega) rfl rfl one_bool.2 ?_;intro w7 V9 G9;have VX:=hdH (V9);have BB:=hdH (BB.out.trans (below_gr G9 L2.out BB.out.size));clear V9 G9 t7;have t8:=tR)
    |(have q6:=t6;go_at_call 63;refine (SP.out _).mono ?_;rintro e9 w6 ⟨rfl,B9⟩;have VX:=hdH (VX.out.below B9 (range_lt VX.out.1 (Nat.succ_pos _)));have BB:=hdH (BB.out.trans (B9.mono BB.out.size));clear B9 t6;have t65:=tR)
    |(have q65:=t65;refine wpl_op (v:=.int .i64 (4+(k:Int))) rfl (by rfl) ?_;clear t65;have t7:=tR)
    |(have q5:=t5;go_at_call 71;refine (live_nil _ _).mono ?_;rintro e9 w5 ⟨rfl,B9⟩;have VX:=hdH (VX.out.below B9 (range_lt VX.out.1 (Nat.succ_pos _)));have BB:=hdH (BB.out.trans (B9.mono BB.out.size));clear B9 t5 c9_0 c9_9;have t6:=tR)
    |(have q4:=t4;(with_reducible refine at_store ?_);refine store_lawC _ le.bn.cs w2.heap.size 0 rfl rfl VX.out.2 le.size_lblk le.bn.one ?_;intro w4 E9 R9 T9 B9;have VX:Hid (Vr w4 w2.heap.size le.bn.cs):=⟨R9,T9⟩;have V9:=hdH (V9.out.below (BX.out.trans B9) (range_lt V9.out.1 (Nat.succ_pos _)));have BB:=hdH (BB.out.trans ((BX.out.trans B9).mono BB.out.size));clear E9 R9 T9 B9 t4 BX;have c9_0:=V9.out.cell 0 _ rfl;have c9_9:=V9.out.cell 9 _ rfl;have t5:=tR)
    |(have q35:=t35;(with_reducible refine at_alloc ?_);refine new_lawC _ le.b0.cs le.zero_lblk ?_;intro w3 X9 B9 l9;have VX:=hdH (X9);have BX:=hdH (B9);have L2:Hid (wr.heap.size≤w2.heap.size):=BB.out.size;clear X9 B9 l9 t35;have t4:=tR)
    |(have q3:=t3;refine build_law _ rfl 92 _ rfl (.agg le.bn.cs.toArray) (by kernel_rfl) ?_;clear t3;have t35:=tR)
    |(have q2:=t2;(with_reducible refine at_store ?_);refine store_lawC _ Z10t wr.heap.size 0 rfl rfl V9.out.2 rowy_told.2 z10_one ?_;intro w2 E9 R9 T9 B9;have V9:Hid (Vr w2 wr.heap.size Z10t):=⟨R9,T9⟩;have BB:=hdH (BB.out.trans ((BV.out.trans B9).mono BB.out.size));clear E9 R9 T9 B9 t2;have t3:=tR)
    |(have q1:=t1;(with_reducible refine at_alloc ?_);refine new_lawC _ Z10t zero_told ?_;intro w1 X9 B9 l9;have V9:=hdH (X9);have BV:=hdH (B9);clear X9 B9 l9 t1;have t2:=tR)
    |(have q0:=t0;refine load_lawC _ rfl Z10t g (k*10) rfl ((HZ.out.below (BG.out.trans (BB.out.mono BG.out.size)) (Nat.succ_pos _)) k HK.out).1 rowy_told ?_;clear t0;have t1:=tR)
    |(refine wpl_op (v:=.pointer (some ⟨g,k*10,none⟩)) rfl (exec_idxT _ _ rfl g n cap k rfl rfl HK.out _) ?_))
   go_roundw
   case rel=>exact ⟨k+1,by omega,by go_num,HL.out,BG.out,L9.out⟩
   case measure=>simp [intOf];omega
  ·have ek:k=n:=by omega
   subst ek
   go_wp2
   go_ret
   exact ⟨⟨c,d,rfl,HL.out⟩,BG.out⟩
end Go.Proofs.YtmbgokmomkmgcaaGreatDoor.sc
