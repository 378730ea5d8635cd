/- Parts of the proof: what ScanBlocks reaches. No claim of its own. -/
import Derived.Lib.MakeNoZero
import Derived.Deep.DeepCutAuto
import Derived.Deep.RegionHeld3
import Derived.Laws.AppendOwnNone
import Derived.Lib.AppendZeros
import Derived.Lib.SliceRun
import Derived.Laws.StructEq
import Derived.ArgAppend
import Derived.WalkKit
import Derived.WalkSmall
import Derived.ProofKit
import Derived.OpenShut
import Derived.BigQuiet
import Derived.Deep.QuietTactic
import Derived.Deep.WholeRow
import Derived.Deep.MidRow
import Derived.Deep.DeepHandedRow
import Derived.Lib.LaidTab
import Derived.Deep.Matrix
import Derived.OwnWalk
import Derived.Deep.RegionWith
import Derived.Test.YtmbgokmomkmgcaaGreatDoorK00
import Derived.Test.YtmbgokmomkmgcaaGreatDoorK01
import Derived.Test.YtmbgokmomkmgcaaGreatDoorK02
import Derived.Test.YtmbgokmomkmgcaaGreatDoorK03
import Derived.Test.YtmbgokmomkmgcaaGreatDoorK04
import Derived.Test.YtmbgokmomkmgcaaGreatDoorK05
import Derived.Test.YtmbgokmomkmgcaaGreatDoorK06
import Derived.Test.YtmbgokmomkmgcaaGreatDoorK07
import Derived.Test.YtmbgokmomkmgcaaGreatDoorK08
import Derived.Test.YtmbgokmomkmgcaaGreatDoorK09
import Derived.Test.YtmbgokmomkmgcaaGreatDoorK10
import Derived.Test.YtmbgokmomkmgcaaGreatDoorK11
import Derived.Test.YtmbgokmomkmgcaaGreatDoorK12
import Derived.Test.YtmbgokmomkmgcaaGreatDoorK13
import Derived.Test.YtmbgokmomkmgcaaGreatDoorK14
import Derived.Test.YtmbgokmomkmgcaaGreatDoorK15
import Derived.Test.YtmbgokmomkmgcaaGreatDoorK16
import Derived.Test.YtmbgokmomkmgcaaGreatDoorK17
import Derived.Test.YtmbgokmomkmgcaaGreatDoorK18
import Derived.Test.YtmbgokmomkmgcaaGreatDoorK19
import Derived.Test.YtmbgokmomkmgcaaGreatDoorK20
import Derived.Test.YtmbgokmomkmgcaaGreatDoorK21
import Derived.Test.YtmbgokmomkmgcaaGreatDoorK22
import Derived.Test.YtmbgokmomkmgcaaGreatDoorK23
import Derived.Test.YtmbgokmomkmgcaaGreatDoorK25
import Derived.Test.YtmbgokmomkmgcaaGreatDoorK26
import Derived.Test.YtmbgokmomkmgcaaGreatDoorK27
import Derived.Test.YtmbgokmomkmgcaaGreatDoorK28
set_option maxHeartbeats 8000000
namespace Go.Proofs.YtmbgokmomkmgcaaGreatDoor.sc
open Go.RowKit Go.Proofs.YtmbgokmomkmgcaaGreatDoor.fa Go.Proofs.YtmbgokmomkmgcaaGreatDoor.he Go.Proofs.YtmbgokmomkmgcaaGreatDoor.pa
set_option maxRecDepth 20000
theorem block_any (g0 g3 g4 g5 bl:Int) (S P:Nat) (b off n cap:Nat) (f:Nat→List Int) (w:World) (hr:ge.Rt [g0,(P:Int),(S:Int),g3,g4,g5]) (hT:Tab w) (hn:P≤n) (hA:∀ i,i<n→∃ z,(∀ w',Below w.heap.size w w'→w'.cell? ⟨b,off+i,none⟩=some z)∧Byt w z (f i)∧(f i).length =S+88):
  Calls Tryz.prog 14 #[.agg (ints .i64 [g0,(P:Int),(S:Int),g3,g4,g5]),.int .i64 bl,.slice (some ⟨b,off,none⟩) n cap] w fun x w'=>Tlds S P bl f x w'∧Below w.heap.size w w':=by
 have hP:4≤P:=by have:=hr.1.2.1;have e:gb [g0,(P:Int),(S:Int),g3,g4,g5] 1=(P:Int):=rfl;omega
 obtain ⟨k0,n0,c0,l0,e0,t0z,HQ,SC0⟩:=clo_any g0 (P:Int) g3 g4 g5 S b off n cap 0 f w hr hT (by omega) (hA 0 (by omega))
 cases hc:Cm S (f 0) with
 |false=>
  rw [hc] at SC0
  refine (block_un g0 g3 g4 g5 bl S P b off n cap w k0 n0 c0 l0 e0 t0z hr hn SC0).mono ?_
  rintro x w' ⟨h1,h2⟩
  exact ⟨.inl ⟨by unfold Kn;rw [hc];rfl,h1⟩,h2⟩
 |true=>
  rw [hc] at SC0
  obtain ⟨e1,e2,e3,e4,e5,e6⟩:=HQ hc
  by_cases hk:k0=3
  ·by_cases h4:n0<4
   ·obtain ⟨z, -,z2,z3⟩:=hA 0 (by omega)
    have kn:Kn S (f 0)=true:=by unfold Kn;rw [hc,←e1,←e2,decide_eq_true hk,decide_eq_true h4];rfl
    refine (block_known g0 g3 g4 g5 bl S P b off n cap f w hr hT hn hA k0 n0 c0 l0 e0 t0z SC0 (by rw [e1,e2,e3,e4,e5,e6];exact ⟨rfl,rfl⟩) hk h4 (by
     rw [e4]
     have h1:(sub ((f 0).drop S) 4 8).length =4:=by rw [sub_len _ _ _ (by simp;omega)]
     have ha:=z2.all
     exact (be_num4 h1 (allB_sub (fun j=>by have:=ha (S+j);simpa [gb,List.getD] using this) 4 8)).2)).mono ?_
    rintro x w' ⟨⟨v,h1,h2⟩,h3⟩
    exact ⟨.inr ⟨kn,v,by rw [td_eq,←e1,←e2,←e3,←e4,←e5,←e6];exact h1,h2⟩,h3⟩
   ·refine (block_far g0 g3 g4 g5 bl S P b off n cap w k0 n0 c0 l0 e0 t0z hr hn SC0 hk (by omega)).mono ?_
    rintro x w' ⟨h1,h2⟩
    exact ⟨.inl ⟨by unfold Kn;rw [hc,←e2,decide_eq_false h4,Bool.and_false];rfl,h1⟩,h2⟩
  ·refine (block_kind g0 g3 g4 g5 bl S P b off n cap w k0 n0 c0 l0 e0 t0z hr hn SC0 hk).mono ?_
   rintro x w' ⟨h1,h2⟩
   exact ⟨.inl ⟨by unfold Kn;rw [hc,←e1,decide_eq_false hk];rfl,h1⟩,h2⟩
theorem kn_blank (S:Nat):Kn S (List.replicate (S+88) 255)=false:=by
 have e:(List.replicate (S+88) (255 :Int)).drop S=List.replicate 88 255:=by rw [List.drop_replicate];congr 1;omega
 unfold Kn Cm
 rw [e,decide_eq_false (p:=Tl (List.replicate 88 255)) (fun h=>by have:=h.2.2.2;simp [gb] at this)]
 rfl
def Zr (w:World) (g n k:Nat) (cs:List Value):Prop:=∀ i,i<n→w.rangeAt g (i*k) cs∧w.there g (i*k) cs.length
theorem Zr.heap {w w':World} {g n k:Nat} {cs:List Value} (h:Zr w g n k cs) (e:w'.heap[g]? =w.heap[g]?):Zr w' g n k cs:=fun i hi=>⟨range_heap (h i hi).1 e,he.there_heap (h i hi).2 e⟩
theorem Zr.lt {w:World} {g n k:Nat} {cs:List Value} (h:Zr w g n k cs) (hn:0<n) (hc:0<cs.length):g<w.heap.size:=range_lt (h 0 hn).1 hc
theorem Zr.below {w w':World} {g n k:Nat} {cs:List Value} (h:Zr w g n k cs) (hb:Below w.heap.size w w') (hc:0<cs.length):Zr w' g n k cs:=fun i hi=>⟨range_heap (h i hi).1 (hb.block g (range_lt (h i hi).1 hc)),he.there_heap (h i hi).2 (hb.block g (range_lt (h i hi).1 hc))⟩
theorem same_cells {w:World} {g p:Nat} {cs:List Value} (h:w.rangeAt g p cs) (ht:w.there g p cs.length) (j:Nat):(w.setCells g p cs).cell? ⟨g,j,none⟩=w.cell? ⟨g,j,none⟩∧(w.setCells g p cs).frozen? ⟨g,j,none⟩=w.frozen? ⟨g,j,none⟩:=by
 refine ⟨?_,World.frozen?_setCells _ _ _ _ _⟩
 by_cases hj:p≤j∧j<p+cs.length
 ·obtain ⟨t,rfl⟩:∃ t,j=p+t:=⟨j-p,by omega⟩
  have ht':t<cs.length:=by omega
  rw [World.cell?_setCells_in g cs p w (fun i hi=>(ht i hi).1) t ht',h t _ (List.getElem?_eq_getElem ht')]
 ·rw [World.cell?_setCells_out g cs p w ⟨g,j,none⟩ (fun _ _=>by simp;omega)]
theorem Zr.same {w:World} {g n k p:Nat} {cs cs':List Value} (h:Zr w g n k cs) (h1:w.rangeAt g p cs') (ht:w.there g p cs'.length):Zr (w.setCells g p cs') g n k cs:=fun i hi=>
 ⟨fun j v hv=>by rw [(same_cells h1 ht _).1];exact (h i hi).1 j v hv,fun j hj=>by rw [(same_cells h1 ht _).1,(same_cells h1 ht _).2];exact (h i hi).2 j hj⟩
def hv0:List Value:=hv 0 0 0 0 0 0
section
variable {ops:Array Oper} {rest:List Oper} {o:Oper} {a:Act} {Q:Exit→Act→World→Prop}
theorem make_lawT (w:World) (hg:o.guard=none) (l c:Operand) (hop:o.op=Op.makeSlice 98 l c)
  (L:Int) (n:Nat) (hl:a.eval l=.int .i64 L) (hc:a.eval c=.int .i64 L) (hL:L=(n:Int)) (hn:n≤64)
  (hK:∀ w',Zr w' w.heap.size n 10 Z10t→Below w.heap.size w w'→w.heap.size<w'.heap.size→wpList Tryz.prog ops Q rest (a.put o.dst (.slice (some ⟨w.heap.size,0,none⟩) n n)) w'):
  wpList Tryz.prog ops Q (o :: rest) a w:=by
 obtain ⟨i0,hi,hz0,hz1,hz2⟩:=info_parts (show (Tryz.prog.info? 67).map (fun i=>(i.zero,i.size,i.bytes))=some (some (.agg Z10t.toArray),10,96) by kernel_rfl)
 refine wpList_make_full w hg l c 98 hop w.heap.size 67 i0 (.agg Z10t.toArray) 10 Tryz.underlying98 hi hz0 hz1 .i64 .i64 L L n hl hc hL hL (by rw [hz2];omega) (by simp only [maxLen];omega) (Nat.le_refl _) fun w' h1 h2=>?_
 have hlt:w.heap.size<w'.heap.size:=(h1.lt w.heap.size rfl).2
 have hcell:∀ i j,i<n→j<10→∀ v,Z10t[j]? =some v→w'.cell? ⟨w.heap.size,i*10+j,none⟩=some v:=fun i j hi hj v hv=>by
  rw [h1.cellAt (i*10+j) (by omega)]
  have hm:(i*10+j)%10=j:=by omega
  have hs:(Value.agg Z10t.toArray).cells.size =10:=rfl
  rw [Array.getElem?_toList]
  unfold madeCells
  rw [Array.getElem?_map,Array.getElem?_range,if_pos (by omega)]
  simp only [Option.map_some,hs,hm]
  show some (Z10t.toArray[j]!)=some v
  rw [←hv]
  have:j=0∨j=1∨j=2∨j=3∨j=4∨j=5∨j=6∨j=7∨j=8∨j=9:=by omega
  rcases this with rfl | rfl | rfl | rfl | rfl | rfl | rfl | rfl | rfl | rfl <;> rfl
 refine hK w' (fun i hi=>⟨fun j v hv=>?_,fun j hj=>⟨?_,h1.frozenAt _⟩⟩) ((Below.refl _ w).grown h2 (Nat.le_refl _) (fun k hk=>by cases hk)) hlt
 ·exact hcell i j hi (List.getElem?_eq_some_iff.1 hv).1 v hv
 ·rw [hcell i j hi hj _ (List.getElem?_eq_getElem hj)];rfl
theorem make_lawH (w:World) (hg:o.guard=none) (l c:Operand) (hop:o.op=Op.makeSlice 43 l c)
  (L:Int) (n:Nat) (hl:a.eval l=.int .i64 L) (hc:a.eval c=.int .i64 L) (hL:L=(n:Int)) (hn:n≤64)
  (hK:∀ w',Zr w' w.heap.size n 6 hv0→Below w.heap.size w w'→w.heap.size<w'.heap.size→wpList Tryz.prog ops Q rest (a.put o.dst (.slice (some ⟨w.heap.size,0,none⟩) n n)) w'):
  wpList Tryz.prog ops Q (o :: rest) a w:=by
 obtain ⟨i0,hi,hz0,hz1,hz2⟩:=info_parts (show (Tryz.prog.info? 64).map (fun i=>(i.zero,i.size,i.bytes))=some (some (.agg hv0.toArray),6,48) by kernel_rfl)
 refine wpList_make_full w hg l c 43 hop w.heap.size 64 i0 (.agg hv0.toArray) 6 Tryz.underlying43 hi hz0 hz1 .i64 .i64 L L n hl hc hL hL (by rw [hz2];omega) (by simp only [maxLen];omega) (Nat.le_refl _) fun w' h1 h2=>?_
 have hlt:w.heap.size<w'.heap.size:=(h1.lt w.heap.size rfl).2
 have hcell:∀ i j,i<n→j<6→∀ v,hv0[j]? =some v→w'.cell? ⟨w.heap.size,i*6+j,none⟩=some v:=fun i j hi hj v hv=>by
  rw [h1.cellAt (i*6+j) (by omega)]
  have hm:(i*6+j)%6=j:=by omega
  have hs:(Value.agg hv0.toArray).cells.size =6:=rfl
  rw [Array.getElem?_toList]
  unfold madeCells
  rw [Array.getElem?_map,Array.getElem?_range,if_pos (by omega)]
  simp only [Option.map_some,hs,hm]
  show some (hv0.toArray[j]!)=some v
  rw [←hv]
  have:j=0∨j=1∨j=2∨j=3∨j=4∨j=5:=by omega
  rcases this with rfl | rfl | rfl | rfl | rfl | rfl <;> rfl
 refine hK w' (fun i hi=>⟨fun j v hv=>?_,fun j hj=>⟨?_,h1.frozenAt _⟩⟩) ((Below.refl _ w).grown h2 (Nat.le_refl _) (fun k hk=>by cases hk)) hlt
 ·exact hcell i j hi (List.getElem?_eq_some_iff.1 hv).1 v hv
 ·rw [hcell i j hi hj _ (List.getElem?_eq_getElem hj)];rfl
end
end Go.Proofs.YtmbgokmomkmgcaaGreatDoor.sc
namespace Go.Proofs.YtmbgokmomkmgcaaGreatDoor.sc
open Go.RowKit Go.Proofs.YtmbgokmomkmgcaaGreatDoor.fa Go.Proofs.YtmbgokmomkmgcaaGreatDoor.he Go.Proofs.YtmbgokmomkmgcaaGreatDoor.pa
set_option maxRecDepth 20000
theorem rowy_place2:Rowy 78 2:=⟨⟨_,Tryz.underlying78,rfl⟩,by kernel_rfl⟩
theorem size_place2:(Tryz.prog.info? 78).map (·.size)=some 2:=by kernel_rfl
theorem zero_place2:(Tryz.prog.info? 78).map (fun i=>(i.zero,i.size))=some (some (.agg ([.int .i64 0,.int .i64 0]:List Value).toArray),2):=by kernel_rfl
theorem place_any (i n:Nat) (hi:i≤100) (w:World):Calls Tryz.prog 63 #[.int .i64 (i:Int),.int .i64 (n:Int)] w fun e w'=>e=.returned (.agg (ints .i64 [((4+i:Nat):Int),(n:Int)]))∧Below w.heap.size w w':=by
 have e4:IntKind.i64.wrap (4+(i:Int))=((4+i:Nat):Int):=by rw [IntKind.wrap_i64];omega
 have t0:=tR
 go_enter Tryz.func63,Tryz.ntmps63
 go_wp2_with (first
  |(have q2:=t2;(with_reducible refine at_store ?_);refine store_lawC _ [.int .i64 ((4+i:Nat):Int),.int .i64 (n:Int)] w.heap.size 0 rfl rfl V1.out.2 size_place2 (by intro v hv;simp at hv;rcases hv with rfl | rfl <;> rfl) ?_;intro w2 E9 R9 T9 B9;have HR:=hdH (R9);have BB:=hdH (BB.out.trans B9);clear E9 R9 T9 B9 t2)
  |(have q1:=t1;refine build_law _ rfl 78 _ rfl (.agg (ints .i64 [((4+i:Nat):Int),(n:Int)])) (by kernel_rfl) ?_;clear t1;have t2:=tR)
  |(have q0:=t0;(with_reducible refine at_alloc ?_);refine new_lawC _ [.int .i64 0,.int .i64 0] zero_place2 ?_;intro w1 X9 B9 l9;have V1:=hdH (X9);have BB:=hdH (B9);clear X9 B9 l9 t0;have t1:=tR))
 exact bodyPost_ret (v:=.agg (ints .i64 [((4+i:Nat):Int),(n:Int)])) (results_c rfl _ _ w.heap.size [.int .i64 ((4+i:Nat):Int),.int .i64 (n:Int)] rowy_place2 rfl HR.out) rfl ⟨rfl,BB.out⟩
theorem und_tolds:Tryz.prog.underlying 98=some (.slice (Tryz.prog.elem 98)):=by kernel_rfl
theorem elem_tolds:Tryz.prog.elem 98=67:=by kernel_rfl
theorem size_told (w:World):(sizeOf 67).run Tryz.prog w=.ok 10 w:=by kernel_rfl
theorem exec_idxT {ev:Operand→Value} {o:Oper} (x y:Operand) (hop:o.op=Op.indexAddr 98 x y) (g n cap i:Nat) (hx:ev x=.slice (some ⟨g,0,none⟩) n cap) (hy:ev y=.int .i64 (i:Int)) (hi:i<n) (w:World):(execOp ev o).run Tryz.prog w=.ok (.value (.pointer (some ⟨g,i*10,none⟩))) w:=by
 have hr:(Instr.indexAt 98 (.slice (some ⟨g,0,none⟩) n cap) (.int .i64 (i:Int))).run Tryz.prog w=.ok (.pointer (some ⟨g,i*10,none⟩)) w:=by
  rw [run_indexAt_slice _ _ _ _ _ _ _ und_tolds,if_pos (by omega),elem_tolds,size_told]
  simp only [Result.andThen_ok,Int.toNat_natCast]
  rw [Addr.add_lit,Nat.zero_add]
 unfold execOp
 simp only [hop,hx,hy,Sem.run_bind,Sem.run_pure,Result.andThen_ok,hr]
theorem wpl_op {ops:Array Oper} {rest:List Oper} {a:Act} {Q:Exit→Act→World→Prop} {w:World} {o:Oper} {v:Value} (hw:Region.wanted o (yielded ops a.tmps)=true) (hr:(execOp a.eval o).run Tryz.prog w=.ok (.value v) w) (hK:wpList Tryz.prog ops Q rest (a.put o.dst v) w):wpList Tryz.prog ops Q (o :: rest) a w:=by
 refine wpList_step fun K hK'=>?_
 rw [if_pos hw]
 unfold Oper.wp
 rw [hr]
 exact hK' _ _ hK
theorem most_zero (g n cap:Nat) (hn:n≤60) (w:World) (h:Zr w g n 10 Z10t):Calls Tryz.prog 70 #[.slice (some ⟨g,0,none⟩) n cap] w fun e w'=>e=.returned (.int .i64 0)∧Below w.heap.size w w':=by
 have HZ:=hdH (h)
 clear h
 go_enter Tryz.func70,Tryz.ntmps70
 go_wp2
 go_loopw [3,8] (fun m i wr=>∃ k:Nat,k≤n∧i=.int .i64 (k:Int)∧m=.int .i64 0∧Below w.heap.size w wr) (fun _ i _=>n-(intOf i).toNat)
 case atStart=>exact ⟨0,Nat.zero_le _,rfl,rfl,Below.refl _ _⟩
 case round=>
  obtain ⟨k,hk,rfl,rfl,hB⟩:=hrel
  have BB:=hdH (hB)
  clear hB
  by_cases hlt:k<n
  ·have lk:(k:Int)<(n:Int):=by omega
   have HK:Hid (k<n):=hlt
   have t0:=tR
   go_wp2_with (first
    |(have q2:=t2;(with_reducible refine at_store ?_);refine store_lawC _ Z10t wr.heap.size 0 rfl rfl V1.out.2 rowy_told.2 z10_one ?_;intro w2 E9 R9 T9 B9;have V1:Hid (Vr w2 wr.heap.size Z10t):=⟨R9,T9⟩;have BB:=hdH (BB.out.trans ((BV.out.trans B9).mono BB.out.size));have c2:=V1.out.cell 2 _ rfl;clear E9 R9 T9 B9 t2)
    |(have q1:=t1;(with_reducible refine at_alloc ?_);refine new_lawC _ Z10t zero_told ?_;intro w1 X9 B9 l9;have V1:=hdH (X9);have BV:=hdH (B9);clear X9 B9 l9 t1;have t2:=tR)
    |(have q0:=t0;refine load_lawC _ rfl Z10t g (k*10) rfl ((HZ.out.below BB.out (Nat.succ_pos _)) k HK.out).1 rowy_told ?_;clear t0;have t1:=tR)
    |(refine wpl_op (v:=.pointer (some ⟨g,k*10,none⟩)) rfl (exec_idxT _ _ rfl g n cap k rfl rfl HK.out _) ?_))
   go_roundw
   case rel=>exact ⟨k+1,by omega,by go_num,rfl,BB.out⟩
   case measure=>simp [intOf];omega
  ·have ek:k=n:=by omega
   subst ek
   go_wp2
   go_ret
   exact ⟨rfl,BB.out⟩
theorem live_nil (v:Value) (w:World):Calls Tryz.prog 71 #[v,.slice none 0 0] w fun e w'=>e=.returned (.int .i64 0)∧Below w.heap.size w w':=by
 go_enter Tryz.func71,Tryz.ntmps71
 go_wp2
 go_loopw [5,10] (fun m i wr=>m=.int .i64 0∧i=.int .i64 0∧Below w.heap.size w wr) (fun _ _ _=>0)
 case atStart=>exact ⟨rfl,rfl,Below.refl _ _⟩
 case round=>
  obtain ⟨rfl,rfl,hB⟩:=hrel
  have BB:=hdH (hB)
  clear hB
  go_wp2
  go_ret
  exact ⟨rfl,BB.out⟩
theorem pmnew_any (w:World):Calls Tryz.prog 64 #[] w fun e w'=>∃ p,e=.returned (.pointer (some ⟨p,0,none⟩))∧Below w.heap.size w w':=by
 go_enter Tryz.func64,Tryz.ntmps64
 go_wp2_with (refine box_lawC _ [.slice none 0 0,.slice none 0 0,.slice none 0 0,.slice none 0 0,.map none] rfl ?_;intro w1 X9 B9 l9;have BB:=hdH (B9);clear X9 B9 l9)
 go_ret
 exact ⟨_,rfl,BB.out⟩
end Go.Proofs.YtmbgokmomkmgcaaGreatDoor.sc
namespace Go.Proofs.YtmbgokmomkmgcaaGreatDoor.sc
open Go.RowKit Go.Proofs.YtmbgokmomkmgcaaGreatDoor.fa Go.Proofs.YtmbgokmomkmgcaaGreatDoor.he
set_option maxRecDepth 20000
section
variable {M:Nat→Bool} {w:World}
theorem Vs.gput {R:World→Prop} {w0 w':World} {L:List (Nat × List Value)} (h:Vs R w0 M w L) (i:Nat) (hi:i<L.length) {cs':List Value} (hV:Vr w' (vk L i) cs') (hg:w.grownBy w' (some (vk L i))):Vs R w0 M w' (L.set i (vk L i,cs')):=by
 obtain ⟨M1,h1,h2,h3,h4,hB,h5,h6⟩:=h
 have hF:=na.Frm.grown (M:=M1) hg fun k e=>by injection e with e;rw [←e];exact (h5 i hi).2.1
 have es:∀ j,vk (L.set i (vk L i,cs')) j=vk L j:=fun j=>by
  unfold vk
  rw [List.getD_eq_getElem?_getD,List.getElem?_set]
  by_cases e:i=j
  ·subst e;rw [if_pos rfl,if_pos hi];rfl
  ·rw [if_neg e,List.getD_eq_getElem?_getD]
 refine ⟨M1,h4 _ _ hF.hid0 h1,fun k hk=>Nat.lt_of_lt_of_le (h2 k hk) hg.size,h3,h4,⟨hg.os.trans hB.os,hg.tape.trans hB.tape,hg.output.trans hB.output,Nat.le_trans hB.size hg.size,fun k hk=>(hg.block k (Nat.lt_of_lt_of_le hk hB.size) fun e=>by injection e with e;have:=(h5 i hi).2.2.1;omega).trans (hB.block k hk)⟩,fun j hj=>?_,fun j k hjk hk=>?_⟩
 ·rw [List.length_set] at hj
  rw [es j]
  obtain ⟨a,b,c,d⟩:=h5 j hj
  refine ⟨?_,b,c,Nat.lt_of_lt_of_le d hg.size⟩
  unfold vc
  rw [List.getD_eq_getElem?_getD,List.getElem?_set]
  by_cases e:i=j
  ·subst e;rw [if_pos rfl,if_pos hi];exact hV
  ·rw [if_neg e,←List.getD_eq_getElem?_getD]
   refine a.heap (hg.block _ d fun z=>?_)
   injection z with z
   rcases Nat.lt_or_gt_of_ne e with q | q
   ·have:=h6 i j q hj;omega
   ·have:=h6 j i q hi;omega
 ·rw [List.length_set] at hk
  rw [es j,es k];exact h6 j k hjk hk
end
structure Lw (H:Ch) (R:World→Prop) (W0 W:World) (U0 E M:Nat→Bool) (w:World) (s:na.St) (l:List na.Opn) (L:List (Nat × List Value)):Prop where
 bs:Cs H M w s l
 vs:Vs R W0 (fun k=>E k || M k) w L
 dv:∀ i,i<L.length→M (vk L i)=false
 nb:∀ i,i<L.length→(∀ v ∈ vc L i,∀ y,v≠ .int .u8 y)→pa.NoB w (vk L i)
 fr:na.Frm U0 W w
 um:∀ k,k<W.heap.size→M k=true→U0 k=true
 pw:na.Pla (na.hid U0 W) H.pv H.pl
 vw:∀ i,i<L.length→W.heap.size≤vk L i
 mu:∀ k,M k=true→W0.heap.size≤k
section
variable {H:Ch} {R:World→Prop} {W0 W w w':World} {U0 E M M':Nat→Bool} {s s':na.St} {l l':List na.Opn} {L:List (Nat × List Value)}
theorem frm_more {U U':Nat→Bool} (h:na.Frm U w w') (hu:∀ k,U k=true→U' k=true):na.Frm U' w w':=⟨h.1,h.2.1,h.2.2.1,h.size,fun k hk q=>h.block hk (by
 cases z:U k with
 |false=>rfl
 |true=>rw [hu k z] at q;cases q)⟩
theorem Vs.prog {w0:World} {E U U':Nat→Bool} (h:Vs R w0 (fun k=>E k || U k) w L) (hF:na.Frm U w w') (hU:∀ k,k<w.heap.size→U' k=true→U k=true) (hM':na.Mlt U' w') (hw:Below w0.heap.size w0 w') (hD:∀ i,i<L.length→U (vk L i)=false):Vs R w0 (fun k=>E k || U' k) w' L:=by
 obtain ⟨M1,h1,h2,h3,h4,hB,h5,h6⟩:=h
 refine ⟨fun k=>M1 k || U' k,h4 _ _ ((frm_more hF fun k q=>h3 k (by simp [q])).hid fun k hk=>?_) h1,fun k hk=>?_,fun k hk=>?_,h4,hw,fun i hi=>?_,h6⟩
 ·cases z:U' k with
  |false=>simp
  |true=>simp [h3 k (by simp [hU k hk z])]
 ·simp only [Bool.or_eq_true] at hk
  rcases hk with q | q
  ·exact Nat.lt_of_lt_of_le (h2 k q) hF.size
  ·exact hM' k q
 ·simp only [Bool.or_eq_true] at hk ⊢
  rcases hk with q | q
  ·exact .inl (h3 k (by simp [q]))
  ·exact .inr q
 ·obtain ⟨a,c,d,e⟩:=h5 i hi
  exact ⟨a.heap (hF.block e (hD i hi)),by simp [c],d,Nat.lt_of_lt_of_le e hF.size⟩
theorem Lw.lt (h:Lw H R W0 W U0 E M w s l L) (i:Nat) (hi:i<L.length):vk L i<w.heap.size:=by
 obtain ⟨M1, -, -, -, -, -,h5, -⟩:=h.vs
 exact (h5 i hi).2.2.2
theorem Lw.bl (h:Lw H R W0 W U0 E M w s l L):Below W0.heap.size W0 w:=by
 obtain ⟨M1, -, -, -, -,h5, -⟩:=h.vs
 exact h5
theorem Lw.prog (h:Lw H R W0 W U0 E M w s l L) (hb:Cs H M' w' s' l') (hF:na.Frm M w w') (hU:∀ k,k<w.heap.size→M' k=true→M k=true):Lw H R W0 W U0 E M' w' s' l' L:=
 ⟨hb,h.vs.prog hF hU hb.2.1 (h.bl.trans (hF.below h.bl.size h.mu)) h.dv,fun i hi=>(by
  cases z:M' (vk L i) with
  |false=>rfl
  |true=>have:=hU _ (h.lt i hi) z;rw [h.dv i hi] at this;cases this),
  fun i hi hc=>(h.nb i hi hc).heap (hF.block (h.lt i hi) (h.dv i hi)),
  h.fr.trans hF fun k hk q=>(by
   cases z:M k with
   |false=>rfl
   |true=>rw [h.um k hk z] at q;cases q),
  fun k hk q=>h.um k hk (hU k (Nat.lt_of_lt_of_le hk h.fr.size) q),h.pw,h.vw,fun k q=>(by
   by_cases hk:k<w.heap.size
   ·exact h.mu k (hU k hk q)
   ·have:=h.bl.size;omega)⟩
theorem Lw.op (h:Lw H R W0 W U0 E M w s l L) (hs:Cs H M' w' s' l') (h1:∀ k,k<w.heap.size→M' k=M k) (h2:na.Frm M w w'):Lw H R W0 W U0 E M' w' s' l' L:=
 h.prog hs h2 fun k hk q=>by rw [←h1 k hk];exact q
theorem Lw.below (h:Lw H R W0 W U0 E M w s l L) (hb:Below w.heap.size w w'):Lw H R W0 W U0 E M w' s l L:=
 ⟨h.bs.below hb,h.vs.below hb,h.dv,fun i hi hc=>(h.nb i hi hc).heap (hb.block _ (h.lt i hi)),h.fr.tr (na.Frm.of_below hb),h.um,h.pw,h.vw,h.mu⟩
theorem Lw.call {α:Type} {f:FuncId} {args:Array Value} {P:α→Ending→World→Prop} {R':α→World→Prop} (h:Lw H R W0 W U0 E M w s l L) (hc:∀ M1,na.Mlt M1 w→R (na.hid M1 w)→Calls Tryz.prog f args w fun e w'=>∃ x,P x e w'∧R' x (na.hid M1 w')∧Below w.heap.size w w') (hk:∀ x,Kp (R' x)):
  Calls Tryz.prog f args w fun e w'=>∃ x,P x e w'∧Lw H (R' x) W0 W U0 E M w' s l L∧Below w.heap.size w w':=by
 obtain ⟨M1,h1,h2,h3,h4,hB,h5,h6⟩:=h.vs
 refine (hc M1 h2 h1).mono ?_
 rintro e w' ⟨x,hx,hr,hb⟩
 have z:=h.below hb
 refine ⟨x,hx,⟨z.bs,⟨M1,hr,fun k hk=>Nat.lt_of_lt_of_le (h2 k hk) hb.size,h3,hk x,hB.trans (hb.mono hB.size),fun i hi=>⟨(h5 i hi).1.below hb (h5 i hi).2.2.2,(h5 i hi).2.1,(h5 i hi).2.2.1,Nat.lt_of_lt_of_le (h5 i hi).2.2.2 hb.size⟩,h6⟩,z.dv,z.nb,z.fr,z.um,z.pw,z.vw,z.mu⟩,hb⟩
theorem Lw.new (h:Lw H R W0 W U0 E M w s l L) {cs:List Value} (hb:Below w.heap.size w w') (hV:Vr w' w.heap.size cs) (hn:(∀ v ∈ cs,∀ y,v≠ .int .u8 y)→pa.NoB w' w.heap.size) (hl:w.heap.size<w'.heap.size):Lw H R W0 W U0 E M w' s l (L ++ [(w.heap.size,cs)]):=by
 have z:=h.below hb
 refine ⟨z.bs,h.vs.new hV hb hl,fun i hi=>?_,fun i hi hc=>?_,z.fr,z.um,z.pw,fun i hi=>?_,z.mu⟩
 ·rw [List.length_append,List.length_singleton] at hi
  by_cases e:i<L.length
  ·rw [(vk_old e).1];exact h.dv i e
  ·obtain rfl:i=L.length:=by omega
   rw [vk_new.1]
   exact na.not_hid h.bs.2.1 (Nat.le_refl _)
 ·rw [List.length_append,List.length_singleton] at hi
  by_cases e:i<L.length
  ·rw [(vk_old e).1]
   rw [(vk_old e).2] at hc
   exact z.nb i e hc
  ·obtain rfl:i=L.length:=by omega
   rw [vk_new.1]
   rw [vk_new.2] at hc
   exact hn hc
 ·rw [List.length_append,List.length_singleton] at hi
  by_cases e:i<L.length
  ·rw [(vk_old e).1];exact h.vw i e
  ·obtain rfl:i=L.length:=by omega
   rw [vk_new.1];exact h.fr.size
theorem Lw.put (h:Lw H R W0 W U0 E M w s l L) (i:Nat) (hi:i<L.length) {cs':List Value} (h0:∀ v ∈ vc L i,∀ y,v≠ .int .u8 y) (hV:Vr w' (vk L i) cs') (hN:pa.NoB w' (vk L i)) (hg:w.grownBy w' (some (vk L i))):Lw H R W0 W U0 E M w' s l (L.set i (vk L i,cs')):=by
 have hv:=h.vs.gput i hi hV hg
 have hd:=h.dv i hi
 have hw:=h.fr
 have es:∀ j,vk (L.set i (vk L i,cs')) j=vk L j:=fun j=>by
  unfold vk
  rw [List.getD_eq_getElem?_getD,List.getElem?_set]
  by_cases e:i=j
  ·subst e;rw [if_pos rfl,if_pos hi];rfl
  ·rw [if_neg e,List.getD_eq_getElem?_getD]
 have hWi:=h.vw i hi
 have hfr:na.Frm U0 W w':=⟨hg.os.trans hw.1,hg.tape.trans hw.2.1,hg.output.trans hw.2.2.1,Nat.le_trans hw.size hg.size,fun k hk q=>(hg.block k (Nat.lt_of_lt_of_le hk hw.size) fun e=>by injection e with e;omega).trans (hw.block hk q)⟩
 have hp:na.Pla (na.hid M w') H.pv H.pl:=by
  have z:na.Pla (na.hid (fun k=>U0 k || M k) w') H.pv H.pl:=h.pw.below (hfr.hid fun k hk=>by
   cases q:M k with
   |false=>simp
   |true=>simp [h.um k hk q])
  exact na.pla_less z fun k q=>by simp [q]
 refine ⟨?_,hv,fun j hj=>?_,fun j hj hc=>?_,hfr,h.um,h.pw,fun j hj=>?_,h.mu⟩
 ·obtain ⟨⟨tv,z1⟩,z2,z3⟩:=h.bs
  exact ⟨⟨tv,z1.put hg hd (h.nb i hi h0) hp⟩,fun k q=>Nat.lt_of_lt_of_le (z2 k q) hg.size,z3⟩
 ·rw [List.length_set] at hj
  rw [es j];exact h.dv j hj
 ·rw [List.length_set] at hj
  rw [es j]
  by_cases e:i=j
  ·subst e;exact hN
  ·have ec:vc (L.set i (vk L i,cs')) j=vc L j:=by
    unfold vc
    rw [List.getD_eq_getElem?_getD,List.getElem?_set,if_neg e,List.getD_eq_getElem?_getD]
   rw [ec] at hc
   refine (h.nb j hj hc).heap (hg.block _ (h.lt j hj) fun z=>?_)
   injection z with z
   obtain ⟨M1, -, -, -, -, -, -,h6⟩:=h.vs
   rcases Nat.lt_or_gt_of_ne e with q | q
   ·have:=h6 i j q hj;omega
   ·have:=h6 j i q hi;omega
 ·rw [List.length_set] at hj
  rw [es j];exact h.vw j hj
theorem Lw.at (h:Lw H R W0 W U0 E M w s l L) (i:Nat) (c:Nat) (cs:List Value) (hb:vk L i=c:=by rfl) (hc:vc L i=cs:=by rfl) (hi:decide (i<L.length)=true:=by rfl):Vr w c cs:=h.vs.vr i hb hc (of_decide_eq_true hi)
end
theorem Lw.start {H:Ch} {R:World→Prop} {W0 w:World} {U M:Nat→Bool} {s:na.St} {l:List na.Opn} (h:Cs H M w s l) (hp:na.Pla (na.hid M w) H.pv H.pl) (hU:na.Mlt U w) (hMU:∀ k,M k=true→U k=true) (hR:R (na.hid U w)) (hk:Kp R) (h0:Below W0.heap.size W0 w) (hu:∀ k,M k=true→W0.heap.size≤k):Lw H R W0 w M U M w s l []:=
 ⟨h,⟨U,hR,hU,fun k q=>by
   simp only [Bool.or_eq_true] at q
   rcases q with q | q
   ·exact q
   ·exact hMU k q,hk,h0,fun _ hi=>absurd hi (Nat.not_lt_zero _),fun _ _ _ hi=>absurd hi (Nat.not_lt_zero _)⟩,fun _ hi=>absurd hi (Nat.not_lt_zero _),fun _ hi=>absurd hi (Nat.not_lt_zero _),na.Frm.refl _ _,fun _ _ q=>q,hp,fun _ hi=>absurd hi (Nat.not_lt_zero _),hu⟩
theorem Lw.both {α:Type} {f:FuncId} {args:Array Value} {P:α→na.St→Ending→Prop} {R':α→na.St→World→Prop} {H:Ch} {R:World→Prop} {W0 W w:World} {U0 E M:Nat→Bool} {s:na.St} {l:List na.Opn} {L:List (Nat × List Value)} (h:Lw H R W0 W U0 E M w s l L)
  (hc:∀ U,na.Mlt U w→(∀ k,M k=true→U k=true)→R (na.hid U w)→Calls Tryz.prog f args w fun e w'=>∃ x M' s' l',P x s' e∧Cs H M' w' s' l'∧(∀ k,k<w.heap.size→M' k=true→M k=true)∧na.Frm M w w'∧R' x s' (na.hid (fun k=>U k || M' k) w')) (hk:∀ x s',Kp (R' x s')):
  Calls Tryz.prog f args w fun e w'=>∃ x M' s' l',P x s' e∧Lw H (R' x s') W0 W U0 E M' w' s' l' L:=by
 obtain ⟨M1,h1,h2,h3,h4,hB,h5,h6⟩:=h.vs
 refine (hc M1 h2 (fun k q=>h3 k (by simp [q])) h1).mono ?_
 rintro e w' ⟨x,M',s',l',hx,hb,hU,hF,hr⟩
 have z:=h.prog hb hF hU
 refine ⟨x,M',s',l',hx,z.bs,⟨fun k=>M1 k || M' k,hr,fun k q=>?_,fun k q=>?_,hk x s',z.bl,fun i hi=>?_,h6⟩,z.dv,z.nb,z.fr,z.um,z.pw,z.vw,z.mu⟩
 ·simp only [Bool.or_eq_true] at q
  rcases q with q | q
  ·exact Nat.lt_of_lt_of_le (h2 k q) hF.size
  ·exact hb.2.1 k q
 ·simp only [Bool.or_eq_true] at q ⊢
  rcases q with q | q
  ·exact .inl (h3 k (by simp [q]))
  ·exact .inr q
 ·obtain ⟨a,c,d,e⟩:=h5 i hi
  exact ⟨a.heap (hF.block e (h.dv i hi)),by simp [c],d,Nat.lt_of_lt_of_le e hF.size⟩
theorem Cs.pla {H:Ch} {M:Nat→Bool} {w:World} {s:na.St} {l:List na.Opn} (h:Cs H M w s l):na.Pla (na.hid M w) H.pv H.pl:=by
 obtain ⟨⟨tv,z⟩, -⟩:=h
 exact z.2.2.2.2.2.2.2.2.1
section
variable {ops:Array Oper} {rest:List Oper} {a:Act} {Q:Exit→Act→World→Prop} {H:Ch} {R:World→Prop} {W0 W w:World} {U0 E M:Nat→Bool} {s:na.St} {l:List na.Opn} {L:List (Nat × List Value)} {d:Option Tmp} {x y:Operand} {t ty:TypeId} {pos:String} {af:Array Edge}
theorem chl_nob (H:Ch) (q:Qz) (s:na.St):∀ v ∈ chl H q s,∀ y,v≠ .int .u8 y:=by
 intro v hv y e
 subst e
 simp [chl,na.chr] at hv
end
end Go.Proofs.YtmbgokmomkmgcaaGreatDoor.sc
namespace Go.Proofs.YtmbgokmomkmgcaaGreatDoor.sc
open Go.RowKit Go.Proofs.YtmbgokmomkmgcaaGreatDoor.fa Go.Proofs.YtmbgokmomkmgcaaGreatDoor.he Go.Proofs.YtmbgokmomkmgcaaGreatDoor.pa
set_option maxRecDepth 20000
theorem rcommit_own (g0 g1 g3 g4 g5:Int) (S:Nat) (w:World) (hS:S≤4096):
  Calls Tryz.prog 57 #[.agg (ints .i64 [g0,g1,(S:Int),g3,g4,g5])] w fun x w'=>∃ v,x=.returned v∧Own w.heap.size w' v (he.mark (S+88))∧Below w.heap.size w w':=by
 have S1:Hid (∀ w0,Calls Tryz.prog 89 #[.int .u8 255,.int .i64 ((S:Int)+80)] w0 fun e w'=>∃ v,e=.returned v∧Own w0.heap.size w' v (List.replicate (S+80) 255)∧Below w0.heap.size w0 w'):=fun w0=>by
  have:=pa.rfill_own 255 ((S:Int)+80) w0
  rw [show clamp ((S:Int)+80) 65536=S+80 by unfold clamp;omega] at this
  exact this
 have S2:Hid (∀ w0,Calls Tryz.prog 89 #[.int .u8 0,.int .i64 8] w0 fun e w'=>∃ v,e=.returned v∧Byt w' v (List.replicate 8 0)∧Below w0.heap.size w0 w'):=fun w0=>by
  have:=rfill_any 0 8 w0 (by omega)
  rw [show clamp 8 65536=8 by decide] at this
  exact this
 have HM:Hid (List.replicate (S+80) (255 :Int) ++ List.replicate 8 0=he.mark (S+88)∧AllB (he.mark (S+88))):=⟨by unfold he.mark;rw [show S+88-8=S+80 by omega],mark_all _⟩
 have XL:Hid ((List.replicate (S+80) (255 :Int)).length ≤10000∧(List.replicate 8 (0 :Int)).length ≤10000):=⟨by simp;omega,by simp⟩
 have hS':(S:Int)≤4096:=by omega
 generalize he.mark (S+88)=Z at HM ⊢
 generalize List.replicate (S+80) (255 :Int)=X at S1 HM XL
 generalize List.replicate 8 (0 :Int)=Y at S2 HM XL
 clear hS
 have t0:=tR
 go_enter Tryz.func57,Tryz.ntmps57
 go_wp2_with (first
  |(have q3:=t3;at_builtin;refine pushs_law _ rfl (.tmp 6) (.tmp 7) rfl w1.heap.size LW.out _ _ X Y rfl rfl HO.out HY.out (by have:=XL.out;omega) ?_;intro v3 w9 O9 B9;have HR:=hdH (O9);have BZ:=hdH (BB.out.trans (B9.mono LW1.out));clear O9 B9 t3)
  |(have q2:=t2;go_at_call 89;refine (S2.out w2).mono ?_;rintro e9 w3 ⟨v2,rfl,Y9,B9⟩;have HB0:=hdH (HB0.out.below B9 (range_lt HB0.out.1 (Nat.succ_pos _)));have HO:=hdH (own_low HO.out B9);have HY:=hdH (Y9);have BB:=hdH (BB.out.trans (B9.mono BB.out.size));clear hb0_0 hb0_1 hb0_2 hb0_3 hb0_4 hb0_5;have hb0_0:=HB0.out.cell 0 _ rfl;have hb0_1:=HB0.out.cell 1 _ rfl;have hb0_2:=HB0.out.cell 2 _ rfl;have hb0_3:=HB0.out.cell 3 _ rfl;have hb0_4:=HB0.out.cell 4 _ rfl;have hb0_5:=HB0.out.cell 5 _ rfl;have LW:Hid (w1.heap.size≤w3.heap.size):=Nat.le_trans LW0.out B9.size;clear B9 Y9;clear t2;have t3:=tR)
  |(have q1:=t1;go_at_call 89;refine (S1.out w1).mono ?_;rintro e9 w2 ⟨v1,rfl,O9,B9⟩;have HB0:=hdH (HB0.out.below B9 (range_lt HB0.out.1 (Nat.succ_pos _)));have HO:=hdH (O9);have BB:=hdH (BB.out.trans (B9.mono BB.out.size));clear hb0_0 hb0_1 hb0_2 hb0_3 hb0_4 hb0_5;have hb0_0:=HB0.out.cell 0 _ rfl;have hb0_1:=HB0.out.cell 1 _ rfl;have hb0_2:=HB0.out.cell 2 _ rfl;have hb0_3:=HB0.out.cell 3 _ rfl;have hb0_4:=HB0.out.cell 4 _ rfl;have hb0_5:=HB0.out.cell 5 _ rfl;have LW0:Hid (w1.heap.size≤w2.heap.size):=B9.size;clear B9 O9;clear t1;have t2:=tR)
  |(have q0:=t0;refine box_lawC _ [.int .i64 g0,.int .i64 g1,.int .i64 (S:Int),.int .i64 g3,.int .i64 g4,.int .i64 g5] rfl ?_;intro w1 X9 B9 l9;have HB0:=hdH (X9);have BB:=hdH (B9);have hb0_0:=HB0.out.cell 0 _ rfl;have hb0_1:=HB0.out.cell 1 _ rfl;have hb0_2:=HB0.out.cell 2 _ rfl;have hb0_3:=HB0.out.cell 3 _ rfl;have hb0_4:=HB0.out.cell 4 _ rfl;have hb0_5:=HB0.out.cell 5 _ rfl;have LW1:Hid (w.heap.size≤w1.heap.size):=B9.size;clear X9 B9 l9;clear t0;have t1:=tR))
 go_ret
 exact ⟨_,rfl,by have z:=HR.out;rw [HM.out.1] at z;exact na.own_base z LW1.out,BZ.out⟩
def py1 (x:Int) (i:Nat):Int:=(i:Int)%256*x%256
def pys (n:Nat) (x:Int):List Int:=(List.range n).map (py1 x)
theorem pys_len (n:Nat) (x:Int):(pys n x).length =n:=by simp [pys]
theorem pys_succ (n:Nat) (x:Int):pys (n+1) x=pys n x ++ [py1 x n]:=by simp [pys,List.range_succ]
theorem pys_all (n:Nat) (x:Int):AllB (pys n x):=allB_mem fun y hy=>by
 obtain ⟨i, -,rfl⟩:=List.mem_map.1 hy
 have:=Int.emod_nonneg ((i:Int)%256*x) (show (256 :Int)≠0 by decide)
 have:=Int.emod_lt_of_pos ((i:Int)%256*x) (show (0 :Int)<256 by decide)
 unfold py1
 omega
theorem payload_own (n:Nat) (hn:n≤100000) (x:Int) (w:World):
  Calls Tryz.prog 54 #[.int .i64 (n:Int),.int .u8 x] w fun e w'=>∃ v,e=.returned v∧Own w.heap.size w' v (pys n x)∧Below w.heap.size w w':=by
 go_enter Tryz.func54,Tryz.ntmps54
 go_wp2
 go_loopw [5,6] (fun v i wr=>∃ k:Nat,k≤n∧i=.int .i64 (k:Int)∧Own w.heap.size wr v (pys k x)∧Below w.heap.size w wr) (fun _ i _=>n-(intOf i).toNat)
 case atStart=>exact ⟨0,Nat.zero_le _,rfl,Own.empty w (Nat.le_refl _),(Below.refl _ _).alloc (Nat.le_refl _) _⟩
 case round=>
  obtain ⟨k,hk,rfl,hown,hbel⟩:=hrel
  have hsz:=hbel.size
  have HO:Hid (Own w.heap.size wr _ (pys k x)):=hown
  have HB:Hid (Below w.heap.size w wr):=hbel
  clear hown hbel
  by_cases hlt':k<n
  ·have HLEN:Hid ((pys k x).length ≤1099511627776):=by show _≤_;rw [pys_len];omega
   go_wp2_with (first
    |(refine push_law wr rfl (.tmp 13) (.tmp 18) rfl w.heap.size hsz _ (pys k x) (py1 x k) rfl rfl HO.out HLEN.out ?_;intro v2 w2 O2 B2))
   go_roundw
   case rel=>exact ⟨k+1,by omega,by go_num,by rw [pys_succ];exact O2,HB.out.trans B2⟩
   case measure=>simp [intOf];omega
  ·have:k=n:=by omega
   subst this
   go_wp2
   go_ret
   exact ⟨_,rfl,HO.out,HB.out⟩
end Go.Proofs.YtmbgokmomkmgcaaGreatDoor.sc
