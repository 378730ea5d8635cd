/- Parts of the proof: what ScanBlocks reaches. No claim of its own. -/
import Derived.Lib.MakeNoZero
import Derived.Deep.DeepCutAuto
import Derived.Deep.RegionHeld3
import Derived.Laws.AppendOwnNone
import Derived.Lib.AppendZeros
import Derived.Lib.SliceRun
import Derived.Laws.StructEq
import Derived.ArgAppend
import Derived.WalkKit
import Derived.WalkSmall
import Derived.ProofKit
import Derived.OpenShut
import Derived.BigQuiet
import Derived.Deep.QuietTactic
import Derived.Deep.WholeRow
import Derived.Deep.MidRow
import Derived.Deep.DeepHandedRow
import Derived.Lib.LaidTab
import Derived.Deep.Matrix
import Derived.Test.YtmbgokmomkmgcaaGreatDoorK00
import Derived.Test.YtmbgokmomkmgcaaGreatDoorK01
import Derived.Test.YtmbgokmomkmgcaaGreatDoorK02
import Derived.Test.YtmbgokmomkmgcaaGreatDoorK03
import Derived.Test.YtmbgokmomkmgcaaGreatDoorK04
import Derived.Test.YtmbgokmomkmgcaaGreatDoorK05
import Derived.Test.YtmbgokmomkmgcaaGreatDoorK06
import Derived.Test.YtmbgokmomkmgcaaGreatDoorK07
import Derived.Test.YtmbgokmomkmgcaaGreatDoorK08
import Derived.Test.YtmbgokmomkmgcaaGreatDoorK09
import Derived.Test.YtmbgokmomkmgcaaGreatDoorK10
import Derived.Test.YtmbgokmomkmgcaaGreatDoorK11
import Derived.Test.YtmbgokmomkmgcaaGreatDoorK12
import Derived.Test.YtmbgokmomkmgcaaGreatDoorK13
import Derived.Test.YtmbgokmomkmgcaaGreatDoorK14
import Derived.Test.YtmbgokmomkmgcaaGreatDoorK15
import Derived.Test.YtmbgokmomkmgcaaGreatDoorK16
import Derived.Test.YtmbgokmomkmgcaaGreatDoorK17
import Derived.Test.YtmbgokmomkmgcaaGreatDoorK18
import Derived.Test.YtmbgokmomkmgcaaGreatDoorK19
import Derived.Test.YtmbgokmomkmgcaaGreatDoorK20
import Derived.Test.YtmbgokmomkmgcaaGreatDoorK21
import Derived.Test.YtmbgokmomkmgcaaGreatDoorK22
set_option maxHeartbeats 8000000
namespace Go.Proofs.YtmbgokmomkmgcaaGreatDoor.sc
open Go.RowKit Go.Proofs.YtmbgokmomkmgcaaGreatDoor.fa Go.Proofs.YtmbgokmomkmgcaaGreatDoor.he Go.Proofs.YtmbgokmomkmgcaaGreatDoor.pa
set_option maxRecDepth 20000
theorem z10_nob:∀ v ∈ Z10t,∀ y,v≠ .int .u8 y:=by
 intro v h y q
 subst q
 simp [Z10t,hv] at h
def tdz (k n c l e t:Int) (v:Value):List Value:=[.bool true,.int .i64 n,.int .i64 l,.int .i64 k,.int .i64 n,.int .i64 c,.int .u32 l,.int .u64 e,.int .u64 t,v]
theorem td_eq (S:Nat) (xs:List Int) (v:Value):td S xs v=tdz (qk (xs.drop S)) (qn (xs.drop S)) (qc (xs.drop S)) (ql (xs.drop S)) (qe (xs.drop S)) (qt (xs.drop S)) v:=rfl
theorem tdz_one (k n c l e t:Int) {v:Value} (hv':v.oneCell'=true):∀ u ∈ tdz k n c l e t v,u.oneCell'=true:=by
 intro u h
 simp [tdz] at h
 rcases h with rfl | rfl | rfl | rfl | rfl | rfl | rfl | rfl | rfl | rfl <;> first | rfl | exact hv'
theorem tdz_nob (k n c l e t:Int) (ao:Option Addr) (m q:Nat):∀ u ∈ tdz k n c l e t (.slice ao m q),∀ y,u≠ .int .u8 y:=by
 intro u h y e'
 subst e'
 simp [tdz] at h
theorem tdz_ord {w:World} {g:Nat} {k n c l e t:Int} {v:Value} (h:w.rangeAt g 0 (tdz k n c l e t v)):w.rangeAt g 3 (hv k n c l e t):=fun j u hj=>by
 have z:=h (3+j) u (by
  match j,hj with
  |0,hj=>exact hj
  |1,hj=>exact hj
  |2,hj=>exact hj
  |3,hj=>exact hj
  |4,hj=>exact hj
  |5,hj=>exact hj)
 rwa [Nat.zero_add] at z
theorem sp_one (b i k n c l e t k' n' c' l' e' t':Int):∀ u ∈ (([.int .i64 b,.int .i64 i]:List Value) ++ (hv k n c l e t ++ hv k' n' c' l' e' t')),u.oneCell'=true:=by
 intro u h
 simp [hv] at h
 rcases h with rfl | rfl | rfl | rfl | rfl | rfl | rfl | rfl | rfl | rfl | rfl | rfl | rfl | rfl <;> rfl
theorem clo_any (g0 g1 g3 g4 g5:Int) (S:Nat) (b off n cap i:Nat) (f:Nat→List Int) (w:World) (hr:ge.Rt [g0,g1,(S:Int),g3,g4,g5]) (hT:Tab w) (hi:i<n)
  (hA:∃ z,(∀ w',Below w.heap.size w w'→w'.cell? ⟨b,off+i,none⟩=some z)∧Byt w z (f i)∧(f i).length =S+88):
  ∃ K N C L E T:Int,(Cm S (f i)=true→K=qk ((f i).drop S)∧N=qn ((f i).drop S)∧C=qc ((f i).drop S)∧L=ql ((f i).drop S)∧E=qe ((f i).drop S)∧T=qt ((f i).drop S))∧
   ∀ w0 c3 c5,Below w.heap.size w w0→Vr w0 c3 [.int .i64 g0,.int .i64 g1,.int .i64 (S:Int),.int .i64 g3,.int .i64 g4,.int .i64 g5]→Vr w0 c5 [.slice (some ⟨b,off,none⟩) n cap]→
    Calls Tryz.prog 40 #[.int .i64 (i:Int),.pointer (some ⟨c3,0,none⟩),.pointer (some ⟨c5,0,none⟩)] w0 fun x w'=>x=.returned (.tuple #[.agg (hv K N C L E T).toArray,.bool (Cm S (f i))])∧Below w0.heap.size w0 w':=by
 obtain ⟨z,h1,h2,h3⟩:=hA
 by_cases ht:Tl ((f i).drop S)
 ·by_cases hc:((f i).drop S).drop 80=List.replicate 8 0
  ·have e:Cm S (f i)=true:=by unfold Cm;rw [decide_eq_true ht,decide_eq_true hc];rfl
   refine ⟨_,_,_,_,_,_,fun _=>⟨rfl,rfl,rfl,rfl,rfl,rfl⟩,fun w0 c3 c5 q h4 h5=>?_⟩
   rw [e]
   exact clo_yes g0 g1 g3 g4 g5 S b off n cap i c3 c5 z (f i) w0 hr (hT.below q) h4 h5 hi (h1 _ q) (h2.below q) h3 ht hc
  ·have e:Cm S (f i)=false:=by unfold Cm;rw [decide_eq_false hc,Bool.and_false]
   refine ⟨_,_,_,_,_,_,fun _=>⟨rfl,rfl,rfl,rfl,rfl,rfl⟩,fun w0 c3 c5 q h4 h5=>?_⟩
   rw [e]
   exact clo_no g0 g1 g3 g4 g5 S b off n cap i c3 c5 z (f i) w0 hr (hT.below q) h4 h5 hi (h1 _ q) (h2.below q) h3 ht hc
 ·have e:Cm S (f i)=false:=by unfold Cm;rw [decide_eq_false ht];rfl
  refine ⟨0,0,0,0,0,0,fun q=>absurd (e.symm.trans q) Bool.false_ne_true,fun w0 c3 c5 q h4 h5=>?_⟩
  rw [e]
  exact clo_un g0 g1 g3 g4 g5 S b off n cap i c3 c5 z (f i) w0 hr (hT.below q) h4 h5 hi (h1 _ q) (h2.below q) h3 ht
theorem speaks_any (k:Int) (w:World):Calls Tryz.prog 42 #[.int .i64 k] w fun x w'=>x=.returned (.bool (decide (k=1) || decide (k=2)))∧w'=w:=by
 by_cases h1:k=1
 ·subst h1
  go_enter Tryz.func42,Tryz.ntmps42
  go_wp2
  go_ret
  exact ⟨rfl,rfl⟩
 ·have e1:(k == 1)=false:=beq_eq_false_iff_ne.2 h1
  rw [decide_eq_false h1]
  by_cases h2:k=2
  ·subst h2
   go_enter Tryz.func42,Tryz.ntmps42
   go_wp2
   go_ret
   exact ⟨rfl,rfl⟩
  ·have e2:(k == 2)=false:=beq_eq_false_iff_ne.2 h2
   rw [decide_eq_false h2]
   clear h1 h2
   go_enter Tryz.func42,Tryz.ntmps42
   go_wp2
   go_ret
   exact ⟨rfl,rfl⟩
theorem block_geo (g0 g1 g2 g3 g4 g5 bl:Int) (ao:Option Addr) (n cap:Nat) (w:World) (hr:¬ge.Rt [g0,g1,g2,g3,g4,g5]):
  Calls Tryz.prog 14 #[.agg (ints .i64 [g0,g1,g2,g3,g4,g5]),.int .i64 bl,.slice ao n cap] w fun x w'=>x=.returned (.agg Z10t.toArray)∧Below w.heap.size w w':=by
 have SK:Hid (∀ w0,Calls Tryz.prog 24 #[.agg (ints .i64 [g0,g1,g2,g3,g4,g5])] w0 fun x w'=>x=.returned (.int .i64 2)∧Below w0.heap.size w0 w'):=ge.check_no [g0,g1,g2,g3,g4,g5] rfl hr
 clear hr
 have t0:=tR
 go_enter Tryz.func14,Tryz.ntmps14
 go_wp2_with (first
  |(have q5:=t5;(with_reducible refine at_store ?_);refine store_lawC _ Z10t w2.heap.size 0 rfl rfl HV6.out.2 rowy_told.2 z10_one ?_;intro w5 E9 R9 T9 B9;have K9:∀ k,k≠w2.heap.size→w5.heap[k]? =w4.heap[k]? :=(by rw [E9.out];exact fun k hk=>heap_cells _ _ _ _ k hk);have HB0:=hdH (HB0.out.heap (K9 _ (Nat.ne_of_lt LT_HB0_HV6.out)));have HB1:=hdH (HB1.out.heap (K9 _ (Nat.ne_of_lt LT_HB1_HV6.out)));have NB_HV6:Hid (NoB w5 w2.heap.size):=(by rw [E9.out];exact NB_HV6.out.set HV6.out rfl z10_nob);have HV6:Hid (Vr w5 w2.heap.size Z10t):=⟨R9,T9⟩;have BB:=hdH (BB.out.trans (B9.mono LE_HV6.out));clear hb0_0 hb0_1 hb0_2 hb0_3 hb0_4 hb0_5 hb1_0;have hb0_0:=HB0.out.cell 0 _ rfl;have hb0_1:=HB0.out.cell 1 _ rfl;have hb0_2:=HB0.out.cell 2 _ rfl;have hb0_3:=HB0.out.cell 3 _ rfl;have hb0_4:=HB0.out.cell 4 _ rfl;have hb0_5:=HB0.out.cell 5 _ rfl;have hb1_0:=HB1.out.cell 0 _ rfl;clear E9 R9 T9 B9 K9;clear t5;have t6:=tR)
  |(have q4:=t4;refine build_law _ rfl 67 _ rfl (.agg Z10t.toArray) (by kernel_rfl) ?_;clear t4;have t5:=tR)
  |(have q3:=t3;go_at_call 24;refine (SK.out w3).mono ?_;rintro e9 w4 ⟨rfl,B9⟩;have HB0:=hdH (HB0.out.below B9 (range_lt HB0.out.1 (Nat.succ_pos _)));have HB1:=hdH (HB1.out.below B9 (range_lt HB1.out.1 (Nat.succ_pos _)));have NB_HV6:=hdH (NB_HV6.out.heap (B9.block _ (range_lt HV6.out.1 (Nat.succ_pos _))));have HV6:=hdH (HV6.out.below B9 (range_lt HV6.out.1 (Nat.succ_pos _)));have BB:=hdH (BB.out.trans (B9.mono BB.out.size));clear hb0_0 hb0_1 hb0_2 hb0_3 hb0_4 hb0_5 hb1_0;have hb0_0:=HB0.out.cell 0 _ rfl;have hb0_1:=HB0.out.cell 1 _ rfl;have hb0_2:=HB0.out.cell 2 _ rfl;have hb0_3:=HB0.out.cell 3 _ rfl;have hb0_4:=HB0.out.cell 4 _ rfl;have hb0_5:=HB0.out.cell 5 _ rfl;have hb1_0:=HB1.out.cell 0 _ rfl;clear B9;clear t3;have t4:=tR)
  |(have q2:=t2;(with_reducible refine at_alloc ?_);refine new_lawN _ Z10t zero_told z10_nob ?_;intro w3 X9 N9 B9;have LT_HB0_HV6:Hid (w.heap.size<w2.heap.size):=range_lt HB0.out.1 (Nat.succ_pos _);have LT_HB1_HV6:Hid (w1.heap.size<w2.heap.size):=range_lt HB1.out.1 (Nat.succ_pos _);have LE_HV6:Hid (w.heap.size≤w2.heap.size):=BB.out.size;have HB0:=hdH (HB0.out.below B9 (range_lt HB0.out.1 (Nat.succ_pos _)));have HB1:=hdH (HB1.out.below B9 (range_lt HB1.out.1 (Nat.succ_pos _)));have HV6:=hdH (X9);have NB_HV6:=hdH (N9);have BB:=hdH (BB.out.trans (B9.mono BB.out.size));clear hb0_0 hb0_1 hb0_2 hb0_3 hb0_4 hb0_5 hb1_0;have hb0_0:=HB0.out.cell 0 _ rfl;have hb0_1:=HB0.out.cell 1 _ rfl;have hb0_2:=HB0.out.cell 2 _ rfl;have hb0_3:=HB0.out.cell 3 _ rfl;have hb0_4:=HB0.out.cell 4 _ rfl;have hb0_5:=HB0.out.cell 5 _ rfl;have hb1_0:=HB1.out.cell 0 _ rfl;clear X9 N9 B9;clear t2;have t3:=tR)
  |(have q1:=t1;refine box_law1 _ (.slice ao n cap) rfl rfl ?_;intro w2 X9 B9 l9;have HB0:=hdH (HB0.out.below B9 (range_lt HB0.out.1 (Nat.succ_pos _)));have HB1:=hdH (X9);have BB:=hdH (BB.out.trans (B9.mono BB.out.size));clear hb0_0 hb0_1 hb0_2 hb0_3 hb0_4 hb0_5;have hb0_0:=HB0.out.cell 0 _ rfl;have hb0_1:=HB0.out.cell 1 _ rfl;have hb0_2:=HB0.out.cell 2 _ rfl;have hb0_3:=HB0.out.cell 3 _ rfl;have hb0_4:=HB0.out.cell 4 _ rfl;have hb0_5:=HB0.out.cell 5 _ rfl;have hb1_0:=HB1.out.cell 0 _ rfl;clear X9 B9 l9;clear t1;have t2:=tR)
  |(have q0:=t0;refine box_lawC _ [.int .i64 g0,.int .i64 g1,.int .i64 g2,.int .i64 g3,.int .i64 g4,.int .i64 g5] rfl ?_;intro w1 X9 B9 l9;have HB0:=hdH (X9);have BB:=hdH (B9);have hb0_0:=HB0.out.cell 0 _ rfl;have hb0_1:=HB0.out.cell 1 _ rfl;have hb0_2:=HB0.out.cell 2 _ rfl;have hb0_3:=HB0.out.cell 3 _ rfl;have hb0_4:=HB0.out.cell 4 _ rfl;have hb0_5:=HB0.out.cell 5 _ rfl;clear X9 B9 l9;clear t0;have t1:=tR))
 exact bodyPost_ret (v:=.agg Z10t.toArray) (results_c rfl _ _ w2.heap.size _ rowy_told rfl HV6.out.1) rfl ⟨rfl,BB.out⟩
theorem block_few (g0 g1 g2 g3 g4 g5 bl:Int) (ao:Option Addr) (n cap:Nat) (w:World) (hr:ge.Rt [g0,g1,g2,g3,g4,g5]) (hn:(n:Int)<g1):
  Calls Tryz.prog 14 #[.agg (ints .i64 [g0,g1,g2,g3,g4,g5]),.int .i64 bl,.slice ao n cap] w fun x w'=>x=.returned (.agg Z10t.toArray)∧Below w.heap.size w w':=by
 have SK:Hid (∀ w0,Calls Tryz.prog 24 #[.agg (ints .i64 [g0,g1,g2,g3,g4,g5])] w0 fun x w'=>x=.returned (.int .i64 0)∧Below w0.heap.size w0 w'):=ge.check_yes [g0,g1,g2,g3,g4,g5] rfl hr
 clear hr
 have t0:=tR
 go_enter Tryz.func14,Tryz.ntmps14
 go_wp2_with (first
  |(have q5:=t5;(with_reducible refine at_store ?_);refine store_lawC _ Z10t w2.heap.size 0 rfl rfl HV6.out.2 rowy_told.2 z10_one ?_;intro w5 E9 R9 T9 B9;have K9:∀ k,k≠w2.heap.size→w5.heap[k]? =w4.heap[k]? :=(by rw [E9.out];exact fun k hk=>heap_cells _ _ _ _ k hk);have HB0:=hdH (HB0.out.heap (K9 _ (Nat.ne_of_lt LT_HB0_HV6.out)));have HB1:=hdH (HB1.out.heap (K9 _ (Nat.ne_of_lt LT_HB1_HV6.out)));have NB_HV6:Hid (NoB w5 w2.heap.size):=(by rw [E9.out];exact NB_HV6.out.set HV6.out rfl z10_nob);have HV6:Hid (Vr w5 w2.heap.size Z10t):=⟨R9,T9⟩;have BB:=hdH (BB.out.trans (B9.mono LE_HV6.out));clear hb0_0 hb0_1 hb0_2 hb0_3 hb0_4 hb0_5 hb1_0;have hb0_0:=HB0.out.cell 0 _ rfl;have hb0_1:=HB0.out.cell 1 _ rfl;have hb0_2:=HB0.out.cell 2 _ rfl;have hb0_3:=HB0.out.cell 3 _ rfl;have hb0_4:=HB0.out.cell 4 _ rfl;have hb0_5:=HB0.out.cell 5 _ rfl;have hb1_0:=HB1.out.cell 0 _ rfl;clear E9 R9 T9 B9 K9;clear t5;have t6:=tR)
  |(have q4:=t4;refine build_law _ rfl 67 _ rfl (.agg Z10t.toArray) (by kernel_rfl) ?_;clear t4;have t5:=tR)
  |(have q3:=t3;go_at_call 24;refine (SK.out w3).mono ?_;rintro e9 w4 ⟨rfl,B9⟩;have HB0:=hdH (HB0.out.below B9 (range_lt HB0.out.1 (Nat.succ_pos _)));have HB1:=hdH (HB1.out.below B9 (range_lt HB1.out.1 (Nat.succ_pos _)));have NB_HV6:=hdH (NB_HV6.out.heap (B9.block _ (range_lt HV6.out.1 (Nat.succ_pos _))));have HV6:=hdH (HV6.out.below B9 (range_lt HV6.out.1 (Nat.succ_pos _)));have BB:=hdH (BB.out.trans (B9.mono BB.out.size));clear hb0_0 hb0_1 hb0_2 hb0_3 hb0_4 hb0_5 hb1_0;have hb0_0:=HB0.out.cell 0 _ rfl;have hb0_1:=HB0.out.cell 1 _ rfl;have hb0_2:=HB0.out.cell 2 _ rfl;have hb0_3:=HB0.out.cell 3 _ rfl;have hb0_4:=HB0.out.cell 4 _ rfl;have hb0_5:=HB0.out.cell 5 _ rfl;have hb1_0:=HB1.out.cell 0 _ rfl;clear B9;clear t3;have t4:=tR)
  |(have q2:=t2;(with_reducible refine at_alloc ?_);refine new_lawN _ Z10t zero_told z10_nob ?_;intro w3 X9 N9 B9;have LT_HB0_HV6:Hid (w.heap.size<w2.heap.size):=range_lt HB0.out.1 (Nat.succ_pos _);have LT_HB1_HV6:Hid (w1.heap.size<w2.heap.size):=range_lt HB1.out.1 (Nat.succ_pos _);have LE_HV6:Hid (w.heap.size≤w2.heap.size):=BB.out.size;have HB0:=hdH (HB0.out.below B9 (range_lt HB0.out.1 (Nat.succ_pos _)));have HB1:=hdH (HB1.out.below B9 (range_lt HB1.out.1 (Nat.succ_pos _)));have HV6:=hdH (X9);have NB_HV6:=hdH (N9);have BB:=hdH (BB.out.trans (B9.mono BB.out.size));clear hb0_0 hb0_1 hb0_2 hb0_3 hb0_4 hb0_5 hb1_0;have hb0_0:=HB0.out.cell 0 _ rfl;have hb0_1:=HB0.out.cell 1 _ rfl;have hb0_2:=HB0.out.cell 2 _ rfl;have hb0_3:=HB0.out.cell 3 _ rfl;have hb0_4:=HB0.out.cell 4 _ rfl;have hb0_5:=HB0.out.cell 5 _ rfl;have hb1_0:=HB1.out.cell 0 _ rfl;clear X9 N9 B9;clear t2;have t3:=tR)
  |(have q1:=t1;refine box_law1 _ (.slice ao n cap) rfl rfl ?_;intro w2 X9 B9 l9;have HB0:=hdH (HB0.out.below B9 (range_lt HB0.out.1 (Nat.succ_pos _)));have HB1:=hdH (X9);have BB:=hdH (BB.out.trans (B9.mono BB.out.size));clear hb0_0 hb0_1 hb0_2 hb0_3 hb0_4 hb0_5;have hb0_0:=HB0.out.cell 0 _ rfl;have hb0_1:=HB0.out.cell 1 _ rfl;have hb0_2:=HB0.out.cell 2 _ rfl;have hb0_3:=HB0.out.cell 3 _ rfl;have hb0_4:=HB0.out.cell 4 _ rfl;have hb0_5:=HB0.out.cell 5 _ rfl;have hb1_0:=HB1.out.cell 0 _ rfl;clear X9 B9 l9;clear t1;have t2:=tR)
  |(have q0:=t0;refine box_lawC _ [.int .i64 g0,.int .i64 g1,.int .i64 g2,.int .i64 g3,.int .i64 g4,.int .i64 g5] rfl ?_;intro w1 X9 B9 l9;have HB0:=hdH (X9);have BB:=hdH (B9);have hb0_0:=HB0.out.cell 0 _ rfl;have hb0_1:=HB0.out.cell 1 _ rfl;have hb0_2:=HB0.out.cell 2 _ rfl;have hb0_3:=HB0.out.cell 3 _ rfl;have hb0_4:=HB0.out.cell 4 _ rfl;have hb0_5:=HB0.out.cell 5 _ rfl;clear X9 B9 l9;clear t0;have t1:=tR))
 exact bodyPost_ret (v:=.agg Z10t.toArray) (results_c rfl _ _ w2.heap.size _ rowy_told rfl HV6.out.1) rfl ⟨rfl,BB.out⟩
theorem block_un (g0 g3 g4 g5 bl:Int) (S P:Nat) (b off n cap:Nat) (w:World) (k0 n0 c0 l0 e0 t0z:Int) (hr:ge.Rt [g0,(P:Int),(S:Int),g3,g4,g5]) (hn:P≤n) (hS:∀ w0 c3 c5,Below w.heap.size w w0→Vr w0 c3 [.int .i64 g0,.int .i64 (P:Int),.int .i64 (S:Int),.int .i64 g3,.int .i64 g4,.int .i64 g5]→Vr w0 c5 [.slice (some ⟨b,off,none⟩) n cap]→Calls Tryz.prog 40 #[.int .i64 0,.pointer (some ⟨c3,0,none⟩),.pointer (some ⟨c5,0,none⟩)] w0 fun x w'=>x=.returned (.tuple #[.agg (hv k0 n0 c0 l0 e0 t0z).toArray,.bool false])∧Below w0.heap.size w0 w'):
  Calls Tryz.prog 14 #[.agg (ints .i64 [g0,(P:Int),(S:Int),g3,g4,g5]),.int .i64 bl,.slice (some ⟨b,off,none⟩) n cap] w fun x w'=>x=.returned (.agg Z10t.toArray)∧Below w.heap.size w w':=by
 have SK:Hid (∀ w0,Calls Tryz.prog 24 #[.agg (ints .i64 [g0,(P:Int),(S:Int),g3,g4,g5])] w0 fun x w'=>x=.returned (.int .i64 0)∧Below w0.heap.size w0 w'):=ge.check_yes [g0,(P:Int),(S:Int),g3,g4,g5] rfl hr
 have hmf:∀ (fn:Fn) (first cap:Array Value) (w:World),(Instr.makeFunc fn first cap).run Tryz.prog w=.ok (.func fn first cap) w:=fun _ _ _ _=>rfl
 have nP:¬(n:Int)<(P:Int):=by omega
 have SC0:=hdH (hS)
 clear hr hn hS
 have t0:=tR
 go_enter Tryz.func14,Tryz.ntmps14
 go_wp2_with (first
  |(have q8:=t8;(with_reducible refine at_store ?_);refine store_lawC _ Z10t w2.heap.size 0 rfl rfl HV6.out.2 rowy_told.2 z10_one ?_;intro w8 E9 R9 T9 B9;have K9:∀ k,k≠w2.heap.size→w8.heap[k]? =w7.heap[k]? :=(by rw [E9.out];exact fun k hk=>heap_cells _ _ _ _ k hk);have HB0:=hdH (HB0.out.heap (K9 _ (Nat.ne_of_lt LT_HB0_HV6.out)));have HB1:=hdH (HB1.out.heap (K9 _ (Nat.ne_of_lt LT_HB1_HV6.out)));have NB_HV8:=hdH (NB_HV8.out.heap (K9 _ (Nat.ne_of_gt LT_HV6_HV8.out)));have HV8:=hdH (HV8.out.heap (K9 _ (Nat.ne_of_gt LT_HV6_HV8.out)));have NB_HV6:Hid (NoB w8 w2.heap.size):=(by rw [E9.out];exact NB_HV6.out.set HV6.out rfl z10_nob);have HV6:Hid (Vr w8 w2.heap.size Z10t):=⟨R9,T9⟩;have BB:=hdH (BB.out.trans (B9.mono LE_HV6.out));clear hb0_0 hb0_1 hb0_2 hb0_3 hb0_4 hb0_5 hb1_0 hv8_0 hv8_1 hv8_3;have hb0_0:=HB0.out.cell 0 _ rfl;have hb0_1:=HB0.out.cell 1 _ rfl;have hb0_2:=HB0.out.cell 2 _ rfl;have hb0_3:=HB0.out.cell 3 _ rfl;have hb0_4:=HB0.out.cell 4 _ rfl;have hb0_5:=HB0.out.cell 5 _ rfl;have hb1_0:=HB1.out.cell 0 _ rfl;have hv8_0:=HV8.out.cell 0 _ rfl;have hv8_1:=HV8.out.cell 1 _ rfl;have hv8_3:=HV8.out.cell 3 _ rfl;clear E9 R9 T9 B9 K9;clear t8;have t9:=tR)
  |(have q7:=t7;refine build_law _ rfl 67 _ rfl (.agg Z10t.toArray) (by kernel_rfl) ?_;clear t7;have t8:=tR)
  |(have q6:=t6;(with_reducible refine at_store ?_);refine store_lawC _ (hv k0 n0 c0 l0 e0 t0z) w5.heap.size 0 rfl rfl HV8.out.2 rowy_head.2 (hv_one _ _ _ _ _ _) ?_;intro w7 E9 R9 T9 B9;have K9:∀ k,k≠w5.heap.size→w7.heap[k]? =w6.heap[k]? :=(by rw [E9.out];exact fun k hk=>heap_cells _ _ _ _ k hk);have HB0:=hdH (HB0.out.heap (K9 _ (Nat.ne_of_lt LT_HB0_HV8.out)));have HB1:=hdH (HB1.out.heap (K9 _ (Nat.ne_of_lt LT_HB1_HV8.out)));have NB_HV6:=hdH (NB_HV6.out.heap (K9 _ (Nat.ne_of_lt LT_HV6_HV8.out)));have HV6:=hdH (HV6.out.heap (K9 _ (Nat.ne_of_lt LT_HV6_HV8.out)));have NB_HV8:Hid (NoB w7 w5.heap.size):=(by rw [E9.out];exact NB_HV8.out.set HV8.out rfl (hv_nob _ _ _ _ _ _));have HV8:Hid (Vr w7 w5.heap.size (hv k0 n0 c0 l0 e0 t0z)):=⟨R9,T9⟩;have BB:=hdH (BB.out.trans (B9.mono LE_HV8.out));clear hb0_0 hb0_1 hb0_2 hb0_3 hb0_4 hb0_5 hb1_0;have hb0_0:=HB0.out.cell 0 _ rfl;have hb0_1:=HB0.out.cell 1 _ rfl;have hb0_2:=HB0.out.cell 2 _ rfl;have hb0_3:=HB0.out.cell 3 _ rfl;have hb0_4:=HB0.out.cell 4 _ rfl;have hb0_5:=HB0.out.cell 5 _ rfl;have hb1_0:=HB1.out.cell 0 _ rfl;have hv8_0:=HV8.out.cell 0 _ rfl;have hv8_1:=HV8.out.cell 1 _ rfl;have hv8_3:=HV8.out.cell 3 _ rfl;clear E9 R9 T9 B9 K9;clear t6;have t7:=tR)
  |(have q5:=t5;(with_reducible refine at_alloc ?_);refine new_lawN _ (hv 0 0 0 0 0 0) zero_head (hv_nob _ _ _ _ _ _) ?_;intro w6 X9 N9 B9;have LT_HB0_HV8:Hid (w.heap.size<w5.heap.size):=range_lt HB0.out.1 (Nat.succ_pos _);have LT_HB1_HV8:Hid (w1.heap.size<w5.heap.size):=range_lt HB1.out.1 (Nat.succ_pos _);have LT_HV6_HV8:Hid (w2.heap.size<w5.heap.size):=range_lt HV6.out.1 (Nat.succ_pos _);have LE_HV8:Hid (w.heap.size≤w5.heap.size):=BB.out.size;have HB0:=hdH (HB0.out.below B9 (range_lt HB0.out.1 (Nat.succ_pos _)));have HB1:=hdH (HB1.out.below B9 (range_lt HB1.out.1 (Nat.succ_pos _)));have NB_HV6:=hdH (NB_HV6.out.heap (B9.block _ (range_lt HV6.out.1 (Nat.succ_pos _))));have HV6:=hdH (HV6.out.below B9 (range_lt HV6.out.1 (Nat.succ_pos _)));have HV8:=hdH (X9);have NB_HV8:=hdH (N9);have BB:=hdH (BB.out.trans (B9.mono BB.out.size));clear hb0_0 hb0_1 hb0_2 hb0_3 hb0_4 hb0_5 hb1_0;have hb0_0:=HB0.out.cell 0 _ rfl;have hb0_1:=HB0.out.cell 1 _ rfl;have hb0_2:=HB0.out.cell 2 _ rfl;have hb0_3:=HB0.out.cell 3 _ rfl;have hb0_4:=HB0.out.cell 4 _ rfl;have hb0_5:=HB0.out.cell 5 _ rfl;have hb1_0:=HB1.out.cell 0 _ rfl;clear X9 N9 B9;clear t5;have t6:=tR)
  |(have q4:=t4;go_at_call 40;refine (SC0.out w4 _ _ BB.out HB0.out HB1.out).mono ?_;rintro e9 w5 ⟨rfl,B9⟩;have HB0:=hdH (HB0.out.below B9 (range_lt HB0.out.1 (Nat.succ_pos _)));have HB1:=hdH (HB1.out.below B9 (range_lt HB1.out.1 (Nat.succ_pos _)));have NB_HV6:=hdH (NB_HV6.out.heap (B9.block _ (range_lt HV6.out.1 (Nat.succ_pos _))));have HV6:=hdH (HV6.out.below B9 (range_lt HV6.out.1 (Nat.succ_pos _)));have BB:=hdH (BB.out.trans (B9.mono BB.out.size));clear hb0_0 hb0_1 hb0_2 hb0_3 hb0_4 hb0_5 hb1_0;have hb0_0:=HB0.out.cell 0 _ rfl;have hb0_1:=HB0.out.cell 1 _ rfl;have hb0_2:=HB0.out.cell 2 _ rfl;have hb0_3:=HB0.out.cell 3 _ rfl;have hb0_4:=HB0.out.cell 4 _ rfl;have hb0_5:=HB0.out.cell 5 _ rfl;have hb1_0:=HB1.out.cell 0 _ rfl;clear B9;clear t4;have t5:=tR)
  |(have q3:=t3;go_at_call 24;refine (SK.out w3).mono ?_;rintro e9 w4 ⟨rfl,B9⟩;have HB0:=hdH (HB0.out.below B9 (range_lt HB0.out.1 (Nat.succ_pos _)));have HB1:=hdH (HB1.out.below B9 (range_lt HB1.out.1 (Nat.succ_pos _)));have NB_HV6:=hdH (NB_HV6.out.heap (B9.block _ (range_lt HV6.out.1 (Nat.succ_pos _))));have HV6:=hdH (HV6.out.below B9 (range_lt HV6.out.1 (Nat.succ_pos _)));have BB:=hdH (BB.out.trans (B9.mono BB.out.size));clear hb0_0 hb0_1 hb0_2 hb0_3 hb0_4 hb0_5 hb1_0;have hb0_0:=HB0.out.cell 0 _ rfl;have hb0_1:=HB0.out.cell 1 _ rfl;have hb0_2:=HB0.out.cell 2 _ rfl;have hb0_3:=HB0.out.cell 3 _ rfl;have hb0_4:=HB0.out.cell 4 _ rfl;have hb0_5:=HB0.out.cell 5 _ rfl;have hb1_0:=HB1.out.cell 0 _ rfl;clear B9;clear t3;have t4:=tR)
  |(have q2:=t2;(with_reducible refine at_alloc ?_);refine new_lawN _ Z10t zero_told z10_nob ?_;intro w3 X9 N9 B9;have LT_HB0_HV6:Hid (w.heap.size<w2.heap.size):=range_lt HB0.out.1 (Nat.succ_pos _);have LT_HB1_HV6:Hid (w1.heap.size<w2.heap.size):=range_lt HB1.out.1 (Nat.succ_pos _);have LE_HV6:Hid (w.heap.size≤w2.heap.size):=BB.out.size;have HB0:=hdH (HB0.out.below B9 (range_lt HB0.out.1 (Nat.succ_pos _)));have HB1:=hdH (HB1.out.below B9 (range_lt HB1.out.1 (Nat.succ_pos _)));have HV6:=hdH (X9);have NB_HV6:=hdH (N9);have BB:=hdH (BB.out.trans (B9.mono BB.out.size));clear hb0_0 hb0_1 hb0_2 hb0_3 hb0_4 hb0_5 hb1_0;have hb0_0:=HB0.out.cell 0 _ rfl;have hb0_1:=HB0.out.cell 1 _ rfl;have hb0_2:=HB0.out.cell 2 _ rfl;have hb0_3:=HB0.out.cell 3 _ rfl;have hb0_4:=HB0.out.cell 4 _ rfl;have hb0_5:=HB0.out.cell 5 _ rfl;have hb1_0:=HB1.out.cell 0 _ rfl;clear X9 N9 B9;clear t2;have t3:=tR)
  |(have q1:=t1;refine box_law1 _ (.slice (some ⟨b,off,none⟩) n cap) rfl rfl ?_;intro w2 X9 B9 l9;have HB0:=hdH (HB0.out.below B9 (range_lt HB0.out.1 (Nat.succ_pos _)));have HB1:=hdH (X9);have BB:=hdH (BB.out.trans (B9.mono BB.out.size));clear hb0_0 hb0_1 hb0_2 hb0_3 hb0_4 hb0_5;have hb0_0:=HB0.out.cell 0 _ rfl;have hb0_1:=HB0.out.cell 1 _ rfl;have hb0_2:=HB0.out.cell 2 _ rfl;have hb0_3:=HB0.out.cell 3 _ rfl;have hb0_4:=HB0.out.cell 4 _ rfl;have hb0_5:=HB0.out.cell 5 _ rfl;have hb1_0:=HB1.out.cell 0 _ rfl;clear X9 B9 l9;clear t1;have t2:=tR)
  |(have q0:=t0;refine box_lawC _ [.int .i64 g0,.int .i64 (P:Int),.int .i64 (S:Int),.int .i64 g3,.int .i64 g4,.int .i64 g5] rfl ?_;intro w1 X9 B9 l9;have HB0:=hdH (X9);have BB:=hdH (B9);have hb0_0:=HB0.out.cell 0 _ rfl;have hb0_1:=HB0.out.cell 1 _ rfl;have hb0_2:=HB0.out.cell 2 _ rfl;have hb0_3:=HB0.out.cell 3 _ rfl;have hb0_4:=HB0.out.cell 4 _ rfl;have hb0_5:=HB0.out.cell 5 _ rfl;clear X9 B9 l9;clear t0;have t1:=tR))
 exact bodyPost_ret (v:=.agg Z10t.toArray) (results_c rfl _ _ w2.heap.size _ rowy_told rfl HV6.out.1) rfl ⟨rfl,BB.out⟩
theorem block_kind (g0 g3 g4 g5 bl:Int) (S P:Nat) (b off n cap:Nat) (w:World) (k0 n0 c0 l0 e0 t0z:Int) (hr:ge.Rt [g0,(P:Int),(S:Int),g3,g4,g5]) (hn:P≤n) (hS:∀ w0 c3 c5,Below w.heap.size w w0→Vr w0 c3 [.int .i64 g0,.int .i64 (P:Int),.int .i64 (S:Int),.int .i64 g3,.int .i64 g4,.int .i64 g5]→Vr w0 c5 [.slice (some ⟨b,off,none⟩) n cap]→Calls Tryz.prog 40 #[.int .i64 0,.pointer (some ⟨c3,0,none⟩),.pointer (some ⟨c5,0,none⟩)] w0 fun x w'=>x=.returned (.tuple #[.agg (hv k0 n0 c0 l0 e0 t0z).toArray,.bool true])∧Below w0.heap.size w0 w') (hk:k0≠3):
  Calls Tryz.prog 14 #[.agg (ints .i64 [g0,(P:Int),(S:Int),g3,g4,g5]),.int .i64 bl,.slice (some ⟨b,off,none⟩) n cap] w fun x w'=>x=.returned (.agg Z10t.toArray)∧Below w.heap.size w w':=by
 have SK:Hid (∀ w0,Calls Tryz.prog 24 #[.agg (ints .i64 [g0,(P:Int),(S:Int),g3,g4,g5])] w0 fun x w'=>x=.returned (.int .i64 0)∧Below w0.heap.size w0 w'):=ge.check_yes [g0,(P:Int),(S:Int),g3,g4,g5] rfl hr
 have hmf:∀ (fn:Fn) (first cap:Array Value) (w:World),(Instr.makeFunc fn first cap).run Tryz.prog w=.ok (.func fn first cap) w:=fun _ _ _ _=>rfl
 have nP:¬(n:Int)<(P:Int):=by omega
 have SC0:=hdH (hS)
 have q1:(k0 != 3)=true:=bne_iff_ne.2 hk
 clear hk
 clear hr hn hS
 have t0:=tR
 go_enter Tryz.func14,Tryz.ntmps14
 go_wp2_with (first
  |(have q8:=t8;(with_reducible refine at_store ?_);refine store_lawC _ Z10t w2.heap.size 0 rfl rfl HV6.out.2 rowy_told.2 z10_one ?_;intro w8 E9 R9 T9 B9;have K9:∀ k,k≠w2.heap.size→w8.heap[k]? =w7.heap[k]? :=(by rw [E9.out];exact fun k hk=>heap_cells _ _ _ _ k hk);have HB0:=hdH (HB0.out.heap (K9 _ (Nat.ne_of_lt LT_HB0_HV6.out)));have HB1:=hdH (HB1.out.heap (K9 _ (Nat.ne_of_lt LT_HB1_HV6.out)));have NB_HV8:=hdH (NB_HV8.out.heap (K9 _ (Nat.ne_of_gt LT_HV6_HV8.out)));have HV8:=hdH (HV8.out.heap (K9 _ (Nat.ne_of_gt LT_HV6_HV8.out)));have NB_HV6:Hid (NoB w8 w2.heap.size):=(by rw [E9.out];exact NB_HV6.out.set HV6.out rfl z10_nob);have HV6:Hid (Vr w8 w2.heap.size Z10t):=⟨R9,T9⟩;have BB:=hdH (BB.out.trans (B9.mono LE_HV6.out));clear hb0_0 hb0_1 hb0_2 hb0_3 hb0_4 hb0_5 hb1_0 hv8_0 hv8_1 hv8_3;have hb0_0:=HB0.out.cell 0 _ rfl;have hb0_1:=HB0.out.cell 1 _ rfl;have hb0_2:=HB0.out.cell 2 _ rfl;have hb0_3:=HB0.out.cell 3 _ rfl;have hb0_4:=HB0.out.cell 4 _ rfl;have hb0_5:=HB0.out.cell 5 _ rfl;have hb1_0:=HB1.out.cell 0 _ rfl;have hv8_0:=HV8.out.cell 0 _ rfl;have hv8_1:=HV8.out.cell 1 _ rfl;have hv8_3:=HV8.out.cell 3 _ rfl;clear E9 R9 T9 B9 K9;clear t8;have t9:=tR)
  |(have q7:=t7;refine build_law _ rfl 67 _ rfl (.agg Z10t.toArray) (by kernel_rfl) ?_;clear t7;have t8:=tR)
  |(have q6:=t6;(with_reducible refine at_store ?_);refine store_lawC _ (hv k0 n0 c0 l0 e0 t0z) w5.heap.size 0 rfl rfl HV8.out.2 rowy_head.2 (hv_one _ _ _ _ _ _) ?_;intro w7 E9 R9 T9 B9;have K9:∀ k,k≠w5.heap.size→w7.heap[k]? =w6.heap[k]? :=(by rw [E9.out];exact fun k hk=>heap_cells _ _ _ _ k hk);have HB0:=hdH (HB0.out.heap (K9 _ (Nat.ne_of_lt LT_HB0_HV8.out)));have HB1:=hdH (HB1.out.heap (K9 _ (Nat.ne_of_lt LT_HB1_HV8.out)));have NB_HV6:=hdH (NB_HV6.out.heap (K9 _ (Nat.ne_of_lt LT_HV6_HV8.out)));have HV6:=hdH (HV6.out.heap (K9 _ (Nat.ne_of_lt LT_HV6_HV8.out)));have NB_HV8:Hid (NoB w7 w5.heap.size):=(by rw [E9.out];exact NB_HV8.out.set HV8.out rfl (hv_nob _ _ _ _ _ _));have HV8:Hid (Vr w7 w5.heap.size (hv k0 n0 c0 l0 e0 t0z)):=⟨R9,T9⟩;have BB:=hdH (BB.out.trans (B9.mono LE_HV8.out));clear hb0_0 hb0_1 hb0_2 hb0_3 hb0_4 hb0_5 hb1_0;have hb0_0:=HB0.out.cell 0 _ rfl;have hb0_1:=HB0.out.cell 1 _ rfl;have hb0_2:=HB0.out.cell 2 _ rfl;have hb0_3:=HB0.out.cell 3 _ rfl;have hb0_4:=HB0.out.cell 4 _ rfl;have hb0_5:=HB0.out.cell 5 _ rfl;have hb1_0:=HB1.out.cell 0 _ rfl;have hv8_0:=HV8.out.cell 0 _ rfl;have hv8_1:=HV8.out.cell 1 _ rfl;have hv8_3:=HV8.out.cell 3 _ rfl;clear E9 R9 T9 B9 K9;clear t6;have t7:=tR)
  |(have q5:=t5;(with_reducible refine at_alloc ?_);refine new_lawN _ (hv 0 0 0 0 0 0) zero_head (hv_nob _ _ _ _ _ _) ?_;intro w6 X9 N9 B9;have LT_HB0_HV8:Hid (w.heap.size<w5.heap.size):=range_lt HB0.out.1 (Nat.succ_pos _);have LT_HB1_HV8:Hid (w1.heap.size<w5.heap.size):=range_lt HB1.out.1 (Nat.succ_pos _);have LT_HV6_HV8:Hid (w2.heap.size<w5.heap.size):=range_lt HV6.out.1 (Nat.succ_pos _);have LE_HV8:Hid (w.heap.size≤w5.heap.size):=BB.out.size;have HB0:=hdH (HB0.out.below B9 (range_lt HB0.out.1 (Nat.succ_pos _)));have HB1:=hdH (HB1.out.below B9 (range_lt HB1.out.1 (Nat.succ_pos _)));have NB_HV6:=hdH (NB_HV6.out.heap (B9.block _ (range_lt HV6.out.1 (Nat.succ_pos _))));have HV6:=hdH (HV6.out.below B9 (range_lt HV6.out.1 (Nat.succ_pos _)));have HV8:=hdH (X9);have NB_HV8:=hdH (N9);have BB:=hdH (BB.out.trans (B9.mono BB.out.size));clear hb0_0 hb0_1 hb0_2 hb0_3 hb0_4 hb0_5 hb1_0;have hb0_0:=HB0.out.cell 0 _ rfl;have hb0_1:=HB0.out.cell 1 _ rfl;have hb0_2:=HB0.out.cell 2 _ rfl;have hb0_3:=HB0.out.cell 3 _ rfl;have hb0_4:=HB0.out.cell 4 _ rfl;have hb0_5:=HB0.out.cell 5 _ rfl;have hb1_0:=HB1.out.cell 0 _ rfl;clear X9 N9 B9;clear t5;have t6:=tR)
  |(have q4:=t4;go_at_call 40;refine (SC0.out w4 _ _ BB.out HB0.out HB1.out).mono ?_;rintro e9 w5 ⟨rfl,B9⟩;have HB0:=hdH (HB0.out.below B9 (range_lt HB0.out.1 (Nat.succ_pos _)));have HB1:=hdH (HB1.out.below B9 (range_lt HB1.out.1 (Nat.succ_pos _)));have NB_HV6:=hdH (NB_HV6.out.heap (B9.block _ (range_lt HV6.out.1 (Nat.succ_pos _))));have HV6:=hdH (HV6.out.below B9 (range_lt HV6.out.1 (Nat.succ_pos _)));have BB:=hdH (BB.out.trans (B9.mono BB.out.size));clear hb0_0 hb0_1 hb0_2 hb0_3 hb0_4 hb0_5 hb1_0;have hb0_0:=HB0.out.cell 0 _ rfl;have hb0_1:=HB0.out.cell 1 _ rfl;have hb0_2:=HB0.out.cell 2 _ rfl;have hb0_3:=HB0.out.cell 3 _ rfl;have hb0_4:=HB0.out.cell 4 _ rfl;have hb0_5:=HB0.out.cell 5 _ rfl;have hb1_0:=HB1.out.cell 0 _ rfl;clear B9;clear t4;have t5:=tR)
  |(have q3:=t3;go_at_call 24;refine (SK.out w3).mono ?_;rintro e9 w4 ⟨rfl,B9⟩;have HB0:=hdH (HB0.out.below B9 (range_lt HB0.out.1 (Nat.succ_pos _)));have HB1:=hdH (HB1.out.below B9 (range_lt HB1.out.1 (Nat.succ_pos _)));have NB_HV6:=hdH (NB_HV6.out.heap (B9.block _ (range_lt HV6.out.1 (Nat.succ_pos _))));have HV6:=hdH (HV6.out.below B9 (range_lt HV6.out.1 (Nat.succ_pos _)));have BB:=hdH (BB.out.trans (B9.mono BB.out.size));clear hb0_0 hb0_1 hb0_2 hb0_3 hb0_4 hb0_5 hb1_0;have hb0_0:=HB0.out.cell 0 _ rfl;have hb0_1:=HB0.out.cell 1 _ rfl;have hb0_2:=HB0.out.cell 2 _ rfl;have hb0_3:=HB0.out.cell 3 _ rfl;have hb0_4:=HB0.out.cell 4 _ rfl;have hb0_5:=HB0.out.cell 5 _ rfl;have hb1_0:=HB1.out.cell 0 _ rfl;clear B9;clear t3;have t4:=tR)
  |(have q2:=t2;(with_reducible refine at_alloc ?_);refine new_lawN _ Z10t zero_told z10_nob ?_;intro w3 X9 N9 B9;have LT_HB0_HV6:Hid (w.heap.size<w2.heap.size):=range_lt HB0.out.1 (Nat.succ_pos _);have LT_HB1_HV6:Hid (w1.heap.size<w2.heap.size):=range_lt HB1.out.1 (Nat.succ_pos _);have LE_HV6:Hid (w.heap.size≤w2.heap.size):=BB.out.size;have HB0:=hdH (HB0.out.below B9 (range_lt HB0.out.1 (Nat.succ_pos _)));have HB1:=hdH (HB1.out.below B9 (range_lt HB1.out.1 (Nat.succ_pos _)));have HV6:=hdH (X9);have NB_HV6:=hdH (N9);have BB:=hdH (BB.out.trans (B9.mono BB.out.size));clear hb0_0 hb0_1 hb0_2 hb0_3 hb0_4 hb0_5 hb1_0;have hb0_0:=HB0.out.cell 0 _ rfl;have hb0_1:=HB0.out.cell 1 _ rfl;have hb0_2:=HB0.out.cell 2 _ rfl;have hb0_3:=HB0.out.cell 3 _ rfl;have hb0_4:=HB0.out.cell 4 _ rfl;have hb0_5:=HB0.out.cell 5 _ rfl;have hb1_0:=HB1.out.cell 0 _ rfl;clear X9 N9 B9;clear t2;have t3:=tR)
  |(have q1:=t1;refine box_law1 _ (.slice (some ⟨b,off,none⟩) n cap) rfl rfl ?_;intro w2 X9 B9 l9;have HB0:=hdH (HB0.out.below B9 (range_lt HB0.out.1 (Nat.succ_pos _)));have HB1:=hdH (X9);have BB:=hdH (BB.out.trans (B9.mono BB.out.size));clear hb0_0 hb0_1 hb0_2 hb0_3 hb0_4 hb0_5;have hb0_0:=HB0.out.cell 0 _ rfl;have hb0_1:=HB0.out.cell 1 _ rfl;have hb0_2:=HB0.out.cell 2 _ rfl;have hb0_3:=HB0.out.cell 3 _ rfl;have hb0_4:=HB0.out.cell 4 _ rfl;have hb0_5:=HB0.out.cell 5 _ rfl;have hb1_0:=HB1.out.cell 0 _ rfl;clear X9 B9 l9;clear t1;have t2:=tR)
  |(have q0:=t0;refine box_lawC _ [.int .i64 g0,.int .i64 (P:Int),.int .i64 (S:Int),.int .i64 g3,.int .i64 g4,.int .i64 g5] rfl ?_;intro w1 X9 B9 l9;have HB0:=hdH (X9);have BB:=hdH (B9);have hb0_0:=HB0.out.cell 0 _ rfl;have hb0_1:=HB0.out.cell 1 _ rfl;have hb0_2:=HB0.out.cell 2 _ rfl;have hb0_3:=HB0.out.cell 3 _ rfl;have hb0_4:=HB0.out.cell 4 _ rfl;have hb0_5:=HB0.out.cell 5 _ rfl;clear X9 B9 l9;clear t0;have t1:=tR))
 exact bodyPost_ret (v:=.agg Z10t.toArray) (results_c rfl _ _ w2.heap.size _ rowy_told rfl HV6.out.1) rfl ⟨rfl,BB.out⟩
theorem block_far (g0 g3 g4 g5 bl:Int) (S P:Nat) (b off n cap:Nat) (w:World) (k0 n0 c0 l0 e0 t0z:Int) (hr:ge.Rt [g0,(P:Int),(S:Int),g3,g4,g5]) (hn:P≤n) (hS:∀ w0 c3 c5,Below w.heap.size w w0→Vr w0 c3 [.int .i64 g0,.int .i64 (P:Int),.int .i64 (S:Int),.int .i64 g3,.int .i64 g4,.int .i64 g5]→Vr w0 c5 [.slice (some ⟨b,off,none⟩) n cap]→Calls Tryz.prog 40 #[.int .i64 0,.pointer (some ⟨c3,0,none⟩),.pointer (some ⟨c5,0,none⟩)] w0 fun x w'=>x=.returned (.tuple #[.agg (hv k0 n0 c0 l0 e0 t0z).toArray,.bool true])∧Below w0.heap.size w0 w') (hk:k0=3) (h4:4≤n0):
  Calls Tryz.prog 14 #[.agg (ints .i64 [g0,(P:Int),(S:Int),g3,g4,g5]),.int .i64 bl,.slice (some ⟨b,off,none⟩) n cap] w fun x w'=>x=.returned (.agg Z10t.toArray)∧Below w.heap.size w w':=by
 have SK:Hid (∀ w0,Calls Tryz.prog 24 #[.agg (ints .i64 [g0,(P:Int),(S:Int),g3,g4,g5])] w0 fun x w'=>x=.returned (.int .i64 0)∧Below w0.heap.size w0 w'):=ge.check_yes [g0,(P:Int),(S:Int),g3,g4,g5] rfl hr
 have hmf:∀ (fn:Fn) (first cap:Array Value) (w:World),(Instr.makeFunc fn first cap).run Tryz.prog w=.ok (.func fn first cap) w:=fun _ _ _ _=>rfl
 have nP:¬(n:Int)<(P:Int):=by omega
 have SC0:=hdH (hS)
 have q1:(k0 != 3)=false:=by rw [hk];rfl
 clear hk
 clear hr hn hS
 have t0:=tR
 go_enter Tryz.func14,Tryz.ntmps14
 go_wp2_with (first
  |(have q8:=t8;(with_reducible refine at_store ?_);refine store_lawC _ Z10t w2.heap.size 0 rfl rfl HV6.out.2 rowy_told.2 z10_one ?_;intro w8 E9 R9 T9 B9;have K9:∀ k,k≠w2.heap.size→w8.heap[k]? =w7.heap[k]? :=(by rw [E9.out];exact fun k hk=>heap_cells _ _ _ _ k hk);have HB0:=hdH (HB0.out.heap (K9 _ (Nat.ne_of_lt LT_HB0_HV6.out)));have HB1:=hdH (HB1.out.heap (K9 _ (Nat.ne_of_lt LT_HB1_HV6.out)));have NB_HV8:=hdH (NB_HV8.out.heap (K9 _ (Nat.ne_of_gt LT_HV6_HV8.out)));have HV8:=hdH (HV8.out.heap (K9 _ (Nat.ne_of_gt LT_HV6_HV8.out)));have NB_HV6:Hid (NoB w8 w2.heap.size):=(by rw [E9.out];exact NB_HV6.out.set HV6.out rfl z10_nob);have HV6:Hid (Vr w8 w2.heap.size Z10t):=⟨R9,T9⟩;have BB:=hdH (BB.out.trans (B9.mono LE_HV6.out));clear hb0_0 hb0_1 hb0_2 hb0_3 hb0_4 hb0_5 hb1_0 hv8_0 hv8_1 hv8_3;have hb0_0:=HB0.out.cell 0 _ rfl;have hb0_1:=HB0.out.cell 1 _ rfl;have hb0_2:=HB0.out.cell 2 _ rfl;have hb0_3:=HB0.out.cell 3 _ rfl;have hb0_4:=HB0.out.cell 4 _ rfl;have hb0_5:=HB0.out.cell 5 _ rfl;have hb1_0:=HB1.out.cell 0 _ rfl;have hv8_0:=HV8.out.cell 0 _ rfl;have hv8_1:=HV8.out.cell 1 _ rfl;have hv8_3:=HV8.out.cell 3 _ rfl;clear E9 R9 T9 B9 K9;clear t8;have t9:=tR)
  |(have q7:=t7;refine build_law _ rfl 67 _ rfl (.agg Z10t.toArray) (by kernel_rfl) ?_;clear t7;have t8:=tR)
  |(have q6:=t6;(with_reducible refine at_store ?_);refine store_lawC _ (hv k0 n0 c0 l0 e0 t0z) w5.heap.size 0 rfl rfl HV8.out.2 rowy_head.2 (hv_one _ _ _ _ _ _) ?_;intro w7 E9 R9 T9 B9;have K9:∀ k,k≠w5.heap.size→w7.heap[k]? =w6.heap[k]? :=(by rw [E9.out];exact fun k hk=>heap_cells _ _ _ _ k hk);have HB0:=hdH (HB0.out.heap (K9 _ (Nat.ne_of_lt LT_HB0_HV8.out)));have HB1:=hdH (HB1.out.heap (K9 _ (Nat.ne_of_lt LT_HB1_HV8.out)));have NB_HV6:=hdH (NB_HV6.out.heap (K9 _ (Nat.ne_of_lt LT_HV6_HV8.out)));have HV6:=hdH (HV6.out.heap (K9 _ (Nat.ne_of_lt LT_HV6_HV8.out)));have NB_HV8:Hid (NoB w7 w5.heap.size):=(by rw [E9.out];exact NB_HV8.out.set HV8.out rfl (hv_nob _ _ _ _ _ _));have HV8:Hid (Vr w7 w5.heap.size (hv k0 n0 c0 l0 e0 t0z)):=⟨R9,T9⟩;have BB:=hdH (BB.out.trans (B9.mono LE_HV8.out));clear hb0_0 hb0_1 hb0_2 hb0_3 hb0_4 hb0_5 hb1_0;have hb0_0:=HB0.out.cell 0 _ rfl;have hb0_1:=HB0.out.cell 1 _ rfl;have hb0_2:=HB0.out.cell 2 _ rfl;have hb0_3:=HB0.out.cell 3 _ rfl;have hb0_4:=HB0.out.cell 4 _ rfl;have hb0_5:=HB0.out.cell 5 _ rfl;have hb1_0:=HB1.out.cell 0 _ rfl;have hv8_0:=HV8.out.cell 0 _ rfl;have hv8_1:=HV8.out.cell 1 _ rfl;have hv8_3:=HV8.out.cell 3 _ rfl;clear E9 R9 T9 B9 K9;clear t6;have t7:=tR)
  |(have q5:=t5;(with_reducible refine at_alloc ?_);refine new_lawN _ (hv 0 0 0 0 0 0) zero_head (hv_nob _ _ _ _ _ _) ?_;intro w6 X9 N9 B9;have LT_HB0_HV8:Hid (w.heap.size<w5.heap.size):=range_lt HB0.out.1 (Nat.succ_pos _);have LT_HB1_HV8:Hid (w1.heap.size<w5.heap.size):=range_lt HB1.out.1 (Nat.succ_pos _);have LT_HV6_HV8:Hid (w2.heap.size<w5.heap.size):=range_lt HV6.out.1 (Nat.succ_pos _);have LE_HV8:Hid (w.heap.size≤w5.heap.size):=BB.out.size;have HB0:=hdH (HB0.out.below B9 (range_lt HB0.out.1 (Nat.succ_pos _)));have HB1:=hdH (HB1.out.below B9 (range_lt HB1.out.1 (Nat.succ_pos _)));have NB_HV6:=hdH (NB_HV6.out.heap (B9.block _ (range_lt HV6.out.1 (Nat.succ_pos _))));have HV6:=hdH (HV6.out.below B9 (range_lt HV6.out.1 (Nat.succ_pos _)));have HV8:=hdH (X9);have NB_HV8:=hdH (N9);have BB:=hdH (BB.out.trans (B9.mono BB.out.size));clear hb0_0 hb0_1 hb0_2 hb0_3 hb0_4 hb0_5 hb1_0;have hb0_0:=HB0.out.cell 0 _ rfl;have hb0_1:=HB0.out.cell 1 _ rfl;have hb0_2:=HB0.out.cell 2 _ rfl;have hb0_3:=HB0.out.cell 3 _ rfl;have hb0_4:=HB0.out.cell 4 _ rfl;have hb0_5:=HB0.out.cell 5 _ rfl;have hb1_0:=HB1.out.cell 0 _ rfl;clear X9 N9 B9;clear t5;have t6:=tR)
  |(have q4:=t4;go_at_call 40;refine (SC0.out w4 _ _ BB.out HB0.out HB1.out).mono ?_;rintro e9 w5 ⟨rfl,B9⟩;have HB0:=hdH (HB0.out.below B9 (range_lt HB0.out.1 (Nat.succ_pos _)));have HB1:=hdH (HB1.out.below B9 (range_lt HB1.out.1 (Nat.succ_pos _)));have NB_HV6:=hdH (NB_HV6.out.heap (B9.block _ (range_lt HV6.out.1 (Nat.succ_pos _))));have HV6:=hdH (HV6.out.below B9 (range_lt HV6.out.1 (Nat.succ_pos _)));have BB:=hdH (BB.out.trans (B9.mono BB.out.size));clear hb0_0 hb0_1 hb0_2 hb0_3 hb0_4 hb0_5 hb1_0;have hb0_0:=HB0.out.cell 0 _ rfl;have hb0_1:=HB0.out.cell 1 _ rfl;have hb0_2:=HB0.out.cell 2 _ rfl;have hb0_3:=HB0.out.cell 3 _ rfl;have hb0_4:=HB0.out.cell 4 _ rfl;have hb0_5:=HB0.out.cell 5 _ rfl;have hb1_0:=HB1.out.cell 0 _ rfl;clear B9;clear t4;have t5:=tR)
  |(have q3:=t3;go_at_call 24;refine (SK.out w3).mono ?_;rintro e9 w4 ⟨rfl,B9⟩;have HB0:=hdH (HB0.out.below B9 (range_lt HB0.out.1 (Nat.succ_pos _)));have HB1:=hdH (HB1.out.below B9 (range_lt HB1.out.1 (Nat.succ_pos _)));have NB_HV6:=hdH (NB_HV6.out.heap (B9.block _ (range_lt HV6.out.1 (Nat.succ_pos _))));have HV6:=hdH (HV6.out.below B9 (range_lt HV6.out.1 (Nat.succ_pos _)));have BB:=hdH (BB.out.trans (B9.mono BB.out.size));clear hb0_0 hb0_1 hb0_2 hb0_3 hb0_4 hb0_5 hb1_0;have hb0_0:=HB0.out.cell 0 _ rfl;have hb0_1:=HB0.out.cell 1 _ rfl;have hb0_2:=HB0.out.cell 2 _ rfl;have hb0_3:=HB0.out.cell 3 _ rfl;have hb0_4:=HB0.out.cell 4 _ rfl;have hb0_5:=HB0.out.cell 5 _ rfl;have hb1_0:=HB1.out.cell 0 _ rfl;clear B9;clear t3;have t4:=tR)
  |(have q2:=t2;(with_reducible refine at_alloc ?_);refine new_lawN _ Z10t zero_told z10_nob ?_;intro w3 X9 N9 B9;have LT_HB0_HV6:Hid (w.heap.size<w2.heap.size):=range_lt HB0.out.1 (Nat.succ_pos _);have LT_HB1_HV6:Hid (w1.heap.size<w2.heap.size):=range_lt HB1.out.1 (Nat.succ_pos _);have LE_HV6:Hid (w.heap.size≤w2.heap.size):=BB.out.size;have HB0:=hdH (HB0.out.below B9 (range_lt HB0.out.1 (Nat.succ_pos _)));have HB1:=hdH (HB1.out.below B9 (range_lt HB1.out.1 (Nat.succ_pos _)));have HV6:=hdH (X9);have NB_HV6:=hdH (N9);have BB:=hdH (BB.out.trans (B9.mono BB.out.size));clear hb0_0 hb0_1 hb0_2 hb0_3 hb0_4 hb0_5 hb1_0;have hb0_0:=HB0.out.cell 0 _ rfl;have hb0_1:=HB0.out.cell 1 _ rfl;have hb0_2:=HB0.out.cell 2 _ rfl;have hb0_3:=HB0.out.cell 3 _ rfl;have hb0_4:=HB0.out.cell 4 _ rfl;have hb0_5:=HB0.out.cell 5 _ rfl;have hb1_0:=HB1.out.cell 0 _ rfl;clear X9 N9 B9;clear t2;have t3:=tR)
  |(have q1:=t1;refine box_law1 _ (.slice (some ⟨b,off,none⟩) n cap) rfl rfl ?_;intro w2 X9 B9 l9;have HB0:=hdH (HB0.out.below B9 (range_lt HB0.out.1 (Nat.succ_pos _)));have HB1:=hdH (X9);have BB:=hdH (BB.out.trans (B9.mono BB.out.size));clear hb0_0 hb0_1 hb0_2 hb0_3 hb0_4 hb0_5;have hb0_0:=HB0.out.cell 0 _ rfl;have hb0_1:=HB0.out.cell 1 _ rfl;have hb0_2:=HB0.out.cell 2 _ rfl;have hb0_3:=HB0.out.cell 3 _ rfl;have hb0_4:=HB0.out.cell 4 _ rfl;have hb0_5:=HB0.out.cell 5 _ rfl;have hb1_0:=HB1.out.cell 0 _ rfl;clear X9 B9 l9;clear t1;have t2:=tR)
  |(have q0:=t0;refine box_lawC _ [.int .i64 g0,.int .i64 (P:Int),.int .i64 (S:Int),.int .i64 g3,.int .i64 g4,.int .i64 g5] rfl ?_;intro w1 X9 B9 l9;have HB0:=hdH (X9);have BB:=hdH (B9);have hb0_0:=HB0.out.cell 0 _ rfl;have hb0_1:=HB0.out.cell 1 _ rfl;have hb0_2:=HB0.out.cell 2 _ rfl;have hb0_3:=HB0.out.cell 3 _ rfl;have hb0_4:=HB0.out.cell 4 _ rfl;have hb0_5:=HB0.out.cell 5 _ rfl;clear X9 B9 l9;clear t0;have t1:=tR))
 exact bodyPost_ret (v:=.agg Z10t.toArray) (results_c rfl _ _ w2.heap.size _ rowy_told rfl HV6.out.1) rfl ⟨rfl,BB.out⟩
theorem block_known (g0 g3 g4 g5 bl:Int) (S P:Nat) (b off n cap:Nat) (f:Nat→List Int) (w:World) (hr:ge.Rt [g0,(P:Int),(S:Int),g3,g4,g5]) (hT:Tab w) (hn:P≤n) (hA:∀ i,i<n→∃ z,(∀ w',Below w.heap.size w w'→w'.cell? ⟨b,off+i,none⟩=some z)∧Byt w z (f i)∧(f i).length =S+88) (k0 n0 c0 l0 e0 t0z:Int) (hS:∀ w0 c3 c5,Below w.heap.size w w0→Vr w0 c3 [.int .i64 g0,.int .i64 (P:Int),.int .i64 (S:Int),.int .i64 g3,.int .i64 g4,.int .i64 g5]→Vr w0 c5 [.slice (some ⟨b,off,none⟩) n cap]→Calls Tryz.prog 40 #[.int .i64 0,.pointer (some ⟨c3,0,none⟩),.pointer (some ⟨c5,0,none⟩)] w0 fun x w'=>x=.returned (.tuple #[.agg (hv k0 n0 c0 l0 e0 t0z).toArray,.bool true])∧Below w0.heap.size w0 w') (hX:hc S (f 0)=hv k0 n0 c0 l0 e0 t0z∧qn ((f 0).drop S)=n0) (hk:k0=3) (h4:n0<4) (hl:0≤l0∧l0≤4294967295):
  Calls Tryz.prog 14 #[.agg (ints .i64 [g0,(P:Int),(S:Int),g3,g4,g5]),.int .i64 bl,.slice (some ⟨b,off,none⟩) n cap] w fun x w'=>(∃ v,x=.returned (.agg (tdz k0 n0 c0 l0 e0 t0z (v)).toArray)∧na.Rws w' v 14 (sps S bl f (P-1)))∧Below w.heap.size w w':=by
 have SK:Hid (∀ w0,Calls Tryz.prog 24 #[.agg (ints .i64 [g0,(P:Int),(S:Int),g3,g4,g5])] w0 fun x w'=>x=.returned (.int .i64 0)∧Below w0.heap.size w0 w'):=ge.check_yes [g0,(P:Int),(S:Int),g3,g4,g5] rfl hr
 have hmf:∀ (fn:Fn) (first cap:Array Value) (w:World),(Instr.makeFunc fn first cap).run Tryz.prog w=.ok (.func fn first cap) w:=fun _ _ _ _=>rfl
 have P4:4≤P∧P≤32:=by have:=hr.1.2.1;have e:gb [g0,(P:Int),(S:Int),g3,g4,g5] 1=(P:Int):=rfl;omega
 have nP:¬(n:Int)<(P:Int):=by omega
 have HN:=hdH (hn)
 have HR:Hid (ge.Rt [g0,(P:Int),(S:Int),g3,g4,g5]∧Tab w):=⟨hr,hT⟩
 have HA:=hdH (hA)
 have SC0:=hdH (hS)
 have HX0:=hdH (hX)
 have q1:(k0 != 3)=false:=by rw [hk];rfl
 have q2:¬ 4≤n0:=by omega
 have hl1:0≤l0:=hl.1
 have hl2:l0≤4294967295:=hl.2
 have cv:IntKind.i64.wrap l0=l0:=by rw [IntKind.wrap_i64];omega
 clear hr hT hn hA hS hX hk h4 hl
 have t0:=tR
 go_enter Tryz.func14,Tryz.ntmps14
 go_wp2_with (first
  |(have q10:=t10;(with_reducible refine at_store ?_);refine store_lawC _ (tdz k0 n0 c0 l0 e0 t0z (.slice none 0 0)) w7.heap.size 0 rfl rfl HT.out.2 rowy_told.2 (tdz_one _ _ _ _ _ _ rfl) ?_;intro w9 E9 R9 T9 B9;have K9:∀ k,k≠w7.heap.size→w9.heap[k]? =w8.heap[k]? :=(by rw [E9.out];exact fun k hk=>heap_cells _ _ _ _ k hk);have HB0:=hdH (HB0.out.heap (K9 _ (Nat.ne_of_lt LT_HB0_HT.out)));have HB1:=hdH (HB1.out.heap (K9 _ (Nat.ne_of_lt LT_HB1_HT.out)));have NB_HV6:=hdH (NB_HV6.out.heap (K9 _ (Nat.ne_of_lt LT_HV6_HT.out)));have HV6:=hdH (HV6.out.heap (K9 _ (Nat.ne_of_lt LT_HV6_HT.out)));have NB_HV8:=hdH (NB_HV8.out.heap (K9 _ (Nat.ne_of_lt LT_HV8_HT.out)));have HV8:=hdH (HV8.out.heap (K9 _ (Nat.ne_of_lt LT_HV8_HT.out)));have NB_HT:Hid (NoB w9 w7.heap.size):=(by rw [E9.out];exact NB_HT.out.set HT.out rfl (tdz_nob _ _ _ _ _ _ _ _ _));have HT:Hid (Vr w9 w7.heap.size (tdz k0 n0 c0 l0 e0 t0z (.slice none 0 0))):=⟨R9,T9⟩;have BB:=hdH (BB.out.trans (B9.mono LE_HT.out));clear hb0_0 hb0_1 hb0_2 hb0_3 hb0_4 hb0_5 hb1_0 hv8_0 hv8_1 hv8_3;have hb0_0:=HB0.out.cell 0 _ rfl;have hb0_1:=HB0.out.cell 1 _ rfl;have hb0_2:=HB0.out.cell 2 _ rfl;have hb0_3:=HB0.out.cell 3 _ rfl;have hb0_4:=HB0.out.cell 4 _ rfl;have hb0_5:=HB0.out.cell 5 _ rfl;have hb1_0:=HB1.out.cell 0 _ rfl;have hv8_0:=HV8.out.cell 0 _ rfl;have hv8_1:=HV8.out.cell 1 _ rfl;have hv8_3:=HV8.out.cell 3 _ rfl;clear E9 R9 T9 B9 K9;clear t10;have t11:=tR)
  |(have q9:=t9;(with_reducible refine at_alloc ?_);refine new_lawN _ Z10t zero_told z10_nob ?_;intro w8 X9 N9 B9;have LT_HB0_HT:Hid (w.heap.size<w7.heap.size):=range_lt HB0.out.1 (Nat.succ_pos _);have LT_HB1_HT:Hid (w1.heap.size<w7.heap.size):=range_lt HB1.out.1 (Nat.succ_pos _);have LT_HV6_HT:Hid (w2.heap.size<w7.heap.size):=range_lt HV6.out.1 (Nat.succ_pos _);have LT_HV8_HT:Hid (w5.heap.size<w7.heap.size):=range_lt HV8.out.1 (Nat.succ_pos _);have LE_HT:Hid (w.heap.size≤w7.heap.size):=BB.out.size;have HB0:=hdH (HB0.out.below B9 (range_lt HB0.out.1 (Nat.succ_pos _)));have HB1:=hdH (HB1.out.below B9 (range_lt HB1.out.1 (Nat.succ_pos _)));have NB_HV6:=hdH (NB_HV6.out.heap (B9.block _ (range_lt HV6.out.1 (Nat.succ_pos _))));have HV6:=hdH (HV6.out.below B9 (range_lt HV6.out.1 (Nat.succ_pos _)));have NB_HV8:=hdH (NB_HV8.out.heap (B9.block _ (range_lt HV8.out.1 (Nat.succ_pos _))));have HV8:=hdH (HV8.out.below B9 (range_lt HV8.out.1 (Nat.succ_pos _)));have HT:=hdH (X9);have NB_HT:=hdH (N9);have BB:=hdH (BB.out.trans (B9.mono BB.out.size));clear hb0_0 hb0_1 hb0_2 hb0_3 hb0_4 hb0_5 hb1_0 hv8_0 hv8_1 hv8_3;have hb0_0:=HB0.out.cell 0 _ rfl;have hb0_1:=HB0.out.cell 1 _ rfl;have hb0_2:=HB0.out.cell 2 _ rfl;have hb0_3:=HB0.out.cell 3 _ rfl;have hb0_4:=HB0.out.cell 4 _ rfl;have hb0_5:=HB0.out.cell 5 _ rfl;have hb1_0:=HB1.out.cell 0 _ rfl;have hv8_0:=HV8.out.cell 0 _ rfl;have hv8_1:=HV8.out.cell 1 _ rfl;have hv8_3:=HV8.out.cell 3 _ rfl;clear X9 N9 B9;clear t9;have t10:=tR)
  |(have q8:=t8;refine build_law _ rfl 67 _ rfl (.agg (tdz k0 n0 c0 l0 e0 t0z (.slice none 0 0)).toArray) (by kernel_rfl) ?_;clear t8;have t9:=tR)
  |(have q7:=t7;refine load_lawC _ rfl (hv k0 n0 c0 l0 e0 t0z) w5.heap.size 0 rfl HV8.out.1 rowy_head ?_;clear t7;have t8:=tR)
  |(have q6:=t6;(with_reducible refine at_store ?_);refine store_lawC _ (hv k0 n0 c0 l0 e0 t0z) w5.heap.size 0 rfl rfl HV8.out.2 rowy_head.2 (hv_one _ _ _ _ _ _) ?_;intro w7 E9 R9 T9 B9;have K9:∀ k,k≠w5.heap.size→w7.heap[k]? =w6.heap[k]? :=(by rw [E9.out];exact fun k hk=>heap_cells _ _ _ _ k hk);have HB0:=hdH (HB0.out.heap (K9 _ (Nat.ne_of_lt LT_HB0_HV8.out)));have HB1:=hdH (HB1.out.heap (K9 _ (Nat.ne_of_lt LT_HB1_HV8.out)));have NB_HV6:=hdH (NB_HV6.out.heap (K9 _ (Nat.ne_of_lt LT_HV6_HV8.out)));have HV6:=hdH (HV6.out.heap (K9 _ (Nat.ne_of_lt LT_HV6_HV8.out)));have NB_HV8:Hid (NoB w7 w5.heap.size):=(by rw [E9.out];exact NB_HV8.out.set HV8.out rfl (hv_nob _ _ _ _ _ _));have HV8:Hid (Vr w7 w5.heap.size (hv k0 n0 c0 l0 e0 t0z)):=⟨R9,T9⟩;have BB:=hdH (BB.out.trans (B9.mono LE_HV8.out));clear hb0_0 hb0_1 hb0_2 hb0_3 hb0_4 hb0_5 hb1_0;have hb0_0:=HB0.out.cell 0 _ rfl;have hb0_1:=HB0.out.cell 1 _ rfl;have hb0_2:=HB0.out.cell 2 _ rfl;have hb0_3:=HB0.out.cell 3 _ rfl;have hb0_4:=HB0.out.cell 4 _ rfl;have hb0_5:=HB0.out.cell 5 _ rfl;have hb1_0:=HB1.out.cell 0 _ rfl;have hv8_0:=HV8.out.cell 0 _ rfl;have hv8_1:=HV8.out.cell 1 _ rfl;have hv8_3:=HV8.out.cell 3 _ rfl;clear E9 R9 T9 B9 K9;clear t6;have t7:=tR)
  |(have q5:=t5;(with_reducible refine at_alloc ?_);refine new_lawN _ (hv 0 0 0 0 0 0) zero_head (hv_nob _ _ _ _ _ _) ?_;intro w6 X9 N9 B9;have LT_HB0_HV8:Hid (w.heap.size<w5.heap.size):=range_lt HB0.out.1 (Nat.succ_pos _);have LT_HB1_HV8:Hid (w1.heap.size<w5.heap.size):=range_lt HB1.out.1 (Nat.succ_pos _);have LT_HV6_HV8:Hid (w2.heap.size<w5.heap.size):=range_lt HV6.out.1 (Nat.succ_pos _);have LE_HV8:Hid (w.heap.size≤w5.heap.size):=BB.out.size;have HB0:=hdH (HB0.out.below B9 (range_lt HB0.out.1 (Nat.succ_pos _)));have HB1:=hdH (HB1.out.below B9 (range_lt HB1.out.1 (Nat.succ_pos _)));have NB_HV6:=hdH (NB_HV6.out.heap (B9.block _ (range_lt HV6.out.1 (Nat.succ_pos _))));have HV6:=hdH (HV6.out.below B9 (range_lt HV6.out.1 (Nat.succ_pos _)));have HV8:=hdH (X9);have NB_HV8:=hdH (N9);have BB:=hdH (BB.out.trans (B9.mono BB.out.size));clear hb0_0 hb0_1 hb0_2 hb0_3 hb0_4 hb0_5 hb1_0;have hb0_0:=HB0.out.cell 0 _ rfl;have hb0_1:=HB0.out.cell 1 _ rfl;have hb0_2:=HB0.out.cell 2 _ rfl;have hb0_3:=HB0.out.cell 3 _ rfl;have hb0_4:=HB0.out.cell 4 _ rfl;have hb0_5:=HB0.out.cell 5 _ rfl;have hb1_0:=HB1.out.cell 0 _ rfl;clear X9 N9 B9;clear t5;have t6:=tR)
  |(have q4:=t4;go_at_call 40;refine (SC0.out w4 _ _ BB.out HB0.out HB1.out).mono ?_;rintro e9 w5 ⟨rfl,B9⟩;have HB0:=hdH (HB0.out.below B9 (range_lt HB0.out.1 (Nat.succ_pos _)));have HB1:=hdH (HB1.out.below B9 (range_lt HB1.out.1 (Nat.succ_pos _)));have NB_HV6:=hdH (NB_HV6.out.heap (B9.block _ (range_lt HV6.out.1 (Nat.succ_pos _))));have HV6:=hdH (HV6.out.below B9 (range_lt HV6.out.1 (Nat.succ_pos _)));have BB:=hdH (BB.out.trans (B9.mono BB.out.size));clear hb0_0 hb0_1 hb0_2 hb0_3 hb0_4 hb0_5 hb1_0;have hb0_0:=HB0.out.cell 0 _ rfl;have hb0_1:=HB0.out.cell 1 _ rfl;have hb0_2:=HB0.out.cell 2 _ rfl;have hb0_3:=HB0.out.cell 3 _ rfl;have hb0_4:=HB0.out.cell 4 _ rfl;have hb0_5:=HB0.out.cell 5 _ rfl;have hb1_0:=HB1.out.cell 0 _ rfl;clear B9;clear t4;have t5:=tR)
  |(have q3:=t3;go_at_call 24;refine (SK.out w3).mono ?_;rintro e9 w4 ⟨rfl,B9⟩;have HB0:=hdH (HB0.out.below B9 (range_lt HB0.out.1 (Nat.succ_pos _)));have HB1:=hdH (HB1.out.below B9 (range_lt HB1.out.1 (Nat.succ_pos _)));have NB_HV6:=hdH (NB_HV6.out.heap (B9.block _ (range_lt HV6.out.1 (Nat.succ_pos _))));have HV6:=hdH (HV6.out.below B9 (range_lt HV6.out.1 (Nat.succ_pos _)));have BB:=hdH (BB.out.trans (B9.mono BB.out.size));clear hb0_0 hb0_1 hb0_2 hb0_3 hb0_4 hb0_5 hb1_0;have hb0_0:=HB0.out.cell 0 _ rfl;have hb0_1:=HB0.out.cell 1 _ rfl;have hb0_2:=HB0.out.cell 2 _ rfl;have hb0_3:=HB0.out.cell 3 _ rfl;have hb0_4:=HB0.out.cell 4 _ rfl;have hb0_5:=HB0.out.cell 5 _ rfl;have hb1_0:=HB1.out.cell 0 _ rfl;clear B9;clear t3;have t4:=tR)
  |(have q2:=t2;(with_reducible refine at_alloc ?_);refine new_lawN _ Z10t zero_told z10_nob ?_;intro w3 X9 N9 B9;have LT_HB0_HV6:Hid (w.heap.size<w2.heap.size):=range_lt HB0.out.1 (Nat.succ_pos _);have LT_HB1_HV6:Hid (w1.heap.size<w2.heap.size):=range_lt HB1.out.1 (Nat.succ_pos _);have LE_HV6:Hid (w.heap.size≤w2.heap.size):=BB.out.size;have HB0:=hdH (HB0.out.below B9 (range_lt HB0.out.1 (Nat.succ_pos _)));have HB1:=hdH (HB1.out.below B9 (range_lt HB1.out.1 (Nat.succ_pos _)));have HV6:=hdH (X9);have NB_HV6:=hdH (N9);have BB:=hdH (BB.out.trans (B9.mono BB.out.size));clear hb0_0 hb0_1 hb0_2 hb0_3 hb0_4 hb0_5 hb1_0;have hb0_0:=HB0.out.cell 0 _ rfl;have hb0_1:=HB0.out.cell 1 _ rfl;have hb0_2:=HB0.out.cell 2 _ rfl;have hb0_3:=HB0.out.cell 3 _ rfl;have hb0_4:=HB0.out.cell 4 _ rfl;have hb0_5:=HB0.out.cell 5 _ rfl;have hb1_0:=HB1.out.cell 0 _ rfl;clear X9 N9 B9;clear t2;have t3:=tR)
  |(have q1:=t1;refine box_law1 _ (.slice (some ⟨b,off,none⟩) n cap) rfl rfl ?_;intro w2 X9 B9 l9;have HB0:=hdH (HB0.out.below B9 (range_lt HB0.out.1 (Nat.succ_pos _)));have HB1:=hdH (X9);have BB:=hdH (BB.out.trans (B9.mono BB.out.size));clear hb0_0 hb0_1 hb0_2 hb0_3 hb0_4 hb0_5;have hb0_0:=HB0.out.cell 0 _ rfl;have hb0_1:=HB0.out.cell 1 _ rfl;have hb0_2:=HB0.out.cell 2 _ rfl;have hb0_3:=HB0.out.cell 3 _ rfl;have hb0_4:=HB0.out.cell 4 _ rfl;have hb0_5:=HB0.out.cell 5 _ rfl;have hb1_0:=HB1.out.cell 0 _ rfl;clear X9 B9 l9;clear t1;have t2:=tR)
  |(have q0:=t0;refine box_lawC _ [.int .i64 g0,.int .i64 (P:Int),.int .i64 (S:Int),.int .i64 g3,.int .i64 g4,.int .i64 g5] rfl ?_;intro w1 X9 B9 l9;have HB0:=hdH (X9);have BB:=hdH (B9);have hb0_0:=HB0.out.cell 0 _ rfl;have hb0_1:=HB0.out.cell 1 _ rfl;have hb0_2:=HB0.out.cell 2 _ rfl;have hb0_3:=HB0.out.cell 3 _ rfl;have hb0_4:=HB0.out.cell 4 _ rfl;have hb0_5:=HB0.out.cell 5 _ rfl;clear X9 B9 l9;clear t0;have t1:=tR))
 have WZ0:Hid (w7.heap.size<w9.heap.size):=range_lt HT.out.1 (Nat.succ_pos _)
 have BZ:=hdH (BB.out)
 go_loopw [11] (fun i wr=>∃ (k:Nat) (v:Value),k+1≤P∧i=.int .i64 ((k+1 :Nat):Int)∧na.OwR w9.heap.size wr v 80 14 (sps S bl f k)∧Vr wr w7.heap.size (tdz k0 n0 c0 l0 e0 t0z (v))∧Below w7.heap.size w9 wr) (fun i _=>P-(intOf i).toNat)
 case atStart=>exact ⟨0,_,by omega,rfl,na.OwR.nil _ _ _ _,HT.out,Below.refl _ _⟩
 case round=>
  obtain ⟨k,v,hk,rfl,hO,hV,hB⟩:=hrel
  obtain ⟨-, -,so,sc,rfl⟩:=owr_slice hO
  have EL:Hid ((sps S bl f k).length ≤32):=Nat.le_trans (sps_len _ _ _ _) (by omega)
  have HO:=hdH (hO)
  have BX:=hdH (hB)
  have LW:Hid (w7.heap.size<wr.heap.size):=Nat.lt_of_lt_of_le WZ0.out hB.size
  have BW:=hdH (BZ.out.trans (hB.mono LE_HT.out))
  have LZ:=hdH (WZ0.out)
  have WZ:Hid (w9.heap.size≤wr.heap.size):=hB.size
  have HB0:=hdH (HB0.out.below hB LT_HB0_HT.out)
  have HB1:=hdH (HB1.out.below hB LT_HB1_HT.out)
  have HV6:=hdH (HV6.out.below hB LT_HV6_HT.out)
  have HT:=hdH (hV)
  clear hb0_0 hb0_1 hb0_2 hb0_3 hb0_4 hb0_5 hb1_0 hv8_0 hv8_1 hv8_3
  have BB:Hid (Below wr.heap.size wr wr):=Below.refl _ _
  by_cases hlt:k+1<P
  ·obtain ⟨k1,n1,c1,l1,e1,t1,HQ1,SC1⟩:=clo_any g0 (P:Int) g3 g4 g5 S b off n cap (k+1) f w HR.out.1 HR.out.2 (by omega) (HA.out (k+1) (by omega))
   have lk:((k+1 :Nat):Int)<(P:Int):=by omega
   have SC1:=hdH SC1
   have SN:Hid (Sp S (qn ((f 0).drop S)) (f (k+1))=true→sps S bl f (k+1)=sps S bl f k ++ [sc14 S bl f (k+1)]):=sps_yes
   have SM:Hid (Sp S (qn ((f 0).drop S)) (f (k+1))=false→sps S bl f (k+1)=sps S bl f k):=sps_no
   cases hd:Cm S (f (k+1)) with
   |false=>
    have ES:=hdH (SM.out (by unfold Sp;rw [hd];rfl))
    rw [hd] at SC1
    generalize sps S bl f k=E at HO HT EL SN SM ES
    generalize sn':E.length=sn at HO HT EL
    clear HQ1 SN SM HA HR HX0 hd sn'
    have hb0_0:=HB0.out.cell 0 _ rfl
    have hb0_1:=HB0.out.cell 1 _ rfl
    have hb0_2:=HB0.out.cell 2 _ rfl
    have hb0_3:=HB0.out.cell 3 _ rfl
    have hb0_4:=HB0.out.cell 4 _ rfl
    have hb0_5:=HB0.out.cell 5 _ rfl
    have hb1_0:=HB1.out.cell 0 _ rfl
    have ht_1:=HT.out.cell 1 _ rfl
    have ht_9:=HT.out.cell 9 _ rfl
    have t0:=tR
    go_wp2_with (first
     |(have q2:=t2;(with_reducible refine at_store ?_);refine store_lawC _ (hv k1 n1 c1 l1 e1 t1) w41.heap.size 0 rfl rfl HN.out.2 rowy_head.2 (hv_one _ _ _ _ _ _) ?_;intro w43 E9 R9 T9 B9;have B9:Below w41.heap.size w41 w43:=BA.out.trans B9;have HB0:=hdH (HB0.out.below B9 (range_lt HB0.out.1 (Nat.succ_pos _)));have HB1:=hdH (HB1.out.below B9 (range_lt HB1.out.1 (Nat.succ_pos _)));have HT:=hdH (HT.out.below B9 (range_lt HT.out.1 (Nat.succ_pos _)));have HO:=hdH (HO.out.low B9);have HH:Hid (Vr w43 w41.heap.size (hv k1 n1 c1 l1 e1 t1)):=⟨R9,T9⟩;have BB:=hdH (BB.out.trans (B9.mono BB.out.size));clear hb0_0 hb0_1 hb0_2 hb0_3 hb0_4 hb0_5 hb1_0 ht_1 ht_9;have hb0_0:=HB0.out.cell 0 _ rfl;have hb0_1:=HB0.out.cell 1 _ rfl;have hb0_2:=HB0.out.cell 2 _ rfl;have hb0_3:=HB0.out.cell 3 _ rfl;have hb0_4:=HB0.out.cell 4 _ rfl;have hb0_5:=HB0.out.cell 5 _ rfl;have hb1_0:=HB1.out.cell 0 _ rfl;have ht_1:=HT.out.cell 1 _ rfl;have ht_9:=HT.out.cell 9 _ rfl;have hh_0:=HH.out.cell 0 _ rfl;have hh_1:=HH.out.cell 1 _ rfl;clear E9 R9 T9 B9 HN BA;clear t2;have t3:=tR)
     |(have q1:=t1;(with_reducible refine at_alloc ?_);refine new_lawC _ (hv 0 0 0 0 0 0) zero_head ?_;intro w42 X9 B9 l9;have HN:=hdH (X9);have BA:=hdH (B9);clear X9 B9 l9;clear t1;have t2:=tR)
     |(have q0:=t0;go_at_call 40;refine (SC1.out wr _ _ (BW.out.trans (BB.out.mono BW.out.size)) HB0.out HB1.out).mono ?_;rintro e9 w41 ⟨rfl,B9⟩;have HB0:=hdH (HB0.out.below B9 (range_lt HB0.out.1 (Nat.succ_pos _)));have HB1:=hdH (HB1.out.below B9 (range_lt HB1.out.1 (Nat.succ_pos _)));have HT:=hdH (HT.out.below B9 (range_lt HT.out.1 (Nat.succ_pos _)));have HO:=hdH (HO.out.low B9);have BB:=hdH (B9);clear hb0_0 hb0_1 hb0_2 hb0_3 hb0_4 hb0_5 hb1_0 ht_1 ht_9;have hb0_0:=HB0.out.cell 0 _ rfl;have hb0_1:=HB0.out.cell 1 _ rfl;have hb0_2:=HB0.out.cell 2 _ rfl;have hb0_3:=HB0.out.cell 3 _ rfl;have hb0_4:=HB0.out.cell 4 _ rfl;have hb0_5:=HB0.out.cell 5 _ rfl;have hb1_0:=HB1.out.cell 0 _ rfl;have ht_1:=HT.out.cell 1 _ rfl;have ht_9:=HT.out.cell 9 _ rfl;clear B9;clear t0;have t1:=tR))
    go_roundw
    case rel=>exact ⟨k+1,_,by omega,by go_num,by rw [ES.out];exact HO.out,HT.out,BX.out.trans (BB.out.mono (Nat.le_of_lt LW.out))⟩
    case measure=>simp [intOf];omega
   |true=>
    obtain ⟨rfl,rfl,rfl,rfl,rfl,rfl⟩:=HQ1 hd
    rw [hd] at SC1
    have SPQ:Hid (Sp S (qn ((f 0).drop S)) (f (k+1))=((decide (qk ((f (k+1)).drop S)=1) || decide (qk ((f (k+1)).drop S)=2)) && decide (qn ((f (k+1)).drop S)=n0))):=by show _=_;unfold Sp;rw [hd,Bool.true_and,HX0.out.2]
    have SX:Hid (sc14 S bl f (k+1)=([.int .i64 bl,.int .i64 ((k+1 :Nat):Int)]:List Value) ++ (hv (qk ((f (k+1)).drop S)) (qn ((f (k+1)).drop S)) (qc ((f (k+1)).drop S)) (ql ((f (k+1)).drop S)) (qe ((f (k+1)).drop S)) (qt ((f (k+1)).drop S)) ++ hv k0 n0 c0 l0 e0 t0z)):=by show _=_;unfold sc14;rw [HX0.out.1];rfl
    have SP:Hid (∀ w0,Calls Tryz.prog 42 #[.int .i64 (qk ((f (k+1)).drop S))] w0 fun x w'=>x=.returned (.bool (decide (qk ((f (k+1)).drop S)=1) || decide (qk ((f (k+1)).drop S)=2)))∧w'=w0):=speaks_any _
    generalize qk ((f (k+1)).drop S)=k1 at SC1 SPQ SX SP
    generalize qn ((f (k+1)).drop S)=n1 at SC1 SPQ SX
    generalize qc ((f (k+1)).drop S)=c1 at SC1 SX
    generalize ql ((f (k+1)).drop S)=l1 at SC1 SX
    generalize qe ((f (k+1)).drop S)=e1 at SC1 SX
    generalize qt ((f (k+1)).drop S)=t1 at SC1 SX
    cases hs:(decide (k1=1) || decide (k1=2)) with
    |false=>
     have ES:=hdH (SM.out (by rw [SPQ.out,hs];rfl))
     rw [hs] at SP
     generalize sps S bl f k=E at HO HT EL SN SM ES
     generalize sn':E.length=sn at HO HT EL
     clear HQ1 SN SM HA HR HX0 hd sn' SPQ SX hs
     have hb0_0:=HB0.out.cell 0 _ rfl
     have hb0_1:=HB0.out.cell 1 _ rfl
     have hb0_2:=HB0.out.cell 2 _ rfl
     have hb0_3:=HB0.out.cell 3 _ rfl
     have hb0_4:=HB0.out.cell 4 _ rfl
     have hb0_5:=HB0.out.cell 5 _ rfl
     have hb1_0:=HB1.out.cell 0 _ rfl
     have ht_1:=HT.out.cell 1 _ rfl
     have ht_9:=HT.out.cell 9 _ rfl
     have t0:=tR
     go_wp2_with (first
      |(have q3:=t3;go_at_call 42;refine (SP.out _).mono ?_;rintro e9 w9 ⟨rfl,hw⟩;obtain rfl:=hw.symm;clear t3;have t4:=tR)
      |(have q2:=t2;(with_reducible refine at_store ?_);refine store_lawC _ (hv k1 n1 c1 l1 e1 t1) w41.heap.size 0 rfl rfl HN.out.2 rowy_head.2 (hv_one _ _ _ _ _ _) ?_;intro w43 E9 R9 T9 B9;have B9:Below w41.heap.size w41 w43:=BA.out.trans B9;have HB0:=hdH (HB0.out.below B9 (range_lt HB0.out.1 (Nat.succ_pos _)));have HB1:=hdH (HB1.out.below B9 (range_lt HB1.out.1 (Nat.succ_pos _)));have HT:=hdH (HT.out.below B9 (range_lt HT.out.1 (Nat.succ_pos _)));have HO:=hdH (HO.out.low B9);have HH:Hid (Vr w43 w41.heap.size (hv k1 n1 c1 l1 e1 t1)):=⟨R9,T9⟩;have BB:=hdH (BB.out.trans (B9.mono BB.out.size));clear hb0_0 hb0_1 hb0_2 hb0_3 hb0_4 hb0_5 hb1_0 ht_1 ht_9;have hb0_0:=HB0.out.cell 0 _ rfl;have hb0_1:=HB0.out.cell 1 _ rfl;have hb0_2:=HB0.out.cell 2 _ rfl;have hb0_3:=HB0.out.cell 3 _ rfl;have hb0_4:=HB0.out.cell 4 _ rfl;have hb0_5:=HB0.out.cell 5 _ rfl;have hb1_0:=HB1.out.cell 0 _ rfl;have ht_1:=HT.out.cell 1 _ rfl;have ht_9:=HT.out.cell 9 _ rfl;have hh_0:=HH.out.cell 0 _ rfl;have hh_1:=HH.out.cell 1 _ rfl;clear E9 R9 T9 B9 HN BA;clear t2;have t3:=tR)
      |(have q1:=t1;(with_reducible refine at_alloc ?_);refine new_lawC _ (hv 0 0 0 0 0 0) zero_head ?_;intro w42 X9 B9 l9;have HN:=hdH (X9);have BA:=hdH (B9);clear X9 B9 l9;clear t1;have t2:=tR)
      |(have q0:=t0;go_at_call 40;refine (SC1.out wr _ _ (BW.out.trans (BB.out.mono BW.out.size)) HB0.out HB1.out).mono ?_;rintro e9 w41 ⟨rfl,B9⟩;have HB0:=hdH (HB0.out.below B9 (range_lt HB0.out.1 (Nat.succ_pos _)));have HB1:=hdH (HB1.out.below B9 (range_lt HB1.out.1 (Nat.succ_pos _)));have HT:=hdH (HT.out.below B9 (range_lt HT.out.1 (Nat.succ_pos _)));have HO:=hdH (HO.out.low B9);have BB:=hdH (B9);clear hb0_0 hb0_1 hb0_2 hb0_3 hb0_4 hb0_5 hb1_0 ht_1 ht_9;have hb0_0:=HB0.out.cell 0 _ rfl;have hb0_1:=HB0.out.cell 1 _ rfl;have hb0_2:=HB0.out.cell 2 _ rfl;have hb0_3:=HB0.out.cell 3 _ rfl;have hb0_4:=HB0.out.cell 4 _ rfl;have hb0_5:=HB0.out.cell 5 _ rfl;have hb1_0:=HB1.out.cell 0 _ rfl;have ht_1:=HT.out.cell 1 _ rfl;have ht_9:=HT.out.cell 9 _ rfl;clear B9;clear t0;have t1:=tR))
     go_roundw
     case rel=>exact ⟨k+1,_,by omega,by go_num,by rw [ES.out];exact HO.out,HT.out,BX.out.trans (BB.out.mono (Nat.le_of_lt LW.out))⟩
     case measure=>simp [intOf];omega
    |true=>
     by_cases hn1:n1=n0
     ·have ES:=hdH (SN.out (by rw [SPQ.out,hs,decide_eq_true hn1];rfl))
      rw [SX.out] at ES
      rw [hs] at SP
      have q1:(n1 == n0)=true:=beq_iff_eq.2 hn1
      generalize sps S bl f k=E at HO HT EL SN SM ES
      generalize sn':E.length=sn at HO HT
      clear HQ1 SN SM HA HR HX0 hd sn' SPQ SX hs hn1
      have hb0_0:=HB0.out.cell 0 _ rfl
      have hb0_1:=HB0.out.cell 1 _ rfl
      have hb0_2:=HB0.out.cell 2 _ rfl
      have hb0_3:=HB0.out.cell 3 _ rfl
      have hb0_4:=HB0.out.cell 4 _ rfl
      have hb0_5:=HB0.out.cell 5 _ rfl
      have hb1_0:=HB1.out.cell 0 _ rfl
      have ht_1:=HT.out.cell 1 _ rfl
      have ht_9:=HT.out.cell 9 _ rfl
      have t0:=tR
      go_wp2_with (first
       |(have q9:=t9;(with_reducible refine at_store ?_);obtain ⟨u1,u2, -⟩:=owr_slice HO2.out;refine set_law1 _ rfl _ _ 65 rfl (tdz k0 n0 c0 l0 e0 t0z (.slice so sn sc)) w7.heap.size 9 v9 rfl rfl HT.out (by show 9<10;omega) u1 u2 one_spots.2 ?_;intro w46 V9 G9;have BQ:Hid (Below w7.heap.size w45 w46):=below_gr G9 (Nat.le_refl _) (Nat.le_of_lt (range_lt HT.out.1 (Nat.succ_pos _)));have HT:=hdH (V9);have HO2:Hid (na.OwR w9.heap.size w46 v9 80 14 (E ++ [(([.int .i64 bl,.int .i64 ((k+1 :Nat):Int)]:List Value) ++ (hv k1 n1 c1 l1 e1 t1 ++ hv k0 n0 c0 l0 e0 t0z))])):=owr_grown HO2.out G9 LZ.out;clear V9 G9 u1 u2 ht_9;clear t9;have t10:=tR)
       |(have q8:=t8;refine na.push_lawT _ Tryz.underlying65 _ 14 112 info_spot rfl (by omega) w9.heap.size (Nat.le_trans WZ.out BB.out.size) (.slice so sn sc) _ E [(([.int .i64 bl,.int .i64 ((k+1 :Nat):Int)]:List Value) ++ (hv k1 n1 c1 l1 e1 t1 ++ hv k0 n0 c0 l0 e0 t0z))] rfl rfl HO.out RW.out (by intro u hu;simp only [List.flatten_cons,List.flatten_nil,List.append_nil] at hu;exact sp_one _ _ _ _ _ _ _ _ _ _ _ _ _ _ u hu) (by have:=EL.out;simp;omega) (by have:=EL.out;simp;omega) (by simp) ?_;intro v9 w45 O9 G9;have HO2:=hdH (O9);have G8:=hdH (G9);have BP:Hid (Below w7.heap.size w44 w45):=push_below G9 HO.out (Nat.le_of_lt LZ.out) (Nat.le_of_lt (range_lt HT.out.1 (Nat.succ_pos _)));have HT:=hdH (HT.out.heap (push_heap G9 HO.out LZ.out (range_lt HT.out.1 (Nat.succ_pos _))));clear O9 G9;clear hb0_0 hb0_1 hb0_2 hb0_3 hb0_4 hb0_5 hb1_0 ht_1 ht_9 hh_0 hh_1;have ht_9:=HT.out.cell 9 _ rfl;have w44s:(1 :Nat)=1:=rfl;clear t8;have t9:=tR)
       |(have q7:=t7;refine one_lawT _ rfl _ 65 80 rfl (([.int .i64 bl,.int .i64 ((k+1 :Nat):Int)]:List Value) ++ (hv k1 n1 c1 l1 e1 t1 ++ hv k0 n0 c0 l0 e0 t0z)) rfl (fun w=>build_sp _ _ _ _ _ _ _ _ _ _ _ _ _ _ w) ?_;intro w44 R9 B9;have HB0:=hdH (HB0.out.below B9 (range_lt HB0.out.1 (Nat.succ_pos _)));have HB1:=hdH (HB1.out.below B9 (range_lt HB1.out.1 (Nat.succ_pos _)));have HT:=hdH (HT.out.below B9 (range_lt HT.out.1 (Nat.succ_pos _)));have HO:=hdH (HO.out.low B9);have HH:=hdH (HH.out.below B9 (range_lt HH.out.1 (Nat.succ_pos _)));have RW:=hdH (R9);have BB:=hdH (BB.out.trans (B9.mono BB.out.size));clear hb0_0 hb0_1 hb0_2 hb0_3 hb0_4 hb0_5 hb1_0 ht_1 ht_9 hh_0 hh_1;have hb0_0:=HB0.out.cell 0 _ rfl;have hb0_1:=HB0.out.cell 1 _ rfl;have hb0_2:=HB0.out.cell 2 _ rfl;have hb0_3:=HB0.out.cell 3 _ rfl;have hb0_4:=HB0.out.cell 4 _ rfl;have hb0_5:=HB0.out.cell 5 _ rfl;have hb1_0:=HB1.out.cell 0 _ rfl;have ht_1:=HT.out.cell 1 _ rfl;have ht_9:=HT.out.cell 9 _ rfl;have hh_0:=HH.out.cell 0 _ rfl;have hh_1:=HH.out.cell 1 _ rfl;clear B9 R9;clear t7;have t8:=tR)
       |(have q6:=t6;refine build_law _ rfl 80 _ rfl (.agg (([.int .i64 bl,.int .i64 ((k+1 :Nat):Int)]:List Value) ++ (hv k1 n1 c1 l1 e1 t1 ++ hv k0 n0 c0 l0 e0 t0z)).toArray) (by kernel_rfl) ?_;clear t6;have t7:=tR)
       |(have q5:=t5;refine load_lawC _ rfl (hv k0 n0 c0 l0 e0 t0z) w7.heap.size 3 rfl (tdz_ord HT.out.1) rowy_head ?_;clear t5;have t6:=tR)
       |(have q4:=t4;refine load_lawC _ rfl (hv k1 n1 c1 l1 e1 t1) w41.heap.size 0 rfl HH.out.1 rowy_head ?_;clear t4;have t5:=tR)
       |(have q3:=t3;go_at_call 42;refine (SP.out _).mono ?_;rintro e9 w9 ⟨rfl,hw⟩;obtain rfl:=hw.symm;clear t3;have t4:=tR)
       |(have q2:=t2;(with_reducible refine at_store ?_);refine store_lawC _ (hv k1 n1 c1 l1 e1 t1) w41.heap.size 0 rfl rfl HN.out.2 rowy_head.2 (hv_one _ _ _ _ _ _) ?_;intro w43 E9 R9 T9 B9;have B9:Below w41.heap.size w41 w43:=BA.out.trans B9;have HB0:=hdH (HB0.out.below B9 (range_lt HB0.out.1 (Nat.succ_pos _)));have HB1:=hdH (HB1.out.below B9 (range_lt HB1.out.1 (Nat.succ_pos _)));have HT:=hdH (HT.out.below B9 (range_lt HT.out.1 (Nat.succ_pos _)));have HO:=hdH (HO.out.low B9);have HH:Hid (Vr w43 w41.heap.size (hv k1 n1 c1 l1 e1 t1)):=⟨R9,T9⟩;have BB:=hdH (BB.out.trans (B9.mono BB.out.size));clear hb0_0 hb0_1 hb0_2 hb0_3 hb0_4 hb0_5 hb1_0 ht_1 ht_9;have hb0_0:=HB0.out.cell 0 _ rfl;have hb0_1:=HB0.out.cell 1 _ rfl;have hb0_2:=HB0.out.cell 2 _ rfl;have hb0_3:=HB0.out.cell 3 _ rfl;have hb0_4:=HB0.out.cell 4 _ rfl;have hb0_5:=HB0.out.cell 5 _ rfl;have hb1_0:=HB1.out.cell 0 _ rfl;have ht_1:=HT.out.cell 1 _ rfl;have ht_9:=HT.out.cell 9 _ rfl;have hh_0:=HH.out.cell 0 _ rfl;have hh_1:=HH.out.cell 1 _ rfl;clear E9 R9 T9 B9 HN BA;clear t2;have t3:=tR)
       |(have q1:=t1;(with_reducible refine at_alloc ?_);refine new_lawC _ (hv 0 0 0 0 0 0) zero_head ?_;intro w42 X9 B9 l9;have HN:=hdH (X9);have BA:=hdH (B9);clear X9 B9 l9;clear t1;have t2:=tR)
       |(have q0:=t0;go_at_call 40;refine (SC1.out wr _ _ (BW.out.trans (BB.out.mono BW.out.size)) HB0.out HB1.out).mono ?_;rintro e9 w41 ⟨rfl,B9⟩;have HB0:=hdH (HB0.out.below B9 (range_lt HB0.out.1 (Nat.succ_pos _)));have HB1:=hdH (HB1.out.below B9 (range_lt HB1.out.1 (Nat.succ_pos _)));have HT:=hdH (HT.out.below B9 (range_lt HT.out.1 (Nat.succ_pos _)));have HO:=hdH (HO.out.low B9);have BB:=hdH (B9);clear hb0_0 hb0_1 hb0_2 hb0_3 hb0_4 hb0_5 hb1_0 ht_1 ht_9;have hb0_0:=HB0.out.cell 0 _ rfl;have hb0_1:=HB0.out.cell 1 _ rfl;have hb0_2:=HB0.out.cell 2 _ rfl;have hb0_3:=HB0.out.cell 3 _ rfl;have hb0_4:=HB0.out.cell 4 _ rfl;have hb0_5:=HB0.out.cell 5 _ rfl;have hb1_0:=HB1.out.cell 0 _ rfl;have ht_1:=HT.out.cell 1 _ rfl;have ht_9:=HT.out.cell 9 _ rfl;clear B9;clear t0;have t1:=tR))
      go_roundw
      case rel=>exact ⟨k+1,v9,by omega,by go_num,by rw [ES.out];exact HO2.out,HT.out,BX.out.trans ((BB.out.mono (Nat.le_of_lt LW.out)).trans (BP.out.trans BQ.out))⟩
      case measure=>simp [intOf];omega
     ·have ES:=hdH (SM.out (by rw [SPQ.out,hs,decide_eq_false hn1];rfl))
      rw [hs] at SP
      have q1:(n1 == n0)=false:=beq_eq_false_iff_ne.2 hn1
      generalize sps S bl f k=E at HO HT EL SN SM ES
      generalize sn':E.length=sn at HO HT EL
      clear HQ1 SN SM HA HR HX0 hd sn' SPQ SX hs hn1
      have hb0_0:=HB0.out.cell 0 _ rfl
      have hb0_1:=HB0.out.cell 1 _ rfl
      have hb0_2:=HB0.out.cell 2 _ rfl
      have hb0_3:=HB0.out.cell 3 _ rfl
      have hb0_4:=HB0.out.cell 4 _ rfl
      have hb0_5:=HB0.out.cell 5 _ rfl
      have hb1_0:=HB1.out.cell 0 _ rfl
      have ht_1:=HT.out.cell 1 _ rfl
      have ht_9:=HT.out.cell 9 _ rfl
      have t0:=tR
      go_wp2_with (first
       |(have q3:=t3;go_at_call 42;refine (SP.out _).mono ?_;rintro e9 w9 ⟨rfl,hw⟩;obtain rfl:=hw.symm;clear t3;have t4:=tR)
       |(have q2:=t2;(with_reducible refine at_store ?_);refine store_lawC _ (hv k1 n1 c1 l1 e1 t1) w41.heap.size 0 rfl rfl HN.out.2 rowy_head.2 (hv_one _ _ _ _ _ _) ?_;intro w43 E9 R9 T9 B9;have B9:Below w41.heap.size w41 w43:=BA.out.trans B9;have HB0:=hdH (HB0.out.below B9 (range_lt HB0.out.1 (Nat.succ_pos _)));have HB1:=hdH (HB1.out.below B9 (range_lt HB1.out.1 (Nat.succ_pos _)));have HT:=hdH (HT.out.below B9 (range_lt HT.out.1 (Nat.succ_pos _)));have HO:=hdH (HO.out.low B9);have HH:Hid (Vr w43 w41.heap.size (hv k1 n1 c1 l1 e1 t1)):=⟨R9,T9⟩;have BB:=hdH (BB.out.trans (B9.mono BB.out.size));clear hb0_0 hb0_1 hb0_2 hb0_3 hb0_4 hb0_5 hb1_0 ht_1 ht_9;have hb0_0:=HB0.out.cell 0 _ rfl;have hb0_1:=HB0.out.cell 1 _ rfl;have hb0_2:=HB0.out.cell 2 _ rfl;have hb0_3:=HB0.out.cell 3 _ rfl;have hb0_4:=HB0.out.cell 4 _ rfl;have hb0_5:=HB0.out.cell 5 _ rfl;have hb1_0:=HB1.out.cell 0 _ rfl;have ht_1:=HT.out.cell 1 _ rfl;have ht_9:=HT.out.cell 9 _ rfl;have hh_0:=HH.out.cell 0 _ rfl;have hh_1:=HH.out.cell 1 _ rfl;clear E9 R9 T9 B9 HN BA;clear t2;have t3:=tR)
       |(have q1:=t1;(with_reducible refine at_alloc ?_);refine new_lawC _ (hv 0 0 0 0 0 0) zero_head ?_;intro w42 X9 B9 l9;have HN:=hdH (X9);have BA:=hdH (B9);clear X9 B9 l9;clear t1;have t2:=tR)
       |(have q0:=t0;go_at_call 40;refine (SC1.out wr _ _ (BW.out.trans (BB.out.mono BW.out.size)) HB0.out HB1.out).mono ?_;rintro e9 w41 ⟨rfl,B9⟩;have HB0:=hdH (HB0.out.below B9 (range_lt HB0.out.1 (Nat.succ_pos _)));have HB1:=hdH (HB1.out.below B9 (range_lt HB1.out.1 (Nat.succ_pos _)));have HT:=hdH (HT.out.below B9 (range_lt HT.out.1 (Nat.succ_pos _)));have HO:=hdH (HO.out.low B9);have BB:=hdH (B9);clear hb0_0 hb0_1 hb0_2 hb0_3 hb0_4 hb0_5 hb1_0 ht_1 ht_9;have hb0_0:=HB0.out.cell 0 _ rfl;have hb0_1:=HB0.out.cell 1 _ rfl;have hb0_2:=HB0.out.cell 2 _ rfl;have hb0_3:=HB0.out.cell 3 _ rfl;have hb0_4:=HB0.out.cell 4 _ rfl;have hb0_5:=HB0.out.cell 5 _ rfl;have hb1_0:=HB1.out.cell 0 _ rfl;have ht_1:=HT.out.cell 1 _ rfl;have ht_9:=HT.out.cell 9 _ rfl;clear B9;clear t0;have t1:=tR))
      go_roundw
      case rel=>exact ⟨k+1,_,by omega,by go_num,by rw [ES.out];exact HO.out,HT.out,BX.out.trans (BB.out.mono (Nat.le_of_lt LW.out))⟩
      case measure=>simp [intOf];omega
  ·have ek:k+1=P:=by omega
   have nk:¬((k+1 :Nat):Int)<(P:Int):=by omega
   have PK:Hid (P-1=k):=(by show _=_;omega)
   have RZ:=hdH HO.out.rws
   have L6:=hdH (LE_HV6.out)
   have hb0_0:=HB0.out.cell 0 _ rfl
   have hb0_1:=HB0.out.cell 1 _ rfl
   have hb0_2:=HB0.out.cell 2 _ rfl
   have hb0_3:=HB0.out.cell 3 _ rfl
   have hb0_4:=HB0.out.cell 4 _ rfl
   have hb0_5:=HB0.out.cell 5 _ rfl
   have hb1_0:=HB1.out.cell 0 _ rfl
   have ht_1:=HT.out.cell 1 _ rfl
   have ht_9:=HT.out.cell 9 _ rfl
   have t0:=tR
   go_wp2_with (first
    |(have q1:=t1;(with_reducible refine at_store ?_);refine store_lawC _ (tdz k0 n0 c0 l0 e0 t0z (.slice so (sps S bl f k).length sc)) w2.heap.size 0 rfl rfl HV6.out.2 rowy_told.2 (tdz_one _ _ _ _ _ _ rfl) ?_;intro w50 E9 R9 T9 B9;have HF:Hid (Vr w50 w2.heap.size (tdz k0 n0 c0 l0 e0 t0z (.slice so (sps S bl f k).length sc))):=⟨R9,T9⟩;have BF:=hdH (BW.out.trans (B9.mono L6.out));have RZ:Hid (na.Rws w50 (.slice so (sps S bl f k).length sc) 14 (sps S bl f k)):=(owr_grown HO.out (by rw [E9.out];exact grown_cells _ _ _ _) (Nat.lt_trans LT_HV6_HT.out LZ.out)).rws;clear E9 R9 T9 B9 t1;have t2:=tR)
    |(have q0:=t0;refine load_lawC _ rfl (tdz k0 n0 c0 l0 e0 t0z (.slice so (sps S bl f k).length sc)) w7.heap.size 0 rfl HT.out.1 rowy_told ?_;clear t0;have t1:=tR))
   exact bodyPost_ret (v:=.agg (tdz k0 n0 c0 l0 e0 t0z (.slice so (sps S bl f k).length sc)).toArray) (results_c rfl _ _ w2.heap.size _ rowy_told rfl HF.out.1) rfl ⟨⟨_,rfl,by rw [PK.out];exact RZ.out⟩,BF.out⟩
end Go.Proofs.YtmbgokmomkmgcaaGreatDoor.sc
