/- Parts of the proof: what ScanBlocks reaches. No claim of its own. -/
import Derived.Lib.MakeNoZero
import Derived.Deep.DeepCutAuto
import Derived.Deep.RegionHeld3
import Derived.Laws.AppendOwnNone
import Derived.Lib.AppendZeros
import Derived.Lib.SliceRun
import Derived.Laws.StructEq
import Derived.ArgAppend
import Derived.WalkKit
import Derived.WalkSmall
import Derived.ProofKit
import Derived.OpenShut
import Derived.BigQuiet
import Derived.Deep.QuietTactic
import Derived.Deep.WholeRow
import Derived.Deep.MidRow
import Derived.Deep.DeepHandedRow
import Derived.Lib.LaidTab
import Derived.Deep.Matrix
import Derived.OwnWalk
import Derived.Deep.RegionWith
import Derived.Test.YtmbgokmomkmgcaaGreatDoorK00
import Derived.Test.YtmbgokmomkmgcaaGreatDoorK01
import Derived.Test.YtmbgokmomkmgcaaGreatDoorK02
import Derived.Test.YtmbgokmomkmgcaaGreatDoorK03
import Derived.Test.YtmbgokmomkmgcaaGreatDoorK04
import Derived.Test.YtmbgokmomkmgcaaGreatDoorK05
import Derived.Test.YtmbgokmomkmgcaaGreatDoorK06
import Derived.Test.YtmbgokmomkmgcaaGreatDoorK07
import Derived.Test.YtmbgokmomkmgcaaGreatDoorK08
import Derived.Test.YtmbgokmomkmgcaaGreatDoorK09
import Derived.Test.YtmbgokmomkmgcaaGreatDoorK10
import Derived.Test.YtmbgokmomkmgcaaGreatDoorK11
import Derived.Test.YtmbgokmomkmgcaaGreatDoorK12
import Derived.Test.YtmbgokmomkmgcaaGreatDoorK13
import Derived.Test.YtmbgokmomkmgcaaGreatDoorK14
import Derived.Test.YtmbgokmomkmgcaaGreatDoorK15
import Derived.Test.YtmbgokmomkmgcaaGreatDoorK16
import Derived.Test.YtmbgokmomkmgcaaGreatDoorK17
import Derived.Test.YtmbgokmomkmgcaaGreatDoorK18
import Derived.Test.YtmbgokmomkmgcaaGreatDoorK19
import Derived.Test.YtmbgokmomkmgcaaGreatDoorK20
import Derived.Test.YtmbgokmomkmgcaaGreatDoorK21
import Derived.Test.YtmbgokmomkmgcaaGreatDoorK22
import Derived.Test.YtmbgokmomkmgcaaGreatDoorK23
import Derived.Test.YtmbgokmomkmgcaaGreatDoorK24
import Derived.Test.YtmbgokmomkmgcaaGreatDoorK25
import Derived.Test.YtmbgokmomkmgcaaGreatDoorK26
import Derived.Test.YtmbgokmomkmgcaaGreatDoorK27
import Derived.Test.YtmbgokmomkmgcaaGreatDoorK28
import Derived.Test.YtmbgokmomkmgcaaGreatDoorK29
import Derived.Test.YtmbgokmomkmgcaaGreatDoorK30
import Derived.Test.YtmbgokmomkmgcaaGreatDoorK31
import Derived.Test.YtmbgokmomkmgcaaGreatDoorK32
import Derived.Test.YtmbgokmomkmgcaaGreatDoorK33
set_option maxHeartbeats 8000000
namespace Go.Proofs.YtmbgokmomkmgcaaGreatDoor.sc
open Go.RowKit Go.Proofs.YtmbgokmomkmgcaaGreatDoor.fa Go.Proofs.YtmbgokmomkmgcaaGreatDoor.he Go.Proofs.YtmbgokmomkmgcaaGreatDoor.pa
set_option maxRecDepth 20000
def Lc (g0 g1 g2 g3 g4 g5:Int) (n:Nat) (z:Nat→Int) (vm:Nat→Nat):Prop:=ge.Rt [g0,g1,g2,g3,g4,g5]∧g0≤12∧g1≤20∧g2≤128∧n≤40∧∀ i,i<4→z i≤60∧vm i≤200
def LightR (c:Prop) (e:Ending):Prop:=(e=.returned (.bool false)∧¬c)∨(e=.returned (.bool true)∧c)
theorem light_fal {c:Prop} {e:Ending} (h:e=.returned (.bool false)) (h1:¬c):LightR c e:=.inl ⟨h,h1⟩
theorem light_tru {c:Prop} {e:Ending} (h:e=.returned (.bool true)) (h1:c):LightR c e:=.inr ⟨h,h1⟩
theorem slots_more {k:Nat} {z:Nat→Int} {vm:Nat→Nat} (h:∀ i,i<k→z i≤60∧vm i≤200) (h0:z k≤60) (h1:(vm k:Int)≤200):∀ i,i<k+1→z i≤60∧vm i≤200:=fun i hi=>by
 by_cases e:i=k
 ·subst e;exact ⟨h0,by omega⟩
 ·exact h i (by omega)
theorem light_no (g0 g1 g2 g3 g4 g5:Int) (ao:Option Addr) (n cap:Nat) (u:Nat→Bool) (z e t:Nat→Int) (va:Nat→Option Addr) (vm vc:Nat→Nat) (bad:Int) (w:World) (hr:¬ge.Rt [g0,g1,g2,g3,g4,g5]):Calls Tryz.prog 6 #[.agg (csz g0 g1 g2 g3 g4 g5 (.slice ao n cap) u z e t (fun i=>.slice (va i) (vm i) (vc i)) bad).toArray] w fun x w'=>LightR (Lc g0 g1 g2 g3 g4 g5 n z vm) x∧Below w.heap.size w w':=by
 have SG:Hid (∀ w0,Calls Tryz.prog 17 #[.agg (ints .i64 [g0,g1,g2,g3,g4,g5])] w0 fun x w'=>x=.returned (.bool false)∧Below w0.heap.size w0 w'):=ge.right_no [g0,g1,g2,g3,g4,g5] rfl hr
 have NR:Hid (¬Lc g0 g1 g2 g3 g4 g5 n z vm):=fun q=>hr q.1
 clear hr
 have t0:=tR
 go_enter Tryz.func6,Tryz.ntmps6
 go_wp2_with (first
  |(have q2:=t2;go_at_call 17;refine (SG.out _).mono ?_;rintro e9 w2 ⟨rfl,B9⟩;have HV:=hdH (HV.out.below B9 (range_lt HV.out.1 (Nat.succ_pos _)));have BB:=hdH (BB.out.trans (B9.mono BB.out.size));have c1_0:=HV.out.cell 0 _ rfl;have c1_1:=HV.out.cell 1 _ rfl;have c1_2:=HV.out.cell 2 _ rfl;have c1_6:=HV.out.cell 6 _ rfl;clear B9 t2)
  |(have q1:=t1;refine load_lawC _ rfl [.int .i64 g0,.int .i64 g1,.int .i64 g2,.int .i64 g3,.int .i64 g4,.int .i64 g5] w.heap.size 0 rfl (csz_geo HV.out) rowy_geo6 ?_;clear t1;have t2:=tR)
  |(have q0:=t0;refine box_lawC _ (csz g0 g1 g2 g3 g4 g5 (.slice ao n cap) u z e t (fun i=>.slice (va i) (vm i) (vc i)) bad) rfl ?_;intro w1 X9 B9 l9;have HV:=hdH (X9);have BB:=hdH (B9);clear X9 B9 l9 t0;have t1:=tR))
 go_ret
 exact ⟨light_fal rfl NR.out,BB.out⟩
theorem light_rt (g0 g1 g2 g3 g4 g5:Int) (ao:Option Addr) (n cap:Nat) (u:Nat→Bool) (z e t:Nat→Int) (va:Nat→Option Addr) (vm vc:Nat→Nat) (bad:Int) (w:World) (hr:ge.Rt [g0,g1,g2,g3,g4,g5]):Calls Tryz.prog 6 #[.agg (csz g0 g1 g2 g3 g4 g5 (.slice ao n cap) u z e t (fun i=>.slice (va i) (vm i) (vc i)) bad).toArray] w fun x w'=>LightR (Lc g0 g1 g2 g3 g4 g5 n z vm) x∧Below w.heap.size w w':=by
 have SG:Hid (∀ w0,Calls Tryz.prog 17 #[.agg (ints .i64 [g0,g1,g2,g3,g4,g5])] w0 fun x w'=>x=.returned (.bool true)∧Below w0.heap.size w0 w'):=ge.right_yes [g0,g1,g2,g3,g4,g5] rfl hr
 have RT:=hdH (hr)
 clear hr
 have t0:=tR
 have hc:g0>12∨(g0≤12∧g1>20)∨(g0≤12∧g1≤20∧g2>128)∨(g0≤12∧g1≤20∧g2≤128∧(n:Int)>40)∨(g0≤12∧g1≤20∧g2≤128∧(n:Int)≤40):=by omega
 go_enter Tryz.func6,Tryz.ntmps6
 rcases hc with h0 | ⟨h0,h1⟩ | ⟨h0,h1,h2⟩ | ⟨h0,h1,h2,h3⟩ | ⟨h0,h1,h2,h3⟩
 iterate 4
  ·go_wp2_with (first
   |(have q2:=t2;go_at_call 17;refine (SG.out _).mono ?_;rintro e9 w2 ⟨rfl,B9⟩;have HV:=hdH (HV.out.below B9 (range_lt HV.out.1 (Nat.succ_pos _)));have BB:=hdH (BB.out.trans (B9.mono BB.out.size));have c1_0:=HV.out.cell 0 _ rfl;have c1_1:=HV.out.cell 1 _ rfl;have c1_2:=HV.out.cell 2 _ rfl;have c1_6:=HV.out.cell 6 _ rfl;clear B9 t2)
   |(have q1:=t1;refine load_lawC _ rfl [.int .i64 g0,.int .i64 g1,.int .i64 g2,.int .i64 g3,.int .i64 g4,.int .i64 g5] w.heap.size 0 rfl (csz_geo HV.out) rowy_geo6 ?_;clear t1;have t2:=tR)
   |(have q0:=t0;refine box_lawC _ (csz g0 g1 g2 g3 g4 g5 (.slice ao n cap) u z e t (fun i=>.slice (va i) (vm i) (vc i)) bad) rfl ?_;intro w1 X9 B9 l9;have HV:=hdH (X9);have BB:=hdH (B9);clear X9 B9 l9 t0;have t1:=tR))
   go_ret
   exact ⟨light_fal rfl (fun q=>by obtain ⟨-,y0,y1,y2,y3, -⟩:=q;omega),BB.out⟩
 have NL:Hid (g0≤12∧g1≤20∧g2≤128∧n≤40):=⟨h0,h1,h2,by omega⟩
 go_wp2_with (first
  |(have q2:=t2;go_at_call 17;refine (SG.out _).mono ?_;rintro e9 w2 ⟨rfl,B9⟩;have HV:=hdH (HV.out.below B9 (range_lt HV.out.1 (Nat.succ_pos _)));have BB:=hdH (BB.out.trans (B9.mono BB.out.size));have c1_0:=HV.out.cell 0 _ rfl;have c1_1:=HV.out.cell 1 _ rfl;have c1_2:=HV.out.cell 2 _ rfl;have c1_6:=HV.out.cell 6 _ rfl;clear B9 t2)
  |(have q1:=t1;refine load_lawC _ rfl [.int .i64 g0,.int .i64 g1,.int .i64 g2,.int .i64 g3,.int .i64 g4,.int .i64 g5] w.heap.size 0 rfl (csz_geo HV.out) rowy_geo6 ?_;clear t1;have t2:=tR)
  |(have q0:=t0;refine box_lawC _ (csz g0 g1 g2 g3 g4 g5 (.slice ao n cap) u z e t (fun i=>.slice (va i) (vm i) (vc i)) bad) rfl ?_;intro w1 X9 B9 l9;have HV:=hdH (X9);have BB:=hdH (B9);clear X9 B9 l9 t0;have t1:=tR))
 clear c1_0 c1_1 c1_2 c1_6
 go_loopw [3] (fun i wr=>∃ k:Nat,k≤4∧i=.int .i64 (k:Int)∧(∀ i,i<k→z i≤60∧vm i≤200)∧wr=w2) (fun i _=>4-(intOf i).toNat)
 case atStart=>exact ⟨0,by omega,rfl,fun i hi=>absurd hi (Nat.not_lt_zero i),rfl⟩
 case round=>
  obtain ⟨k,hk,rfl,hs,hw⟩:=hrel
  obtain rfl:=hw.symm
  have HS:=hdH (hs)
  clear hs
  clear h0 h1 h2 h3
  rcases (show k=0∨k=1∨k=2∨k=3∨¬k<4 by omega) with rfl | rfl | rfl | rfl | h4
  ·have c1_a:=HV.out.cell 8 _ rfl
   have c1_b:=HV.out.cell 11 _ rfl
   have hc:z 0>60∨(z 0≤60∧(vm 0 :Int)>200)∨(z 0≤60∧(vm 0 :Int)≤200):=by omega
   rcases hc with h0 | ⟨h0,h1⟩ | ⟨h0,h1⟩
   ·go_wp2
    go_ret
    exact ⟨light_fal rfl (fun q=>by have y:=q.2.2.2.2.2 0 (by omega);omega),BB.out⟩
   ·go_wp2
    go_ret
    exact ⟨light_fal rfl (fun q=>by have y:=q.2.2.2.2.2 0 (by omega);omega),BB.out⟩
   ·go_wp2
    go_roundw
    case rel=>exact ⟨1,by omega,by go_num,slots_more HS.out h0 h1,trivial⟩
    case measure=>simp [intOf]
  ·have c1_a:=HV.out.cell 13 _ rfl
   have c1_b:=HV.out.cell 16 _ rfl
   have hc:z 1>60∨(z 1≤60∧(vm 1 :Int)>200)∨(z 1≤60∧(vm 1 :Int)≤200):=by omega
   rcases hc with h0 | ⟨h0,h1⟩ | ⟨h0,h1⟩
   ·go_wp2
    go_ret
    exact ⟨light_fal rfl (fun q=>by have y:=q.2.2.2.2.2 1 (by omega);omega),BB.out⟩
   ·go_wp2
    go_ret
    exact ⟨light_fal rfl (fun q=>by have y:=q.2.2.2.2.2 1 (by omega);omega),BB.out⟩
   ·go_wp2
    go_roundw
    case rel=>exact ⟨2,by omega,by go_num,slots_more HS.out h0 h1,trivial⟩
    case measure=>simp [intOf]
  ·have c1_a:=HV.out.cell 18 _ rfl
   have c1_b:=HV.out.cell 21 _ rfl
   have hc:z 2>60∨(z 2≤60∧(vm 2 :Int)>200)∨(z 2≤60∧(vm 2 :Int)≤200):=by omega
   rcases hc with h0 | ⟨h0,h1⟩ | ⟨h0,h1⟩
   ·go_wp2
    go_ret
    exact ⟨light_fal rfl (fun q=>by have y:=q.2.2.2.2.2 2 (by omega);omega),BB.out⟩
   ·go_wp2
    go_ret
    exact ⟨light_fal rfl (fun q=>by have y:=q.2.2.2.2.2 2 (by omega);omega),BB.out⟩
   ·go_wp2
    go_roundw
    case rel=>exact ⟨3,by omega,by go_num,slots_more HS.out h0 h1,trivial⟩
    case measure=>simp [intOf]
  ·have c1_a:=HV.out.cell 23 _ rfl
   have c1_b:=HV.out.cell 26 _ rfl
   have hc:z 3>60∨(z 3≤60∧(vm 3 :Int)>200)∨(z 3≤60∧(vm 3 :Int)≤200):=by omega
   rcases hc with h0 | ⟨h0,h1⟩ | ⟨h0,h1⟩
   ·go_wp2
    go_ret
    exact ⟨light_fal rfl (fun q=>by have y:=q.2.2.2.2.2 3 (by omega);omega),BB.out⟩
   ·go_wp2
    go_ret
    exact ⟨light_fal rfl (fun q=>by have y:=q.2.2.2.2.2 3 (by omega);omega),BB.out⟩
   ·go_wp2
    go_roundw
    case rel=>exact ⟨4,by omega,by go_num,slots_more HS.out h0 h1,trivial⟩
    case measure=>simp [intOf]
  ·have h5:¬(k:Int)<4:=by omega
   go_wp2
   go_ret
   exact ⟨light_tru rfl ⟨RT.out,NL.out.1,NL.out.2.1,NL.out.2.2.1,NL.out.2.2.2,fun i hi=>HS.out i (by omega)⟩,BB.out⟩
theorem light_any (g0 g1 g2 g3 g4 g5:Int) (ao:Option Addr) (n cap:Nat) (u:Nat→Bool) (z e t:Nat→Int) (va:Nat→Option Addr) (vm vc:Nat→Nat) (bad:Int) (w:World):Calls Tryz.prog 6 #[.agg (csz g0 g1 g2 g3 g4 g5 (.slice ao n cap) u z e t (fun i=>.slice (va i) (vm i) (vc i)) bad).toArray] w fun x w'=>LightR (Lc g0 g1 g2 g3 g4 g5 n z vm) x∧Below w.heap.size w w':=by
 by_cases h:ge.Rt [g0,g1,g2,g3,g4,g5]
 ·exact light_rt g0 g1 g2 g3 g4 g5 ao n cap u z e t va vm vc bad w h
 ·exact light_no g0 g1 g2 g3 g4 g5 ao n cap u z e t va vm vc bad w h
theorem light_f (g0 g1 g2 g3 g4 g5:Int) (ao:Option Addr) (n cap:Nat) (u:Nat→Bool) (z e t:Nat→Int) (va:Nat→Option Addr) (vm vc:Nat→Nat) (bad:Int) (h:¬Lc g0 g1 g2 g3 g4 g5 n z vm) (w:World):Calls Tryz.prog 6 #[.agg (csz g0 g1 g2 g3 g4 g5 (.slice ao n cap) u z e t (fun i=>.slice (va i) (vm i) (vc i)) bad).toArray] w fun x w'=>x=.returned (.bool false)∧Below w.heap.size w w':=(light_any g0 g1 g2 g3 g4 g5 ao n cap u z e t va vm vc bad w).mono fun x w' q=>⟨by rcases q.1 with ⟨h1,h2⟩ | ⟨h1,h2⟩;all_goals first | exact h1 | exact absurd h2 h | exact absurd h h2,q.2⟩
theorem light_t (g0 g1 g2 g3 g4 g5:Int) (ao:Option Addr) (n cap:Nat) (u:Nat→Bool) (z e t:Nat→Int) (va:Nat→Option Addr) (vm vc:Nat→Nat) (bad:Int) (h:Lc g0 g1 g2 g3 g4 g5 n z vm) (w:World):Calls Tryz.prog 6 #[.agg (csz g0 g1 g2 g3 g4 g5 (.slice ao n cap) u z e t (fun i=>.slice (va i) (vm i) (vc i)) bad).toArray] w fun x w'=>x=.returned (.bool true)∧Below w.heap.size w w':=(light_any g0 g1 g2 g3 g4 g5 ao n cap u z e t va vm vc bad w).mono fun x w' q=>⟨by rcases q.1 with ⟨h1,h2⟩ | ⟨h1,h2⟩;all_goals first | exact h1 | exact absurd h2 h | exact absurd h h2,q.2⟩
end Go.Proofs.YtmbgokmomkmgcaaGreatDoor.sc
namespace Go.Proofs.YtmbgokmomkmgcaaGreatDoor.sc
open Go.RowKit Go.Proofs.YtmbgokmomkmgcaaGreatDoor.fa Go.Proofs.YtmbgokmomkmgcaaGreatDoor.he Go.Proofs.YtmbgokmomkmgcaaGreatDoor.pa
set_option maxRecDepth 20000
def Pq (w:World) (bb bo k pb po P gc S:Nat) (f:Nat→List Int):Prop:=w.cell? ⟨bb,bo+k*5,none⟩=some (.slice (some ⟨pb,po,none⟩) P gc)∧P≤gc∧∀ i,i<P→∃ z,w.cell? ⟨pb,po+i,none⟩=some z∧Byt w z (f i)∧(f i).length =S+88
theorem Pq.below {w w':World} {bb bo k pb po P gc S:Nat} {f:Nat→List Int} (h:Pq w bb bo k pb po P gc S f) (hb:Below w.heap.size w w'):Pq w' bb bo k pb po P gc S f:=
 ⟨(hb.cell (World.block_lt_of_cell? w _ h.1)).trans h.1,h.2.1,fun i hi=>by
  obtain ⟨z,a,b,c⟩:=h.2.2 i hi
  exact ⟨z,(hb.cell (World.block_lt_of_cell? w _ a)).trans a,b.below hb,c⟩⟩
theorem Pq.hA {w:World} {bb bo k pb po P gc S:Nat} {f:Nat→List Int} (h:Pq w bb bo k pb po P gc S f):∀ i,i<P→∃ z,(∀ w',Below w.heap.size w w'→w'.cell? ⟨pb,po+i,none⟩=some z)∧Byt w z (f i)∧(f i).length =S+88:=fun i hi=>by
 obtain ⟨z,a,b,c⟩:=h.2.2 i hi
 exact ⟨z,fun w' hb=>(hb.cell (World.block_lt_of_cell? w _ a)).trans a,b,c⟩
theorem chr_injS {g:List Int} {a b a' b':Value} {o o':Bool} {n n':Int} (h:Value.agg (na.chr g a b o n).toArray =.agg (na.chr g a' b' o' n').toArray):a=a':=by
 injection h with h
 have h:=List.toArray_inj h
 simp only [na.chr] at h
 have:=List.append_cancel_left h
 simp at this
 exact this.1
theorem pq_of {H:Ch} {M:Nat→Bool} {w w2:World} {s:na.St} {l:List na.Opn} {q:Qz} (h:Cs H M w2 s l) (hr:Rc H s q w) (k:Nat) (hk:k<H.N):∃ bb bo pb po gc,q.1=some ⟨bb,bo,none⟩∧Pq w bb bo k pb po H.P gc H.S (na.pgs s k):=by
 have hm:=h.num
 obtain ⟨-, -,z3, -⟩:=h
 obtain ⟨bv,pv,gv,uv,e,h1,h2, -⟩:=hr
 have e1:=chr_injS e
 subst e1
 obtain ⟨ao,cap,e2,a1,a2,a3,a4,a5⟩:=h1
 rw [na.bks_len] at e2 a4 a5
 injection e2 with e2 _ _
 obtain ⟨bb,bo,e3,hc⟩:=a5 (by omega)
 have hc:=hc k hk
 rw [na.bks_el _ _ _ _ _ _ _ hk] at hc
 obtain ⟨⟨xv,r1,r2⟩, -⟩:=h2 k hk
 obtain ⟨go,gc,e4,b1,b2,b3,b4,b5⟩:=r1
 rw [na.pgc_len] at e4 b1 b4 b5
 obtain ⟨pb,po,e5,hp⟩:=b5 (by omega)
 subst e5
 refine ⟨bb,bo,pb,po,gc,e2.trans e3,?_,b1,fun i hi=>?_⟩
 ·have z:=hc 0 _ rfl
  rw [e4] at z
  exact z
 ·have z:=hp i hi
  rw [na.pgc_el _ _ _ hi] at z
  have z:=z 0 _ rfl
  rw [Nat.mul_one] at z
  exact ⟨xv i,z,r2 i hi,((z3 k hk).1 i hi).1⟩
def tg (kn:Bool) (ns er k n c l e t:Int) (v:Value):List Value:=[.bool kn,.int .i64 ns,.int .i64 er,.int .i64 k,.int .i64 n,.int .i64 c,.int .u32 l,.int .u64 e,.int .u64 t,v]
def sp14 (b i k n c l e t k' n' c' l' e' t':Int):List Value:=[.int .i64 b,.int .i64 i,.int .i64 k,.int .i64 n,.int .i64 c,.int .u32 l,.int .u64 e,.int .u64 t,.int .i64 k',.int .i64 n',.int .i64 c',.int .u32 l',.int .u64 e',.int .u64 t']
def Is14 (cs:List Value):Prop:=∃ b i k n c l e t k' n' c' l' e' t',cs=sp14 b i k n c l e t k' n' c' l' e' t'
theorem tg_one (kn:Bool) (ns er k n c l e t:Int) (ao:Option Addr) (m q:Nat):∀ u ∈ tg kn ns er k n c l e t (.slice ao m q),u.oneCell'=true:=by
 intro u h
 simp [tg] at h
 rcases h with rfl | rfl | rfl | rfl | rfl | rfl | rfl | rfl | rfl | rfl <;> rfl
theorem tg_ord {w:World} {g:Nat} {kn:Bool} {ns er k n c l e t:Int} {v:Value} (h:w.rangeAt g 0 (tg kn ns er k n c l e t v)):w.rangeAt g 3 (hv k n c l e t):=fun j u hj=>by
 have hj6:j<6:=by simpa [hv] using (List.getElem?_eq_some_iff.1 hj).1
 have z:=h (3+j) u (by
  match j,hj with
  |0,hj=>exact hj
  |1,hj=>exact hj
  |2,hj=>exact hj
  |3,hj=>exact hj
  |4,hj=>exact hj
  |5,hj=>exact hj)
 rw [Nat.zero_add] at z
 exact z
theorem sps_is (S:Nat) (b:Int) (f:Nat→List Int):∀ k,∀ cs ∈ sps S b f k,Is14 cs
 |0,cs,h=>by simp [sps] at h
 |k+1,cs,h=>by
  unfold sps at h
  split at h
  ·rcases List.mem_append.1 h with z | z
   ·exact sps_is S b f k cs z
   ·rw [List.mem_singleton.1 z]
    exact ⟨_,_,_,_,_,_,_,_,_,_,_,_,_,_,rfl⟩
  ·exact sps_is S b f k cs h
theorem tlds_uni (S P:Nat) (bl:Int) (f:Nat→List Int):∃ (kn:Bool) (ns er k n c l e t:Int) (ls:List (List Value)),(∀ i,i<ls.length→Is14 (na.el ls i))∧ls.length≤P-1∧∀ x w',Tlds S P bl f x w'→∃ vo vc,x=.returned (.agg (tg kn ns er k n c l e t (.slice vo ls.length vc)).toArray)∧na.Rws w' (.slice vo ls.length vc) 14 ls:=by
 cases hK:Kn S (f 0) with
 |false=>
  refine ⟨false,0,0,0,0,0,0,0,0,[],fun i hi=>absurd hi (Nat.not_lt_zero i),Nat.zero_le _,fun x w' h=>?_⟩
  rcases h with ⟨-,h⟩ | ⟨h, -⟩
  ·exact ⟨none,0,h,na.Rws.nil w' 14⟩
  ·rw [hK] at h;cases h
 |true=>
  refine ⟨true,qn ((f 0).drop S),ql ((f 0).drop S),qk ((f 0).drop S),qn ((f 0).drop S),qc ((f 0).drop S),ql ((f 0).drop S),qe ((f 0).drop S),qt ((f 0).drop S),sps S bl f (P-1),fun i hi=>sps_is S bl f (P-1) _ ?_,sps_len S bl f (P-1),fun x w' h=>?_⟩
  ·unfold na.el
   simp only [List.getD,List.getElem?_eq_getElem hi,Option.getD_some]
   exact List.getElem_mem hi
  ·rcases h with ⟨h, -⟩ | ⟨-,v,h,r⟩
   ·rw [hK] at h;cases h
   ·obtain ⟨vo,vc,rfl⟩:=r.form
    exact ⟨vo,vc,h,r⟩
theorem und_spots:Tryz.prog.underlying 65=some (.slice (Tryz.prog.elem 65)):=by kernel_rfl
theorem elem_spots:Tryz.prog.elem 65=80:=by kernel_rfl
theorem size_spot (w:World):(sizeOf 80).run Tryz.prog w=.ok 14 w:=by kernel_rfl
theorem und_rspots:Tryz.prog.underlying 73=some (.slice (Tryz.prog.elem 73)):=by kernel_rfl
theorem elem_rspots:Tryz.prog.elem 73=81:=by kernel_rfl
theorem size_rspot (w:World):(sizeOf 81).run Tryz.prog w=.ok 14 w:=by kernel_rfl
theorem und_blksS:Tryz.prog.underlying 35=some (.slice (Tryz.prog.elem 35)):=by kernel_rfl
theorem elem_blksS:Tryz.prog.elem 35=72:=by kernel_rfl
theorem size_blkS (w:World):(sizeOf 72).run Tryz.prog w=.ok 5 w:=by kernel_rfl
theorem guard_rspot:Tryz.prog.eqGuardType Tryz.prog.depth 81=false:=by kernel_rfl
theorem neq_rspot (b i k n c l e t k' n' c' l' e' t':Int) (w:World):(binOp .neq 81 (.agg #[.int .i64 b,.int .i64 i,.int .i64 k,.int .i64 n,.int .i64 c,.int .u32 l,.int .u64 e,.int .u64 t,.int .i64 k',.int .i64 n',.int .i64 c',.int .u32 l',.int .u64 e',.int .u64 t']) (.agg #[.int .i64 b,.int .i64 i,.int .i64 k,.int .i64 n,.int .i64 c,.int .u32 l,.int .u64 e,.int .u64 t,.int .i64 k',.int .i64 n',.int .i64 c',.int .u32 l',.int .u64 e',.int .u64 t'])).run Tryz.prog w=.ok (.bool false) w:=by
 go_simp
section
variable {ev:Operand→Value} {o:Oper}
theorem exec_idxS (x y:Operand) (hop:o.op=Op.indexAddr 65 x y) (b off n cap i:Nat) (hx:ev x=.slice (some ⟨b,off,none⟩) n cap) (hy:ev y=.int .i64 (i:Int)) (hi:i<n) (w:World):(execOp ev o).run Tryz.prog w=.ok (.value (.pointer (some ⟨b,off+i*14,none⟩))) w:=by
 have hr:(Instr.indexAt 65 (.slice (some ⟨b,off,none⟩) n cap) (.int .i64 (i:Int))).run Tryz.prog w=.ok (.pointer (some ⟨b,off+i*14,none⟩)) w:=by
  rw [run_indexAt_slice _ _ _ _ _ _ _ und_spots,if_pos (by omega),elem_spots,size_spot]
  simp only [Result.andThen_ok,Int.toNat_natCast]
  rw [Addr.add_lit]
 unfold execOp
 simp only [hop,hx,hy,Sem.run_bind,Sem.run_pure,Result.andThen_ok,hr]
theorem exec_idxRS (x y:Operand) (hop:o.op=Op.indexAddr 73 x y) (b off n cap i:Nat) (hx:ev x=.slice (some ⟨b,off,none⟩) n cap) (hy:ev y=.int .i64 (i:Int)) (hi:i<n) (w:World):(execOp ev o).run Tryz.prog w=.ok (.value (.pointer (some ⟨b,off+i*14,none⟩))) w:=by
 have hr:(Instr.indexAt 73 (.slice (some ⟨b,off,none⟩) n cap) (.int .i64 (i:Int))).run Tryz.prog w=.ok (.pointer (some ⟨b,off+i*14,none⟩)) w:=by
  rw [run_indexAt_slice _ _ _ _ _ _ _ und_rspots,if_pos (by omega),elem_rspots,size_rspot]
  simp only [Result.andThen_ok,Int.toNat_natCast]
  rw [Addr.add_lit]
 unfold execOp
 simp only [hop,hx,hy,Sem.run_bind,Sem.run_pure,Result.andThen_ok,hr]
theorem exec_idxK (x y:Operand) (hop:o.op=Op.indexAddr 35 x y) (b off n cap i:Nat) (hx:ev x=.slice (some ⟨b,off,none⟩) n cap) (hy:ev y=.int .i64 (i:Int)) (hi:i<n) (w:World):(execOp ev o).run Tryz.prog w=.ok (.value (.pointer (some ⟨b,off+i*5,none⟩))) w:=by
 have hr:(Instr.indexAt 35 (.slice (some ⟨b,off,none⟩) n cap) (.int .i64 (i:Int))).run Tryz.prog w=.ok (.pointer (some ⟨b,off+i*5,none⟩)) w:=by
  rw [run_indexAt_slice _ _ _ _ _ _ _ und_blksS,if_pos (by omega),elem_blksS,size_blkS]
  simp only [Result.andThen_ok,Int.toNat_natCast]
  rw [Addr.add_lit]
 unfold execOp
 simp only [hop,hx,hy,Sem.run_bind,Sem.run_pure,Result.andThen_ok,hr]
theorem exec_neqS (x y:Operand) (hop:o.op=Op.binOp .neq 81 x y 81) (cs:List Value) (h:Is14 cs) (hx:ev x=.agg cs.toArray) (hy:ev y=.agg cs.toArray) (w:World):(execOp ev o).run Tryz.prog w=.ok (.value (.bool false)) w:=by
 obtain ⟨b,i,k,n,c,l,e,t,k',n',c',l',e',t',rfl⟩:=h
 have z:=neq_rspot b i k n c l e t k' n' c' l' e' t' w
 have hx':ev x=.agg #[.int .i64 b,.int .i64 i,.int .i64 k,.int .i64 n,.int .i64 c,.int .u32 l,.int .u64 e,.int .u64 t,.int .i64 k',.int .i64 n',.int .i64 c',.int .u32 l',.int .u64 e',.int .u64 t']:=hx
 have hy':ev y=.agg #[.int .i64 b,.int .i64 i,.int .i64 k,.int .i64 n,.int .i64 c,.int .u32 l,.int .u64 e,.int .u64 t,.int .i64 k',.int .i64 n',.int .i64 c',.int .u32 l',.int .u64 e',.int .u64 t']:=hy
 unfold execOp
 simp only [hop,hx',hy',Sem.run_bind,Sem.run_pure,run_eqGuard_agg w .neq 81 x y _ _ guard_rspot,Result.andThen_ok,z]
theorem guard_headS:Tryz.prog.eqGuardType Tryz.prog.depth 64=false:=by kernel_rfl
theorem neq_headS (k n c l e t:Int) (w:World):(binOp .neq 64 (.agg #[.int .i64 k,.int .i64 n,.int .i64 c,.int .u32 l,.int .u64 e,.int .u64 t]) (.agg #[.int .i64 k,.int .i64 n,.int .i64 c,.int .u32 l,.int .u64 e,.int .u64 t])).run Tryz.prog w=.ok (.bool false) w:=by
 go_simp
theorem exec_neqHS (x y:Operand) (hop:o.op=Op.binOp .neq 64 x y 64) (k n c l e t:Int) (hx:ev x=.agg (hv k n c l e t).toArray) (hy:ev y=.agg (hv k n c l e t).toArray) (w:World):(execOp ev o).run Tryz.prog w=.ok (.value (.bool false)) w:=by
 have z:=neq_headS k n c l e t w
 have hx':ev x=.agg #[.int .i64 k,.int .i64 n,.int .i64 c,.int .u32 l,.int .u64 e,.int .u64 t]:=hx
 have hy':ev y=.agg #[.int .i64 k,.int .i64 n,.int .i64 c,.int .u32 l,.int .u64 e,.int .u64 t]:=hy
 unfold execOp
 simp only [hop,hx',hy',Sem.run_bind,Sem.run_pure,run_eqGuard_agg w .neq 64 x y _ _ guard_headS,Result.andThen_ok,z]
theorem und_rowsS:Tryz.prog.underlying 69=some (.slice (Tryz.prog.elem 69)):=by kernel_rfl
def frmS (b off n cap l:Nat):Value:=.slice (if cap=l then some ⟨b,off,none⟩ else some ⟨b,off+l,none⟩) (n-l) (cap-l)
theorem exec_fromS (s x:Operand) (hop:o.op=Op.slice 69 s (some x) none none) (b off n cap l:Nat) (hs:ev s=.slice (some ⟨b,off,none⟩) n cap) (hx:ev x=.int .i64 (l:Int)) (hl:l≤n) (w:World):(execOp ev o).run Tryz.prog w=.ok (.value (frmS b off n cap l)) w:=by
 have hrun:=run_slice_l (P:=Tryz.prog) w 69 (some ⟨b,off,none⟩) n cap und_rowsS .i64 (l:Int) (by omega) (by omega)
 rw [elem_rows,run_size_rows] at hrun
 have e:sliced (some ⟨b,off,none⟩) l n cap 1=frmS b off n cap l:=by
  unfold sliced frmS
  rw [Nat.mul_one,show Option.map (fun x=>Addr.add x l) (some (⟨b,off,none⟩:Addr))=some ⟨b,off+l,none⟩ by simp [Addr.add]]
 simp [execOp,hop,hs,hx,run_sliceAt_slice w 69 _ _ _ _ und_rowsS,hrun,Result.andThen,e]
end
theorem block_nil (g0 g1 g2 g3 g4 g5 bl:Int) (w:World):Calls Tryz.prog 14 #[.agg (ints .i64 [g0,g1,g2,g3,g4,g5]),.int .i64 bl,.slice none 0 0] w fun x w'=>x=.returned (.agg Z10t.toArray)∧Below w.heap.size w w':=by
 by_cases hr:ge.Rt [g0,g1,g2,g3,g4,g5]
 ·refine block_few g0 g1 g2 g3 g4 g5 bl none 0 0 w hr ?_
  have:=hr.1.2.1
  have e:gb [g0,g1,g2,g3,g4,g5] 1=g1:=rfl
  omega
 ·exact block_geo g0 g1 g2 g3 g4 g5 bl none 0 0 w hr
theorem rowy_scase:Rowy 31 28:=⟨⟨_,Tryz.underlying31,rfl⟩,by kernel_rfl⟩
end Go.Proofs.YtmbgokmomkmgcaaGreatDoor.sc
