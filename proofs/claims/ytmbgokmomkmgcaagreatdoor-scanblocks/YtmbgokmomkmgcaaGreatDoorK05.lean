/- Parts of the proof: what ScanBlocks reaches. No claim of its own. -/
import Derived.WalkKit
import Derived.WalkSmall
import Derived.ProofKit
import Derived.OpenShut
import Derived.BigQuiet
import Derived.Deep.QuietTactic
import Derived.Deep.WholeRow
import Derived.Deep.MidRow
import Derived.Laws.StructEq
import Derived.Deep.RegionHeld3
import Derived.Test.YtmbgokmomkmgcaaGreatDoorK00
import Derived.Test.YtmbgokmomkmgcaaGreatDoorK02
set_option maxHeartbeats 8000000
namespace Go.Proofs.YtmbgokmomkmgcaaGreatDoor.ge
open Go.RowKit
set_option maxRecDepth 20000
theorem right_k0 (g:List Int) (hl:g.length=6) (k0:¬(7≤gb g 0∧gb g 0≤64)) (w:World):
  Calls Tryz.prog 17 #[.agg (ints .i64 g)] w fun x w'=>x=.returned (.bool false)∧Below w.heap.size w w':=by
 have I0:Hid (∀ w,Calls Tryz.prog 45 #[.int .i64 (gb g 0),.int .i64 7,.int .i64 64] w fun x w'=>x=.returned (.bool false)∧w'=w):=fun w=>in_no _ _ _ w k0
 have t0:=tR
 clear k0
 go_enter Tryz.func17,Tryz.ntmps17
 go_wp2_with (first
  |(have q1:=t1;go_at_call 45;refine (I0.out _).mono ?_;rintro e wx ⟨rfl,hw⟩;obtain rfl:=hw.symm;have t2:=tR;clear t1)
  |(have q0:=t0;refine box_lawF _ rfl (.tmp 0) 23 rfl .i64 g rfl ?_;intro w1 X1 B1 L1;have HX:=hdH (X1);obtain ⟨f0,f1,f2,f3,f4,f5⟩:=geo_cells X1 hl;have t1:=tR;clear X1 t0))
 go_ret
 exact ⟨rfl,B1⟩
theorem right_k1 (g:List Int) (hl:g.length=6) (k0:7≤gb g 0∧gb g 0≤64) (k1:¬(4≤gb g 1∧gb g 1≤32)) (w:World):
  Calls Tryz.prog 17 #[.agg (ints .i64 g)] w fun x w'=>x=.returned (.bool false)∧Below w.heap.size w w':=by
 have I0:Hid (∀ w,Calls Tryz.prog 45 #[.int .i64 (gb g 0),.int .i64 7,.int .i64 64] w fun x w'=>x=.returned (.bool true)∧w'=w):=fun w=>in_yes _ _ _ w k0
 have I1:Hid (∀ w,Calls Tryz.prog 45 #[.int .i64 (gb g 1),.int .i64 4,.int .i64 32] w fun x w'=>x=.returned (.bool false)∧w'=w):=fun w=>in_no _ _ _ w k1
 have t0:=tR
 clear k0 k1
 go_enter Tryz.func17,Tryz.ntmps17
 go_wp2_with (first
  |(have q2:=t2;go_at_call 45;refine (I1.out _).mono ?_;rintro e wx ⟨rfl,hw⟩;obtain rfl:=hw.symm;have t3:=tR;clear t2)
  |(have q1:=t1;go_at_call 45;refine (I0.out _).mono ?_;rintro e wx ⟨rfl,hw⟩;obtain rfl:=hw.symm;have t2:=tR;clear t1)
  |(have q0:=t0;refine box_lawF _ rfl (.tmp 0) 23 rfl .i64 g rfl ?_;intro w1 X1 B1 L1;have HX:=hdH (X1);obtain ⟨f0,f1,f2,f3,f4,f5⟩:=geo_cells X1 hl;have t1:=tR;clear X1 t0))
 go_ret
 exact ⟨rfl,B1⟩
theorem right_k2 (g:List Int) (hl:g.length=6) (k0:7≤gb g 0∧gb g 0≤64) (k1:4≤gb g 1∧gb g 1≤32) (k2:¬(32≤gb g 2∧gb g 2≤4096)) (w:World):
  Calls Tryz.prog 17 #[.agg (ints .i64 g)] w fun x w'=>x=.returned (.bool false)∧Below w.heap.size w w':=by
 have I0:Hid (∀ w,Calls Tryz.prog 45 #[.int .i64 (gb g 0),.int .i64 7,.int .i64 64] w fun x w'=>x=.returned (.bool true)∧w'=w):=fun w=>in_yes _ _ _ w k0
 have I1:Hid (∀ w,Calls Tryz.prog 45 #[.int .i64 (gb g 1),.int .i64 4,.int .i64 32] w fun x w'=>x=.returned (.bool true)∧w'=w):=fun w=>in_yes _ _ _ w k1
 have I2:Hid (∀ w,Calls Tryz.prog 45 #[.int .i64 (gb g 2),.int .i64 32,.int .i64 4096] w fun x w'=>x=.returned (.bool false)∧w'=w):=fun w=>in_no _ _ _ w k2
 have t0:=tR
 clear k0 k1 k2
 go_enter Tryz.func17,Tryz.ntmps17
 go_wp2_with (first
  |(have q3:=t3;go_at_call 45;refine (I2.out _).mono ?_;rintro e wx ⟨rfl,hw⟩;obtain rfl:=hw.symm;have t4:=tR;clear t3)
  |(have q2:=t2;go_at_call 45;refine (I1.out _).mono ?_;rintro e wx ⟨rfl,hw⟩;obtain rfl:=hw.symm;have t3:=tR;clear t2)
  |(have q1:=t1;go_at_call 45;refine (I0.out _).mono ?_;rintro e wx ⟨rfl,hw⟩;obtain rfl:=hw.symm;have t2:=tR;clear t1)
  |(have q0:=t0;refine box_lawF _ rfl (.tmp 0) 23 rfl .i64 g rfl ?_;intro w1 X1 B1 L1;have HX:=hdH (X1);obtain ⟨f0,f1,f2,f3,f4,f5⟩:=geo_cells X1 hl;have t1:=tR;clear X1 t0))
 go_ret
 exact ⟨rfl,B1⟩
theorem right_k3 (g:List Int) (hl:g.length=6) (k0:7≤gb g 0∧gb g 0≤64) (k1:4≤gb g 1∧gb g 1≤32) (k2:32≤gb g 2∧gb g 2≤4096) (k3:¬(0≤gb g 3∧gb g 3≤8)) (w:World):
  Calls Tryz.prog 17 #[.agg (ints .i64 g)] w fun x w'=>x=.returned (.bool false)∧Below w.heap.size w w':=by
 have I0:Hid (∀ w,Calls Tryz.prog 45 #[.int .i64 (gb g 0),.int .i64 7,.int .i64 64] w fun x w'=>x=.returned (.bool true)∧w'=w):=fun w=>in_yes _ _ _ w k0
 have I1:Hid (∀ w,Calls Tryz.prog 45 #[.int .i64 (gb g 1),.int .i64 4,.int .i64 32] w fun x w'=>x=.returned (.bool true)∧w'=w):=fun w=>in_yes _ _ _ w k1
 have I2:Hid (∀ w,Calls Tryz.prog 45 #[.int .i64 (gb g 2),.int .i64 32,.int .i64 4096] w fun x w'=>x=.returned (.bool true)∧w'=w):=fun w=>in_yes _ _ _ w k2
 have I3:Hid (∀ w,Calls Tryz.prog 45 #[.int .i64 (gb g 3),.int .i64 0,.int .i64 8] w fun x w'=>x=.returned (.bool false)∧w'=w):=fun w=>in_no _ _ _ w k3
 have t0:=tR
 clear k0 k1 k2 k3
 go_enter Tryz.func17,Tryz.ntmps17
 go_wp2_with (first
  |(have q4:=t4;go_at_call 45;refine (I3.out _).mono ?_;rintro e wx ⟨rfl,hw⟩;obtain rfl:=hw.symm;have t5:=tR;clear t4)
  |(have q3:=t3;go_at_call 45;refine (I2.out _).mono ?_;rintro e wx ⟨rfl,hw⟩;obtain rfl:=hw.symm;have t4:=tR;clear t3)
  |(have q2:=t2;go_at_call 45;refine (I1.out _).mono ?_;rintro e wx ⟨rfl,hw⟩;obtain rfl:=hw.symm;have t3:=tR;clear t2)
  |(have q1:=t1;go_at_call 45;refine (I0.out _).mono ?_;rintro e wx ⟨rfl,hw⟩;obtain rfl:=hw.symm;have t2:=tR;clear t1)
  |(have q0:=t0;refine box_lawF _ rfl (.tmp 0) 23 rfl .i64 g rfl ?_;intro w1 X1 B1 L1;have HX:=hdH (X1);obtain ⟨f0,f1,f2,f3,f4,f5⟩:=geo_cells X1 hl;have t1:=tR;clear X1 t0))
 go_ret
 exact ⟨rfl,B1⟩
theorem right_k4 (g:List Int) (hl:g.length=6) (k0:7≤gb g 0∧gb g 0≤64) (k1:4≤gb g 1∧gb g 1≤32) (k2:32≤gb g 2∧gb g 2≤4096) (k3:0≤gb g 3∧gb g 3≤8) (k4:¬(1≤gb g 4∧gb g 4≤1000)) (w:World):
  Calls Tryz.prog 17 #[.agg (ints .i64 g)] w fun x w'=>x=.returned (.bool false)∧Below w.heap.size w w':=by
 have I0:Hid (∀ w,Calls Tryz.prog 45 #[.int .i64 (gb g 0),.int .i64 7,.int .i64 64] w fun x w'=>x=.returned (.bool true)∧w'=w):=fun w=>in_yes _ _ _ w k0
 have I1:Hid (∀ w,Calls Tryz.prog 45 #[.int .i64 (gb g 1),.int .i64 4,.int .i64 32] w fun x w'=>x=.returned (.bool true)∧w'=w):=fun w=>in_yes _ _ _ w k1
 have I2:Hid (∀ w,Calls Tryz.prog 45 #[.int .i64 (gb g 2),.int .i64 32,.int .i64 4096] w fun x w'=>x=.returned (.bool true)∧w'=w):=fun w=>in_yes _ _ _ w k2
 have I3:Hid (∀ w,Calls Tryz.prog 45 #[.int .i64 (gb g 3),.int .i64 0,.int .i64 8] w fun x w'=>x=.returned (.bool true)∧w'=w):=fun w=>in_yes _ _ _ w k3
 have I4:Hid (∀ w,Calls Tryz.prog 45 #[.int .i64 (gb g 4),.int .i64 1,.int .i64 1000] w fun x w'=>x=.returned (.bool false)∧w'=w):=fun w=>in_no _ _ _ w k4
 have t0:=tR
 clear k0 k1 k2 k3 k4
 go_enter Tryz.func17,Tryz.ntmps17
 go_wp2_with (first
  |(have q5:=t5;go_at_call 45;refine (I4.out _).mono ?_;rintro e wx ⟨rfl,hw⟩;obtain rfl:=hw.symm;have t6:=tR;clear t5)
  |(have q4:=t4;go_at_call 45;refine (I3.out _).mono ?_;rintro e wx ⟨rfl,hw⟩;obtain rfl:=hw.symm;have t5:=tR;clear t4)
  |(have q3:=t3;go_at_call 45;refine (I2.out _).mono ?_;rintro e wx ⟨rfl,hw⟩;obtain rfl:=hw.symm;have t4:=tR;clear t3)
  |(have q2:=t2;go_at_call 45;refine (I1.out _).mono ?_;rintro e wx ⟨rfl,hw⟩;obtain rfl:=hw.symm;have t3:=tR;clear t2)
  |(have q1:=t1;go_at_call 45;refine (I0.out _).mono ?_;rintro e wx ⟨rfl,hw⟩;obtain rfl:=hw.symm;have t2:=tR;clear t1)
  |(have q0:=t0;refine box_lawF _ rfl (.tmp 0) 23 rfl .i64 g rfl ?_;intro w1 X1 B1 L1;have HX:=hdH (X1);obtain ⟨f0,f1,f2,f3,f4,f5⟩:=geo_cells X1 hl;have t1:=tR;clear X1 t0))
 go_ret
 exact ⟨rfl,B1⟩
theorem right_k5 (g:List Int) (hl:g.length=6) (k0:7≤gb g 0∧gb g 0≤64) (k1:4≤gb g 1∧gb g 1≤32) (k2:32≤gb g 2∧gb g 2≤4096) (k3:0≤gb g 3∧gb g 3≤8) (k4:1≤gb g 4∧gb g 4≤1000) (k5:¬(1≤gb g 5∧gb g 5≤1000)) (w:World):
  Calls Tryz.prog 17 #[.agg (ints .i64 g)] w fun x w'=>x=.returned (.bool false)∧Below w.heap.size w w':=by
 have I0:Hid (∀ w,Calls Tryz.prog 45 #[.int .i64 (gb g 0),.int .i64 7,.int .i64 64] w fun x w'=>x=.returned (.bool true)∧w'=w):=fun w=>in_yes _ _ _ w k0
 have I1:Hid (∀ w,Calls Tryz.prog 45 #[.int .i64 (gb g 1),.int .i64 4,.int .i64 32] w fun x w'=>x=.returned (.bool true)∧w'=w):=fun w=>in_yes _ _ _ w k1
 have I2:Hid (∀ w,Calls Tryz.prog 45 #[.int .i64 (gb g 2),.int .i64 32,.int .i64 4096] w fun x w'=>x=.returned (.bool true)∧w'=w):=fun w=>in_yes _ _ _ w k2
 have I3:Hid (∀ w,Calls Tryz.prog 45 #[.int .i64 (gb g 3),.int .i64 0,.int .i64 8] w fun x w'=>x=.returned (.bool true)∧w'=w):=fun w=>in_yes _ _ _ w k3
 have I4:Hid (∀ w,Calls Tryz.prog 45 #[.int .i64 (gb g 4),.int .i64 1,.int .i64 1000] w fun x w'=>x=.returned (.bool true)∧w'=w):=fun w=>in_yes _ _ _ w k4
 have I5:Hid (∀ w,Calls Tryz.prog 45 #[.int .i64 (gb g 5),.int .i64 1,.int .i64 1000] w fun x w'=>x=.returned (.bool false)∧w'=w):=fun w=>in_no _ _ _ w k5
 have t0:=tR
 clear k0 k1 k2 k3 k4 k5
 go_enter Tryz.func17,Tryz.ntmps17
 go_wp2_with (first
  |(have q6:=t6;go_at_call 45;refine (I5.out _).mono ?_;rintro e wx ⟨rfl,hw⟩;obtain rfl:=hw.symm;have t7:=tR;clear t6)
  |(have q5:=t5;go_at_call 45;refine (I4.out _).mono ?_;rintro e wx ⟨rfl,hw⟩;obtain rfl:=hw.symm;have t6:=tR;clear t5)
  |(have q4:=t4;go_at_call 45;refine (I3.out _).mono ?_;rintro e wx ⟨rfl,hw⟩;obtain rfl:=hw.symm;have t5:=tR;clear t4)
  |(have q3:=t3;go_at_call 45;refine (I2.out _).mono ?_;rintro e wx ⟨rfl,hw⟩;obtain rfl:=hw.symm;have t4:=tR;clear t3)
  |(have q2:=t2;go_at_call 45;refine (I1.out _).mono ?_;rintro e wx ⟨rfl,hw⟩;obtain rfl:=hw.symm;have t3:=tR;clear t2)
  |(have q1:=t1;go_at_call 45;refine (I0.out _).mono ?_;rintro e wx ⟨rfl,hw⟩;obtain rfl:=hw.symm;have t2:=tR;clear t1)
  |(have q0:=t0;refine box_lawF _ rfl (.tmp 0) 23 rfl .i64 g rfl ?_;intro w1 X1 B1 L1;have HX:=hdH (X1);obtain ⟨f0,f1,f2,f3,f4,f5⟩:=geo_cells X1 hl;have t1:=tR;clear X1 t0))
 go_ret
 exact ⟨rfl,B1⟩
theorem right_m (g:List Int) (hl:g.length=6) (hk:Kept g) (h16:gb g 2%16≠0) (w:World):
  Calls Tryz.prog 17 #[.agg (ints .i64 g)] w fun x w'=>x=.returned (.bool false)∧Below w.heap.size w w':=by
 obtain ⟨k0,k1,k2,k3,k4,k5⟩:=id hk
 have I0:Hid (∀ w,Calls Tryz.prog 45 #[.int .i64 (gb g 0),.int .i64 7,.int .i64 64] w fun x w'=>x=.returned (.bool true)∧w'=w):=fun w=>in_yes _ _ _ w k0
 have I1:Hid (∀ w,Calls Tryz.prog 45 #[.int .i64 (gb g 1),.int .i64 4,.int .i64 32] w fun x w'=>x=.returned (.bool true)∧w'=w):=fun w=>in_yes _ _ _ w k1
 have I2:Hid (∀ w,Calls Tryz.prog 45 #[.int .i64 (gb g 2),.int .i64 32,.int .i64 4096] w fun x w'=>x=.returned (.bool true)∧w'=w):=fun w=>in_yes _ _ _ w k2
 have I3:Hid (∀ w,Calls Tryz.prog 45 #[.int .i64 (gb g 3),.int .i64 0,.int .i64 8] w fun x w'=>x=.returned (.bool true)∧w'=w):=fun w=>in_yes _ _ _ w k3
 have I4:Hid (∀ w,Calls Tryz.prog 45 #[.int .i64 (gb g 4),.int .i64 1,.int .i64 1000] w fun x w'=>x=.returned (.bool true)∧w'=w):=fun w=>in_yes _ _ _ w k4
 have I5:Hid (∀ w,Calls Tryz.prog 45 #[.int .i64 (gb g 5),.int .i64 1,.int .i64 1000] w fun x w'=>x=.returned (.bool true)∧w'=w):=fun w=>in_yes _ _ _ w k5
 have SR':Hid (∀ w,Calls Tryz.prog 46 #[.agg (ints .i64 g)] w fun x w'=>x=.returned (.int .i64 (rec g))∧Below w.heap.size w w'):=rchunks_any g hl hk
 obtain ⟨m,hm⟩:∃ m,m=gb g 2%16:=⟨_,rfl⟩
 have q1:(gb g 2).tmod 16=m:=by rw [hm];exact Int.tmod_eq_emod_of_nonneg (by omega)
 have m1:IntKind.i64.wrap m=m:=by rw [IntKind.wrap_i64];omega
 have m0:m≠0:=by omega
 have q2:IntKind.i64.wrap (gb g 3+3)=gb g 3+3:=by rw [IntKind.wrap_i64];omega
 have q3:IntKind.i64.wrap (gb g 0-4)=gb g 0-4:=by rw [IntKind.wrap_i64];omega
 have t0:=tR
 clear k0 k1 k2 k3 k4 k5 hk h16 hm
 generalize rec g=z at*
 go_enter Tryz.func17,Tryz.ntmps17
 go_wp2_with (first
  |(have q6:=t6;go_at_call 45;refine (I5.out _).mono ?_;rintro e wx ⟨rfl,hw⟩;obtain rfl:=hw.symm;have t7:=tR;clear t6)
  |(have q5:=t5;go_at_call 45;refine (I4.out _).mono ?_;rintro e wx ⟨rfl,hw⟩;obtain rfl:=hw.symm;have t6:=tR;clear t5)
  |(have q4:=t4;go_at_call 45;refine (I3.out _).mono ?_;rintro e wx ⟨rfl,hw⟩;obtain rfl:=hw.symm;have t5:=tR;clear t4)
  |(have q3:=t3;go_at_call 45;refine (I2.out _).mono ?_;rintro e wx ⟨rfl,hw⟩;obtain rfl:=hw.symm;have t4:=tR;clear t3)
  |(have q2:=t2;go_at_call 45;refine (I1.out _).mono ?_;rintro e wx ⟨rfl,hw⟩;obtain rfl:=hw.symm;have t3:=tR;clear t2)
  |(have q1:=t1;go_at_call 45;refine (I0.out _).mono ?_;rintro e wx ⟨rfl,hw⟩;obtain rfl:=hw.symm;have t2:=tR;clear t1)
  |(have q0:=t0;refine box_lawF _ rfl (.tmp 0) 23 rfl .i64 g rfl ?_;intro w1 X1 B1 L1;have HX:=hdH (X1);obtain ⟨f0,f1,f2,f3,f4,f5⟩:=geo_cells X1 hl;have t1:=tR;clear X1 t0))
 have SR:Hid (∀ w',Below w1.heap.size w1 w'→Calls Tryz.prog 46 #[.agg (ints .i64 g)] w' fun x w''=>x=.returned (.int .i64 z)∧Below w1.heap.size w1 w''):=call_class SR'.out w1
 have GC:=Hid.mk' (geo_class HX.out hl)
 refine region_quietC (C:=fun w'=>Below w1.heap.size w1 w') (by kernel_rfl) (by kernel_rfl) (Below.refl _ _).drew ?_
 refine wpQuiet_step (fun K hK=>?_)
 refine q_val (by rfl) (some 37) rfl (.pointer (some ⟨w.heap.size,2,none⟩)) (fun w' _=>by go_simp) (hK _ ?_)
 simp only [Act.put,zE1,zE2,zE3]
 clear hK K
 refine wpQuiet_step (fun K hK=>?_)
 refine q_get (by rfl) (some 38) rfl (.tmp 37) 3 rfl .i64 (gb g 2) w.heap.size (2) rfl Tryz.underlying3 (fun w' h=>(GC.out w' h).2.2.1) (hK _ ?_)
 simp only [Act.put,zE1,zE2,zE3]
 clear hK K
 refine wpQuiet_step (fun K hK=>?_)
 refine q_val (by rfl) (some 39) rfl (.int .i64 m) (fun w' _=>by go_simp) (hK _ ?_)
 simp only [Act.put,zE1,zE2,zE3]
 clear hK K
 refine wpQuiet_step (fun K hK=>?_)
 refine q_val (by rfl) (some 40) rfl (.bool false) (fun w' _=>by go_simp) (hK _ ?_)
 simp only [Act.put,zE1,zE2,zE3]
 clear hK K
 refine wpQuiet_step (fun K hK=>?_)
 refine q_val (by rfl) (some 41) rfl (.bool false) (fun w' _=>by rfl) (hK _ ?_)
 simp only [Act.put,zE1,zE2,zE3]
 clear hK K
 refine wpQuiet_step (fun K hK=>?_)
 refine q_skip (by rfl) (some 42) rfl (hK _ ?_)
 simp only [Act.put,zE1,zE2,zE3]
 clear hK K
 refine wpQuiet_step (fun K hK=>?_)
 refine q_skip (by rfl) (some 43) rfl (hK _ ?_)
 simp only [Act.put,zE1,zE2,zE3]
 clear hK K
 refine wpQuiet_step (fun K hK=>?_)
 refine q_skip (by rfl) (some 44) rfl (hK _ ?_)
 simp only [Act.put,zE1,zE2,zE3]
 clear hK K
 refine wpQuiet_step (fun K hK=>?_)
 refine q_skip (by rfl) (some 45) rfl (hK _ ?_)
 simp only [Act.put,zE1,zE2,zE3]
 clear hK K
 refine wpQuiet_step (fun K hK=>?_)
 refine q_skip (by rfl) (some 46) rfl (hK _ ?_)
 simp only [Act.put,zE1,zE2,zE3]
 clear hK K
 refine wpQuiet_step (fun K hK=>?_)
 refine q_val (by rfl) (some 47) rfl (.bool false) (fun w' _=>by rfl) (hK _ ?_)
 simp only [Act.put,zE1,zE2,zE3]
 clear hK K
 refine wpQuiet_step (fun K hK=>?_)
 refine q_val (by rfl) (some 48) rfl (.bool false) (fun w' _=>by rfl) (hK _ ?_)
 simp only [Act.put,zE1,zE2,zE3]
 clear hK K
 refine wpQuiet_step (fun K hK=>?_)
 refine q_skip (by rfl) (some 49) rfl (hK _ ?_)
 simp only [Act.put,zE1,zE2,zE3]
 clear hK K
 refine wpQuiet_step (fun K hK=>?_)
 refine q_skip (by rfl) (some 50) rfl (hK _ ?_)
 simp only [Act.put,zE1,zE2,zE3]
 clear hK K
 refine wpQuiet_step (fun K hK=>?_)
 refine q_skip (by rfl) (some 51) rfl (hK _ ?_)
 simp only [Act.put,zE1,zE2,zE3]
 clear hK K
 refine wpQuiet_step (fun K hK=>?_)
 refine q_skip (by rfl) (some 52) rfl (hK _ ?_)
 simp only [Act.put,zE1,zE2,zE3]
 clear hK K
 refine wpQuiet_step (fun K hK=>?_)
 refine q_skip (by rfl) (some 53) rfl (hK _ ?_)
 simp only [Act.put,zE1,zE2,zE3]
 clear hK K
 refine wpQuiet_step (fun K hK=>?_)
 refine q_skip (by rfl) (some 54) rfl (hK _ ?_)
 simp only [Act.put,zE1,zE2,zE3]
 clear hK K
 refine wpQuiet_step (fun K hK=>?_)
 refine q_skip (by rfl) (some 55) rfl (hK _ ?_)
 simp only [Act.put,zE1,zE2,zE3]
 clear hK K
 refine wpQuiet_step (fun K hK=>?_)
 refine q_val (by rfl) (some 56) rfl (.bool false) (fun w' _=>by rfl) (hK _ ?_)
 simp only [Act.put,zE1,zE2,zE3]
 clear hK K
 refine wpQuiet_step (fun K hK=>?_)
 refine q_val (by rfl) (some 2) rfl (.bool false) (fun w' _=>by rfl) (hK _ ?_)
 simp only [Act.put,zE1,zE2,zE3]
 clear hK K
 refine wpQuiet_nil ?_
 intro w3 B3
 go_wp2
 go_ret
 exact ⟨rfl,B1.trans (B3.mono (by omega))⟩
theorem right_r (g:List Int) (hl:g.length=6) (hk:Kept g) (h16:gb g 2%16=0) (hr:gb g 1<rec g) (w:World):
  Calls Tryz.prog 17 #[.agg (ints .i64 g)] w fun x w'=>x=.returned (.bool false)∧Below w.heap.size w w':=by
 obtain ⟨k0,k1,k2,k3,k4,k5⟩:=id hk
 have I0:Hid (∀ w,Calls Tryz.prog 45 #[.int .i64 (gb g 0),.int .i64 7,.int .i64 64] w fun x w'=>x=.returned (.bool true)∧w'=w):=fun w=>in_yes _ _ _ w k0
 have I1:Hid (∀ w,Calls Tryz.prog 45 #[.int .i64 (gb g 1),.int .i64 4,.int .i64 32] w fun x w'=>x=.returned (.bool true)∧w'=w):=fun w=>in_yes _ _ _ w k1
 have I2:Hid (∀ w,Calls Tryz.prog 45 #[.int .i64 (gb g 2),.int .i64 32,.int .i64 4096] w fun x w'=>x=.returned (.bool true)∧w'=w):=fun w=>in_yes _ _ _ w k2
 have I3:Hid (∀ w,Calls Tryz.prog 45 #[.int .i64 (gb g 3),.int .i64 0,.int .i64 8] w fun x w'=>x=.returned (.bool true)∧w'=w):=fun w=>in_yes _ _ _ w k3
 have I4:Hid (∀ w,Calls Tryz.prog 45 #[.int .i64 (gb g 4),.int .i64 1,.int .i64 1000] w fun x w'=>x=.returned (.bool true)∧w'=w):=fun w=>in_yes _ _ _ w k4
 have I5:Hid (∀ w,Calls Tryz.prog 45 #[.int .i64 (gb g 5),.int .i64 1,.int .i64 1000] w fun x w'=>x=.returned (.bool true)∧w'=w):=fun w=>in_yes _ _ _ w k5
 have SR':Hid (∀ w,Calls Tryz.prog 46 #[.agg (ints .i64 g)] w fun x w'=>x=.returned (.int .i64 (rec g))∧Below w.heap.size w w'):=rchunks_any g hl hk
 obtain ⟨m,hm⟩:∃ m,m=gb g 2%16:=⟨_,rfl⟩
 have q1:(gb g 2).tmod 16=m:=by rw [hm];exact Int.tmod_eq_emod_of_nonneg (by omega)
 have m1:IntKind.i64.wrap m=m:=by rw [IntKind.wrap_i64];omega
 have m0:m=0:=by omega
 have q2:IntKind.i64.wrap (gb g 3+3)=gb g 3+3:=by rw [IntKind.wrap_i64];omega
 have q3:IntKind.i64.wrap (gb g 0-4)=gb g 0-4:=by rw [IntKind.wrap_i64];omega
 have t0:=tR
 clear k0 k1 k2 k3 k4 k5 hk h16 hm
 generalize rec g=z at*
 go_enter Tryz.func17,Tryz.ntmps17
 go_wp2_with (first
  |(have q6:=t6;go_at_call 45;refine (I5.out _).mono ?_;rintro e wx ⟨rfl,hw⟩;obtain rfl:=hw.symm;have t7:=tR;clear t6)
  |(have q5:=t5;go_at_call 45;refine (I4.out _).mono ?_;rintro e wx ⟨rfl,hw⟩;obtain rfl:=hw.symm;have t6:=tR;clear t5)
  |(have q4:=t4;go_at_call 45;refine (I3.out _).mono ?_;rintro e wx ⟨rfl,hw⟩;obtain rfl:=hw.symm;have t5:=tR;clear t4)
  |(have q3:=t3;go_at_call 45;refine (I2.out _).mono ?_;rintro e wx ⟨rfl,hw⟩;obtain rfl:=hw.symm;have t4:=tR;clear t3)
  |(have q2:=t2;go_at_call 45;refine (I1.out _).mono ?_;rintro e wx ⟨rfl,hw⟩;obtain rfl:=hw.symm;have t3:=tR;clear t2)
  |(have q1:=t1;go_at_call 45;refine (I0.out _).mono ?_;rintro e wx ⟨rfl,hw⟩;obtain rfl:=hw.symm;have t2:=tR;clear t1)
  |(have q0:=t0;refine box_lawF _ rfl (.tmp 0) 23 rfl .i64 g rfl ?_;intro w1 X1 B1 L1;have HX:=hdH (X1);obtain ⟨f0,f1,f2,f3,f4,f5⟩:=geo_cells X1 hl;have t1:=tR;clear X1 t0))
 have SR:Hid (∀ w',Below w1.heap.size w1 w'→Calls Tryz.prog 46 #[.agg (ints .i64 g)] w' fun x w''=>x=.returned (.int .i64 z)∧Below w1.heap.size w1 w''):=call_class SR'.out w1
 have GC:=Hid.mk' (geo_class HX.out hl)
 refine region_quietC (C:=fun w'=>Below w1.heap.size w1 w') (by kernel_rfl) (by kernel_rfl) (Below.refl _ _).drew ?_
 refine wpQuiet_step (fun K hK=>?_)
 refine q_val (by rfl) (some 37) rfl (.pointer (some ⟨w.heap.size,2,none⟩)) (fun w' _=>by go_simp) (hK _ ?_)
 simp only [Act.put,zE1,zE2,zE3]
 clear hK K
 refine wpQuiet_step (fun K hK=>?_)
 refine q_get (by rfl) (some 38) rfl (.tmp 37) 3 rfl .i64 (gb g 2) w.heap.size (2) rfl Tryz.underlying3 (fun w' h=>(GC.out w' h).2.2.1) (hK _ ?_)
 simp only [Act.put,zE1,zE2,zE3]
 clear hK K
 refine wpQuiet_step (fun K hK=>?_)
 refine q_val (by rfl) (some 39) rfl (.int .i64 m) (fun w' _=>by go_simp) (hK _ ?_)
 simp only [Act.put,zE1,zE2,zE3]
 clear hK K
 refine wpQuiet_step (fun K hK=>?_)
 refine q_val (by rfl) (some 40) rfl (.bool true) (fun w' _=>by go_simp) (hK _ ?_)
 simp only [Act.put,zE1,zE2,zE3]
 clear hK K
 refine wpQuiet_step (fun K hK=>?_)
 refine q_val (by rfl) (some 41) rfl (.bool true) (fun w' _=>by rfl) (hK _ ?_)
 simp only [Act.put,zE1,zE2,zE3]
 clear hK K
 refine wpQuiet_step (fun K hK=>?_)
 refine q_loadS (by rfl) (some 42) rfl (.tmp 1) 23 rfl (.pointer (some ⟨w.heap.size,0,none⟩)) (.agg (ints .i64 g)) rfl (fun w' h=>(GC.out w' h).2.2.2.2.2.2) (hK _ ?_)
 simp only [Act.put,zE1,zE2,zE3]
 clear hK K
 refine wpQuiet_step (fun K hK=>?_)
 refine q_call (by rfl) (some 43) rfl 46 #[.tmp 42] #[23] rfl (fun q w'=>by rfl) #[.agg (ints .i64 g)] (by simp only [List.map_toArray,List.map_cons,List.map_nil];rfl) (.int .i64 z) SR.out (hK _ ?_)
 simp only [Act.put,zE1,zE2,zE3]
 clear hK K
 refine wpQuiet_step (fun K hK=>?_)
 refine q_val (by rfl) (some 44) rfl (.pointer (some ⟨w.heap.size,1,none⟩)) (fun w' _=>by go_simp) (hK _ ?_)
 simp only [Act.put,zE1,zE2,zE3]
 clear hK K
 refine wpQuiet_step (fun K hK=>?_)
 refine q_get (by rfl) (some 45) rfl (.tmp 44) 3 rfl .i64 (gb g 1) w.heap.size (1) rfl Tryz.underlying3 (fun w' h=>(GC.out w' h).2.1) (hK _ ?_)
 simp only [Act.put,zE1,zE2,zE3]
 clear hK K
 refine wpQuiet_step (fun K hK=>?_)
 refine q_val (by rfl) (some 46) rfl (.bool false) (fun w' _=>by go_simp) (hK _ ?_)
 simp only [Act.put,zE1,zE2,zE3]
 clear hK K
 refine wpQuiet_step (fun K hK=>?_)
 refine q_val (by rfl) (some 47) rfl (.bool false) (fun w' _=>by rfl) (hK _ ?_)
 simp only [Act.put,zE1,zE2,zE3]
 clear hK K
 refine wpQuiet_step (fun K hK=>?_)
 refine q_val (by rfl) (some 48) rfl (.bool false) (fun w' _=>by rfl) (hK _ ?_)
 simp only [Act.put,zE1,zE2,zE3]
 clear hK K
 refine wpQuiet_step (fun K hK=>?_)
 refine q_skip (by rfl) (some 49) rfl (hK _ ?_)
 simp only [Act.put,zE1,zE2,zE3]
 clear hK K
 refine wpQuiet_step (fun K hK=>?_)
 refine q_skip (by rfl) (some 50) rfl (hK _ ?_)
 simp only [Act.put,zE1,zE2,zE3]
 clear hK K
 refine wpQuiet_step (fun K hK=>?_)
 refine q_skip (by rfl) (some 51) rfl (hK _ ?_)
 simp only [Act.put,zE1,zE2,zE3]
 clear hK K
 refine wpQuiet_step (fun K hK=>?_)
 refine q_skip (by rfl) (some 52) rfl (hK _ ?_)
 simp only [Act.put,zE1,zE2,zE3]
 clear hK K
 refine wpQuiet_step (fun K hK=>?_)
 refine q_skip (by rfl) (some 53) rfl (hK _ ?_)
 simp only [Act.put,zE1,zE2,zE3]
 clear hK K
 refine wpQuiet_step (fun K hK=>?_)
 refine q_skip (by rfl) (some 54) rfl (hK _ ?_)
 simp only [Act.put,zE1,zE2,zE3]
 clear hK K
 refine wpQuiet_step (fun K hK=>?_)
 refine q_skip (by rfl) (some 55) rfl (hK _ ?_)
 simp only [Act.put,zE1,zE2,zE3]
 clear hK K
 refine wpQuiet_step (fun K hK=>?_)
 refine q_val (by rfl) (some 56) rfl (.bool false) (fun w' _=>by rfl) (hK _ ?_)
 simp only [Act.put,zE1,zE2,zE3]
 clear hK K
 refine wpQuiet_step (fun K hK=>?_)
 refine q_val (by rfl) (some 2) rfl (.bool false) (fun w' _=>by rfl) (hK _ ?_)
 simp only [Act.put,zE1,zE2,zE3]
 clear hK K
 refine wpQuiet_nil ?_
 intro w3 B3
 go_wp2
 go_ret
 exact ⟨rfl,B1.trans (B3.mono (by omega))⟩
theorem right_s (g:List Int) (hl:g.length=6) (hk:Kept g) (h16:gb g 2%16=0) (hr:rec g≤gb g 1) (hs:gb g 0-4<gb g 3+3) (w:World):
  Calls Tryz.prog 17 #[.agg (ints .i64 g)] w fun x w'=>x=.returned (.bool false)∧Below w.heap.size w w':=by
 obtain ⟨k0,k1,k2,k3,k4,k5⟩:=id hk
 have I0:Hid (∀ w,Calls Tryz.prog 45 #[.int .i64 (gb g 0),.int .i64 7,.int .i64 64] w fun x w'=>x=.returned (.bool true)∧w'=w):=fun w=>in_yes _ _ _ w k0
 have I1:Hid (∀ w,Calls Tryz.prog 45 #[.int .i64 (gb g 1),.int .i64 4,.int .i64 32] w fun x w'=>x=.returned (.bool true)∧w'=w):=fun w=>in_yes _ _ _ w k1
 have I2:Hid (∀ w,Calls Tryz.prog 45 #[.int .i64 (gb g 2),.int .i64 32,.int .i64 4096] w fun x w'=>x=.returned (.bool true)∧w'=w):=fun w=>in_yes _ _ _ w k2
 have I3:Hid (∀ w,Calls Tryz.prog 45 #[.int .i64 (gb g 3),.int .i64 0,.int .i64 8] w fun x w'=>x=.returned (.bool true)∧w'=w):=fun w=>in_yes _ _ _ w k3
 have I4:Hid (∀ w,Calls Tryz.prog 45 #[.int .i64 (gb g 4),.int .i64 1,.int .i64 1000] w fun x w'=>x=.returned (.bool true)∧w'=w):=fun w=>in_yes _ _ _ w k4
 have I5:Hid (∀ w,Calls Tryz.prog 45 #[.int .i64 (gb g 5),.int .i64 1,.int .i64 1000] w fun x w'=>x=.returned (.bool true)∧w'=w):=fun w=>in_yes _ _ _ w k5
 have SR':Hid (∀ w,Calls Tryz.prog 46 #[.agg (ints .i64 g)] w fun x w'=>x=.returned (.int .i64 (rec g))∧Below w.heap.size w w'):=rchunks_any g hl hk
 obtain ⟨m,hm⟩:∃ m,m=gb g 2%16:=⟨_,rfl⟩
 have q1:(gb g 2).tmod 16=m:=by rw [hm];exact Int.tmod_eq_emod_of_nonneg (by omega)
 have m1:IntKind.i64.wrap m=m:=by rw [IntKind.wrap_i64];omega
 have m0:m=0:=by omega
 have q2:IntKind.i64.wrap (gb g 3+3)=gb g 3+3:=by rw [IntKind.wrap_i64];omega
 have q3:IntKind.i64.wrap (gb g 0-4)=gb g 0-4:=by rw [IntKind.wrap_i64];omega
 have t0:=tR
 clear k0 k1 k2 k3 k4 k5 hk h16 hm
 generalize rec g=z at*
 go_enter Tryz.func17,Tryz.ntmps17
 go_wp2_with (first
  |(have q6:=t6;go_at_call 45;refine (I5.out _).mono ?_;rintro e wx ⟨rfl,hw⟩;obtain rfl:=hw.symm;have t7:=tR;clear t6)
  |(have q5:=t5;go_at_call 45;refine (I4.out _).mono ?_;rintro e wx ⟨rfl,hw⟩;obtain rfl:=hw.symm;have t6:=tR;clear t5)
  |(have q4:=t4;go_at_call 45;refine (I3.out _).mono ?_;rintro e wx ⟨rfl,hw⟩;obtain rfl:=hw.symm;have t5:=tR;clear t4)
  |(have q3:=t3;go_at_call 45;refine (I2.out _).mono ?_;rintro e wx ⟨rfl,hw⟩;obtain rfl:=hw.symm;have t4:=tR;clear t3)
  |(have q2:=t2;go_at_call 45;refine (I1.out _).mono ?_;rintro e wx ⟨rfl,hw⟩;obtain rfl:=hw.symm;have t3:=tR;clear t2)
  |(have q1:=t1;go_at_call 45;refine (I0.out _).mono ?_;rintro e wx ⟨rfl,hw⟩;obtain rfl:=hw.symm;have t2:=tR;clear t1)
  |(have q0:=t0;refine box_lawF _ rfl (.tmp 0) 23 rfl .i64 g rfl ?_;intro w1 X1 B1 L1;have HX:=hdH (X1);obtain ⟨f0,f1,f2,f3,f4,f5⟩:=geo_cells X1 hl;have t1:=tR;clear X1 t0))
 have SR:Hid (∀ w',Below w1.heap.size w1 w'→Calls Tryz.prog 46 #[.agg (ints .i64 g)] w' fun x w''=>x=.returned (.int .i64 z)∧Below w1.heap.size w1 w''):=call_class SR'.out w1
 have GC:=Hid.mk' (geo_class HX.out hl)
 refine region_quietC (C:=fun w'=>Below w1.heap.size w1 w') (by kernel_rfl) (by kernel_rfl) (Below.refl _ _).drew ?_
 refine wpQuiet_step (fun K hK=>?_)
 refine q_val (by rfl) (some 37) rfl (.pointer (some ⟨w.heap.size,2,none⟩)) (fun w' _=>by go_simp) (hK _ ?_)
 simp only [Act.put,zE1,zE2,zE3]
 clear hK K
 refine wpQuiet_step (fun K hK=>?_)
 refine q_get (by rfl) (some 38) rfl (.tmp 37) 3 rfl .i64 (gb g 2) w.heap.size (2) rfl Tryz.underlying3 (fun w' h=>(GC.out w' h).2.2.1) (hK _ ?_)
 simp only [Act.put,zE1,zE2,zE3]
 clear hK K
 refine wpQuiet_step (fun K hK=>?_)
 refine q_val (by rfl) (some 39) rfl (.int .i64 m) (fun w' _=>by go_simp) (hK _ ?_)
 simp only [Act.put,zE1,zE2,zE3]
 clear hK K
 refine wpQuiet_step (fun K hK=>?_)
 refine q_val (by rfl) (some 40) rfl (.bool true) (fun w' _=>by go_simp) (hK _ ?_)
 simp only [Act.put,zE1,zE2,zE3]
 clear hK K
 refine wpQuiet_step (fun K hK=>?_)
 refine q_val (by rfl) (some 41) rfl (.bool true) (fun w' _=>by rfl) (hK _ ?_)
 simp only [Act.put,zE1,zE2,zE3]
 clear hK K
 refine wpQuiet_step (fun K hK=>?_)
 refine q_loadS (by rfl) (some 42) rfl (.tmp 1) 23 rfl (.pointer (some ⟨w.heap.size,0,none⟩)) (.agg (ints .i64 g)) rfl (fun w' h=>(GC.out w' h).2.2.2.2.2.2) (hK _ ?_)
 simp only [Act.put,zE1,zE2,zE3]
 clear hK K
 refine wpQuiet_step (fun K hK=>?_)
 refine q_call (by rfl) (some 43) rfl 46 #[.tmp 42] #[23] rfl (fun q w'=>by rfl) #[.agg (ints .i64 g)] (by simp only [List.map_toArray,List.map_cons,List.map_nil];rfl) (.int .i64 z) SR.out (hK _ ?_)
 simp only [Act.put,zE1,zE2,zE3]
 clear hK K
 refine wpQuiet_step (fun K hK=>?_)
 refine q_val (by rfl) (some 44) rfl (.pointer (some ⟨w.heap.size,1,none⟩)) (fun w' _=>by go_simp) (hK _ ?_)
 simp only [Act.put,zE1,zE2,zE3]
 clear hK K
 refine wpQuiet_step (fun K hK=>?_)
 refine q_get (by rfl) (some 45) rfl (.tmp 44) 3 rfl .i64 (gb g 1) w.heap.size (1) rfl Tryz.underlying3 (fun w' h=>(GC.out w' h).2.1) (hK _ ?_)
 simp only [Act.put,zE1,zE2,zE3]
 clear hK K
 refine wpQuiet_step (fun K hK=>?_)
 refine q_val (by rfl) (some 46) rfl (.bool true) (fun w' _=>by go_simp) (hK _ ?_)
 simp only [Act.put,zE1,zE2,zE3]
 clear hK K
 refine wpQuiet_step (fun K hK=>?_)
 refine q_val (by rfl) (some 47) rfl (.bool true) (fun w' _=>by rfl) (hK _ ?_)
 simp only [Act.put,zE1,zE2,zE3]
 clear hK K
 refine wpQuiet_step (fun K hK=>?_)
 refine q_val (by rfl) (some 48) rfl (.bool true) (fun w' _=>by rfl) (hK _ ?_)
 simp only [Act.put,zE1,zE2,zE3]
 clear hK K
 refine wpQuiet_step (fun K hK=>?_)
 refine q_val (by rfl) (some 49) rfl (.pointer (some ⟨w.heap.size,0,none⟩)) (fun w' _=>by go_simp) (hK _ ?_)
 simp only [Act.put,zE1,zE2,zE3]
 clear hK K
 refine wpQuiet_step (fun K hK=>?_)
 refine q_get (by rfl) (some 50) rfl (.tmp 49) 3 rfl .i64 (gb g 0) w.heap.size (0) rfl Tryz.underlying3 (fun w' h=>(GC.out w' h).1) (hK _ ?_)
 simp only [Act.put,zE1,zE2,zE3]
 clear hK K
 refine wpQuiet_step (fun K hK=>?_)
 refine q_val (by rfl) (some 51) rfl (.int .i64 (gb g 0-4)) (fun w' _=>by go_simp) (hK _ ?_)
 simp only [Act.put,zE1,zE2,zE3]
 clear hK K
 refine wpQuiet_step (fun K hK=>?_)
 refine q_val (by rfl) (some 52) rfl (.pointer (some ⟨w.heap.size,3,none⟩)) (fun w' _=>by go_simp) (hK _ ?_)
 simp only [Act.put,zE1,zE2,zE3]
 clear hK K
 refine wpQuiet_step (fun K hK=>?_)
 refine q_get (by rfl) (some 53) rfl (.tmp 52) 3 rfl .i64 (gb g 3) w.heap.size (3) rfl Tryz.underlying3 (fun w' h=>(GC.out w' h).2.2.2.1) (hK _ ?_)
 simp only [Act.put,zE1,zE2,zE3]
 clear hK K
 refine wpQuiet_step (fun K hK=>?_)
 refine q_val (by rfl) (some 54) rfl (.int .i64 (gb g 3+3)) (fun w' _=>by go_simp) (hK _ ?_)
 simp only [Act.put,zE1,zE2,zE3]
 clear hK K
 refine wpQuiet_step (fun K hK=>?_)
 refine q_val (by rfl) (some 55) rfl (.bool false) (fun w' _=>by go_simp) (hK _ ?_)
 simp only [Act.put,zE1,zE2,zE3]
 clear hK K
 refine wpQuiet_step (fun K hK=>?_)
 refine q_val (by rfl) (some 56) rfl (.bool false) (fun w' _=>by rfl) (hK _ ?_)
 simp only [Act.put,zE1,zE2,zE3]
 clear hK K
 refine wpQuiet_step (fun K hK=>?_)
 refine q_val (by rfl) (some 2) rfl (.bool false) (fun w' _=>by rfl) (hK _ ?_)
 simp only [Act.put,zE1,zE2,zE3]
 clear hK K
 refine wpQuiet_nil ?_
 intro w3 B3
 go_wp2
 go_ret
 exact ⟨rfl,B1.trans (B3.mono (by omega))⟩
theorem right_o (g:List Int) (hl:g.length=6) (hk:Kept g) (h16:gb g 2%16=0) (hr:rec g≤gb g 1) (hs:gb g 3+3≤gb g 0-4) (w:World):
  Calls Tryz.prog 17 #[.agg (ints .i64 g)] w fun x w'=>x=.returned (.bool true)∧Below w.heap.size w w':=by
 obtain ⟨k0,k1,k2,k3,k4,k5⟩:=id hk
 have I0:Hid (∀ w,Calls Tryz.prog 45 #[.int .i64 (gb g 0),.int .i64 7,.int .i64 64] w fun x w'=>x=.returned (.bool true)∧w'=w):=fun w=>in_yes _ _ _ w k0
 have I1:Hid (∀ w,Calls Tryz.prog 45 #[.int .i64 (gb g 1),.int .i64 4,.int .i64 32] w fun x w'=>x=.returned (.bool true)∧w'=w):=fun w=>in_yes _ _ _ w k1
 have I2:Hid (∀ w,Calls Tryz.prog 45 #[.int .i64 (gb g 2),.int .i64 32,.int .i64 4096] w fun x w'=>x=.returned (.bool true)∧w'=w):=fun w=>in_yes _ _ _ w k2
 have I3:Hid (∀ w,Calls Tryz.prog 45 #[.int .i64 (gb g 3),.int .i64 0,.int .i64 8] w fun x w'=>x=.returned (.bool true)∧w'=w):=fun w=>in_yes _ _ _ w k3
 have I4:Hid (∀ w,Calls Tryz.prog 45 #[.int .i64 (gb g 4),.int .i64 1,.int .i64 1000] w fun x w'=>x=.returned (.bool true)∧w'=w):=fun w=>in_yes _ _ _ w k4
 have I5:Hid (∀ w,Calls Tryz.prog 45 #[.int .i64 (gb g 5),.int .i64 1,.int .i64 1000] w fun x w'=>x=.returned (.bool true)∧w'=w):=fun w=>in_yes _ _ _ w k5
 have SR':Hid (∀ w,Calls Tryz.prog 46 #[.agg (ints .i64 g)] w fun x w'=>x=.returned (.int .i64 (rec g))∧Below w.heap.size w w'):=rchunks_any g hl hk
 obtain ⟨m,hm⟩:∃ m,m=gb g 2%16:=⟨_,rfl⟩
 have q1:(gb g 2).tmod 16=m:=by rw [hm];exact Int.tmod_eq_emod_of_nonneg (by omega)
 have m1:IntKind.i64.wrap m=m:=by rw [IntKind.wrap_i64];omega
 have m0:m=0:=by omega
 have q2:IntKind.i64.wrap (gb g 3+3)=gb g 3+3:=by rw [IntKind.wrap_i64];omega
 have q3:IntKind.i64.wrap (gb g 0-4)=gb g 0-4:=by rw [IntKind.wrap_i64];omega
 have t0:=tR
 clear k0 k1 k2 k3 k4 k5 hk h16 hm
 generalize rec g=z at*
 go_enter Tryz.func17,Tryz.ntmps17
 go_wp2_with (first
  |(have q6:=t6;go_at_call 45;refine (I5.out _).mono ?_;rintro e wx ⟨rfl,hw⟩;obtain rfl:=hw.symm;have t7:=tR;clear t6)
  |(have q5:=t5;go_at_call 45;refine (I4.out _).mono ?_;rintro e wx ⟨rfl,hw⟩;obtain rfl:=hw.symm;have t6:=tR;clear t5)
  |(have q4:=t4;go_at_call 45;refine (I3.out _).mono ?_;rintro e wx ⟨rfl,hw⟩;obtain rfl:=hw.symm;have t5:=tR;clear t4)
  |(have q3:=t3;go_at_call 45;refine (I2.out _).mono ?_;rintro e wx ⟨rfl,hw⟩;obtain rfl:=hw.symm;have t4:=tR;clear t3)
  |(have q2:=t2;go_at_call 45;refine (I1.out _).mono ?_;rintro e wx ⟨rfl,hw⟩;obtain rfl:=hw.symm;have t3:=tR;clear t2)
  |(have q1:=t1;go_at_call 45;refine (I0.out _).mono ?_;rintro e wx ⟨rfl,hw⟩;obtain rfl:=hw.symm;have t2:=tR;clear t1)
  |(have q0:=t0;refine box_lawF _ rfl (.tmp 0) 23 rfl .i64 g rfl ?_;intro w1 X1 B1 L1;have HX:=hdH (X1);obtain ⟨f0,f1,f2,f3,f4,f5⟩:=geo_cells X1 hl;have t1:=tR;clear X1 t0))
 have SR:Hid (∀ w',Below w1.heap.size w1 w'→Calls Tryz.prog 46 #[.agg (ints .i64 g)] w' fun x w''=>x=.returned (.int .i64 z)∧Below w1.heap.size w1 w''):=call_class SR'.out w1
 have GC:=Hid.mk' (geo_class HX.out hl)
 refine region_quietC (C:=fun w'=>Below w1.heap.size w1 w') (by kernel_rfl) (by kernel_rfl) (Below.refl _ _).drew ?_
 refine wpQuiet_step (fun K hK=>?_)
 refine q_val (by rfl) (some 37) rfl (.pointer (some ⟨w.heap.size,2,none⟩)) (fun w' _=>by go_simp) (hK _ ?_)
 simp only [Act.put,zE1,zE2,zE3]
 clear hK K
 refine wpQuiet_step (fun K hK=>?_)
 refine q_get (by rfl) (some 38) rfl (.tmp 37) 3 rfl .i64 (gb g 2) w.heap.size (2) rfl Tryz.underlying3 (fun w' h=>(GC.out w' h).2.2.1) (hK _ ?_)
 simp only [Act.put,zE1,zE2,zE3]
 clear hK K
 refine wpQuiet_step (fun K hK=>?_)
 refine q_val (by rfl) (some 39) rfl (.int .i64 m) (fun w' _=>by go_simp) (hK _ ?_)
 simp only [Act.put,zE1,zE2,zE3]
 clear hK K
 refine wpQuiet_step (fun K hK=>?_)
 refine q_val (by rfl) (some 40) rfl (.bool true) (fun w' _=>by go_simp) (hK _ ?_)
 simp only [Act.put,zE1,zE2,zE3]
 clear hK K
 refine wpQuiet_step (fun K hK=>?_)
 refine q_val (by rfl) (some 41) rfl (.bool true) (fun w' _=>by rfl) (hK _ ?_)
 simp only [Act.put,zE1,zE2,zE3]
 clear hK K
 refine wpQuiet_step (fun K hK=>?_)
 refine q_loadS (by rfl) (some 42) rfl (.tmp 1) 23 rfl (.pointer (some ⟨w.heap.size,0,none⟩)) (.agg (ints .i64 g)) rfl (fun w' h=>(GC.out w' h).2.2.2.2.2.2) (hK _ ?_)
 simp only [Act.put,zE1,zE2,zE3]
 clear hK K
 refine wpQuiet_step (fun K hK=>?_)
 refine q_call (by rfl) (some 43) rfl 46 #[.tmp 42] #[23] rfl (fun q w'=>by rfl) #[.agg (ints .i64 g)] (by simp only [List.map_toArray,List.map_cons,List.map_nil];rfl) (.int .i64 z) SR.out (hK _ ?_)
 simp only [Act.put,zE1,zE2,zE3]
 clear hK K
 refine wpQuiet_step (fun K hK=>?_)
 refine q_val (by rfl) (some 44) rfl (.pointer (some ⟨w.heap.size,1,none⟩)) (fun w' _=>by go_simp) (hK _ ?_)
 simp only [Act.put,zE1,zE2,zE3]
 clear hK K
 refine wpQuiet_step (fun K hK=>?_)
 refine q_get (by rfl) (some 45) rfl (.tmp 44) 3 rfl .i64 (gb g 1) w.heap.size (1) rfl Tryz.underlying3 (fun w' h=>(GC.out w' h).2.1) (hK _ ?_)
 simp only [Act.put,zE1,zE2,zE3]
 clear hK K
 refine wpQuiet_step (fun K hK=>?_)
 refine q_val (by rfl) (some 46) rfl (.bool true) (fun w' _=>by go_simp) (hK _ ?_)
 simp only [Act.put,zE1,zE2,zE3]
 clear hK K
 refine wpQuiet_step (fun K hK=>?_)
 refine q_val (by rfl) (some 47) rfl (.bool true) (fun w' _=>by rfl) (hK _ ?_)
 simp only [Act.put,zE1,zE2,zE3]
 clear hK K
 refine wpQuiet_step (fun K hK=>?_)
 refine q_val (by rfl) (some 48) rfl (.bool true) (fun w' _=>by rfl) (hK _ ?_)
 simp only [Act.put,zE1,zE2,zE3]
 clear hK K
 refine wpQuiet_step (fun K hK=>?_)
 refine q_val (by rfl) (some 49) rfl (.pointer (some ⟨w.heap.size,0,none⟩)) (fun w' _=>by go_simp) (hK _ ?_)
 simp only [Act.put,zE1,zE2,zE3]
 clear hK K
 refine wpQuiet_step (fun K hK=>?_)
 refine q_get (by rfl) (some 50) rfl (.tmp 49) 3 rfl .i64 (gb g 0) w.heap.size (0) rfl Tryz.underlying3 (fun w' h=>(GC.out w' h).1) (hK _ ?_)
 simp only [Act.put,zE1,zE2,zE3]
 clear hK K
 refine wpQuiet_step (fun K hK=>?_)
 refine q_val (by rfl) (some 51) rfl (.int .i64 (gb g 0-4)) (fun w' _=>by go_simp) (hK _ ?_)
 simp only [Act.put,zE1,zE2,zE3]
 clear hK K
 refine wpQuiet_step (fun K hK=>?_)
 refine q_val (by rfl) (some 52) rfl (.pointer (some ⟨w.heap.size,3,none⟩)) (fun w' _=>by go_simp) (hK _ ?_)
 simp only [Act.put,zE1,zE2,zE3]
 clear hK K
 refine wpQuiet_step (fun K hK=>?_)
 refine q_get (by rfl) (some 53) rfl (.tmp 52) 3 rfl .i64 (gb g 3) w.heap.size (3) rfl Tryz.underlying3 (fun w' h=>(GC.out w' h).2.2.2.1) (hK _ ?_)
 simp only [Act.put,zE1,zE2,zE3]
 clear hK K
 refine wpQuiet_step (fun K hK=>?_)
 refine q_val (by rfl) (some 54) rfl (.int .i64 (gb g 3+3)) (fun w' _=>by go_simp) (hK _ ?_)
 simp only [Act.put,zE1,zE2,zE3]
 clear hK K
 refine wpQuiet_step (fun K hK=>?_)
 refine q_val (by rfl) (some 55) rfl (.bool true) (fun w' _=>by go_simp) (hK _ ?_)
 simp only [Act.put,zE1,zE2,zE3]
 clear hK K
 refine wpQuiet_step (fun K hK=>?_)
 refine q_val (by rfl) (some 56) rfl (.bool true) (fun w' _=>by rfl) (hK _ ?_)
 simp only [Act.put,zE1,zE2,zE3]
 clear hK K
 refine wpQuiet_step (fun K hK=>?_)
 refine q_val (by rfl) (some 2) rfl (.bool true) (fun w' _=>by rfl) (hK _ ?_)
 simp only [Act.put,zE1,zE2,zE3]
 clear hK K
 refine wpQuiet_nil ?_
 intro w3 B3
 go_wp2
 go_ret
 exact ⟨rfl,B1.trans (B3.mono (by omega))⟩
theorem right_yes (g:List Int) (hl:g.length=6) (h:Rt g) (w:World):
  Calls Tryz.prog 17 #[.agg (ints .i64 g)] w fun x w'=>x=.returned (.bool true)∧Below w.heap.size w w':=right_o g hl h.1 h.2.1 h.2.2.1 h.2.2.2 w
theorem right_no (g:List Int) (hl:g.length=6) (h:¬Rt g) (w:World):
  Calls Tryz.prog 17 #[.agg (ints .i64 g)] w fun x w'=>x=.returned (.bool false)∧Below w.heap.size w w':=by
 by_cases k0:7≤gb g 0∧gb g 0≤64
 ·skip
  by_cases k1:4≤gb g 1∧gb g 1≤32
  ·skip
   by_cases k2:32≤gb g 2∧gb g 2≤4096
   ·skip
    by_cases k3:0≤gb g 3∧gb g 3≤8
    ·skip
     by_cases k4:1≤gb g 4∧gb g 4≤1000
     ·skip
      by_cases k5:1≤gb g 5∧gb g 5≤1000
      ·skip
       have hk:Kept g:=⟨k0,k1,k2,k3,k4,k5⟩
       by_cases h1:gb g 2%16=0
       ·by_cases h2:rec g≤gb g 1
        ·exact right_s g hl hk h1 h2 (Int.not_le.1 fun h3=>h ⟨hk,h1,h2,h3⟩) w
        ·exact right_r g hl hk h1 (Int.not_le.1 h2) w
       ·exact right_m g hl hk h1 w
      ·exact right_k5 g hl k0 k1 k2 k3 k4 k5 w
     ·exact right_k4 g hl k0 k1 k2 k3 k4 w
    ·exact right_k3 g hl k0 k1 k2 k3 w
   ·exact right_k2 g hl k0 k1 k2 w
  ·exact right_k1 g hl k0 k1 w
 ·exact right_k0 g hl k0 w
end Go.Proofs.YtmbgokmomkmgcaaGreatDoor.ge
