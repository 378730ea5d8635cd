/- Parts of the proof: what ScanBlocks reaches. No claim of its own. -/
import Derived.Lib.MakeNoZero
import Derived.Laws.AppendOwnNone
import Derived.Deep.DeepCutAuto
import Derived.ArgAppend
import Derived.WalkKit
import Derived.WalkSmall
import Derived.ProofKit
import Derived.OpenShut
import Derived.BigQuiet
import Derived.Deep.QuietTactic
import Derived.Deep.RegionHeld3
import Derived.Lib.SliceRun
import Derived.Deep.WholeRow
import Derived.Deep.MidRow
import Derived.Laws.StructEq
import Derived.OwnWalk
import Derived.Test.YtmbgokmomkmgcaaGreatDoorK00
import Derived.Test.YtmbgokmomkmgcaaGreatDoorK02
import Derived.Test.YtmbgokmomkmgcaaGreatDoorK05
import Derived.Test.YtmbgokmomkmgcaaGreatDoorK08
import Derived.Test.YtmbgokmomkmgcaaGreatDoorK09
import Derived.Test.YtmbgokmomkmgcaaGreatDoorK10
import Derived.Test.YtmbgokmomkmgcaaGreatDoorK11
import Derived.Test.YtmbgokmomkmgcaaGreatDoorK12
import Derived.Test.YtmbgokmomkmgcaaGreatDoorK13
import Derived.Test.YtmbgokmomkmgcaaGreatDoorK14
import Derived.Test.YtmbgokmomkmgcaaGreatDoorK15
import Derived.Test.YtmbgokmomkmgcaaGreatDoorK18
import Derived.Test.YtmbgokmomkmgcaaGreatDoorK19
import Derived.Test.YtmbgokmomkmgcaaGreatDoorK20
import Derived.Test.YtmbgokmomkmgcaaGreatDoorK26
set_option maxHeartbeats 8000000
namespace Go.Proofs.YtmbgokmomkmgcaaGreatDoor.na
open Go.RowKit Go.Proofs.YtmbgokmomkmgcaaGreatDoor.fa
set_option maxRecDepth 20000
section
variable {ops:Array Oper} {rest:List Oper} {a:Act} {Q:Exit→Act→World→Prop} {w:World} {d:Option Tmp} {ty:TypeId} {pos:String} {af:Array Edge} {gd:Option (Nat × Bool)}
theorem at_store {t:TypeId} {x y:Operand} (h:wpList Tryz.prog ops Q (⟨d,Op.store t x y,ty,pos,af,gd⟩ :: rest) a w):wpList Tryz.prog ops Q (⟨d,Op.store t x y,ty,pos,af,gd⟩ :: rest) a w:=h
theorem at_alloc {t:TypeId} (h:wpList Tryz.prog ops Q (⟨d,Op.alloc t,ty,pos,af,gd⟩ :: rest) a w):wpList Tryz.prog ops Q (⟨d,Op.alloc t,ty,pos,af,gd⟩ :: rest) a w:=h
end
set_option linter.unusedVariables false in
theorem rpg_twc_m:
  (∀ (N P:Nat) (g2 g3 g4 g5:Int) (bq:Option Addr) (bc:Nat) (po:Option Addr) (pn pc:Nat) (S:Nat) (hs:Shp [(N:Int),(P:Int),g2,g3,g4,g5] N P S) (n b p:Nat) (hb:b<N) (hp:p<P) (gv uv:Nat→Value) (l:Nat→Int) (s:Nat→Bool) (e:Nat→Int) (pg:Nat→Nat→List Int) (us:Nat→Nat→Int) (vq:Option Addr) (vc:Nat) (w:World) (hR:Rws w (.slice bq N bc) 5 (bks N gv uv l s e)) (hB:∀ b,b<N→Blk w (gv b) (uv b) P (pg b) (us b)) (h7:s b=false) (h2:2≤us b p),Calls Tryz.prog 55 #[.agg (chr [(N:Int),(P:Int),g2,g3,g4,g5] (.slice bq N bc) (.slice po pn pc) false (n:Int)).toArray,.agg (ints .i64 [(b:Int),(p:Int)]),.slice vq S vc] w fun x w'=>x=.returned (.tuple #[.agg (chr [(N:Int),(P:Int),g2,g3,g4,g5] (.slice bq N bc) (.slice po pn pc) false (n:Int)).toArray,.int .i64 7])∧Below w.heap.size w w')∧
  (∀ (N P:Nat) (g2 g3 g4 g5:Int) (bq:Option Addr) (bc:Nat) (po:Option Addr) (pn pc:Nat) (S:Nat) (hs:Shp [(N:Int),(P:Int),g2,g3,g4,g5] N P S) (n b p:Nat) (hb:b<N) (hp:p<P) (gv uv:Nat→Value) (l:Nat→Int) (s:Nat→Bool) (e:Nat→Int) (pg:Nat→Nat→List Int) (us:Nat→Nat→Int) (vq:Option Addr) (vc:Nat) (w:World) (hR:Rws w (.slice bq N bc) 5 (bks N gv uv l s e)) (hB:∀ b,b<N→Blk w (gv b) (uv b) P (pg b) (us b)) (h7:s b=false) (h2:us b p=0) (h3:(p:Int)≤l b),Calls Tryz.prog 55 #[.agg (chr [(N:Int),(P:Int),g2,g3,g4,g5] (.slice bq N bc) (.slice po pn pc) false (n:Int)).toArray,.agg (ints .i64 [(b:Int),(p:Int)]),.slice vq S vc] w fun x w'=>x=.returned (.tuple #[.agg (chr [(N:Int),(P:Int),g2,g3,g4,g5] (.slice bq N bc) (.slice po pn pc) false (n:Int)).toArray,.int .i64 6])∧Below w.heap.size w w'):=by
 refine ⟨?c0,?c1⟩
 case' c0=>intro N P g2 g3 g4 g5 bq bc po pn pc S hs n b p hb hp gv uv l s e pg us vq vc w hR hB h7 h2;have mA:=tR
 case' c1=>intro N P g2 g3 g4 g5 bq bc po pn pc S hs n b p hb hp gv uv l s e pg us vq vc w hR hB h7 h2 h3;have mB:=tR
 all_goals
  have HQS:IntKind.i64.wrap (g2+88)=(S:Int):=by
   obtain ⟨gl,hr,z0,z1,z2⟩:=hs
   obtain ⟨k1,k2,k3, -⟩:=hr.1
   have e1:gb [(N:Int),(P:Int),g2,g3,g4,g5] 2=g2:=rfl
   rw [IntKind.wrap_i64];omega
  have b0:(0 :Int)≤(b:Int):=by omega
  have b1:(b:Int)<(N:Int):=by omega
  have p0:(0 :Int)≤(p:Int):=by omega
  have p1:(p:Int)<(P:Int):=by omega
  have SR:Hid (∀ w,Calls Tryz.prog 91 #[.agg (ints .i64 [(N:Int),(P:Int),g2,g3,g4,g5]),.agg (ints .i64 [(b:Int),(p:Int)])] w fun e w'=>e=.returned (.bool true)∧Below w.heap.size w w'):=fun w=>by
   have z:=place_any [(N:Int),(P:Int),g2,g3,g4,g5] N P S hs b p w
   rw [show decide (0≤(b:Int)∧(b:Int)<(N:Int)∧0≤(p:Int)∧(p:Int)<(P:Int))=true from decide_eq_true ⟨b0,b1,p0,p1⟩] at z
   exact z
  obtain ⟨⟨xv,hx1,hx2⟩,hy1⟩:=hB b hb
  obtain ⟨xq,xc,hx⟩:=rws_form hx1 (pgc_len P xv)
  obtain ⟨yq,yc,hy⟩:=rws_form hy1 (usc_len P (us b))
  rw [hx] at hx1
  rw [hy] at hy1
  obtain ⟨xb,xo,hxq,hcx⟩:=hx1.at (t:=p) (by rw [pgc_len];exact hp)
  obtain ⟨yb,yo,hyq,hcy⟩:=hy1.at (t:=p) (by rw [usc_len];exact hp)
  subst hxq
  subst hyq
  rw [pgc_el P xv p hp] at hcx
  rw [usc_el P (us b) p hp] at hcy
  have CX:Hid (∀ w',Below w.heap.size w w'→w'.cell? ⟨xb,xo+p,none⟩=some (xv p)):=fun w' h=>by
   have z:=hcx 0 _ rfl
   rw [Nat.mul_one,Nat.add_zero] at z
   rw [h.cell (World.block_lt_of_cell? w _ z)];exact z
  have CY:Hid (∀ w',Below w.heap.size w w'→w'.cell? ⟨yb,yo+p,none⟩=some (.int .i64 (us b p))):=fun w' h=>by
   have z:=hcy 0 _ rfl
   rw [Nat.mul_one,Nat.add_zero] at z
   rw [h.cell (World.block_lt_of_cell? w _ z)];exact z
  have hc9:=hR.at (t:=b) (by rw [bks_len];exact hb)
  obtain ⟨bb,off,hbq,hc⟩:=hc9
  subst hbq
  rw [bks_el N gv uv l s e b hb,hx,hy] at hc
  have HC0:Hid (∀ w',Below w.heap.size w w'→w'.rangeAt bb (off+b*5) (bkc (.slice (some ⟨xb,xo,none⟩) P xc) (.slice (some ⟨yb,yo,none⟩) P yc) (l b) (s b) (e b))):=fun w' h=>range_heap hc (h.block bb (range_lt hc (by simp [bkc])))
  first
   |have m9:=mB
    rw [h2] at CY
   |have h2a:us b p≥2:=h2
  have H7:=hdH (h7)
  clear h7
  clear hs hR hB hc hx1 hx2 hy1 hcx hcy CX
  have t0:=tR
  go_enter Tryz.func55,Tryz.ntmps55
  go_wp2_with (first
   |(have q6:=t6;(with_reducible refine at_store ?_);refine store_lawC _ (chr [(N:Int),(P:Int),g2,g3,g4,g5] (.slice (some ⟨bb,off,none⟩) N bc) (.slice po pn pc) false (n:Int)) w2.heap.size 0 rfl rfl HC.out.2 rowy_chipR.2 (fun v hv=>by simp [chr] at hv;rcases hv with rfl | rfl | rfl | rfl | rfl | rfl | rfl | rfl | rfl | rfl <;> rfl) ?_;intro w9 E9 R9 T9 B9;have HR3:=hdH (R9);have BB:=hdH (BB.out.trans (B9.mono (by have:=HL.out;omega)));clear E9 R9 T9 B9 t6)
   |(have q5:=t5;(with_reducible refine at_store ?_);refine store_lawC _ (bkc (.slice (some ⟨xb,xo,none⟩) P xc) (.slice (some ⟨yb,yo,none⟩) P yc) (l b) (s b) (e b)) w4.heap.size 0 rfl rfl HX0.out.2 rowy_blk.2 (fun v hv=>by simp [bkc] at hv;rcases hv with rfl | rfl | rfl | rfl | rfl <;> rfl) ?_;intro w6 E6 R6 T6 B6;have HX:Hid (Vr w6 w4.heap.size (bkc (.slice (some ⟨xb,xo,none⟩) P xc) (.slice (some ⟨yb,yo,none⟩) P yc) (l b) (s b) (e b))):=⟨R6,T6⟩;have HA:=hdH (HA.out.below B6 (by have:=HL.out;omega));have HC:=hdH (HC.out.below B6 (by have:=HL.out;omega));have HP:=hdH (HP.out.below B6 (by have:=HL.out;omega));have BB:=hdH (BB.out.trans (B6.mono (by have:=HL.out;omega)));have l6:w4.heap.size<w6.heap.size:=Nat.lt_of_lt_of_le l5 B6.size;have r0:=HA.out.cell 0 _ rfl;have r1:=HA.out.cell 1 _ rfl;have r2:=HA.out.cell 2 _ rfl;have r3:=HA.out.cell 3 _ rfl;have r4:=HA.out.cell 4 _ rfl;have r5:=HA.out.cell 5 _ rfl;have r6:=HA.out.cell 6 _ rfl;have r7:=HA.out.cell 7 _ rfl;have r8:=HA.out.cell 8 _ rfl;have r9:=HA.out.cell 9 _ rfl;have u0:w6.cell? ⟨w1.heap.size,0,none⟩=some (.int .i64 (b:Int)):=HP.out.cell0 0 (by simp);have u1:w6.cell? ⟨w1.heap.size,1,none⟩=some (.int .i64 (p:Int)):=HP.out.cell0 1 (by simp);have x0:=HX.out.cell 0 _ rfl;have x1:=HX.out.cell 1 _ rfl;have x2:=HX.out.cell 2 _ rfl;have x3:=HX.out.cell 3 _ rfl;have x4:=HX.out.cell 4 _ rfl;have cy:=CY.out w6 BB.out;have h7:=H7.out;clear E6 R6 T6 B6 t5;have t6:=tR)
   |(have q4:=t4;(with_reducible refine at_alloc ?_);refine new_lawC _ _ zero_blk ?_;intro w5 V5 B5 l5;have HX0:=hdH (V5);have HA:=hdH (HA.out.below B5 (range_lt HA.out.1 (by simp [chr])));have HC:=hdH (HC.out.below B5 (range_lt HC.out.1 (by simp)));have HP:=hdH (HP.out.below B5 (HP.out.lt (by simp)));have BB:=hdH (BB.out.trans (B5.mono BB.out.size));clear d0 d1 d2 d3 d4;clear r0 r1 r2 r3 r4 r5 r6 r7 r8 r9;clear u0 u1 V5 B5 t4;have t5:=tR)
   |(have q3:=t3;go_at_call 91;refine (SR.out _).mono ?_;rintro e9 w4 ⟨rfl,B4⟩;have HC:=hdH (HC.out.below B4 (range_lt HC.out.1 (by simp)));have HA:=hdH (HA.out.below B4 (range_lt HA.out.1 (by simp [chr])));have HP:=hdH (HP.out.below B4 (HP.out.lt (by simp)));have BB:=hdH (BB.out.trans (B4.mono BB.out.size));have HL:Hid (w.heap.size<w1.heap.size∧w1.heap.size<w2.heap.size∧w2.heap.size<w4.heap.size):=⟨l1,l2,Nat.lt_of_lt_of_le l3 B4.size⟩;clear r0 r1 r2 r3 r4 r5 r6 r7 r8 r9;clear u0 u1;have r0:=HA.out.cell 0 _ rfl;have r1:=HA.out.cell 1 _ rfl;have r2:=HA.out.cell 2 _ rfl;have r3:=HA.out.cell 3 _ rfl;have r4:=HA.out.cell 4 _ rfl;have r5:=HA.out.cell 5 _ rfl;have r6:=HA.out.cell 6 _ rfl;have r7:=HA.out.cell 7 _ rfl;have r8:=HA.out.cell 8 _ rfl;have r9:=HA.out.cell 9 _ rfl;have u0:w4.cell? ⟨w1.heap.size,0,none⟩=some (.int .i64 (b:Int)):=HP.out.cell0 0 (by simp);have u1:w4.cell? ⟨w1.heap.size,1,none⟩=some (.int .i64 (p:Int)):=HP.out.cell0 1 (by simp);have hcc:=HC0.out w4 BB.out;have d0:=hcc 0 _ rfl;rw [Nat.add_zero] at d0;have d1:=hcc 1 _ rfl;have d2:=hcc 2 _ rfl;have d3:=hcc 3 _ rfl;have d4:=hcc 4 _ rfl;clear hcc B4 t3;have t4:=tR)
   |(have q2:=t2;(with_reducible refine at_alloc ?_);refine new_lawC _ _ zero_chr ?_;intro w3 V3 B3 l3;have HC:=hdH (V3);have HA:=hdH (HA.out.below B3 (range_lt HA.out.1 (by simp [chr])));have HP:=hdH (HP.out.below B3 (HP.out.lt (by simp)));have BB:=hdH (BB.out.trans (B3.mono BB.out.size));have r0:=HA.out.cell 0 _ rfl;have r1:=HA.out.cell 1 _ rfl;have r2:=HA.out.cell 2 _ rfl;have r3:=HA.out.cell 3 _ rfl;have r4:=HA.out.cell 4 _ rfl;have r5:=HA.out.cell 5 _ rfl;have r6:=HA.out.cell 6 _ rfl;have r7:=HA.out.cell 7 _ rfl;have r8:=HA.out.cell 8 _ rfl;have r9:=HA.out.cell 9 _ rfl;have u0:w3.cell? ⟨w1.heap.size,0,none⟩=some (.int .i64 (b:Int)):=HP.out.cell0 0 (by simp);have u1:w3.cell? ⟨w1.heap.size,1,none⟩=some (.int .i64 (p:Int)):=HP.out.cell0 1 (by simp);clear V3 B3 t2;have t3:=tR)
   |(have q1:=t1;refine box_lawF _ rfl (.tmp 1) 78 rfl .i64 [(b:Int),(p:Int)] rfl ?_;intro w2 X2 B2 l2;have HP:=hdH (X2);have HA:=hdH (HA.out.below B2 (range_lt HA.out.1 (by simp [chr])));have BB:=hdH (BB.out.trans (B2.mono BB.out.size));clear X2 B2 t1;have t2:=tR)
   |(have q0:=t0;refine box_lawC _ (chr [(N:Int),(P:Int),g2,g3,g4,g5] (.slice (some ⟨bb,off,none⟩) N bc) (.slice po pn pc) false (n:Int)) rfl ?_;intro w1 V1 B1 l1;have HA:=hdH (V1);have BB:=hdH (B1);clear V1 B1 t0;have t1:=tR))
  first
   |have m9:=mA
    exact bodyPost_ret (v:=.tuple #[.agg (chr [(N:Int),(P:Int),g2,g3,g4,g5] (.slice (some ⟨bb,off,none⟩) N bc) (.slice po pn pc) false (n:Int)).toArray,.int .i64 7]) (results_cv rfl _ _ w2.heap.size _ _ rowy_chipR rfl rfl HR3.out) rfl ⟨rfl,BB.out⟩
   |exact bodyPost_ret (v:=.tuple #[.agg (chr [(N:Int),(P:Int),g2,g3,g4,g5] (.slice (some ⟨bb,off,none⟩) N bc) (.slice po pn pc) false (n:Int)).toArray,.int .i64 6]) (results_cv rfl _ _ w2.heap.size _ _ rowy_chipR rfl rfl HR3.out) rfl ⟨rfl,BB.out⟩
end Go.Proofs.YtmbgokmomkmgcaaGreatDoor.na
