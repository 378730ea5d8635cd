/- Parts of the proof: what ScanBlocks reaches. No claim of its own. -/
import Derived.Lib.MakeNoZero
import Derived.Laws.AppendOwnNone
import Derived.Deep.DeepCutAuto
import Derived.ArgAppend
import Derived.WalkKit
import Derived.WalkSmall
import Derived.ProofKit
import Derived.OpenShut
import Derived.BigQuiet
import Derived.Deep.QuietTactic
import Derived.Deep.RegionHeld3
import Derived.Lib.SliceRun
import Derived.Deep.WholeRow
import Derived.Deep.MidRow
import Derived.Laws.StructEq
import Derived.OwnWalk
import Derived.Test.YtmbgokmomkmgcaaGreatDoorK00
import Derived.Test.YtmbgokmomkmgcaaGreatDoorK02
import Derived.Test.YtmbgokmomkmgcaaGreatDoorK05
import Derived.Test.YtmbgokmomkmgcaaGreatDoorK08
import Derived.Test.YtmbgokmomkmgcaaGreatDoorK09
import Derived.Test.YtmbgokmomkmgcaaGreatDoorK10
import Derived.Test.YtmbgokmomkmgcaaGreatDoorK11
import Derived.Test.YtmbgokmomkmgcaaGreatDoorK12
import Derived.Test.YtmbgokmomkmgcaaGreatDoorK13
import Derived.Test.YtmbgokmomkmgcaaGreatDoorK14
import Derived.Test.YtmbgokmomkmgcaaGreatDoorK15
import Derived.Test.YtmbgokmomkmgcaaGreatDoorK18
import Derived.Test.YtmbgokmomkmgcaaGreatDoorK19
import Derived.Test.YtmbgokmomkmgcaaGreatDoorK20
set_option maxHeartbeats 8000000
namespace Go.Proofs.YtmbgokmomkmgcaaGreatDoor.na
open Go.RowKit Go.Proofs.YtmbgokmomkmgcaaGreatDoor.fa
set_option maxRecDepth 20000
def Rnw (w:World) (h3 B k P S:Nat) (g:List Int) (pv bv:Value):Prop:=Vr w h3 (chr g bv pv false 0)∧(∃ gv uv:Nat→Value,OwR B w bv 72 5 (bks k gv uv (fun _=>(-1 :Int)) (fun _=>false) (fun _=>(0 :Int)))∧∀ b,b<k→BlkO B w (gv b) (uv b) P (fun _=>List.replicate S 255) (fun _=>0))∧h3<B∧B≤w.heap.size
theorem Rnw.low {w w':World} {h3 B k P S:Nat} {g:List Int} {pv bv:Value} (h:Rnw w h3 B k P S g pv bv) (hb:Below w.heap.size w w'):Rnw w' h3 B k P S g pv bv:=by
 obtain ⟨c1,⟨gv,uv,c2,c3⟩,c5,c6⟩:=h
 exact ⟨c1.below hb (range_lt c1.1 (by simp [chr])),⟨gv,uv,c2.low hb,fun b hb'=>(c3 b hb').low hb⟩,c5,Nat.le_trans c6 hb.size⟩
theorem build_blk (gv uv:Value) (l:Int) (s:Bool) (e:Int) (w:World):(Instr.buildSlice 35 1 #[(0,.agg (bkc gv uv l s e).toArray)]).run Tryz.prog w=.ok (.slice (some ⟨w.heap.size,0,none⟩) 1 1) (w.alloc (.cells (bkc gv uv l s e).toArray 72)):=by kernel_rfl
theorem bks_congr {N:Nat} {gv uv gv' uv':Nat→Value} {l l':Nat→Int} {s s':Nat→Bool} {e e':Nat→Int} (h1:∀ b,b<N→gv b=gv' b) (h2:∀ b,b<N→uv b=uv' b) (h3:∀ b,b<N→l b=l' b) (h4:∀ b,b<N→s b=s' b) (h5:∀ b,b<N→e b=e' b):bks N gv uv l s e=bks N gv' uv' l' s' e':=by
 unfold bks
 exact List.map_congr_left fun b hb=>by rw [h1 b (List.mem_range.1 hb),h2 b (List.mem_range.1 hb),h3 b (List.mem_range.1 hb),h4 b (List.mem_range.1 hb),h5 b (List.mem_range.1 hb)]
theorem BlkO.kept {w w':World} {B h:Nat} {gv uv:Value} {P:Nat} {pg:Nat→List Int} {us:Nat→Int} (hb:BlkO B w gv uv P pg us) (hg:w.grownBy w' (some h)) (hh:h<B):BlkO B w' gv uv P pg us:=by
 obtain ⟨⟨xv,a1,a2⟩,a3⟩:=hb
 exact ⟨⟨xv,a1.kept hg (own_ne fun kk hkk=>by have:=(a1.1.lt kk hkk).1;omega),fun p hp=>World.ownsRow.kept (a2 p hp) hg (own_ne fun kk hkk=>by have:=(World.ownsRow.lt (a2 p hp) kk hkk).1;omega)⟩,a3.kept hg (own_ne fun kk hkk=>by have:=(a3.1.lt kk hkk).1;omega)⟩
theorem bkc_one {gv uv:Value} (l:Int) (s:Bool) (e:Int) (h1:gv.oneCell'=true) (h2:uv.oneCell'=true):∀ v ∈ bkc gv uv l s e,v.oneCell'=true:=fun v hv=>by
 simp [bkc] at hv
 rcases hv with rfl | rfl | rfl | rfl | rfl
 ·exact h1
 ·exact h2
 all_goals rfl
theorem BlkO.one {B:Nat} {w:World} {gv uv:Value} {P:Nat} {pg:Nat→List Int} {us:Nat→Int} (h:BlkO B w gv uv P pg us):gv.oneCell'=true∧uv.oneCell'=true:=by
 obtain ⟨⟨xv,a1, -⟩,a3⟩:=h
 exact ⟨own_one (a1.base (Nat.zero_le _)),own_one (a3.base (Nat.zero_le _))⟩
theorem rnew_any (N P S:Nat) (g2 g3 g4 g5:Int) (hs:Shp [(N:Int),(P:Int),g2,g3,g4,g5] N P S) (po:Option Addr) (pn pc:Nat) (w:World):
  Calls Tryz.prog 21 #[.agg (ints .i64 [(N:Int),(P:Int),g2,g3,g4,g5]),(.slice po pn pc)] w fun e w'=>∃ bv,e=.returned (.agg (chr [(N:Int),(P:Int),g2,g3,g4,g5] bv (.slice po pn pc) false 0).toArray)∧(∃ gv uv:Nat→Value,OwR w.heap.size w' bv 72 5 (bks N gv uv (fun _=>(-1 :Int)) (fun _=>false) (fun _=>(0 :Int)))∧∀ b,b<N→BlkO w.heap.size w' (gv b) (uv b) P (fun _=>List.replicate S 255) (fun _=>0))∧Below w.heap.size w w':=by
 have HNM:Hid (N≤64):=by
  obtain ⟨gl,hr,g0,g1,g2⟩:=hs
  obtain ⟨k1, -⟩:=hr.1
  show N≤64
  omega
 have SB:Hid (∀ w,Calls Tryz.prog 52 #[.agg (ints .i64 [(N:Int),(P:Int),g2,g3,g4,g5])] w fun e w'=>∃ gv uv,e=.returned (.agg (bkc gv uv (-1) false 0).toArray)∧BlkO w.heap.size w' gv uv P (fun _=>List.replicate S 255) (fun _=>0)∧Below w.heap.size w w'):=fun w=>blank_any [(N:Int),(P:Int),g2,g3,g4,g5] N P S hs w
 have hg:([(N:Int),(P:Int),g2,g3,g4,g5]:List Int).length =6:=rfl
 have hN64:N≤64:=HNM.out
 clear hs
 have t0:=tR
 go_enter Tryz.func21,Tryz.ntmps21
 go_wp2_with (first
  |(have q4:=t4;refine store_lawC _ (chr [(N:Int),(P:Int),g2,g3,g4,g5] (.slice none 0 0) (.slice po pn pc) false 0) w2.heap.size 0 rfl rfl HV3.out.2 rowy_chipR.2 (fun v hv=>by simp [chr] at hv;rcases hv with rfl | rfl | rfl | rfl | rfl | rfl | rfl | rfl | rfl | rfl <;> rfl) ?_;intro w4 E4 R4 T4 B4;have HV4:Hid (Vr w4 w2.heap.size (chr [(N:Int),(P:Int),g2,g3,g4,g5] (.slice none 0 0) (.slice po pn pc) false 0)):=⟨R4,T4⟩;have HV2:=hdH (HV2.out.below B4 l2);have HP:=hdH (HP.out.below B4 (Nat.lt_trans l1 l2));have BB:=hdH (BB.out.trans (B4.mono (by omega)));have l4:w2.heap.size<w4.heap.size:=Nat.lt_of_lt_of_le l3 B4.size;clear R4 T4 E4 B4 t4;have t5:=tR)
  |(have q3:=t3;refine new_lawC _ _ zero_chr ?_;intro w3 V3 B3 l3;have HV3:=hdH (V3);have HV2:=hdH (HV2.out.below B3 l2);have HP:=hdH (HP.out.below B3 (Nat.lt_trans l1 l2));have BB:=hdH (BB.out.trans (B3.mono (by omega)));clear V3 B3 t3 c0 c1 c2 c3 c4 c5;have t4:=tR)
  |(have q1:=t1;refine new_lawC _ _ zero_chr ?_;intro w2 V2 B2 l2;have HV2:=hdH (V2);have HP:=hdH (HP.out.below B2 l1);have BB:=hdH (BB.out.trans (B2.mono (by omega)));have c0:w2.cell? ⟨w.heap.size,0,none⟩=some (.int .i64 (N:Int)):=HP.out.cell0 0 (by simp);have c1:w2.cell? ⟨w.heap.size,1,none⟩=some (.int .i64 (P:Int)):=HP.out.cell0 1 (by simp);have c2:w2.cell? ⟨w.heap.size,2,none⟩=some (.int .i64 g2):=HP.out.cell0 2 (by simp);have c3:w2.cell? ⟨w.heap.size,3,none⟩=some (.int .i64 g3):=HP.out.cell0 3 (by simp);have c4:w2.cell? ⟨w.heap.size,4,none⟩=some (.int .i64 g4):=HP.out.cell0 4 (by simp);have c5:w2.cell? ⟨w.heap.size,5,none⟩=some (.int .i64 g5):=HP.out.cell0 5 (by simp);clear V2 B2 t1;have t3:=tR)
  |(have q0:=t0;refine box_lawF _ rfl (.tmp 0) 23 rfl .i64 [(N:Int),(P:Int),g2,g3,g4,g5] rfl ?_;intro w1 X1 B1 l1;have HP:=hdH (X1);have BB:=hdH (B1);clear X1 B1 t0;have t1:=tR))
 obtain ⟨h1,e1⟩:∃ x,x=w.heap.size:=⟨_,rfl⟩
 obtain ⟨h2,e2⟩:∃ x,x=w1.heap.size:=⟨_,rfl⟩
 obtain ⟨h3,e3⟩:∃ x,x=w2.heap.size:=⟨_,rfl⟩
 obtain ⟨B,hB⟩:∃ x,x=w4.heap.size:=⟨_,rfl⟩
 have HO:Hid (h1=w.heap.size∧h1<h2∧h2<h3∧h3<B):=⟨e1,by omega,by omega,by omega⟩
 rw [←e1] at HP
 rw [←e2] at HV2
 rw [←e3] at HV4
 have HI:Hid (∃ bv,Rnw w4 h3 B 0 P S [(N:Int),(P:Int),g2,g3,g4,g5] (.slice po pn pc) bv):=⟨_,HV4.out,⟨fun _=>.slice none 0 0,fun _=>.slice none 0 0,OwR.nil _ _ _ _,fun b hb=>by omega⟩,by omega,by omega⟩
 rw [←e1,←e2,←e3]
 clear e1 e2 e3 hB l1 l2 l3 l4 HV4 HV3
 go_loopw [6] (fun i wr=>∃ k:Nat,k≤N∧i=.int .i64 k∧Hid (∃ bv,Rnw wr h3 B k P S [(N:Int),(P:Int),g2,g3,g4,g5] (.slice po pn pc) bv)∧Hid (Ar wr h1 0 .i64 [(N:Int),(P:Int),g2,g3,g4,g5]∧Vr wr h2 [.int .i64 0,.int .i64 0,.int .i64 0,.int .i64 0,.int .i64 0,.int .i64 0,.slice none 0 0,.slice none 0 0,.bool false,.int .i64 0])∧Hid (Below w.heap.size w wr)) (fun i _=>N-(intOf i).toNat)
 case atStart=>exact ⟨0,Nat.zero_le _,rfl,HI,⟨HP.out,HV2.out⟩,BB⟩
 case round=>
  obtain ⟨k,hk,rfl,HX,HY,HBe⟩:=hrel
  obtain ⟨wa,rfl⟩:∃ x,x=wr:=⟨_,rfl⟩
  clear HI HP HV2 BB
  have k0:(0 :Int)≤(k:Int):=by omega
  have fg1:wa.cell? ⟨h1,0,none⟩=some (.int .i64 (N:Int)):=HY.out.1.cell0 0 (by simp)
  obtain ⟨bv,b1,b2,b4,b5⟩:=HX.out
  obtain ⟨bq,bc,rfl⟩:∃ bq bc,bv=.slice bq k bc:=by
   obtain ⟨gv,uv,z1, -⟩:=b2
   exact rws_form z1.rws (bks_len k _ _ _ _ _)
  have HB:Hid (Rnw wa h3 B k P S [(N:Int),(P:Int),g2,g3,g4,g5] (.slice po pn pc) (.slice bq k bc)):=⟨b1,b2,b4,b5⟩
  clear HX b1 b2 b4 b5
  by_cases hlt:k<N
  ·have k1:(k:Int)<(N:Int):=by omega
   go_wp2
   have HB:Hid (Rnw wa.drew h3 B k P S [(N:Int),(P:Int),g2,g3,g4,g5] (.slice po pn pc) (.slice bq k bc)):=HB.out.low (Below.refl _ _).drew
   have HY2:Hid (Vr wa.drew h2 [.int .i64 0,.int .i64 0,.int .i64 0,.int .i64 0,.int .i64 0,.int .i64 0,.slice none 0 0,.slice none 0 0,.bool false,.int .i64 0]):=HY.out.2.heap rfl
   have HBe:Hid (Below w.heap.size w wa.drew):=HBe.out.drew
   refine wp_region_held_drew (S:=fun w'=>Ar w' h1 0 .i64 [(N:Int),(P:Int),g2,g3,g4,g5]) (by kernel_rfl) (HY.out.1.drewN 1) (fun hS=>?_)
   obtain ⟨x1,hx0⟩:∃ x,x=wa.drew:=⟨_,rfl⟩
   rw [←hx0] at hS HB HY2 HBe ⊢
   clear hx0
   refine tkH 0 (some 16) (.pointer (some ⟨h3,6,none⟩)) rfl rfl (Or.inl ⟨by rfl,fun w' hw'=>by go_simp⟩) hS ?_
   simp only [Act.put,zE1,zE2,zE3]
   refine tkH 2 (some 18) (.agg (ints .i64 [(N:Int),(P:Int),g2,g3,g4,g5])) rfl rfl (Or.inl ⟨by rfl,fun w' hw'=>by exact exec_loadN 23 (.tmp 2) rfl _ rfl _ _ (ld_geo hg hw'.1)⟩) hS ?_
   simp only [Act.put,zE1,zE2,zE3]
   refine wpAnyH_ready (rs:=[1,3]) (by kernel_rfl) (by simp) ?_
   refine AllReadyH.cons rfl (fun K hK=>?_) (AllReadyH.cons rfl (fun K hK=>?_) AllReadyH.nil)
   ·refine step_load _ rfl (some 17) rfl (.tmp 16) 35 rfl _ (.slice bq k bc) rfl (load_one one_blks (HB.out.1.cell 6 _ rfl)) ?_
    refine hK.out _ _ hS (fun _=>?_)
    simp only [Act.put,zE1,zE2,zE3]
    clear hK K
    refine wpAnyH_ready (rs:=[3]) (by kernel_rfl) (by simp) ?_
    refine AllReadyH.cons rfl (fun K hK=>?_) AllReadyH.nil
    refine ge.step_callW _ (by rfl) (some 19) rfl 52 #[.tmp 18] #[23] rfl (fun q w'=>by rfl) #[.agg (ints .i64 [(N:Int),(P:Int),g2,g3,g4,g5])] (by simp only [List.map_toArray,List.map_cons,List.map_nil];rfl) (fun v w'=>∃ gv uv,v=.agg (bkc gv uv (-1) false 0).toArray ∧BlkO x1.heap.size w' gv uv P (fun _=>List.replicate S 255) (fun _=>0)∧Below x1.heap.size x1 w') ?_ ?_
    ·refine (SB.out x1).mono ?_
     rintro e w' ⟨gv,uv,rfl,h1,h2⟩
     exact ⟨_,rfl,gv,uv,rfl,h1,h2⟩
    rintro v9 x2 ⟨gv9,uv9,rfl,y9,hb9⟩
    have z9:=HB.out.2.2.2
    have HB:=hdH (HB.out.low hb9)
    have HY2:=hdH (HY2.out.below hb9 (range_lt HY2.out.1 (by simp)))
    have HBe:=hdH (HBe.out.trans (hb9.mono HBe.out.size))
    have hS:Ar x2 h1 0 .i64 [(N:Int),(P:Int),g2,g3,g4,g5]:=hS.below hb9 (hS.lt (by simp))
    have HPG:Hid (BlkO B x2 gv9 uv9 P (fun _=>List.replicate S 255) (fun _=>0)):=y9.base z9
    clear y9 hb9 z9
    refine hK.out _ _ hS (fun _=>?_)
    simp only [Act.put,zE1,zE2,zE3]
    clear hK K
    refine wpAnyH_ready (rs:=[4]) (by kernel_rfl) (by simp) ?_
    refine AllReadyH.cons rfl (fun K hK=>?_) AllReadyH.nil
    refine step_one _ rfl (some 20) rfl (.tmp 19) 35 72 rfl (bkc gv9 uv9 (-1) false 0) rfl (fun w=>build_blk _ _ _ _ _ w) ?_
    intro x3 r9 hb9
    obtain ⟨h9,e9⟩:∃ x,x=x2.heap.size:=⟨_,rfl⟩
    rw [←e9] at r9 ⊢
    have HB:=hdH (HB.out.low hb9)
    have HY2:=hdH (HY2.out.below hb9 (range_lt HY2.out.1 (by simp)))
    have HBe:=hdH (HBe.out.trans (hb9.mono HBe.out.size))
    have hS:Ar x3 h1 0 .i64 [(N:Int),(P:Int),g2,g3,g4,g5]:=hS.below hb9 (hS.lt (by simp))
    have HPG:=hdH (HPG.out.low hb9)
    have RW:=hdH (r9)
    clear r9 hb9 e9
    refine hK.out _ _ hS (fun _=>?_)
    simp only [Act.put,zE1,zE2,zE3]
    clear hK K
    refine wpAnyH_ready (rs:=[5]) (by kernel_rfl) (by simp) ?_
    refine AllReadyH.cons rfl (fun K hK=>?_) AllReadyH.nil
    obtain ⟨c1,⟨gv,uv,c2,c3⟩,c5,c6⟩:=HB.out
    refine step_appT _ rfl (some 21) rfl (.tmp 17) (.tmp 20) 35 72 rfl Tryz.underlying35 _ 5 72 info_blk rfl (by omega) _ _ (bks k gv uv (fun _=>(-1 :Int)) (fun _=>false) (fun _=>(0 :Int))) [bkc gv9 uv9 (-1) false 0] rfl rfl (c2.base (Nat.zero_le _)) RW.out (fun u hu=>bkc_one (-1) false 0 HPG.out.one.1 HPG.out.one.2 u (by simpa using hu)) (by rw [bks_len];simp;omega) (by rw [bks_len];simp;omega) (by simp) ?_
    intro bv9 x4 o9 g9 f9
    have o9':=owr_up c2 o9 c6 f9
    have hgo:∀ kk,(Value.slice bq k bc).ownBlock =some kk→B≤kk:=fun kk hkk=>(c2.1.lt kk hkk).1
    have hne3:∀ x,x<B→some x≠(Value.slice bq k bc).ownBlock :=fun x hx e=>by have:=hgo x e.symm;omega
    have HG9:Hid ((∃ gv uv:Nat→Value,OwR B x4 bv9 72 5 (bks (k+1) gv uv (fun _=>(-1 :Int)) (fun _=>false) (fun _=>(0 :Int)))∧∀ b,b<k+1→BlkO B x4 (gv b) (uv b) P (fun _=>List.replicate S 255) (fun _=>0))∧Vr x4 h3 (chr [(N:Int),(P:Int),g2,g3,g4,g5] (.slice bq k bc) (.slice po pn pc) false 0)∧B≤x4.heap.size):=by
     refine ⟨⟨at1 gv k gv9,at1 uv k uv9,?_,fun b hb=>?_⟩,c1.kept g9 (range_lt c1.1 (by simp [chr])) (hne3 h3 c5),Nat.le_trans c6 g9.size⟩
     ·rw [bks_succ,at1_same,at1_same,bks_congr (fun b hb=>at1_other gv k _ b (by omega)) (fun b hb=>at1_other uv k _ b (by omega)) (fun _ _=>rfl) (fun _ _=>rfl) (fun _ _=>rfl)]
      exact o9'
     ·by_cases e:b=k
      ·subst e
       rw [at1_same,at1_same]
       exact HPG.out.ap c2.1 (by decide) (by decide) (by decide) g9
      ·rw [at1_other gv k _ b e,at1_other uv k _ b e]
       exact (c3 b (by omega)).ap c2.1 (by decide) (by decide) (by decide) g9
    have HY2:=hdH (HY2.out.kept g9 (range_lt HY2.out.1 (by simp)) (hne3 h2 (by have:=HO.out;omega)))
    have HBe:=hdH (HBe.out.trans ((Below.refl w.heap.size x3).grown g9 HBe.out.size (fun kk hkk=>by have:=hgo kk hkk;have:=HO.out;omega)))
    have hS:Ar x4 h1 0 .i64 [(N:Int),(P:Int),g2,g3,g4,g5]:=hS.heap (g9.block h1 (hS.lt (by simp)) (hne3 h1 (by have:=HO.out;omega)))
    have hg1:bv9.oneCell'=true:=own_one o9
    have hg2:bv9.cells=#[bv9]:=own_cells o9
    clear c1 c2 c3 c5 c6 o9 o9' g9 f9 hgo hne3
    refine hK.out _ _ hS (fun _=>?_)
    simp only [Act.put,zE1,zE2,zE3]
    clear hK K
    refine tkH 6 (some 22) (.pointer (some ⟨h3,6,none⟩)) rfl rfl (Or.inl ⟨by rfl,fun w' hw'=>by go_simp⟩) hS ?_
    simp only [Act.put,zE1,zE2,zE3]
    refine wpAnyH_ready (rs:=[7]) (by kernel_rfl) (by simp) ?_
    refine AllReadyH.cons rfl (fun K hK=>?_) AllReadyH.nil
    refine step_store1 _ rfl none rfl (.tmp 22) (.tmp 21) 35 rfl h3 6 bv9 rfl rfl (HG9.out.2.1.there1 6 (by simp [chr])) (HG9.out.2.1.free 6 (by simp [chr])) one_blks.2 hg1 hg2 ?_
    intro x5 e9
    have g9:x4.grownBy x5 (some h3):=by rw [e9.out];exact keep_set _ _ _ _
    obtain ⟨⟨gv',uv',d1,d2⟩,d4,d5⟩:=HG9.out
    have HB6:Hid (∃ bv,Rnw x5 h3 B (k+1) P S [(N:Int),(P:Int),g2,g3,g4,g5] (.slice po pn pc) bv):=by
     refine ⟨bv9,?_,⟨gv',uv',d1.kept g9 (own_ne fun kk hkk=>by have:=(d1.1.lt kk hkk).1;have:=HO.out;omega),fun b hb=>(d2 b hb).kept g9 (by have:=HO.out;omega)⟩,by have:=HO.out;omega,Nat.le_trans d5 g9.size⟩
     have:=d4.set 6 (by simp [chr]) bv9
     rw [←e9.out] at this
     exact this
    have HY2:=hdH (HY2.out.kept g9 (range_lt HY2.out.1 (by simp)) (by have:=HO.out;simp;omega))
    have HBe:=hdH (HBe.out.trans ((Below.refl w.heap.size x4).grown g9 HBe.out.size (fun kk hkk=>by injection hkk with hkk;have:=HO.out;omega)))
    have hS:Ar x5 h1 0 .i64 [(N:Int),(P:Int),g2,g3,g4,g5]:=hS.heap (g9.block h1 (hS.lt (by simp)) (by have:=HO.out;simp;omega))
    clear e9 g9 d1 d2 d4 d5
    refine hK.out _ _ hS (fun _=>?_)
    simp only [Act.put]
    clear hK K
    refine wpAnyH_done (by kernel_rfl) ?_ _
    have HP6:Hid (Ar x5 h1 0 .i64 [(N:Int),(P:Int),g2,g3,g4,g5]∧Vr x5 h2 [.int .i64 0,.int .i64 0,.int .i64 0,.int .i64 0,.int .i64 0,.int .i64 0,.slice none 0 0,.slice none 0 0,.bool false,.int .i64 0]):=⟨hS,HY2.out⟩
    clear hS
    go_wp2
    go_roundw
    case rel=>exact ⟨k+1,by omega,by go_num,HB6,HP6,HBe⟩
    case measure=>simp [intOf];omega
   ·refine ge.step_callW _ (by rfl) (some 19) rfl 52 #[.tmp 18] #[23] rfl (fun q w'=>by rfl) #[.agg (ints .i64 [(N:Int),(P:Int),g2,g3,g4,g5])] (by simp only [List.map_toArray,List.map_cons,List.map_nil];rfl) (fun v w'=>∃ gv uv,v=.agg (bkc gv uv (-1) false 0).toArray ∧BlkO x1.heap.size w' gv uv P (fun _=>List.replicate S 255) (fun _=>0)∧Below x1.heap.size x1 w') ?_ ?_
    ·refine (SB.out x1).mono ?_
     rintro e w' ⟨gv,uv,rfl,h1,h2⟩
     exact ⟨_,rfl,gv,uv,rfl,h1,h2⟩
    rintro v9 x6 ⟨gv9,uv9,rfl,y9,hb9⟩
    have z9:=HB.out.2.2.2
    have HB:=hdH (HB.out.low hb9)
    have HY2:=hdH (HY2.out.below hb9 (range_lt HY2.out.1 (by simp)))
    have HBe:=hdH (HBe.out.trans (hb9.mono HBe.out.size))
    have hS:Ar x6 h1 0 .i64 [(N:Int),(P:Int),g2,g3,g4,g5]:=hS.below hb9 (hS.lt (by simp))
    have HPG:Hid (BlkO B x6 gv9 uv9 P (fun _=>List.replicate S 255) (fun _=>0)):=y9.base z9
    clear y9 hb9 z9
    refine hK.out _ _ hS (fun _=>?_)
    simp only [Act.put,zE1,zE2,zE3]
    clear hK K
    refine wpAnyH_ready (rs:=[1,4]) (by kernel_rfl) (by simp) ?_
    refine AllReadyH.cons rfl (fun K hK=>?_) (AllReadyH.cons rfl (fun K hK=>?_) AllReadyH.nil)
    ·refine step_load _ rfl (some 17) rfl (.tmp 16) 35 rfl _ (.slice bq k bc) rfl (load_one one_blks (HB.out.1.cell 6 _ rfl)) ?_
     refine hK.out _ _ hS (fun _=>?_)
     simp only [Act.put,zE1,zE2,zE3]
     clear hK K
     refine wpAnyH_ready (rs:=[4]) (by kernel_rfl) (by simp) ?_
     refine AllReadyH.cons rfl (fun K hK=>?_) AllReadyH.nil
     refine step_one _ rfl (some 20) rfl (.tmp 19) 35 72 rfl (bkc gv9 uv9 (-1) false 0) rfl (fun w=>build_blk _ _ _ _ _ w) ?_
     intro x7 r9 hb9
     obtain ⟨h9,e9⟩:∃ x,x=x6.heap.size:=⟨_,rfl⟩
     rw [←e9] at r9 ⊢
     have HB:=hdH (HB.out.low hb9)
     have HY2:=hdH (HY2.out.below hb9 (range_lt HY2.out.1 (by simp)))
     have HBe:=hdH (HBe.out.trans (hb9.mono HBe.out.size))
     have hS:Ar x7 h1 0 .i64 [(N:Int),(P:Int),g2,g3,g4,g5]:=hS.below hb9 (hS.lt (by simp))
     have HPG:=hdH (HPG.out.low hb9)
     have RW:=hdH (r9)
     clear r9 hb9 e9
     refine hK.out _ _ hS (fun _=>?_)
     simp only [Act.put,zE1,zE2,zE3]
     clear hK K
     refine wpAnyH_ready (rs:=[5]) (by kernel_rfl) (by simp) ?_
     refine AllReadyH.cons rfl (fun K hK=>?_) AllReadyH.nil
     obtain ⟨c1,⟨gv,uv,c2,c3⟩,c5,c6⟩:=HB.out
     refine step_appT _ rfl (some 21) rfl (.tmp 17) (.tmp 20) 35 72 rfl Tryz.underlying35 _ 5 72 info_blk rfl (by omega) _ _ (bks k gv uv (fun _=>(-1 :Int)) (fun _=>false) (fun _=>(0 :Int))) [bkc gv9 uv9 (-1) false 0] rfl rfl (c2.base (Nat.zero_le _)) RW.out (fun u hu=>bkc_one (-1) false 0 HPG.out.one.1 HPG.out.one.2 u (by simpa using hu)) (by rw [bks_len];simp;omega) (by rw [bks_len];simp;omega) (by simp) ?_
     intro bv9 x8 o9 g9 f9
     have o9':=owr_up c2 o9 c6 f9
     have hgo:∀ kk,(Value.slice bq k bc).ownBlock =some kk→B≤kk:=fun kk hkk=>(c2.1.lt kk hkk).1
     have hne3:∀ x,x<B→some x≠(Value.slice bq k bc).ownBlock :=fun x hx e=>by have:=hgo x e.symm;omega
     have HG9:Hid ((∃ gv uv:Nat→Value,OwR B x8 bv9 72 5 (bks (k+1) gv uv (fun _=>(-1 :Int)) (fun _=>false) (fun _=>(0 :Int)))∧∀ b,b<k+1→BlkO B x8 (gv b) (uv b) P (fun _=>List.replicate S 255) (fun _=>0))∧Vr x8 h3 (chr [(N:Int),(P:Int),g2,g3,g4,g5] (.slice bq k bc) (.slice po pn pc) false 0)∧B≤x8.heap.size):=by
      refine ⟨⟨at1 gv k gv9,at1 uv k uv9,?_,fun b hb=>?_⟩,c1.kept g9 (range_lt c1.1 (by simp [chr])) (hne3 h3 c5),Nat.le_trans c6 g9.size⟩
      ·rw [bks_succ,at1_same,at1_same,bks_congr (fun b hb=>at1_other gv k _ b (by omega)) (fun b hb=>at1_other uv k _ b (by omega)) (fun _ _=>rfl) (fun _ _=>rfl) (fun _ _=>rfl)]
       exact o9'
      ·by_cases e:b=k
       ·subst e
        rw [at1_same,at1_same]
        exact HPG.out.ap c2.1 (by decide) (by decide) (by decide) g9
       ·rw [at1_other gv k _ b e,at1_other uv k _ b e]
        exact (c3 b (by omega)).ap c2.1 (by decide) (by decide) (by decide) g9
     have HY2:=hdH (HY2.out.kept g9 (range_lt HY2.out.1 (by simp)) (hne3 h2 (by have:=HO.out;omega)))
     have HBe:=hdH (HBe.out.trans ((Below.refl w.heap.size x7).grown g9 HBe.out.size (fun kk hkk=>by have:=hgo kk hkk;have:=HO.out;omega)))
     have hS:Ar x8 h1 0 .i64 [(N:Int),(P:Int),g2,g3,g4,g5]:=hS.heap (g9.block h1 (hS.lt (by simp)) (hne3 h1 (by have:=HO.out;omega)))
     have hg1:bv9.oneCell'=true:=own_one o9
     have hg2:bv9.cells=#[bv9]:=own_cells o9
     clear c1 c2 c3 c5 c6 o9 o9' g9 f9 hgo hne3
     refine hK.out _ _ hS (fun _=>?_)
     simp only [Act.put,zE1,zE2,zE3]
     clear hK K
     refine tkH 6 (some 22) (.pointer (some ⟨h3,6,none⟩)) rfl rfl (Or.inl ⟨by rfl,fun w' hw'=>by go_simp⟩) hS ?_
     simp only [Act.put,zE1,zE2,zE3]
     refine wpAnyH_ready (rs:=[7]) (by kernel_rfl) (by simp) ?_
     refine AllReadyH.cons rfl (fun K hK=>?_) AllReadyH.nil
     refine step_store1 _ rfl none rfl (.tmp 22) (.tmp 21) 35 rfl h3 6 bv9 rfl rfl (HG9.out.2.1.there1 6 (by simp [chr])) (HG9.out.2.1.free 6 (by simp [chr])) one_blks.2 hg1 hg2 ?_
     intro x9 e9
     have g9:x8.grownBy x9 (some h3):=by rw [e9.out];exact keep_set _ _ _ _
     obtain ⟨⟨gv',uv',d1,d2⟩,d4,d5⟩:=HG9.out
     have HB6:Hid (∃ bv,Rnw x9 h3 B (k+1) P S [(N:Int),(P:Int),g2,g3,g4,g5] (.slice po pn pc) bv):=by
      refine ⟨bv9,?_,⟨gv',uv',d1.kept g9 (own_ne fun kk hkk=>by have:=(d1.1.lt kk hkk).1;have:=HO.out;omega),fun b hb=>(d2 b hb).kept g9 (by have:=HO.out;omega)⟩,by have:=HO.out;omega,Nat.le_trans d5 g9.size⟩
      have:=d4.set 6 (by simp [chr]) bv9
      rw [←e9.out] at this
      exact this
     have HY2:=hdH (HY2.out.kept g9 (range_lt HY2.out.1 (by simp)) (by have:=HO.out;simp;omega))
     have HBe:=hdH (HBe.out.trans ((Below.refl w.heap.size x8).grown g9 HBe.out.size (fun kk hkk=>by injection hkk with hkk;have:=HO.out;omega)))
     have hS:Ar x9 h1 0 .i64 [(N:Int),(P:Int),g2,g3,g4,g5]:=hS.heap (g9.block h1 (hS.lt (by simp)) (by have:=HO.out;simp;omega))
     clear e9 g9 d1 d2 d4 d5
     refine hK.out _ _ hS (fun _=>?_)
     simp only [Act.put]
     clear hK K
     refine wpAnyH_done (by kernel_rfl) ?_ _
     have HP6:Hid (Ar x9 h1 0 .i64 [(N:Int),(P:Int),g2,g3,g4,g5]∧Vr x9 h2 [.int .i64 0,.int .i64 0,.int .i64 0,.int .i64 0,.int .i64 0,.int .i64 0,.slice none 0 0,.slice none 0 0,.bool false,.int .i64 0]):=⟨hS,HY2.out⟩
     clear hS
     go_wp2
     go_roundw
     case rel=>exact ⟨k+1,by omega,by go_num,HB6,HP6,HBe⟩
     case measure=>simp [intOf];omega
    ·refine step_one _ rfl (some 20) rfl (.tmp 19) 35 72 rfl (bkc gv9 uv9 (-1) false 0) rfl (fun w=>build_blk _ _ _ _ _ w) ?_
     intro x10 r9 hb9
     obtain ⟨h9,e9⟩:∃ x,x=x6.heap.size:=⟨_,rfl⟩
     rw [←e9] at r9 ⊢
     have HB:=hdH (HB.out.low hb9)
     have HY2:=hdH (HY2.out.below hb9 (range_lt HY2.out.1 (by simp)))
     have HBe:=hdH (HBe.out.trans (hb9.mono HBe.out.size))
     have hS:Ar x10 h1 0 .i64 [(N:Int),(P:Int),g2,g3,g4,g5]:=hS.below hb9 (hS.lt (by simp))
     have HPG:=hdH (HPG.out.low hb9)
     have RW:=hdH (r9)
     clear r9 hb9 e9
     refine hK.out _ _ hS (fun _=>?_)
     simp only [Act.put,zE1,zE2,zE3]
     clear hK K
     refine wpAnyH_ready (rs:=[1]) (by kernel_rfl) (by simp) ?_
     refine AllReadyH.cons rfl (fun K hK=>?_) AllReadyH.nil
     refine step_load _ rfl (some 17) rfl (.tmp 16) 35 rfl _ (.slice bq k bc) rfl (load_one one_blks (HB.out.1.cell 6 _ rfl)) ?_
     refine hK.out _ _ hS (fun _=>?_)
     simp only [Act.put,zE1,zE2,zE3]
     clear hK K
     refine wpAnyH_ready (rs:=[5]) (by kernel_rfl) (by simp) ?_
     refine AllReadyH.cons rfl (fun K hK=>?_) AllReadyH.nil
     obtain ⟨c1,⟨gv,uv,c2,c3⟩,c5,c6⟩:=HB.out
     refine step_appT _ rfl (some 21) rfl (.tmp 17) (.tmp 20) 35 72 rfl Tryz.underlying35 _ 5 72 info_blk rfl (by omega) _ _ (bks k gv uv (fun _=>(-1 :Int)) (fun _=>false) (fun _=>(0 :Int))) [bkc gv9 uv9 (-1) false 0] rfl rfl (c2.base (Nat.zero_le _)) RW.out (fun u hu=>bkc_one (-1) false 0 HPG.out.one.1 HPG.out.one.2 u (by simpa using hu)) (by rw [bks_len];simp;omega) (by rw [bks_len];simp;omega) (by simp) ?_
     intro bv9 x11 o9 g9 f9
     have o9':=owr_up c2 o9 c6 f9
     have hgo:∀ kk,(Value.slice bq k bc).ownBlock =some kk→B≤kk:=fun kk hkk=>(c2.1.lt kk hkk).1
     have hne3:∀ x,x<B→some x≠(Value.slice bq k bc).ownBlock :=fun x hx e=>by have:=hgo x e.symm;omega
     have HG9:Hid ((∃ gv uv:Nat→Value,OwR B x11 bv9 72 5 (bks (k+1) gv uv (fun _=>(-1 :Int)) (fun _=>false) (fun _=>(0 :Int)))∧∀ b,b<k+1→BlkO B x11 (gv b) (uv b) P (fun _=>List.replicate S 255) (fun _=>0))∧Vr x11 h3 (chr [(N:Int),(P:Int),g2,g3,g4,g5] (.slice bq k bc) (.slice po pn pc) false 0)∧B≤x11.heap.size):=by
      refine ⟨⟨at1 gv k gv9,at1 uv k uv9,?_,fun b hb=>?_⟩,c1.kept g9 (range_lt c1.1 (by simp [chr])) (hne3 h3 c5),Nat.le_trans c6 g9.size⟩
      ·rw [bks_succ,at1_same,at1_same,bks_congr (fun b hb=>at1_other gv k _ b (by omega)) (fun b hb=>at1_other uv k _ b (by omega)) (fun _ _=>rfl) (fun _ _=>rfl) (fun _ _=>rfl)]
       exact o9'
      ·by_cases e:b=k
       ·subst e
        rw [at1_same,at1_same]
        exact HPG.out.ap c2.1 (by decide) (by decide) (by decide) g9
       ·rw [at1_other gv k _ b e,at1_other uv k _ b e]
        exact (c3 b (by omega)).ap c2.1 (by decide) (by decide) (by decide) g9
     have HY2:=hdH (HY2.out.kept g9 (range_lt HY2.out.1 (by simp)) (hne3 h2 (by have:=HO.out;omega)))
     have HBe:=hdH (HBe.out.trans ((Below.refl w.heap.size x10).grown g9 HBe.out.size (fun kk hkk=>by have:=hgo kk hkk;have:=HO.out;omega)))
     have hS:Ar x11 h1 0 .i64 [(N:Int),(P:Int),g2,g3,g4,g5]:=hS.heap (g9.block h1 (hS.lt (by simp)) (hne3 h1 (by have:=HO.out;omega)))
     have hg1:bv9.oneCell'=true:=own_one o9
     have hg2:bv9.cells=#[bv9]:=own_cells o9
     clear c1 c2 c3 c5 c6 o9 o9' g9 f9 hgo hne3
     refine hK.out _ _ hS (fun _=>?_)
     simp only [Act.put,zE1,zE2,zE3]
     clear hK K
     refine tkH 6 (some 22) (.pointer (some ⟨h3,6,none⟩)) rfl rfl (Or.inl ⟨by rfl,fun w' hw'=>by go_simp⟩) hS ?_
     simp only [Act.put,zE1,zE2,zE3]
     refine wpAnyH_ready (rs:=[7]) (by kernel_rfl) (by simp) ?_
     refine AllReadyH.cons rfl (fun K hK=>?_) AllReadyH.nil
     refine step_store1 _ rfl none rfl (.tmp 22) (.tmp 21) 35 rfl h3 6 bv9 rfl rfl (HG9.out.2.1.there1 6 (by simp [chr])) (HG9.out.2.1.free 6 (by simp [chr])) one_blks.2 hg1 hg2 ?_
     intro x12 e9
     have g9:x11.grownBy x12 (some h3):=by rw [e9.out];exact keep_set _ _ _ _
     obtain ⟨⟨gv',uv',d1,d2⟩,d4,d5⟩:=HG9.out
     have HB6:Hid (∃ bv,Rnw x12 h3 B (k+1) P S [(N:Int),(P:Int),g2,g3,g4,g5] (.slice po pn pc) bv):=by
      refine ⟨bv9,?_,⟨gv',uv',d1.kept g9 (own_ne fun kk hkk=>by have:=(d1.1.lt kk hkk).1;have:=HO.out;omega),fun b hb=>(d2 b hb).kept g9 (by have:=HO.out;omega)⟩,by have:=HO.out;omega,Nat.le_trans d5 g9.size⟩
      have:=d4.set 6 (by simp [chr]) bv9
      rw [←e9.out] at this
      exact this
     have HY2:=hdH (HY2.out.kept g9 (range_lt HY2.out.1 (by simp)) (by have:=HO.out;simp;omega))
     have HBe:=hdH (HBe.out.trans ((Below.refl w.heap.size x11).grown g9 HBe.out.size (fun kk hkk=>by injection hkk with hkk;have:=HO.out;omega)))
     have hS:Ar x12 h1 0 .i64 [(N:Int),(P:Int),g2,g3,g4,g5]:=hS.heap (g9.block h1 (hS.lt (by simp)) (by have:=HO.out;simp;omega))
     clear e9 g9 d1 d2 d4 d5
     refine hK.out _ _ hS (fun _=>?_)
     simp only [Act.put]
     clear hK K
     refine wpAnyH_done (by kernel_rfl) ?_ _
     have HP6:Hid (Ar x12 h1 0 .i64 [(N:Int),(P:Int),g2,g3,g4,g5]∧Vr x12 h2 [.int .i64 0,.int .i64 0,.int .i64 0,.int .i64 0,.int .i64 0,.int .i64 0,.slice none 0 0,.slice none 0 0,.bool false,.int .i64 0]):=⟨hS,HY2.out⟩
     clear hS
     go_wp2
     go_roundw
     case rel=>exact ⟨k+1,by omega,by go_num,HB6,HP6,HBe⟩
     case measure=>simp [intOf];omega
  ·have e:N=k:=by omega
   subst e
   have r0:=HB.out.1.cell 0 _ rfl
   have r1:=HB.out.1.cell 1 _ rfl
   have r2:=HB.out.1.cell 2 _ rfl
   have r3:=HB.out.1.cell 3 _ rfl
   have r4:=HB.out.1.cell 4 _ rfl
   have r5:=HB.out.1.cell 5 _ rfl
   have r6:=HB.out.1.cell 6 _ rfl
   have r7:=HB.out.1.cell 7 _ rfl
   have r8:=HB.out.1.cell 8 _ rfl
   have r9:=HB.out.1.cell 9 _ rfl
   have t2:=tR
   go_wp2_with (first
    |(have q2:=t2;refine store_lawC _ (chr [(N:Int),(P:Int),g2,g3,g4,g5] (.slice bq N bc) (.slice po pn pc) false 0) h2 0 rfl rfl HY.out.2.2 rowy_chipR.2 (fun v hv=>by simp [chr] at hv;rcases hv with rfl | rfl | rfl | rfl | rfl | rfl | rfl | rfl | rfl | rfl <;> rfl) ?_;intro w9 E9 R9 T9 B9
      have HR9:=hdH (R9)
      have g9:wa.grownBy w9 (some h2):=by rw [E9.out];exact keep_cells _ _ _ _
      have HE9:Hid (∃ gv uv:Nat→Value,OwR w.heap.size w9 (.slice bq N bc) 72 5 (bks N gv uv (fun _=>(-1 :Int)) (fun _=>false) (fun _=>(0 :Int)))∧∀ b,b<N→BlkO w.heap.size w9 (gv b) (uv b) P (fun _=>List.replicate S 255) (fun _=>0)):=by
       obtain ⟨c1,⟨gv,uv,c2,c3⟩,c5,c6⟩:=HB.out
       exact ⟨gv,uv,(c2.kept g9 (own_ne fun kk hkk=>by have:=(c2.1.lt kk hkk).1;have:=HO.out;omega)).base (by have:=HO.out;omega),fun b hb=>((c3 b hb).kept g9 (by have:=HO.out;omega)).base (by have:=HO.out;omega)⟩
      have HB9:=hdH (HBe.out.trans (B9.mono (by have:=HO.out;omega)))
      clear R9 T9 E9 B9 g9 t2))
   exact bodyPost_ret (v:=.agg (chr [(N:Int),(P:Int),g2,g3,g4,g5] (.slice bq N bc) (.slice po pn pc) false 0).toArray) (results_c rfl _ _ h2 _ rowy_chipR rfl HR9.out) rfl ⟨_,rfl,HE9.out,HB9.out⟩
end Go.Proofs.YtmbgokmomkmgcaaGreatDoor.na
namespace Go.Proofs.YtmbgokmomkmgcaaGreatDoor.na
open Go.RowKit Go.Proofs.YtmbgokmomkmgcaaGreatDoor.fa
set_option maxRecDepth 20000
theorem chr_get {g:List Int} (hg:g.length=6) (bv pv:Value) (o:Bool) (n:Int) (j:Nat):(chr g bv pv o n)[6+j]? =([bv,pv,.bool o,.int .i64 n]:List Value)[j]? :=by
 unfold chr
 rw [List.getElem?_append_right (by rw [List.length_map];omega),List.length_map,hg]
 congr 1;omega
theorem code_any (g:List Int) (hg:g.length=6) (bv pv:Value) (o:Bool) (n:Nat) (pl:Pln) (w:World) (h:Pla w pv pl):
  Calls Tryz.prog 92 #[.agg (chr g bv pv o (n:Int)).toArray] w fun e w'=>∃ mv,e=.returned (.tuple #[.int .i64 (ans (pl n)),mv,.bool (crs (pl n))])∧Byt w' mv (msk (pl n))∧Below w.heap.size w w':=by
 obtain ⟨fs,ms,h1,h2,h3,h4,h5⟩:=h
 have HF:Hid (∀ w',Below w.heap.size w w'→Fls w' pv fs):=fun w' hb=>h1.below hb
 have HMk:Hid (∀ w',Below w.heap.size w w'→Mks w' fs ms):=fun w' hb=>h2.below hb
 obtain ⟨po,pc,rfl, -⟩:=h1
 have H5:Hid ((∀ t,Fst fs n t→pl n=some ((gf fs t).2.1,ms t))∧((∀ s,s<fs.length→(gf fs s).1≠(n:Int))→pl n=none)):=h5 n
 clear h2 h3 h4 h5
 have t0:=tR
 rcases fst_or fs n with ⟨t,ht⟩ | hn
 ·have hpl:=H5.out.1 t ht
  have HT:=hdH (ht)
  have SA:Hid (∀ w',Below w.heap.size w w'→Calls Tryz.prog 130 #[.slice po fs.length pc,.int .i64 (n:Int)] w' fun e w''=>e=.returned (.int .i64 (t:Int))∧∃ n,w''=w'.drewN n):=fun w' hb=>rat_any _ fs n w' (HF.out w' hb) t (fun t' ht'=>by
   have:t'=t:=by
    rcases Nat.lt_trichotomy t' t with q | q | q
    ·exact absurd ht'.2.1 (HT.out.2.2 t' q)
    ·exact q
    ·exact absurd HT.out.2.1 (ht'.2.2 t q)
   rw [this]) (fun hn=>absurd HT.out.2.1 (hn t HT.out.1))
  obtain ⟨x,cr,mo,mc,hf⟩:=split_flt (HMk.out w (Below.refl _ _)) ht.1
  rw [hpl,hf]
  have tl:t<fs.length:=ht.1
  have t1:(0 :Int)≤(t:Int):=by omega
  have t2:(t:Int)<(fs.length:Int):=by omega
  obtain ⟨ao',cap',e,a1,a2,a3,a4⟩:=HF.out w (Below.refl _ _)
  cases e
  obtain ⟨b,off,rfl,hc⟩:=a4 (by omega)
  have HFA:Hid (FlA w b (off+t*3) (x,cr,.slice mo (ms t).length mc)):=by have:=hc t tl;rw [hf] at this;exact this
  have HYm:Hid (Byt w (.slice mo (ms t).length mc) (ms t)):=by have:=(HMk.out w (Below.refl _ _) t tl).1;rw [hf] at this;exact this
  clear hc a1 a2 a3 a4 hpl hf ht HF HMk H5
  cases cr
  ·skip
   go_enter Tryz.func92,Tryz.ntmps92
   go_wp2_with (first
    |(have q1:=u1;go_at_call 130;refine (SA.out _ BB.out).mono ?_;rintro e w2 ⟨rfl,m,rfl⟩;clear u1)
    |(have q0:=t0;refine box_lawC _ (chr g bv (.slice (some ⟨b,off,none⟩) fs.length pc) o (n:Int)) rfl ?_;intro w1 V1 B1 l1;have c7:=V1.cell 7 _ (chr_get hg _ _ _ _ 1);have c9:=V1.cell 9 _ (chr_get hg _ _ _ _ 3);have hfa:=HFA.out.below B1 HFA.out.lt;have f1:=hfa.2.1;have f2:=hfa.2.2;have BB:=hdH (B1);clear hfa V1 B1 t0;have u1:(1 :Nat)=1:=rfl))
   go_quiet (fail)
   go_wp2
   go_ret3
   exact ⟨_,rfl,HYm.out.below (below_drawn (below_drawn BB.out _) _),below_drawn (below_drawn BB.out _) _⟩
  ·skip
   go_enter Tryz.func92,Tryz.ntmps92
   go_wp2_with (first
    |(have q1:=u1;go_at_call 130;refine (SA.out _ BB.out).mono ?_;rintro e w2 ⟨rfl,m,rfl⟩;clear u1)
    |(have q0:=t0;refine box_lawC _ (chr g bv (.slice (some ⟨b,off,none⟩) fs.length pc) o (n:Int)) rfl ?_;intro w1 V1 B1 l1;have c7:=V1.cell 7 _ (chr_get hg _ _ _ _ 1);have c9:=V1.cell 9 _ (chr_get hg _ _ _ _ 3);have hfa:=HFA.out.below B1 HFA.out.lt;have f1:=hfa.2.1;have f2:=hfa.2.2;have BB:=hdH (B1);clear hfa V1 B1 t0;have u1:(1 :Nat)=1:=rfl))
   go_quiet (fail)
   go_wp2
   go_ret3
   exact ⟨_,rfl,HYm.out.below (below_drawn (below_drawn BB.out _) _),below_drawn (below_drawn BB.out _) _⟩
 ·have hpl:=H5.out.2 hn
  have SA:Hid (∀ w',Below w.heap.size w w'→Calls Tryz.prog 130 #[.slice po fs.length pc,.int .i64 (n:Int)] w' fun e w''=>e=.returned (.int .i64 (-1))∧∃ n,w''=w'.drewN n):=fun w' hb=>rat_any _ fs n w' (HF.out w' hb) (-1) (fun t ht=>absurd ht.2.1 (hn t ht.1)) (fun _=>rfl)
  rw [hpl]
  clear hpl HF HMk H5 hn
  go_enter Tryz.func92,Tryz.ntmps92
  go_wp2_with (first
   |(have q1:=u1;go_at_call 130;refine (SA.out _ BB.out).mono ?_;rintro e w2 ⟨rfl,m,rfl⟩;clear u1)
   |(have q0:=t0;refine box_lawC _ (chr g bv (.slice po fs.length pc) o (n:Int)) rfl ?_;intro w1 V1 B1 l1;have c7:=V1.cell 7 _ (chr_get hg _ _ _ _ 1);have c9:=V1.cell 9 _ (chr_get hg _ _ _ _ 3);have BB:=hdH (B1);clear V1 B1 t0;have u1:(1 :Nat)=1:=rfl))
  go_ret3
  exact ⟨_,rfl,Byt.nil _,below_drawn BB.out _⟩
theorem place_any (g:List Int) (N P S:Nat) (hs:Shp g N P S) (b p:Int) (w:World):
  Calls Tryz.prog 91 #[.agg (ints .i64 g),.agg (ints .i64 [b,p])] w fun e w'=>e=.returned (.bool (decide (0≤b∧b<N∧0≤p∧p<P)))∧Below w.heap.size w w':=by
 obtain ⟨gl,hr,g0,g1,g2⟩:=hs
 have SR:Hid (∀ w,Calls Tryz.prog 17 #[.agg (ints .i64 g)] w fun x w'=>x=.returned (.bool true)∧Below w.heap.size w w'):=fun w=>ge.right_yes g gl hr w
 have G0:Hid (gb g 0=N∧gb g 1=P):=⟨g0,g1⟩
 clear hr g0 g1 g2
 have t0:=tR
 by_cases q1:0≤b
 rotate_left
 ·rw [show decide (0≤b∧b<N∧0≤p∧p<P)=false from decide_eq_false (by omega)]
  have q1':¬(0≤b):=q1
  go_enter Tryz.func91,Tryz.ntmps91
  go_wp2_with (first
   |(have z3:=t3;go_at_call 17;refine (SR.out _).mono ?_;rintro e w3 ⟨rfl,B3⟩;have HP3:=HP.out.below B3 (Nat.lt_trans l1 l2);have HQ3:=HQ.out.below B3 l2;have d0:w3.cell? ⟨w.heap.size,0,none⟩=some (.int .i64 (N:Int)):=by rw [←G0.out.1];exact HP3.cell0 0 (by omega)
     have d1:w3.cell? ⟨w.heap.size,1,none⟩=some (.int .i64 (P:Int)):=by rw [←G0.out.2];exact HP3.cell0 1 (by omega)
     have d2:w3.cell? ⟨w1.heap.size,0,none⟩=some (.int .i64 b):=HQ3.cell0 0 (by simp)
     have d3:w3.cell? ⟨w1.heap.size,1,none⟩=some (.int .i64 p):=HQ3.cell0 1 (by simp)
     have BB:=hdH (BB.out.trans (B3.mono (by omega)));clear t3 B3 HP3 HQ3)
   |(have z2:=t2;refine load_lawS _ (by rfl) _ _ rfl (ld_geo gl HP.out.1) ?_;clear t2;have t3:=tR)
   |(have z1:=t1;refine box_lawF _ rfl (.tmp 1) 78 rfl .i64 [b,p] rfl ?_;intro w2 X2 B2 l2;have HQ:=hdH (X2);have HP:=hdH (HP.out.below B2 l1);have BB:=hdH (BB.out.trans (B2.mono (by omega)));clear X2 B2 t1;have t2:=tR)
   |(have z0:=t0;refine box_lawF _ rfl (.tmp 0) 23 rfl .i64 g rfl ?_;intro w1 X1 B1 l1;have HP:=hdH (X1);have BB:=hdH (B1);clear X1 B1 t0;have t1:=tR))
  go_ret
  first | exact ⟨rfl,BB.out⟩ | (refine ⟨?_,BB.out⟩;simp;omega)
 by_cases q2:b<N
 rotate_left
 ·rw [show decide (0≤b∧b<N∧0≤p∧p<P)=false from decide_eq_false (by omega)]
  have q2':¬(b<N):=q2
  go_enter Tryz.func91,Tryz.ntmps91
  go_wp2_with (first
   |(have z3:=t3;go_at_call 17;refine (SR.out _).mono ?_;rintro e w3 ⟨rfl,B3⟩;have HP3:=HP.out.below B3 (Nat.lt_trans l1 l2);have HQ3:=HQ.out.below B3 l2;have d0:w3.cell? ⟨w.heap.size,0,none⟩=some (.int .i64 (N:Int)):=by rw [←G0.out.1];exact HP3.cell0 0 (by omega)
     have d1:w3.cell? ⟨w.heap.size,1,none⟩=some (.int .i64 (P:Int)):=by rw [←G0.out.2];exact HP3.cell0 1 (by omega)
     have d2:w3.cell? ⟨w1.heap.size,0,none⟩=some (.int .i64 b):=HQ3.cell0 0 (by simp)
     have d3:w3.cell? ⟨w1.heap.size,1,none⟩=some (.int .i64 p):=HQ3.cell0 1 (by simp)
     have BB:=hdH (BB.out.trans (B3.mono (by omega)));clear t3 B3 HP3 HQ3)
   |(have z2:=t2;refine load_lawS _ (by rfl) _ _ rfl (ld_geo gl HP.out.1) ?_;clear t2;have t3:=tR)
   |(have z1:=t1;refine box_lawF _ rfl (.tmp 1) 78 rfl .i64 [b,p] rfl ?_;intro w2 X2 B2 l2;have HQ:=hdH (X2);have HP:=hdH (HP.out.below B2 l1);have BB:=hdH (BB.out.trans (B2.mono (by omega)));clear X2 B2 t1;have t2:=tR)
   |(have z0:=t0;refine box_lawF _ rfl (.tmp 0) 23 rfl .i64 g rfl ?_;intro w1 X1 B1 l1;have HP:=hdH (X1);have BB:=hdH (B1);clear X1 B1 t0;have t1:=tR))
  go_ret
  first | exact ⟨rfl,BB.out⟩ | (refine ⟨?_,BB.out⟩;simp;omega)
 by_cases q3:0≤p
 rotate_left
 ·rw [show decide (0≤b∧b<N∧0≤p∧p<P)=false from decide_eq_false (by omega)]
  have q3':¬(0≤p):=q3
  go_enter Tryz.func91,Tryz.ntmps91
  go_wp2_with (first
   |(have z3:=t3;go_at_call 17;refine (SR.out _).mono ?_;rintro e w3 ⟨rfl,B3⟩;have HP3:=HP.out.below B3 (Nat.lt_trans l1 l2);have HQ3:=HQ.out.below B3 l2;have d0:w3.cell? ⟨w.heap.size,0,none⟩=some (.int .i64 (N:Int)):=by rw [←G0.out.1];exact HP3.cell0 0 (by omega)
     have d1:w3.cell? ⟨w.heap.size,1,none⟩=some (.int .i64 (P:Int)):=by rw [←G0.out.2];exact HP3.cell0 1 (by omega)
     have d2:w3.cell? ⟨w1.heap.size,0,none⟩=some (.int .i64 b):=HQ3.cell0 0 (by simp)
     have d3:w3.cell? ⟨w1.heap.size,1,none⟩=some (.int .i64 p):=HQ3.cell0 1 (by simp)
     have BB:=hdH (BB.out.trans (B3.mono (by omega)));clear t3 B3 HP3 HQ3)
   |(have z2:=t2;refine load_lawS _ (by rfl) _ _ rfl (ld_geo gl HP.out.1) ?_;clear t2;have t3:=tR)
   |(have z1:=t1;refine box_lawF _ rfl (.tmp 1) 78 rfl .i64 [b,p] rfl ?_;intro w2 X2 B2 l2;have HQ:=hdH (X2);have HP:=hdH (HP.out.below B2 l1);have BB:=hdH (BB.out.trans (B2.mono (by omega)));clear X2 B2 t1;have t2:=tR)
   |(have z0:=t0;refine box_lawF _ rfl (.tmp 0) 23 rfl .i64 g rfl ?_;intro w1 X1 B1 l1;have HP:=hdH (X1);have BB:=hdH (B1);clear X1 B1 t0;have t1:=tR))
  go_ret
  first | exact ⟨rfl,BB.out⟩ | (refine ⟨?_,BB.out⟩;simp;omega)
 by_cases q4:p<P
 rotate_left
 ·rw [show decide (0≤b∧b<N∧0≤p∧p<P)=false from decide_eq_false (by omega)]
  have q4':¬(p<P):=q4
  go_enter Tryz.func91,Tryz.ntmps91
  go_wp2_with (first
   |(have z3:=t3;go_at_call 17;refine (SR.out _).mono ?_;rintro e w3 ⟨rfl,B3⟩;have HP3:=HP.out.below B3 (Nat.lt_trans l1 l2);have HQ3:=HQ.out.below B3 l2;have d0:w3.cell? ⟨w.heap.size,0,none⟩=some (.int .i64 (N:Int)):=by rw [←G0.out.1];exact HP3.cell0 0 (by omega)
     have d1:w3.cell? ⟨w.heap.size,1,none⟩=some (.int .i64 (P:Int)):=by rw [←G0.out.2];exact HP3.cell0 1 (by omega)
     have d2:w3.cell? ⟨w1.heap.size,0,none⟩=some (.int .i64 b):=HQ3.cell0 0 (by simp)
     have d3:w3.cell? ⟨w1.heap.size,1,none⟩=some (.int .i64 p):=HQ3.cell0 1 (by simp)
     have BB:=hdH (BB.out.trans (B3.mono (by omega)));clear t3 B3 HP3 HQ3)
   |(have z2:=t2;refine load_lawS _ (by rfl) _ _ rfl (ld_geo gl HP.out.1) ?_;clear t2;have t3:=tR)
   |(have z1:=t1;refine box_lawF _ rfl (.tmp 1) 78 rfl .i64 [b,p] rfl ?_;intro w2 X2 B2 l2;have HQ:=hdH (X2);have HP:=hdH (HP.out.below B2 l1);have BB:=hdH (BB.out.trans (B2.mono (by omega)));clear X2 B2 t1;have t2:=tR)
   |(have z0:=t0;refine box_lawF _ rfl (.tmp 0) 23 rfl .i64 g rfl ?_;intro w1 X1 B1 l1;have HP:=hdH (X1);have BB:=hdH (B1);clear X1 B1 t0;have t1:=tR))
  go_ret
  first | exact ⟨rfl,BB.out⟩ | (refine ⟨?_,BB.out⟩;simp;omega)
 rw [show decide (0≤b∧b<N∧0≤p∧p<P)=true from decide_eq_true (by omega)]
 go_enter Tryz.func91,Tryz.ntmps91
 go_wp2_with (first
  |(have z3:=t3;go_at_call 17;refine (SR.out _).mono ?_;rintro e w3 ⟨rfl,B3⟩;have HP3:=HP.out.below B3 (Nat.lt_trans l1 l2);have HQ3:=HQ.out.below B3 l2;have d0:w3.cell? ⟨w.heap.size,0,none⟩=some (.int .i64 (N:Int)):=by rw [←G0.out.1];exact HP3.cell0 0 (by omega)
    have d1:w3.cell? ⟨w.heap.size,1,none⟩=some (.int .i64 (P:Int)):=by rw [←G0.out.2];exact HP3.cell0 1 (by omega)
    have d2:w3.cell? ⟨w1.heap.size,0,none⟩=some (.int .i64 b):=HQ3.cell0 0 (by simp)
    have d3:w3.cell? ⟨w1.heap.size,1,none⟩=some (.int .i64 p):=HQ3.cell0 1 (by simp)
    have BB:=hdH (BB.out.trans (B3.mono (by omega)));clear t3 B3 HP3 HQ3)
  |(have z2:=t2;refine load_lawS _ (by rfl) _ _ rfl (ld_geo gl HP.out.1) ?_;clear t2;have t3:=tR)
  |(have z1:=t1;refine box_lawF _ rfl (.tmp 1) 78 rfl .i64 [b,p] rfl ?_;intro w2 X2 B2 l2;have HQ:=hdH (X2);have HP:=hdH (HP.out.below B2 l1);have BB:=hdH (BB.out.trans (B2.mono (by omega)));clear X2 B2 t1;have t2:=tR)
  |(have z0:=t0;refine box_lawF _ rfl (.tmp 0) 23 rfl .i64 g rfl ?_;intro w1 X1 B1 l1;have HP:=hdH (X1);have BB:=hdH (B1);clear X1 B1 t0;have t1:=tR))
 go_ret
 first | exact ⟨rfl,BB.out⟩ | (refine ⟨?_,BB.out⟩;simp;omega)
end Go.Proofs.YtmbgokmomkmgcaaGreatDoor.na
namespace Go.Proofs.YtmbgokmomkmgcaaGreatDoor.na
open Go.RowKit Go.Proofs.YtmbgokmomkmgcaaGreatDoor.fa
set_option maxRecDepth 20000
theorem bks_one {N:Nat} {gv uv:Nat→Value} {l:Nat→Int} {s:Nat→Bool} {e:Nat→Int} (h:∀ b,b<N→(gv b).oneCell' =true∧(uv b).oneCell' =true):∀ u ∈ (bks N gv uv l s e).flatten,u.oneCell'=true:=fun u hu=>by
 obtain ⟨c,hc,hu⟩:=List.mem_flatten.1 hu
 obtain ⟨b,hb,rfl⟩:=List.mem_map.1 hc
 have:=h b (List.mem_range.1 hb)
 exact bkc_one _ _ _ this.1 this.2 u hu
theorem with_any (N P:Nat) (g2 g3 g4 g5:Int) (bq:Option Addr) (bc:Nat) (po:Option Addr) (pn pc:Nat) (o:Bool) (n b:Nat) (gv uv:Nat→Value) (l:Nat→Int) (s:Nat→Bool) (e:Nat→Int) (xq yq:Option Addr) (xn xc yn yc:Nat) (l':Int) (s':Bool) (e':Int) (w:World)
  (hN:N≤64) (hb:b<N) (hn:n≤1000000) (hR:Rws w (.slice bq N bc) 5 (bks N gv uv l s e)) (h1:∀ b,b<N→(gv b).oneCell' =true∧(uv b).oneCell' =true):
  Calls Tryz.prog 95 #[.agg (chr [(N:Int),(P:Int),g2,g3,g4,g5] (.slice bq N bc) (.slice po pn pc) o (n:Int)).toArray,.int .i64 (b:Int),.agg (bkc (.slice xq xn xc) (.slice yq yn yc) l' s' e').toArray] w fun x w'=>∃ r rc,x=.returned (.agg (chr [(N:Int),(P:Int),g2,g3,g4,g5] (.slice (some ⟨r,0,none⟩) N rc) (.slice po pn pc) o ((n+1 :Nat):Int)).toArray)∧OwR w.heap.size w' (.slice (some ⟨r,0,none⟩) N rc) 72 5 (bks N (at1 gv b (.slice xq xn xc)) (at1 uv b (.slice yq yn yc)) (at1 l b l') (at1 s b s') (at1 e b e'))∧Below w.heap.size w w':=by
 have HR:=hdH (hR)
 have H1:Hid (∀ u ∈ (bks N gv uv l s e).flatten,u.oneCell'=true):=bks_one h1
 have HL:Hid (((bks N gv uv l s e)).length =N):=bks_len N _ _ _ _ _
 have HW:Hid (IntKind.i64.wrap ((n:Int)+1)=((n+1 :Nat):Int)):=by
  show _=_
  rw [IntKind.wrap_i64];omega
 clear hR h1
 have b0:(0 :Int)≤(b:Int):=by omega
 have b1:(b:Int)<(N:Int):=by omega
 have t0:=tR
 go_enter Tryz.func95,Tryz.ntmps95
 go_wp2_with (first
  |(have q7:=t7;refine store_lawC _ (chr [(N:Int),(P:Int),g2,g3,g4,g5] (.slice (some ⟨r,0,none⟩) N rc) (.slice po pn pc) o ((n+1 :Nat):Int)) w2.heap.size 0 rfl rfl HC.out.2 rowy_chipR.2 (fun v hv=>by simp [chr] at hv;rcases hv with rfl | rfl | rfl | rfl | rfl | rfl | rfl | rfl | rfl | rfl <;> rfl) ?_;intro w8 E8 R8 T8 B8
    have kp8:w7.grownBy w8 (some w2.heap.size):=by rw [E8.out];exact keep_cells _ _ _ _
    have HR8:=hdH (R8)
    have HOw:Hid (OwR w.heap.size w8 (.slice (some ⟨r,0,none⟩) N rc) 72 5 (bks N (at1 gv b (.slice xq xn xc)) (at1 uv b (.slice yq yn yc)) (at1 l b l') (at1 s b s') (at1 e b e'))):=(HOw.out.1.kept kp8 (own_ne fun kk hkk=>by have:=(HOw.out.1.1.lt kk hkk).1;have:=HO.out;omega)).base (by have:=HO.out;omega)
    have BB:=hdH (BB.out.trans (B8.mono (by have:=HO.out;omega)))
    clear E8 R8 T8 B8 kp8 t7)
  |(have q6:=t6;refine store_law1 _ w.heap.size 9 (.int .i64 ((n+1 :Nat):Int)) rfl (by first | rfl | simpa using HW.out) (HA.out.there1 9 (by simp [chr])) (HA.out.free 9 (by simp [chr])) one_int.2 rfl rfl ?_;intro w7 E7
    have kp7:w6.grownBy w7 (some w.heap.size):=by rw [E7.out];exact keep_set _ _ _ _
    have HC:=hdH (HC.out.kept kp7 (range_lt HC.out.1 (by simp)) (by have:=HO.out;simp;omega))
    have HOw:Hid (OwR w3.heap.size w7 (.slice (some ⟨r,0,none⟩) N rc) 72 5 (bks N (at1 gv b (.slice xq xn xc)) (at1 uv b (.slice yq yn yc)) (at1 l b l') (at1 s b s') (at1 e b e'))∧w3.heap.size≤r):=⟨HOw.out.1.kept kp7 (own_ne fun kk hkk=>by have:=(HOw.out.1.1.lt kk hkk).1;have:=HO.out;omega),HOw.out.2⟩
    have BB:=hdH (BB.out.trans ((Below.refl w.heap.size _).grown kp7 BB.out.size (fun kk hkk=>by have hk9:w.heap.size=kk:=(Option.some.inj hkk);omega)))
    have HA:Hid (Vr w7 w.heap.size (chr [(N:Int),(P:Int),g2,g3,g4,g5] (.slice (some ⟨r,0,none⟩) N rc) (.slice po pn pc) o ((n+1 :Nat):Int))):=by
     have z:=HA.out.set 9 (by simp [chr]) (.int .i64 ((n+1 :Nat):Int))
     rw [←E7.out] at z
     exact z
    have r0:=HA.out.cell 0 _ rfl;have r1:=HA.out.cell 1 _ rfl;have r2:=HA.out.cell 2 _ rfl;have r3:=HA.out.cell 3 _ rfl;have r4:=HA.out.cell 4 _ rfl;have r5:=HA.out.cell 5 _ rfl;have r6:=HA.out.cell 6 _ rfl;have r7:=HA.out.cell 7 _ rfl;have r8:=HA.out.cell 8 _ rfl;have r9:=HA.out.cell 9 _ rfl
    clear E7 kp7 t6 c9 hwr;have t7:=tR)
  |(have q5:=t5;refine store_law1 _ w.heap.size 6 (.slice (some ⟨r,0,none⟩) N rc) rfl rfl (HA.out.there1 6 (by simp [chr])) (HA.out.free 6 (by simp [chr])) one_blks.2 rfl rfl ?_;intro w6 E6
    have kp6:w5.grownBy w6 (some w.heap.size):=by rw [E6.out];exact keep_set _ _ _ _
    have HC:=hdH (HC.out.kept kp6 (range_lt HC.out.1 (by simp)) (by have:=HO.out;simp;omega))
    have HOw:Hid (OwR w3.heap.size w6 (.slice (some ⟨r,0,none⟩) N rc) 72 5 (bks N (at1 gv b (.slice xq xn xc)) (at1 uv b (.slice yq yn yc)) (at1 l b l') (at1 s b s') (at1 e b e'))∧w3.heap.size≤r):=⟨HOw.out.1.kept kp6 (own_ne fun kk hkk=>by have:=(HOw.out.1.1.lt kk hkk).1;have:=HO.out;omega),HOw.out.2⟩
    have BB:=hdH (BB.out.trans ((Below.refl w.heap.size _).grown kp6 BB.out.size (fun kk hkk=>by have hk9:w.heap.size=kk:=(Option.some.inj hkk);omega)))
    have HA:Hid (Vr w6 w.heap.size (chr [(N:Int),(P:Int),g2,g3,g4,g5] (.slice (some ⟨r,0,none⟩) N rc) (.slice po pn pc) o (n:Int))):=by
     have z:=HA.out.set 6 (by simp [chr]) (.slice (some ⟨r,0,none⟩) N rc)
     rw [←E6.out] at z
     exact z
    have c9:=HA.out.cell 9 _ rfl
    have hwr:=HW.out
    clear E6 kp6 t5;have t6:=tR)
  |(have q4:=t4;refine store_lawC _ (bkc (.slice xq xn xc) (.slice yq yn yc) l' s' e') r (b*5) rfl rfl HT.out rowy_blk.2 (fun v hv=>by simp [bkc] at hv;rcases hv with rfl | rfl | rfl | rfl | rfl <;> rfl) ?_;intro w5 E5 R5 T5 B5
    have kp5:w4.grownBy w5 (some r):=by rw [E5.out];exact keep_cells _ _ _ _
    have HC:=hdH (HC.out.kept kp5 (range_lt HC.out.1 (by simp)) (by have:=HO.out;have:=HOw.out.2;simp;omega))
    have HA:=hdH (HA.out.kept kp5 (range_lt HA.out.1 (by simp [chr])) (by have:=HO.out;have:=HOw.out.2;simp;omega))
    have BB:=hdH (BB.out.trans ((Below.refl w.heap.size _).grown kp5 BB.out.size (fun kk hkk=>by have hk9:r=kk:=(Option.some.inj hkk);have:=HO.out;have:=HOw.out.2;omega)))
    have HOw:Hid (OwR w3.heap.size w5 (.slice (some ⟨r,0,none⟩) N rc) 72 5 (bks N (at1 gv b (.slice xq xn xc)) (at1 uv b (.slice yq yn yc)) (at1 l b l') (at1 s b s') (at1 e b e'))∧w3.heap.size≤r):=by
     refine ⟨?_,HOw.out.2⟩
     have z:=HOw.out.1.put HL.out b hb (bkc (.slice xq xn xc) (.slice yq yn yc) l' s' e') rfl
     rw [←E5.out,bks_set N gv uv l s e b _ _ _ _ _ hb] at z
     exact z
    clear E5 R5 T5 B5 kp5 t4 d0 d1 d2 d3 d4;have t5:=tR)
  |(have q3:=t3;at_builtin;refine push_lawT _ Tryz.underlying35 _ 5 72 info_blk rfl (by omega) w3.heap.size (by simp) _ _ [] (bks N gv uv l s e) rfl rfl (OwR.empty w3 72 5 (Nat.le_refl _)) (HR.out.below (by omega) (by exact BB.out)) H1.out (by rw [HL.out];simp;omega) (by rw [HL.out];simp;omega) (by rw [HL.out];omega) ?_;intro v4 w4 O4 kp4
    rw [List.nil_append] at O4
    have ne4:∀ x,x<w3.heap.size→some x≠(Value.slice (some ⟨w3.heap.size,0,none⟩) 0 0).ownBlock :=fun x hx e=>by
     have:x=w3.heap.size:=by injection e
     omega
    have HC:=hdH (HC.out.kept kp4 (range_lt HC.out.1 (by simp)) (ne4 _ (by have:=HO.out;omega)))
    have HB:=hdH (HB.out.kept kp4 (range_lt HB.out.1 (by simp [bkc])) (ne4 _ (by have:=HO.out;omega)))
    have HA:=hdH (HA.out.kept kp4 (range_lt HA.out.1 (by simp [chr])) (ne4 _ (by have:=HO.out;omega)))
    have BB:=hdH (BB.out.trans ((Below.refl w.heap.size _).grown kp4 BB.out.size (fun kk hkk=>by have hk9:w3.heap.size=kk:=(Option.some.inj hkk);have:=HO.out;omega)))
    obtain ⟨r,rc,rfl,hr,hrow⟩:=O4.row (by rw [HL.out];omega)
    rw [HL.out] at O4 hrow ⊢
    have HOw:Hid (OwR w3.heap.size w4 (.slice (some ⟨r,0,none⟩) N rc) 72 5 (bks N gv uv l s e)∧w3.heap.size≤r):=⟨O4,hr⟩
    have HT:Hid (w4.there r (b*5) 5):=(hrow b hb).2
    have d0:=HB.out.cell 0 _ rfl;have d1:=HB.out.cell 1 _ rfl;have d2:=HB.out.cell 2 _ rfl;have d3:=HB.out.cell 3 _ rfl;have d4:=HB.out.cell 4 _ rfl
    clear c6 O4 kp4 ne4 hr hrow t3;have t4:=tR)
  |(have q2:=t2;refine new_lawC _ _ zero_chr ?_;intro w3 V3 B3 l3
    have ha3:Below w3.heap.size w3 (w3.alloc (.cells #[] 72)):=(Below.refl _ _).alloc (Nat.le_refl _) _
    have HC:Hid (Vr (w3.alloc (.cells #[] 72)) w2.heap.size [.int .i64 0,.int .i64 0,.int .i64 0,.int .i64 0,.int .i64 0,.int .i64 0,.slice none 0 0,.slice none 0 0,.bool false,.int .i64 0]):=V3.below ha3 l3
    have HB:Hid (Vr (w3.alloc (.cells #[] 72)) w1.heap.size (bkc (.slice xq xn xc) (.slice yq yn yc) l' s' e')):=(HB.out.below B3 l2).below ha3 (by omega)
    have HA:Hid (Vr (w3.alloc (.cells #[] 72)) w.heap.size (chr [(N:Int),(P:Int),g2,g3,g4,g5] (.slice bq N bc) (.slice po pn pc) o (n:Int))):=(HA.out.below B3 (by omega)).below ha3 (by omega)
    have BB:Hid (Below w.heap.size w (w3.alloc (.cells #[] 72))):=(BB.out.trans (B3.mono (by omega))).trans (ha3.mono (by omega))
    have c6:(w3.alloc (.cells #[] 72)).cell? ⟨w.heap.size,6,none⟩=some (.slice bq N bc):=HA.out.cell 6 _ rfl
    have HO:Hid (w.heap.size<w1.heap.size∧w1.heap.size<w2.heap.size∧w2.heap.size<w3.heap.size):=⟨l1,l2,l3⟩
    clear V3 B3 ha3 t2;have t3:=tR)
  |(have q1:=t1;refine box_lawC _ (bkc (.slice xq xn xc) (.slice yq yn yc) l' s' e') rfl ?_;intro w2 V2 B2 l2;have HB:=hdH (V2);have HA:=hdH (HA.out.below B2 l1);have BB:=hdH (BB.out.trans (B2.mono (by omega)));clear V2 B2 t1;have t2:=tR)
  |(have q0:=t0;refine box_lawC _ (chr [(N:Int),(P:Int),g2,g3,g4,g5] (.slice bq N bc) (.slice po pn pc) o (n:Int)) rfl ?_;intro w1 V1 B1 l1;have HA:=hdH (V1);have BB:=hdH (B1);clear V1 B1 t0;have t1:=tR))
 exact bodyPost_ret (v:=.agg (chr [(N:Int),(P:Int),g2,g3,g4,g5] (.slice (some ⟨r,0,none⟩) N rc) (.slice po pn pc) o ((n+1 :Nat):Int)).toArray) (results_c rfl _ _ w2.heap.size _ rowy_chipR rfl HR8.out) rfl ⟨r,rc,rfl,HOw.out,BB.out⟩
end Go.Proofs.YtmbgokmomkmgcaaGreatDoor.na
namespace Go.Proofs.YtmbgokmomkmgcaaGreatDoor.na
open Go.RowKit Go.Proofs.YtmbgokmomkmgcaaGreatDoor.fa
set_option maxRecDepth 20000
theorem rpg_no (N P:Nat) (g2 g3 g4 g5:Int) (bq:Option Addr) (bc:Nat) (po:Option Addr) (pn pc:Nat) (n b p:Int) (S:Nat) (hs:Shp [(N:Int),(P:Int),g2,g3,g4,g5] N P S) (vq:Option Addr) (vl vc:Nat) (hno:¬(0≤b∧b<(N:Int)∧0≤p∧p<(P:Int)∧vl=S)) (w:World):
  Calls Tryz.prog 55 #[.agg (chr [(N:Int),(P:Int),g2,g3,g4,g5] (.slice bq N bc) (.slice po pn pc) false n).toArray,.agg (ints .i64 [b,p]),.slice vq vl vc] w fun e w'=>e=.returned (.tuple #[.agg (chr [(N:Int),(P:Int),g2,g3,g4,g5] (.slice bq N bc) (.slice po pn pc) false n).toArray,.int .i64 2])∧Below w.heap.size w w':=by
 have t0:=tR
 have HQS:IntKind.i64.wrap (g2+88)=(S:Int):=by
  obtain ⟨gl,hr,z0,z1,z2⟩:=hs
  obtain ⟨k1,k2,k3, -⟩:=hr.1
  have e1:gb [(N:Int),(P:Int),g2,g3,g4,g5] 2=g2:=rfl
  rw [IntKind.wrap_i64];omega
 have HQ2:g2+88=(S:Int):=hs.2.2.2.2
 by_cases hg:0≤b∧b<(N:Int)∧0≤p∧p<(P:Int)
 ·have hv:vl≠S:=fun e=>hno ⟨hg.1,hg.2.1,hg.2.2.1,hg.2.2.2,e⟩
  have hv1:(vl:Int)≠(S:Int):=by omega
  have hv2:((vl:Int) == (S:Int))=false:=by rw [beq_eq_false_iff_ne];exact hv1
  have SR:Hid (∀ w,Calls Tryz.prog 91 #[.agg (ints .i64 [(N:Int),(P:Int),g2,g3,g4,g5]),.agg (ints .i64 [b,p])] w fun e w'=>e=.returned (.bool true)∧Below w.heap.size w w'):=fun w=>by
   have z:=place_any [(N:Int),(P:Int),g2,g3,g4,g5] N P S hs b p w
   rw [show decide (0≤b∧b<(N:Int)∧0≤p∧p<(P:Int))=true from decide_eq_true hg] at z
   exact z
  clear hs hno HQ2
  go_enter Tryz.func55,Tryz.ntmps55
  go_wp2_with (first
   |(have q4:=t4;refine store_lawC _ (chr [(N:Int),(P:Int),g2,g3,g4,g5] (.slice bq N bc) (.slice po pn pc) false n) w2.heap.size 0 rfl rfl HC.out.2 rowy_chipR.2 (fun v hv=>by simp [chr] at hv;rcases hv with rfl | rfl | rfl | rfl | rfl | rfl | rfl | rfl | rfl | rfl <;> rfl) ?_;intro w9 E3 R3 T3 B3;have HR3:=hdH (R3);have BB:=hdH (BB.out.trans (B3.mono (by omega)));clear E3 R3 T3 B3 t4)
   |(have q3:=t3;go_at_call 91;refine (SR.out _).mono ?_;rintro e9 w4 ⟨rfl,B4⟩;have HC:=hdH (HC.out.below B4 l3);have HA:=hdH (HA.out.below B4 (by omega));have BB:=hdH (BB.out.trans (B4.mono (by omega)));clear r0 r1 r2 r3 r4 r5 r6 r7 r8 r9;have r0:=HA.out.cell 0 _ rfl;have r1:=HA.out.cell 1 _ rfl;have r2:=HA.out.cell 2 _ rfl;have r3:=HA.out.cell 3 _ rfl;have r4:=HA.out.cell 4 _ rfl;have r5:=HA.out.cell 5 _ rfl;have r6:=HA.out.cell 6 _ rfl;have r7:=HA.out.cell 7 _ rfl;have r8:=HA.out.cell 8 _ rfl;have r9:=HA.out.cell 9 _ rfl;clear B4 t3;have t4:=tR)
   |(have q2:=t2;refine new_lawC _ _ zero_chr ?_;intro w3 V3 B3 l3;have HC:=hdH (V3);have HA:=hdH (HA.out.below B3 (by omega));have HP:=hdH (HP.out.below B3 (by omega));have BB:=hdH (BB.out.trans (B3.mono (by omega)));have r0:=HA.out.cell 0 _ rfl;have r1:=HA.out.cell 1 _ rfl;have r2:=HA.out.cell 2 _ rfl;have r3:=HA.out.cell 3 _ rfl;have r4:=HA.out.cell 4 _ rfl;have r5:=HA.out.cell 5 _ rfl;have r6:=HA.out.cell 6 _ rfl;have r7:=HA.out.cell 7 _ rfl;have r8:=HA.out.cell 8 _ rfl;have r9:=HA.out.cell 9 _ rfl;have u0:w3.cell? ⟨w1.heap.size,0,none⟩=some (.int .i64 b):=HP.out.cell0 0 (by simp);have u1:w3.cell? ⟨w1.heap.size,1,none⟩=some (.int .i64 p):=HP.out.cell0 1 (by simp);clear V3 B3 t2;have t3:=tR)
   |(have q1:=t1;refine box_lawF _ rfl (.tmp 1) 78 rfl .i64 [b,p] rfl ?_;intro w2 X2 B2 l2;have HP:=hdH (X2);have HA:=hdH (HA.out.below B2 l1);have BB:=hdH (BB.out.trans (B2.mono (by omega)));clear X2 B2 t1;have t2:=tR)
   |(have q0:=t0;refine box_lawC _ (chr [(N:Int),(P:Int),g2,g3,g4,g5] (.slice bq N bc) (.slice po pn pc) false n) rfl ?_;intro w1 V1 B1 l1;have HA:=hdH (V1);have BB:=hdH (B1);clear V1 B1 t0;have t1:=tR))
  exact bodyPost_ret (v:=.tuple #[.agg (chr [(N:Int),(P:Int),g2,g3,g4,g5] (.slice bq N bc) (.slice po pn pc) false n).toArray,.int .i64 2]) (results_cv rfl _ _ w2.heap.size _ _ rowy_chipR rfl rfl HR3.out) rfl ⟨rfl,BB.out⟩
 ·skip
  have SR:Hid (∀ w,Calls Tryz.prog 91 #[.agg (ints .i64 [(N:Int),(P:Int),g2,g3,g4,g5]),.agg (ints .i64 [b,p])] w fun e w'=>e=.returned (.bool false)∧Below w.heap.size w w'):=fun w=>by
   have z:=place_any [(N:Int),(P:Int),g2,g3,g4,g5] N P S hs b p w
   rw [show decide (0≤b∧b<(N:Int)∧0≤p∧p<(P:Int))=false from decide_eq_false hg] at z
   exact z
  clear hs hno HQ2 HQS
  go_enter Tryz.func55,Tryz.ntmps55
  go_wp2_with (first
   |(have q4:=t4;refine store_lawC _ (chr [(N:Int),(P:Int),g2,g3,g4,g5] (.slice bq N bc) (.slice po pn pc) false n) w2.heap.size 0 rfl rfl HC.out.2 rowy_chipR.2 (fun v hv=>by simp [chr] at hv;rcases hv with rfl | rfl | rfl | rfl | rfl | rfl | rfl | rfl | rfl | rfl <;> rfl) ?_;intro w9 E3 R3 T3 B3;have HR3:=hdH (R3);have BB:=hdH (BB.out.trans (B3.mono (by omega)));clear E3 R3 T3 B3 t4)
   |(have q3:=t3;go_at_call 91;refine (SR.out _).mono ?_;rintro e9 w4 ⟨rfl,B4⟩;have HC:=hdH (HC.out.below B4 l3);have HA:=hdH (HA.out.below B4 (by omega));have BB:=hdH (BB.out.trans (B4.mono (by omega)));clear r0 r1 r2 r3 r4 r5 r6 r7 r8 r9;have r0:=HA.out.cell 0 _ rfl;have r1:=HA.out.cell 1 _ rfl;have r2:=HA.out.cell 2 _ rfl;have r3:=HA.out.cell 3 _ rfl;have r4:=HA.out.cell 4 _ rfl;have r5:=HA.out.cell 5 _ rfl;have r6:=HA.out.cell 6 _ rfl;have r7:=HA.out.cell 7 _ rfl;have r8:=HA.out.cell 8 _ rfl;have r9:=HA.out.cell 9 _ rfl;clear B4 t3;have t4:=tR)
   |(have q2:=t2;refine new_lawC _ _ zero_chr ?_;intro w3 V3 B3 l3;have HC:=hdH (V3);have HA:=hdH (HA.out.below B3 (by omega));have HP:=hdH (HP.out.below B3 (by omega));have BB:=hdH (BB.out.trans (B3.mono (by omega)));have r0:=HA.out.cell 0 _ rfl;have r1:=HA.out.cell 1 _ rfl;have r2:=HA.out.cell 2 _ rfl;have r3:=HA.out.cell 3 _ rfl;have r4:=HA.out.cell 4 _ rfl;have r5:=HA.out.cell 5 _ rfl;have r6:=HA.out.cell 6 _ rfl;have r7:=HA.out.cell 7 _ rfl;have r8:=HA.out.cell 8 _ rfl;have r9:=HA.out.cell 9 _ rfl;have u0:w3.cell? ⟨w1.heap.size,0,none⟩=some (.int .i64 b):=HP.out.cell0 0 (by simp);have u1:w3.cell? ⟨w1.heap.size,1,none⟩=some (.int .i64 p):=HP.out.cell0 1 (by simp);clear V3 B3 t2;have t3:=tR)
   |(have q1:=t1;refine box_lawF _ rfl (.tmp 1) 78 rfl .i64 [b,p] rfl ?_;intro w2 X2 B2 l2;have HP:=hdH (X2);have HA:=hdH (HA.out.below B2 l1);have BB:=hdH (BB.out.trans (B2.mono (by omega)));clear X2 B2 t1;have t2:=tR)
   |(have q0:=t0;refine box_lawC _ (chr [(N:Int),(P:Int),g2,g3,g4,g5] (.slice bq N bc) (.slice po pn pc) false n) rfl ?_;intro w1 V1 B1 l1;have HA:=hdH (V1);have BB:=hdH (B1);clear V1 B1 t0;have t1:=tR))
  exact bodyPost_ret (v:=.tuple #[.agg (chr [(N:Int),(P:Int),g2,g3,g4,g5] (.slice bq N bc) (.slice po pn pc) false n).toArray,.int .i64 2]) (results_cv rfl _ _ w2.heap.size _ _ rowy_chipR rfl rfl HR3.out) rfl ⟨rfl,BB.out⟩
end Go.Proofs.YtmbgokmomkmgcaaGreatDoor.na
