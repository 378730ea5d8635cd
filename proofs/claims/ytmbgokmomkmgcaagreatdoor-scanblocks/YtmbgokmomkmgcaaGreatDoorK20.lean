/- Parts of the proof: what ScanBlocks reaches. No claim of its own. -/
import Derived.Lib.MakeNoZero
import Derived.Laws.AppendOwnNone
import Derived.Deep.DeepCutAuto
import Derived.ArgAppend
import Derived.WalkKit
import Derived.WalkSmall
import Derived.ProofKit
import Derived.OpenShut
import Derived.BigQuiet
import Derived.Deep.QuietTactic
import Derived.Deep.RegionHeld3
import Derived.Lib.SliceRun
import Derived.Deep.WholeRow
import Derived.Deep.MidRow
import Derived.Laws.StructEq
import Derived.Test.YtmbgokmomkmgcaaGreatDoorK00
import Derived.Test.YtmbgokmomkmgcaaGreatDoorK02
import Derived.Test.YtmbgokmomkmgcaaGreatDoorK08
import Derived.Test.YtmbgokmomkmgcaaGreatDoorK09
import Derived.Test.YtmbgokmomkmgcaaGreatDoorK10
import Derived.Test.YtmbgokmomkmgcaaGreatDoorK11
import Derived.Test.YtmbgokmomkmgcaaGreatDoorK12
import Derived.Test.YtmbgokmomkmgcaaGreatDoorK13
import Derived.Test.YtmbgokmomkmgcaaGreatDoorK14
import Derived.Test.YtmbgokmomkmgcaaGreatDoorK15
import Derived.Test.YtmbgokmomkmgcaaGreatDoorK18
import Derived.Test.YtmbgokmomkmgcaaGreatDoorK19
set_option maxHeartbeats 8000000
namespace Go.Proofs.YtmbgokmomkmgcaaGreatDoor.na
open Go.RowKit Go.Proofs.YtmbgokmomkmgcaaGreatDoor.fa
set_option maxRecDepth 20000
theorem info_bytes:(Tryz.prog.info? 26).map (fun i=>(i.zero,i.size,i.bytes))=some (some (.slice none 0 0),1,24):=by kernel_rfl
theorem info_blk:(Tryz.prog.info? 72).map (fun i=>(i.zero,i.size,i.bytes))=some (some (.agg #[.slice none 0 0,.slice none 0 0,.int .i64 0,.bool false,.int .i64 0]),5,72):=by kernel_rfl
theorem zero_blk:(Tryz.prog.info? 72).map (fun i=>(i.zero,i.size))=some (some (.agg ([.slice none 0 0,.slice none 0 0,.int .i64 0,.bool false,.int .i64 0]:List Value).toArray),5):=by kernel_rfl
theorem zero_chr:(Tryz.prog.info? 38).map (fun i=>(i.zero,i.size))=some (some (.agg ([.int .i64 0,.int .i64 0,.int .i64 0,.int .i64 0,.int .i64 0,.int .i64 0,.slice none 0 0,.slice none 0 0,.bool false,.int .i64 0]:List Value).toArray),10):=by kernel_rfl
theorem owr_up {w w':World} {B:Nat} {v v':Value} {e:TypeId} {k:Nat} {es es':List (List Value)} (h:OwR B w v e k es) (h':OwR 0 w' v' e k es') (hB:B≤w.heap.size) (hw:v'.ownBlock=v.ownBlock∨∃ k,v'.ownBlock=some k∧w.heap.size≤k):OwR B w' v' e k es':=by
 obtain ⟨⟨a1,a2⟩,a3⟩:=h'
 refine ⟨⟨a1,?_⟩,a3⟩
 rcases a2 with e1 | ⟨g',c',u',rfl,e2,e3⟩
 ·exact Or.inl e1
 ·refine Or.inr ⟨g',c',u',rfl,?_,e3⟩
  rcases hw with q | ⟨k',q,hk⟩
  ·exact (h.1.lt g' q.symm).1
  ·have:g'=k':=by injection q
   omega
section
variable {ops:Array Oper} {rest:List Oper} {o:Oper} {a:Act} {Q:Exit→Act→World→Prop} {K:Act→World→Prop} {E:Prop}
theorem step_one1 (w:World) (hg:o.guard=none) (d:Option Tmp) (hd:o.dst=d) (x:Operand) (t e:TypeId) (hop:o.op=Op.buildSlice t 1 #[(0,x)]) (v:Value) (hx:a.eval x=v)
  (hrun:∀ w:World,(Instr.buildSlice t 1 #[(0,v)]).run Tryz.prog w=.ok (.slice (some ⟨w.heap.size,0,none⟩) 1 1) (w.alloc (.cells #[v] e)))
  (hK:∀ w',Rws w' (.slice (some ⟨w.heap.size,0,none⟩) 1 1) 1 [[v]]→Below w.heap.size w w'→K (a.put d (.slice (some ⟨w.heap.size,0,none⟩) 1 1)) w'):
  if Region.wanted o (yielded ops a.tmps)=true then Oper.wp Tryz.prog o a w K Q else E:=by
 have hw:Region.wanted o (yielded ops a.tmps)=true:=by simp [Region.wanted,hg]
 rw [if_pos hw]
 subst hd
 unfold Oper.wp execOp
 simp only [hop,List.map_toArray,List.map_cons,List.map_nil,hx,Sem.run_bind,Sem.run_pure,Result.andThen_ok,hrun]
 refine hK _ ⟨_,1,rfl,by simp,by omega,(by intro h;cases h),fun t ht=>?_,fun _=>⟨w.heap.size,0,rfl,fun t ht=>?_⟩⟩ ((Below.refl _ _).alloc (Nat.le_refl _) _)
 ·have:t=0:=by simpa using ht
  subst this;rfl
 ·have:t=0:=by simpa using ht
  subst this
  have:=(Vr.new w e [v]).1
  simpa [el] using this
theorem push_lawT {d:Option Tmp} {s x:Operand} {t e ty:TypeId} {pos:String} {af:Array Edge} (w:World)
  (hu:Tryz.prog.underlying t=some (.slice e)) (z:Value) (k m0:Nat) (hi:(Tryz.prog.info? e).map (fun i=>(i.zero,i.size,i.bytes))=some (some z,k,m0)) (hz:z.cells.size=k) (hk:0<k)
  (B:Nat) (hB:B≤w.heap.size) (v vy:Value) (es ys:List (List Value)) (hs:a.eval s=v) (hx:a.eval x=vy) (hown:OwR B w v e k es) (hy:Rws w vy k ys) (h1:∀ u ∈ ys.flatten,u.oneCell'=true) (hn:es.length+ys.length≤9223372036854775807) (hm:(es.length+ys.length)*m0≤140737488355328) (hp:0<ys.length)
  (hK:∀ v' w',OwR B w' v' e k (es ++ ys)→w.grownBy w' v.ownBlock→wpList Tryz.prog ops Q rest (a.put d v') w'):
  wpList Tryz.prog ops Q (⟨d,.call {callee:=.builtin .append,args:=#[s,x],argTypes:=#[t,t]},ty,pos,af,none⟩ :: rest) a w:=by
 refine wpList_plain rfl fun K hK'=>?_
 obtain ⟨v',w',hrun,r1,r2,r3⟩:=run_appT w (ty:=ty) hu hi hz hk v vy es ys (hown.base (Nat.zero_le _)) hy h1 hn hm hp
 unfold Oper.wp
 simp [execOp,resolve,invoke,builtin,hs,hx,hrun,Result.andThen]
 exact hK' _ _ (hK v' w' (owr_up hown r1 hB r3) r2)
end
theorem exec_add {ev:Operand→Value} {o:Oper} {w:World} (x y:Operand) (hop:o.op=Op.binOp .add 3 x y 3) (A B q:Int) (hx:ev x=.int .i64 A) (hy:ev y=.int .i64 B) (hq:IntKind.i64.wrap (A+B)=q):(execOp ev o).run Tryz.prog w=.ok (.value (.int .i64 q)) w:=by
 subst hq
 unfold execOp
 simp only [hop,hx,hy]
 rfl
theorem rws_alloc (w:World) (t:TypeId) (v:Value):Rws (w.alloc (.cells #[v] t)) (.slice (some ⟨w.heap.size,0,none⟩) 1 1) 1 [[v]]:=by
 refine ⟨_,1,rfl,by simp,by omega,(by intro h;cases h),fun t ht=>?_,fun _=>⟨w.heap.size,0,rfl,fun t ht=>?_⟩⟩
 ·have:t=0:=by simpa using ht
  subst this;rfl
 ·have:t=0:=by simpa using ht
  subst this
  have:=(Vr.new w t [v]).1
  simpa [el] using (Vr.new w _ [v]).1
def Bln (w:World) (h3 B k S:Nat) (gv uv:Value):Prop:=Vr w h3 (bkc gv uv (-1) false 0)∧(∃ xv:Nat→Value,OwR B w gv 26 1 (pgc k xv)∧∀ p,p<k→Own B w (xv p) (List.replicate S 255))∧OwR B w uv 3 1 (usc k fun _=>0)∧h3<B∧B≤w.heap.size
theorem Bln.low {w w':World} {h3 B k S:Nat} {gv uv:Value} (h:Bln w h3 B k S gv uv) (hb:Below w.heap.size w w'):Bln w' h3 B k S gv uv:=by
 obtain ⟨c1,⟨xv,c2,c3⟩,c4,c5,c6⟩:=h
 exact ⟨c1.below hb (range_lt c1.1 (by simp [bkc])),⟨xv,c2.low hb,fun p hp=>own_low (c3 p hp) hb⟩,c4.low hb,c5,Nat.le_trans c6 hb.size⟩
theorem blank_any (g:List Int) (N P S:Nat) (hs:Shp g N P S) (w:World):
  Calls Tryz.prog 52 #[.agg (ints .i64 g)] w fun e w'=>∃ gv uv,e=.returned (.agg (bkc gv uv (-1) false 0).toArray)∧BlkO w.heap.size w' gv uv P (fun _=>List.replicate S 255) (fun _=>0)∧Below w.heap.size w w':=by
 obtain ⟨gl,hr,g0,g1,g2⟩:=hs
 have HNM:Hid (P≤32∧S≤4184):=by
  obtain ⟨k1,k2,k3, -⟩:=hr.1
  show _∧_
  omega
 have SF:Hid (∀ w,Calls Tryz.prog 89 #[.int .u8 255,.int .i64 (S:Int)] w fun e w'=>∃ v,e=.returned v∧Own w.heap.size w' v (List.replicate S 255)∧Below w.heap.size w w'):=fun w=>by
  have:=rfill_own 255 (S:Int) w
  have e:clamp (S:Int) 65536=S:=by unfold clamp;have:=HNM.out;omega
  rw [e] at this
  exact this
 have qS:IntKind.i64.wrap (gb g 2+88)=(S:Int):=by rw [g2,IntKind.wrap_i64];have:=HNM.out;omega
 have HQS:=hdH (qS)
 have hP32:P≤32:=HNM.out.1
 clear hr qS g2 g0
 have t0:=tR
 go_enter Tryz.func52,Tryz.ntmps52
 go_wp2_with (first
  |(have q3:=t3;refine store_lawC _ (bkc (.slice none 0 0) (.slice none 0 0) (-1) false 0) w2.heap.size 0 rfl rfl HV3.out.2 rowy_blk.2 (fun v hv=>by simp [bkc] at hv;rcases hv with rfl | rfl | rfl | rfl <;> rfl) ?_;intro w4 E4 R4 T4 B4;have HV4:Hid (Vr w4 w2.heap.size (bkc (.slice none 0 0) (.slice none 0 0) (-1) false 0)):=⟨R4,T4⟩;have HV2:=hdH (HV2.out.below B4 l2);have HP:=hdH (HP.out.below B4 (Nat.lt_trans l1 l2));have BB:=hdH (BB.out.trans (B4.mono (by omega)));have l4:w2.heap.size<w4.heap.size:=Nat.lt_of_lt_of_le l3 B4.size;clear R4 T4 E4 B4 t3;have t4:=tR)
  |(have q2:=t2;refine new_lawC _ _ zero_blk ?_;intro w3 V3 B3 l3;have HV3:=hdH (V3);have HV2:=hdH (HV2.out.below B3 l2);have HP:=hdH (HP.out.below B3 (Nat.lt_trans l1 l2));have BB:=hdH (BB.out.trans (B3.mono (by omega)));clear V3 B3 t2;have t3:=tR)
  |(have q1:=t1;refine new_lawC _ _ zero_blk ?_;intro w2 V2 B2 l2;have HV2:=hdH (V2);have HP:=hdH (HP.out.below B2 l1);have BB:=hdH (BB.out.trans (B2.mono (by omega)));clear V2 B2 t1;have t2:=tR)
  |(have q0:=t0;refine box_lawF _ rfl (.tmp 0) 23 rfl .i64 g rfl ?_;intro w1 X1 B1 l1;have HP:=hdH (X1);have BB:=hdH (B1);clear X1 B1 t0;have t1:=tR))
 obtain ⟨h1,e1⟩:∃ x,x=w.heap.size:=⟨_,rfl⟩
 obtain ⟨h2,e2⟩:∃ x,x=w1.heap.size:=⟨_,rfl⟩
 obtain ⟨h3,e3⟩:∃ x,x=w2.heap.size:=⟨_,rfl⟩
 obtain ⟨B,hB⟩:∃ x,x=w4.heap.size:=⟨_,rfl⟩
 have HO:Hid (h1=w.heap.size∧h1<h2∧h2<h3∧h3<B):=⟨e1,by omega,by omega,by omega⟩
 rw [←e1] at HP
 rw [←e2] at HV2
 rw [←e3] at HV4
 have HI:Hid (∃ gv uv,Bln w4 h3 B 0 S gv uv):=⟨_,_,HV4.out,⟨fun _=>.slice none 0 0,OwR.nil _ _ _ _,fun p hp=>by omega⟩,OwR.nil _ _ _ _,by omega,by omega⟩
 rw [←e1,←e2,←e3]
 clear e1 e2 e3 hB l1 l2 l3 l4 HV4 HV3
 go_loopw [4] (fun i wr=>∃ k:Nat,k≤P∧i=.int .i64 k∧Hid (∃ gv uv,Bln wr h3 B k S gv uv)∧Hid (Ar wr h1 0 .i64 g∧Vr wr h2 [.slice none 0 0,.slice none 0 0,.int .i64 0,.bool false,.int .i64 0])∧Hid (Below w.heap.size w wr)) (fun i _=>P-(intOf i).toNat)
 case atStart=>exact ⟨0,Nat.zero_le _,rfl,HI,⟨HP.out,HV2.out⟩,BB⟩
 case round=>
  obtain ⟨k,hk,rfl,HX,HY,HBe⟩:=hrel
  obtain ⟨wa,rfl⟩:∃ x,x=wr:=⟨_,rfl⟩
  clear HI HP HV2 BB
  have k0:(0 :Int)≤(k:Int):=by omega
  have fg1:wa.cell? ⟨h1,1,none⟩=some (.int .i64 (P:Int)):=by rw [←g1];exact HY.out.1.cell0 1 (by omega)
  obtain ⟨gv,uv,b1,b2,b3,b4,b5⟩:=HX.out
  obtain ⟨gq,gc,rfl⟩:=rws_form (show Rws wa gv 1 (pgc k b2.choose) from b2.choose_spec.1.rws) (pgc_len k _)
  obtain ⟨uq,uc,rfl⟩:=rws_form b3.rws (usc_len k _)
  have HB:Hid (Bln wa h3 B k S (.slice gq k gc) (.slice uq k uc)):=⟨b1,b2,b3,b4,b5⟩
  clear HX b1 b2 b3 b4 b5
  by_cases hlt:k<P
  ·have k1:(k:Int)<(P:Int):=by omega
   go_wp2
   have HB:Hid (Bln wa.drew h3 B k S (.slice gq k gc) (.slice uq k uc)):=HB.out.low (Below.refl _ _).drew
   have HY2:Hid (Vr wa.drew h2 [.slice none 0 0,.slice none 0 0,.int .i64 0,.bool false,.int .i64 0]):=HY.out.2.heap rfl
   have HBe:Hid (Below w.heap.size w wa.drew):=HBe.out.drew
   refine wp_region_held_drew (S:=fun w'=>Ar w' h1 0 .i64 g) (by kernel_rfl) (HY.out.1.drewN 1) (fun hS=>?_)
   obtain ⟨x1,hx0⟩:∃ x,x=wa.drew:=⟨_,rfl⟩
   rw [←hx0] at hS HB HY2 HBe ⊢
   clear hx0
   refine tkH 0 (some 12) (.pointer (some ⟨h3,0,none⟩)) rfl rfl (Or.inl ⟨by rfl,fun w' hw'=>by go_simp⟩) hS ?_
   simp only [Act.put,zE1,zE2,zE3]
   refine tkH 2 (some 14) (.pointer (some ⟨h1,2,none⟩)) rfl rfl (Or.inl ⟨by rfl,fun w' hw'=>by go_simp⟩) hS ?_
   simp only [Act.put,zE1,zE2,zE3]
   refine tkH 3 (some 15) (.int .i64 (gb g 2)) rfl rfl (Or.inl ⟨by rfl,fun w' hw'=>by exact exec_loadN 3 (.tmp 14) rfl _ rfl _ _ (load_one one_int (hw'.cell0 2 (by omega)))⟩) hS ?_
   simp only [Act.put,zE1,zE2,zE3]
   refine tkH 4 (some 16) (.int .i64 (S:Int)) rfl rfl (Or.inl ⟨by rfl,fun w' hw'=>by exact exec_add (.tmp 15) (.const (.int .i64 88)) rfl (gb g 2) 88 _ rfl rfl HQS.out⟩) hS ?_
   simp only [Act.put,zE1,zE2,zE3]
   refine wpAnyH_ready (rs:=[1,5]) (by kernel_rfl) (by simp) ?_
   refine AllReadyH.cons rfl (fun K hK=>?_) (AllReadyH.cons rfl (fun K hK=>?_) AllReadyH.nil)
   ·refine step_load _ rfl (some 13) rfl (.tmp 12) 69 rfl _ (.slice gq k gc) rfl (load_one one_pages (HB.out.1.cell 0 _ rfl)) ?_
    refine hK.out _ _ hS (fun _=>?_)
    simp only [Act.put,zE1,zE2,zE3]
    clear hK K
    refine wpAnyH_ready (rs:=[5]) (by kernel_rfl) (by simp) ?_
    refine AllReadyH.cons rfl (fun K hK=>?_) AllReadyH.nil
    refine ge.step_callW _ (by rfl) (some 17) rfl 89 #[.const (.int .u8 255),.tmp 16] #[5,3] rfl (fun q w'=>by rfl) #[.int .u8 255,.int .i64 (S:Int)] (by simp only [List.map_toArray,List.map_cons,List.map_nil];rfl) (fun v w'=>Own x1.heap.size w' v (List.replicate S 255)∧Below x1.heap.size x1 w') ?_ ?_
    ·exact SF.out x1
    rintro v9 x2 ⟨y9,hb9⟩
    obtain ⟨pq,pc,rfl⟩:∃ pq pc,v9=.slice pq S pc:=by
     obtain ⟨ao,cap,e⟩:=byt_form (y9.byt (allB_replicate 255 S (by omega)))
     rw [List.length_replicate] at e
     exact ⟨ao,cap,e⟩
    have z9:=HB.out.2.2.2.2
    have HB:=hdH (HB.out.low hb9)
    have HY2:=hdH (HY2.out.below hb9 (range_lt HY2.out.1 (by simp)))
    have HBe:=hdH (HBe.out.trans (hb9.mono HBe.out.size))
    have hS:Ar x2 h1 0 .i64 g:=hS.below hb9 (hS.lt (by omega))
    have HPG:Hid (Own B x2 (.slice pq S pc) (List.replicate S 255)):=own_base y9 z9
    clear y9 hb9 z9
    refine hK.out _ _ hS (fun _=>?_)
    simp only [Act.put,zE1,zE2,zE3]
    clear hK K
    refine wpAnyH_ready (rs:=[6]) (by kernel_rfl) (by simp) ?_
    refine AllReadyH.cons rfl (fun K hK=>?_) AllReadyH.nil
    refine step_one1 _ rfl (some 18) rfl (.tmp 17) 69 26 rfl (.slice pq S pc) rfl (fun w=>by kernel_rfl) ?_
    intro x3 r9 hb9
    obtain ⟨h9,e9⟩:∃ x,x=x2.heap.size:=⟨_,rfl⟩
    rw [←e9] at r9 ⊢
    have HB:=hdH (HB.out.low hb9)
    have HY2:=hdH (HY2.out.below hb9 (range_lt HY2.out.1 (by simp)))
    have HBe:=hdH (HBe.out.trans (hb9.mono HBe.out.size))
    have hS:Ar x3 h1 0 .i64 g:=hS.below hb9 (hS.lt (by omega))
    have HPG:=hdH (own_low HPG.out hb9)
    have RW:=hdH (r9)
    clear r9 hb9 e9
    refine hK.out _ _ hS (fun _=>?_)
    simp only [Act.put,zE1,zE2,zE3]
    clear hK K
    refine wpAnyH_ready (rs:=[7]) (by kernel_rfl) (by simp) ?_
    refine AllReadyH.cons rfl (fun K hK=>?_) AllReadyH.nil
    obtain ⟨c1,⟨xv,c2,c3⟩,c4,c5,c6⟩:=HB.out
    refine step_appT _ rfl (some 19) rfl (.tmp 13) (.tmp 18) 69 26 rfl Tryz.underlying69 _ 1 24 info_bytes rfl (by omega) _ _ (pgc k xv) [[.slice pq S pc]] rfl rfl (c2.base (Nat.zero_le _)) RW.out (fun u hu=>by simp at hu;subst hu;rfl) (by rw [pgc_len];simp;omega) (by rw [pgc_len];simp;omega) (by simp) ?_
    intro gv9 x4 o9 g9 f9
    have o9':=owr_up c2 o9 c6 f9
    have hgo:∀ kk,(Value.slice gq k gc).ownBlock =some kk→B≤kk:=fun kk hkk=>(c2.1.lt kk hkk).1
    have hne3:∀ x,x<B→some x≠(Value.slice gq k gc).ownBlock :=fun x hx e=>by have:=hgo x e.symm;omega
    have HG9:Hid (OwR B x4 gv9 26 1 (pgc (k+1) (at1 xv k (.slice pq S pc)))∧(∀ p,p<k+1→Own B x4 (at1 xv k (.slice pq S pc) p) (List.replicate S 255))∧OwR B x4 (.slice uq k uc) 3 1 (usc k fun _=>0)∧Vr x4 h3 (bkc (.slice gq k gc) (.slice uq k uc) (-1) false 0)∧B≤x4.heap.size):=by
     refine ⟨?_,fun p hp=>?_,c4.ap c2.1 (by decide) g9,c1.kept g9 (range_lt c1.1 (by simp [bkc])) (hne3 h3 c5),Nat.le_trans c6 g9.size⟩
     ·rw [pgc_succ,at1_same,pgc_congr (fun p hp=>at1_other xv k _ p (by omega))]
      exact o9'
     ·by_cases e:p=k
      ·subst e
       rw [at1_same]
       exact own_ap HPG.out c2.1 (by decide) g9
      ·rw [at1_other xv k _ p e]
       exact own_ap (c3 p (by omega)) c2.1 (by decide) g9
    have HY2:=hdH (HY2.out.kept g9 (range_lt HY2.out.1 (by simp)) (hne3 h2 (by have:=HO.out;omega)))
    have HBe:=hdH (HBe.out.trans ((Below.refl w.heap.size x3).grown g9 HBe.out.size (fun kk hkk=>by have:=hgo kk hkk;have:=HO.out;omega)))
    have hS:Ar x4 h1 0 .i64 g:=hS.heap (g9.block h1 (hS.lt (by omega)) (hne3 h1 (by have:=HO.out;omega)))
    have hg1:gv9.oneCell'=true:=own_one o9
    have hg2:gv9.cells=#[gv9]:=own_cells o9
    clear c1 c2 c3 c4 c5 c6 o9 o9' g9 f9 hgo hne3
    refine hK.out _ _ hS (fun _=>?_)
    simp only [Act.put,zE1,zE2,zE3]
    clear hK K
    refine tkH 8 (some 20) (.pointer (some ⟨h3,0,none⟩)) rfl rfl (Or.inl ⟨by rfl,fun w' hw'=>by go_simp⟩) hS ?_
    simp only [Act.put,zE1,zE2,zE3]
    refine wpAnyH_ready (rs:=[9]) (by kernel_rfl) (by simp) ?_
    refine AllReadyH.cons rfl (fun K hK=>?_) AllReadyH.nil
    refine step_store1 _ rfl none rfl (.tmp 20) (.tmp 19) 69 rfl h3 0 gv9 rfl rfl (HG9.out.2.2.2.1.there1 0 (by simp [bkc])) (HG9.out.2.2.2.1.free 0 (by simp [bkc])) one_pages.2 hg1 hg2 ?_
    intro x5 e9
    have g9:x4.grownBy x5 (some h3):=by rw [e9.out];exact keep_set _ _ _ _
    obtain ⟨d1,d2,d3,d4,d5⟩:=HG9.out
    have hno:∀ (v:Value) (e:TypeId) (es:List (List Value)),OwR B x4 v e 1 es→OwR B x5 v e 1 es:=fun v e es ho=>ho.kept g9 (own_ne fun kk hkk=>by have:=(ho.1.lt kk hkk).1;have:=HO.out;omega)
    have hno2:∀ (v:Value) (l:List Int),Own B x4 v l→Own B x5 v l:=fun v l ho=>World.ownsRow.kept ho g9 (own_ne fun kk hkk=>by have:=(World.ownsRow.lt ho kk hkk).1;have:=HO.out;omega)
    have HB6:Hid (OwR B x5 gv9 26 1 (pgc (k+1) (at1 xv k (.slice pq S pc)))∧(∀ p,p<k+1→Own B x5 (at1 xv k (.slice pq S pc) p) (List.replicate S 255))∧OwR B x5 (.slice uq k uc) 3 1 (usc k fun _=>0)∧Vr x5 h3 (bkc gv9 (.slice uq k uc) (-1) false 0)∧B≤x5.heap.size):=by
     refine ⟨hno _ _ _ d1,fun p hp=>hno2 _ _ (d2 p hp),hno _ _ _ d3,?_,Nat.le_trans d5 g9.size⟩
     have:=d4.set 0 (by simp [bkc]) gv9
     rw [←e9.out] at this
     exact this
    have HY2:=hdH (HY2.out.kept g9 (range_lt HY2.out.1 (by simp)) (by have:=HO.out;simp;omega))
    have HBe:=hdH (HBe.out.trans ((Below.refl w.heap.size x4).grown g9 HBe.out.size (fun kk hkk=>by injection hkk with hkk;have:=HO.out;omega)))
    have hS:Ar x5 h1 0 .i64 g:=hS.heap (g9.block h1 (hS.lt (by omega)) (by have:=HO.out;simp;omega))
    clear e9 g9 d1 d2 d3 d4 d5 hno hno2
    refine hK.out _ _ hS (fun _=>?_)
    simp only [Act.put]
    clear hK K
    refine wpAnyH_done (by kernel_rfl) ?_ _
    have HP6:=hdH (hS)
    clear hS
    have f31:=HB6.out.2.2.2.1.cell 1 _ rfl
    have ha6:Below x5.heap.size x5 (x5.alloc (.cells #[.int .i64 0] 3)):=(Below.refl _ _).alloc (Nat.le_refl _) _
    have HB66:Hid (OwR B (x5.alloc (.cells #[.int .i64 0] 3)) gv9 26 1 (pgc (k+1) (at1 xv k (.slice pq S pc)))∧(∀ p,p<k+1→Own B (x5.alloc (.cells #[.int .i64 0] 3)) (at1 xv k (.slice pq S pc) p) (List.replicate S 255))∧OwR B (x5.alloc (.cells #[.int .i64 0] 3)) (.slice uq k uc) 3 1 (usc k fun _=>0)∧Vr (x5.alloc (.cells #[.int .i64 0] 3)) h3 (bkc gv9 (.slice uq k uc) (-1) false 0)∧B≤(x5.alloc (.cells #[.int .i64 0] 3)).heap.size):=⟨HB6.out.1.low ha6,fun p hp=>own_low (HB6.out.2.1 p hp) ha6,HB6.out.2.2.1.low ha6,HB6.out.2.2.2.1.below ha6 (range_lt HB6.out.2.2.2.1.1 (by simp [bkc])),Nat.le_trans HB6.out.2.2.2.2 ha6.size⟩
    have HU6:Hid (OwR B (x5.alloc (.cells #[.int .i64 0] 3)) (.slice uq k uc) 3 1 (usc k fun _=>0)):=HB66.out.2.2.1
    have HZ6:Hid (B≤(x5.alloc (.cells #[.int .i64 0] 3)).heap.size):=HB66.out.2.2.2.2
    have HR6:Hid (Rws (x5.alloc (.cells #[.int .i64 0] 3)) (.slice (some ⟨x5.heap.size,0,none⟩) 1 1) 1 [[.int .i64 0]]):=rws_alloc x5 3 (.int .i64 0)
    have HP66:=hdH (HP6.out.below ha6 (HP6.out.lt (by omega)))
    have HY66:=hdH (HY2.out.below ha6 (range_lt HY2.out.1 (by simp)))
    have HB666:=hdH (HBe.out.trans (ha6.mono HBe.out.size))
    clear ha6
    have t1:=tR
    go_wp2_with (first
     |(have q3:=t3;refine store_law1 _ h3 1 uv9 rfl rfl (HU.out.2.2.2.1.there1 1 (by simp [bkc])) (HU.out.2.2.2.1.free 1 (by simp [bkc])) one_ints.2 hu1 hu2 ?_;intro w8 e8
       have g8:w7.grownBy w8 (some h3):=by rw [e8.out];exact keep_set _ _ _ _
       have hno:∀ (v:Value) (e:TypeId) (es:List (List Value)),OwR B w7 v e 1 es→OwR B w8 v e 1 es:=fun v e es ho=>ho.kept g8 (own_ne fun kk hkk=>by have:=(ho.1.lt kk hkk).1;have:=HO.out;omega)
       have hno2:∀ (v:Value) (l:List Int),Own B w7 v l→Own B w8 v l:=fun v l ho=>World.ownsRow.kept ho g8 (own_ne fun kk hkk=>by have:=(World.ownsRow.lt ho kk hkk).1;have:=HO.out;omega)
       have HX8:Hid (∃ gv uv,Bln w8 h3 B (k+1) S gv uv):=by
        refine ⟨gv9,uv9,?_,⟨_,hno _ _ _ HU.out.1,fun p hp=>hno2 _ _ (HU.out.2.1 p hp)⟩,hno _ _ _ HU.out.2.2.1,by have:=HO.out;omega,Nat.le_trans HU.out.2.2.2.2 g8.size⟩
        have:=HU.out.2.2.2.1.set 1 (by simp [bkc]) uv9
        rw [←e8.out] at this
        exact this
       have HY8:Hid (Ar w8 h1 0 .i64 g∧Vr w8 h2 [.slice none 0 0,.slice none 0 0,.int .i64 0,.bool false,.int .i64 0]):=⟨HP7.out.heap (g8.block h1 (HP7.out.lt (by omega)) (by have:=HO.out;simp;omega)),HY7.out.kept g8 (range_lt HY7.out.1 (by simp)) (by have:=HO.out;simp;omega)⟩
       have HB8:=hdH (HB7.out.trans ((Below.refl w.heap.size w7).grown g8 HB7.out.size (fun kk hkk=>by injection hkk with hkk;have:=HO.out;omega)))
       clear e8 g8 hno hno2 t3)
     |(have q2:=t1;at_builtin;refine push_lawT _ Tryz.underlying70 _ 1 8 info_int rfl (by omega) B HZ6.out _ _ (usc k fun _=>0) [[.int .i64 0]] rfl rfl HU6.out HR6.out (fun u hu=>by simp at hu;subst hu;rfl) (by rw [usc_len];simp;omega) (by rw [usc_len];simp;omega) (by simp) ?_;intro uv9 w7 o7 g7
       have hgo:∀ kk,(Value.slice uq k uc).ownBlock =some kk→B≤kk:=fun kk hkk=>(HU6.out.1.lt kk hkk).1
       have hne3:∀ x,x<B→some x≠(Value.slice uq k uc).ownBlock :=fun x hx e=>by have:=hgo x e.symm;omega
       have HU:Hid (OwR B w7 gv9 26 1 (pgc (k+1) (at1 xv k (.slice pq S pc)))∧(∀ p,p<k+1→Own B w7 (at1 xv k (.slice pq S pc) p) (List.replicate S 255))∧OwR B w7 uv9 3 1 (usc (k+1) fun _=>0)∧Vr w7 h3 (bkc gv9 (.slice uq k uc) (-1) false 0)∧B≤w7.heap.size):=by
        refine ⟨HB66.out.1.ap HU6.out.1 (by decide) g7,fun p hp=>own_ap (HB66.out.2.1 p hp) HU6.out.1 (by decide) g7,by rw [usc_succ];exact o7,HB66.out.2.2.2.1.kept g7 (range_lt HB66.out.2.2.2.1.1 (by simp [bkc])) (hne3 h3 (by have:=HO.out;omega)),Nat.le_trans HZ6.out g7.size⟩
       have HP7:=hdH (HP66.out.heap (g7.block h1 (HP66.out.lt (by omega)) (hne3 h1 (by have:=HO.out;omega))))
       have HY7:=hdH (HY66.out.kept g7 (range_lt HY66.out.1 (by simp)) (hne3 h2 (by have:=HO.out;omega)))
       have HB7:=hdH (HB666.out.trans ((Below.refl w.heap.size _).grown g7 HB666.out.size (fun kk hkk=>by have:=hgo kk hkk;have:=HO.out;omega)))
       have hu1:uv9.oneCell'=true:=own_one (o7.base (Nat.zero_le _))
       have hu2:uv9.cells=#[uv9]:=own_cells (o7.base (Nat.zero_le _))
       clear o7 g7 hgo hne3 t1;have t3:=tR))
    go_roundw
    case rel=>exact ⟨k+1,by omega,by go_num,HX8,HY8,HB8⟩
    case measure=>simp [intOf];omega
   ·refine ge.step_callW _ (by rfl) (some 17) rfl 89 #[.const (.int .u8 255),.tmp 16] #[5,3] rfl (fun q w'=>by rfl) #[.int .u8 255,.int .i64 (S:Int)] (by simp only [List.map_toArray,List.map_cons,List.map_nil];rfl) (fun v w'=>Own x1.heap.size w' v (List.replicate S 255)∧Below x1.heap.size x1 w') ?_ ?_
    ·exact SF.out x1
    rintro v9 x6 ⟨y9,hb9⟩
    obtain ⟨pq,pc,rfl⟩:∃ pq pc,v9=.slice pq S pc:=by
     obtain ⟨ao,cap,e⟩:=byt_form (y9.byt (allB_replicate 255 S (by omega)))
     rw [List.length_replicate] at e
     exact ⟨ao,cap,e⟩
    have z9:=HB.out.2.2.2.2
    have HB:=hdH (HB.out.low hb9)
    have HY2:=hdH (HY2.out.below hb9 (range_lt HY2.out.1 (by simp)))
    have HBe:=hdH (HBe.out.trans (hb9.mono HBe.out.size))
    have hS:Ar x6 h1 0 .i64 g:=hS.below hb9 (hS.lt (by omega))
    have HPG:Hid (Own B x6 (.slice pq S pc) (List.replicate S 255)):=own_base y9 z9
    clear y9 hb9 z9
    refine hK.out _ _ hS (fun _=>?_)
    simp only [Act.put,zE1,zE2,zE3]
    clear hK K
    refine wpAnyH_ready (rs:=[1,6]) (by kernel_rfl) (by simp) ?_
    refine AllReadyH.cons rfl (fun K hK=>?_) (AllReadyH.cons rfl (fun K hK=>?_) AllReadyH.nil)
    ·refine step_load _ rfl (some 13) rfl (.tmp 12) 69 rfl _ (.slice gq k gc) rfl (load_one one_pages (HB.out.1.cell 0 _ rfl)) ?_
     refine hK.out _ _ hS (fun _=>?_)
     simp only [Act.put,zE1,zE2,zE3]
     clear hK K
     refine wpAnyH_ready (rs:=[6]) (by kernel_rfl) (by simp) ?_
     refine AllReadyH.cons rfl (fun K hK=>?_) AllReadyH.nil
     refine step_one1 _ rfl (some 18) rfl (.tmp 17) 69 26 rfl (.slice pq S pc) rfl (fun w=>by kernel_rfl) ?_
     intro x7 r9 hb9
     obtain ⟨h9,e9⟩:∃ x,x=x6.heap.size:=⟨_,rfl⟩
     rw [←e9] at r9 ⊢
     have HB:=hdH (HB.out.low hb9)
     have HY2:=hdH (HY2.out.below hb9 (range_lt HY2.out.1 (by simp)))
     have HBe:=hdH (HBe.out.trans (hb9.mono HBe.out.size))
     have hS:Ar x7 h1 0 .i64 g:=hS.below hb9 (hS.lt (by omega))
     have HPG:=hdH (own_low HPG.out hb9)
     have RW:=hdH (r9)
     clear r9 hb9 e9
     refine hK.out _ _ hS (fun _=>?_)
     simp only [Act.put,zE1,zE2,zE3]
     clear hK K
     refine wpAnyH_ready (rs:=[7]) (by kernel_rfl) (by simp) ?_
     refine AllReadyH.cons rfl (fun K hK=>?_) AllReadyH.nil
     obtain ⟨c1,⟨xv,c2,c3⟩,c4,c5,c6⟩:=HB.out
     refine step_appT _ rfl (some 19) rfl (.tmp 13) (.tmp 18) 69 26 rfl Tryz.underlying69 _ 1 24 info_bytes rfl (by omega) _ _ (pgc k xv) [[.slice pq S pc]] rfl rfl (c2.base (Nat.zero_le _)) RW.out (fun u hu=>by simp at hu;subst hu;rfl) (by rw [pgc_len];simp;omega) (by rw [pgc_len];simp;omega) (by simp) ?_
     intro gv9 x8 o9 g9 f9
     have o9':=owr_up c2 o9 c6 f9
     have hgo:∀ kk,(Value.slice gq k gc).ownBlock =some kk→B≤kk:=fun kk hkk=>(c2.1.lt kk hkk).1
     have hne3:∀ x,x<B→some x≠(Value.slice gq k gc).ownBlock :=fun x hx e=>by have:=hgo x e.symm;omega
     have HG9:Hid (OwR B x8 gv9 26 1 (pgc (k+1) (at1 xv k (.slice pq S pc)))∧(∀ p,p<k+1→Own B x8 (at1 xv k (.slice pq S pc) p) (List.replicate S 255))∧OwR B x8 (.slice uq k uc) 3 1 (usc k fun _=>0)∧Vr x8 h3 (bkc (.slice gq k gc) (.slice uq k uc) (-1) false 0)∧B≤x8.heap.size):=by
      refine ⟨?_,fun p hp=>?_,c4.ap c2.1 (by decide) g9,c1.kept g9 (range_lt c1.1 (by simp [bkc])) (hne3 h3 c5),Nat.le_trans c6 g9.size⟩
      ·rw [pgc_succ,at1_same,pgc_congr (fun p hp=>at1_other xv k _ p (by omega))]
       exact o9'
      ·by_cases e:p=k
       ·subst e
        rw [at1_same]
        exact own_ap HPG.out c2.1 (by decide) g9
       ·rw [at1_other xv k _ p e]
        exact own_ap (c3 p (by omega)) c2.1 (by decide) g9
     have HY2:=hdH (HY2.out.kept g9 (range_lt HY2.out.1 (by simp)) (hne3 h2 (by have:=HO.out;omega)))
     have HBe:=hdH (HBe.out.trans ((Below.refl w.heap.size x7).grown g9 HBe.out.size (fun kk hkk=>by have:=hgo kk hkk;have:=HO.out;omega)))
     have hS:Ar x8 h1 0 .i64 g:=hS.heap (g9.block h1 (hS.lt (by omega)) (hne3 h1 (by have:=HO.out;omega)))
     have hg1:gv9.oneCell'=true:=own_one o9
     have hg2:gv9.cells=#[gv9]:=own_cells o9
     clear c1 c2 c3 c4 c5 c6 o9 o9' g9 f9 hgo hne3
     refine hK.out _ _ hS (fun _=>?_)
     simp only [Act.put,zE1,zE2,zE3]
     clear hK K
     refine tkH 8 (some 20) (.pointer (some ⟨h3,0,none⟩)) rfl rfl (Or.inl ⟨by rfl,fun w' hw'=>by go_simp⟩) hS ?_
     simp only [Act.put,zE1,zE2,zE3]
     refine wpAnyH_ready (rs:=[9]) (by kernel_rfl) (by simp) ?_
     refine AllReadyH.cons rfl (fun K hK=>?_) AllReadyH.nil
     refine step_store1 _ rfl none rfl (.tmp 20) (.tmp 19) 69 rfl h3 0 gv9 rfl rfl (HG9.out.2.2.2.1.there1 0 (by simp [bkc])) (HG9.out.2.2.2.1.free 0 (by simp [bkc])) one_pages.2 hg1 hg2 ?_
     intro x9 e9
     have g9:x8.grownBy x9 (some h3):=by rw [e9.out];exact keep_set _ _ _ _
     obtain ⟨d1,d2,d3,d4,d5⟩:=HG9.out
     have hno:∀ (v:Value) (e:TypeId) (es:List (List Value)),OwR B x8 v e 1 es→OwR B x9 v e 1 es:=fun v e es ho=>ho.kept g9 (own_ne fun kk hkk=>by have:=(ho.1.lt kk hkk).1;have:=HO.out;omega)
     have hno2:∀ (v:Value) (l:List Int),Own B x8 v l→Own B x9 v l:=fun v l ho=>World.ownsRow.kept ho g9 (own_ne fun kk hkk=>by have:=(World.ownsRow.lt ho kk hkk).1;have:=HO.out;omega)
     have HB6:Hid (OwR B x9 gv9 26 1 (pgc (k+1) (at1 xv k (.slice pq S pc)))∧(∀ p,p<k+1→Own B x9 (at1 xv k (.slice pq S pc) p) (List.replicate S 255))∧OwR B x9 (.slice uq k uc) 3 1 (usc k fun _=>0)∧Vr x9 h3 (bkc gv9 (.slice uq k uc) (-1) false 0)∧B≤x9.heap.size):=by
      refine ⟨hno _ _ _ d1,fun p hp=>hno2 _ _ (d2 p hp),hno _ _ _ d3,?_,Nat.le_trans d5 g9.size⟩
      have:=d4.set 0 (by simp [bkc]) gv9
      rw [←e9.out] at this
      exact this
     have HY2:=hdH (HY2.out.kept g9 (range_lt HY2.out.1 (by simp)) (by have:=HO.out;simp;omega))
     have HBe:=hdH (HBe.out.trans ((Below.refl w.heap.size x8).grown g9 HBe.out.size (fun kk hkk=>by injection hkk with hkk;have:=HO.out;omega)))
     have hS:Ar x9 h1 0 .i64 g:=hS.heap (g9.block h1 (hS.lt (by omega)) (by have:=HO.out;simp;omega))
     clear e9 g9 d1 d2 d3 d4 d5 hno hno2
     refine hK.out _ _ hS (fun _=>?_)
     simp only [Act.put]
     clear hK K
     refine wpAnyH_done (by kernel_rfl) ?_ _
     have HP6:=hdH (hS)
     clear hS
     have f31:=HB6.out.2.2.2.1.cell 1 _ rfl
     have ha6:Below x9.heap.size x9 (x9.alloc (.cells #[.int .i64 0] 3)):=(Below.refl _ _).alloc (Nat.le_refl _) _
     have HB66:Hid (OwR B (x9.alloc (.cells #[.int .i64 0] 3)) gv9 26 1 (pgc (k+1) (at1 xv k (.slice pq S pc)))∧(∀ p,p<k+1→Own B (x9.alloc (.cells #[.int .i64 0] 3)) (at1 xv k (.slice pq S pc) p) (List.replicate S 255))∧OwR B (x9.alloc (.cells #[.int .i64 0] 3)) (.slice uq k uc) 3 1 (usc k fun _=>0)∧Vr (x9.alloc (.cells #[.int .i64 0] 3)) h3 (bkc gv9 (.slice uq k uc) (-1) false 0)∧B≤(x9.alloc (.cells #[.int .i64 0] 3)).heap.size):=⟨HB6.out.1.low ha6,fun p hp=>own_low (HB6.out.2.1 p hp) ha6,HB6.out.2.2.1.low ha6,HB6.out.2.2.2.1.below ha6 (range_lt HB6.out.2.2.2.1.1 (by simp [bkc])),Nat.le_trans HB6.out.2.2.2.2 ha6.size⟩
     have HU6:Hid (OwR B (x9.alloc (.cells #[.int .i64 0] 3)) (.slice uq k uc) 3 1 (usc k fun _=>0)):=HB66.out.2.2.1
     have HZ6:Hid (B≤(x9.alloc (.cells #[.int .i64 0] 3)).heap.size):=HB66.out.2.2.2.2
     have HR6:Hid (Rws (x9.alloc (.cells #[.int .i64 0] 3)) (.slice (some ⟨x9.heap.size,0,none⟩) 1 1) 1 [[.int .i64 0]]):=rws_alloc x9 3 (.int .i64 0)
     have HP66:=hdH (HP6.out.below ha6 (HP6.out.lt (by omega)))
     have HY66:=hdH (HY2.out.below ha6 (range_lt HY2.out.1 (by simp)))
     have HB666:=hdH (HBe.out.trans (ha6.mono HBe.out.size))
     clear ha6
     have t1:=tR
     go_wp2_with (first
      |(have q3:=t3;refine store_law1 _ h3 1 uv9 rfl rfl (HU.out.2.2.2.1.there1 1 (by simp [bkc])) (HU.out.2.2.2.1.free 1 (by simp [bkc])) one_ints.2 hu1 hu2 ?_;intro w8 e8
        have g8:w7.grownBy w8 (some h3):=by rw [e8.out];exact keep_set _ _ _ _
        have hno:∀ (v:Value) (e:TypeId) (es:List (List Value)),OwR B w7 v e 1 es→OwR B w8 v e 1 es:=fun v e es ho=>ho.kept g8 (own_ne fun kk hkk=>by have:=(ho.1.lt kk hkk).1;have:=HO.out;omega)
        have hno2:∀ (v:Value) (l:List Int),Own B w7 v l→Own B w8 v l:=fun v l ho=>World.ownsRow.kept ho g8 (own_ne fun kk hkk=>by have:=(World.ownsRow.lt ho kk hkk).1;have:=HO.out;omega)
        have HX8:Hid (∃ gv uv,Bln w8 h3 B (k+1) S gv uv):=by
         refine ⟨gv9,uv9,?_,⟨_,hno _ _ _ HU.out.1,fun p hp=>hno2 _ _ (HU.out.2.1 p hp)⟩,hno _ _ _ HU.out.2.2.1,by have:=HO.out;omega,Nat.le_trans HU.out.2.2.2.2 g8.size⟩
         have:=HU.out.2.2.2.1.set 1 (by simp [bkc]) uv9
         rw [←e8.out] at this
         exact this
        have HY8:Hid (Ar w8 h1 0 .i64 g∧Vr w8 h2 [.slice none 0 0,.slice none 0 0,.int .i64 0,.bool false,.int .i64 0]):=⟨HP7.out.heap (g8.block h1 (HP7.out.lt (by omega)) (by have:=HO.out;simp;omega)),HY7.out.kept g8 (range_lt HY7.out.1 (by simp)) (by have:=HO.out;simp;omega)⟩
        have HB8:=hdH (HB7.out.trans ((Below.refl w.heap.size w7).grown g8 HB7.out.size (fun kk hkk=>by injection hkk with hkk;have:=HO.out;omega)))
        clear e8 g8 hno hno2 t3)
      |(have q2:=t1;at_builtin;refine push_lawT _ Tryz.underlying70 _ 1 8 info_int rfl (by omega) B HZ6.out _ _ (usc k fun _=>0) [[.int .i64 0]] rfl rfl HU6.out HR6.out (fun u hu=>by simp at hu;subst hu;rfl) (by rw [usc_len];simp;omega) (by rw [usc_len];simp;omega) (by simp) ?_;intro uv9 w7 o7 g7
        have hgo:∀ kk,(Value.slice uq k uc).ownBlock =some kk→B≤kk:=fun kk hkk=>(HU6.out.1.lt kk hkk).1
        have hne3:∀ x,x<B→some x≠(Value.slice uq k uc).ownBlock :=fun x hx e=>by have:=hgo x e.symm;omega
        have HU:Hid (OwR B w7 gv9 26 1 (pgc (k+1) (at1 xv k (.slice pq S pc)))∧(∀ p,p<k+1→Own B w7 (at1 xv k (.slice pq S pc) p) (List.replicate S 255))∧OwR B w7 uv9 3 1 (usc (k+1) fun _=>0)∧Vr w7 h3 (bkc gv9 (.slice uq k uc) (-1) false 0)∧B≤w7.heap.size):=by
         refine ⟨HB66.out.1.ap HU6.out.1 (by decide) g7,fun p hp=>own_ap (HB66.out.2.1 p hp) HU6.out.1 (by decide) g7,by rw [usc_succ];exact o7,HB66.out.2.2.2.1.kept g7 (range_lt HB66.out.2.2.2.1.1 (by simp [bkc])) (hne3 h3 (by have:=HO.out;omega)),Nat.le_trans HZ6.out g7.size⟩
        have HP7:=hdH (HP66.out.heap (g7.block h1 (HP66.out.lt (by omega)) (hne3 h1 (by have:=HO.out;omega))))
        have HY7:=hdH (HY66.out.kept g7 (range_lt HY66.out.1 (by simp)) (hne3 h2 (by have:=HO.out;omega)))
        have HB7:=hdH (HB666.out.trans ((Below.refl w.heap.size _).grown g7 HB666.out.size (fun kk hkk=>by have:=hgo kk hkk;have:=HO.out;omega)))
        have hu1:uv9.oneCell'=true:=own_one (o7.base (Nat.zero_le _))
        have hu2:uv9.cells=#[uv9]:=own_cells (o7.base (Nat.zero_le _))
        clear o7 g7 hgo hne3 t1;have t3:=tR))
     go_roundw
     case rel=>exact ⟨k+1,by omega,by go_num,HX8,HY8,HB8⟩
     case measure=>simp [intOf];omega
    ·refine step_one1 _ rfl (some 18) rfl (.tmp 17) 69 26 rfl (.slice pq S pc) rfl (fun w=>by kernel_rfl) ?_
     intro x10 r9 hb9
     obtain ⟨h9,e9⟩:∃ x,x=x6.heap.size:=⟨_,rfl⟩
     rw [←e9] at r9 ⊢
     have HB:=hdH (HB.out.low hb9)
     have HY2:=hdH (HY2.out.below hb9 (range_lt HY2.out.1 (by simp)))
     have HBe:=hdH (HBe.out.trans (hb9.mono HBe.out.size))
     have hS:Ar x10 h1 0 .i64 g:=hS.below hb9 (hS.lt (by omega))
     have HPG:=hdH (own_low HPG.out hb9)
     have RW:=hdH (r9)
     clear r9 hb9 e9
     refine hK.out _ _ hS (fun _=>?_)
     simp only [Act.put,zE1,zE2,zE3]
     clear hK K
     refine wpAnyH_ready (rs:=[1]) (by kernel_rfl) (by simp) ?_
     refine AllReadyH.cons rfl (fun K hK=>?_) AllReadyH.nil
     refine step_load _ rfl (some 13) rfl (.tmp 12) 69 rfl _ (.slice gq k gc) rfl (load_one one_pages (HB.out.1.cell 0 _ rfl)) ?_
     refine hK.out _ _ hS (fun _=>?_)
     simp only [Act.put,zE1,zE2,zE3]
     clear hK K
     refine wpAnyH_ready (rs:=[7]) (by kernel_rfl) (by simp) ?_
     refine AllReadyH.cons rfl (fun K hK=>?_) AllReadyH.nil
     obtain ⟨c1,⟨xv,c2,c3⟩,c4,c5,c6⟩:=HB.out
     refine step_appT _ rfl (some 19) rfl (.tmp 13) (.tmp 18) 69 26 rfl Tryz.underlying69 _ 1 24 info_bytes rfl (by omega) _ _ (pgc k xv) [[.slice pq S pc]] rfl rfl (c2.base (Nat.zero_le _)) RW.out (fun u hu=>by simp at hu;subst hu;rfl) (by rw [pgc_len];simp;omega) (by rw [pgc_len];simp;omega) (by simp) ?_
     intro gv9 x11 o9 g9 f9
     have o9':=owr_up c2 o9 c6 f9
     have hgo:∀ kk,(Value.slice gq k gc).ownBlock =some kk→B≤kk:=fun kk hkk=>(c2.1.lt kk hkk).1
     have hne3:∀ x,x<B→some x≠(Value.slice gq k gc).ownBlock :=fun x hx e=>by have:=hgo x e.symm;omega
     have HG9:Hid (OwR B x11 gv9 26 1 (pgc (k+1) (at1 xv k (.slice pq S pc)))∧(∀ p,p<k+1→Own B x11 (at1 xv k (.slice pq S pc) p) (List.replicate S 255))∧OwR B x11 (.slice uq k uc) 3 1 (usc k fun _=>0)∧Vr x11 h3 (bkc (.slice gq k gc) (.slice uq k uc) (-1) false 0)∧B≤x11.heap.size):=by
      refine ⟨?_,fun p hp=>?_,c4.ap c2.1 (by decide) g9,c1.kept g9 (range_lt c1.1 (by simp [bkc])) (hne3 h3 c5),Nat.le_trans c6 g9.size⟩
      ·rw [pgc_succ,at1_same,pgc_congr (fun p hp=>at1_other xv k _ p (by omega))]
       exact o9'
      ·by_cases e:p=k
       ·subst e
        rw [at1_same]
        exact own_ap HPG.out c2.1 (by decide) g9
       ·rw [at1_other xv k _ p e]
        exact own_ap (c3 p (by omega)) c2.1 (by decide) g9
     have HY2:=hdH (HY2.out.kept g9 (range_lt HY2.out.1 (by simp)) (hne3 h2 (by have:=HO.out;omega)))
     have HBe:=hdH (HBe.out.trans ((Below.refl w.heap.size x10).grown g9 HBe.out.size (fun kk hkk=>by have:=hgo kk hkk;have:=HO.out;omega)))
     have hS:Ar x11 h1 0 .i64 g:=hS.heap (g9.block h1 (hS.lt (by omega)) (hne3 h1 (by have:=HO.out;omega)))
     have hg1:gv9.oneCell'=true:=own_one o9
     have hg2:gv9.cells=#[gv9]:=own_cells o9
     clear c1 c2 c3 c4 c5 c6 o9 o9' g9 f9 hgo hne3
     refine hK.out _ _ hS (fun _=>?_)
     simp only [Act.put,zE1,zE2,zE3]
     clear hK K
     refine tkH 8 (some 20) (.pointer (some ⟨h3,0,none⟩)) rfl rfl (Or.inl ⟨by rfl,fun w' hw'=>by go_simp⟩) hS ?_
     simp only [Act.put,zE1,zE2,zE3]
     refine wpAnyH_ready (rs:=[9]) (by kernel_rfl) (by simp) ?_
     refine AllReadyH.cons rfl (fun K hK=>?_) AllReadyH.nil
     refine step_store1 _ rfl none rfl (.tmp 20) (.tmp 19) 69 rfl h3 0 gv9 rfl rfl (HG9.out.2.2.2.1.there1 0 (by simp [bkc])) (HG9.out.2.2.2.1.free 0 (by simp [bkc])) one_pages.2 hg1 hg2 ?_
     intro x12 e9
     have g9:x11.grownBy x12 (some h3):=by rw [e9.out];exact keep_set _ _ _ _
     obtain ⟨d1,d2,d3,d4,d5⟩:=HG9.out
     have hno:∀ (v:Value) (e:TypeId) (es:List (List Value)),OwR B x11 v e 1 es→OwR B x12 v e 1 es:=fun v e es ho=>ho.kept g9 (own_ne fun kk hkk=>by have:=(ho.1.lt kk hkk).1;have:=HO.out;omega)
     have hno2:∀ (v:Value) (l:List Int),Own B x11 v l→Own B x12 v l:=fun v l ho=>World.ownsRow.kept ho g9 (own_ne fun kk hkk=>by have:=(World.ownsRow.lt ho kk hkk).1;have:=HO.out;omega)
     have HB6:Hid (OwR B x12 gv9 26 1 (pgc (k+1) (at1 xv k (.slice pq S pc)))∧(∀ p,p<k+1→Own B x12 (at1 xv k (.slice pq S pc) p) (List.replicate S 255))∧OwR B x12 (.slice uq k uc) 3 1 (usc k fun _=>0)∧Vr x12 h3 (bkc gv9 (.slice uq k uc) (-1) false 0)∧B≤x12.heap.size):=by
      refine ⟨hno _ _ _ d1,fun p hp=>hno2 _ _ (d2 p hp),hno _ _ _ d3,?_,Nat.le_trans d5 g9.size⟩
      have:=d4.set 0 (by simp [bkc]) gv9
      rw [←e9.out] at this
      exact this
     have HY2:=hdH (HY2.out.kept g9 (range_lt HY2.out.1 (by simp)) (by have:=HO.out;simp;omega))
     have HBe:=hdH (HBe.out.trans ((Below.refl w.heap.size x11).grown g9 HBe.out.size (fun kk hkk=>by injection hkk with hkk;have:=HO.out;omega)))
     have hS:Ar x12 h1 0 .i64 g:=hS.heap (g9.block h1 (hS.lt (by omega)) (by have:=HO.out;simp;omega))
     clear e9 g9 d1 d2 d3 d4 d5 hno hno2
     refine hK.out _ _ hS (fun _=>?_)
     simp only [Act.put]
     clear hK K
     refine wpAnyH_done (by kernel_rfl) ?_ _
     have HP6:=hdH (hS)
     clear hS
     have f31:=HB6.out.2.2.2.1.cell 1 _ rfl
     have ha6:Below x12.heap.size x12 (x12.alloc (.cells #[.int .i64 0] 3)):=(Below.refl _ _).alloc (Nat.le_refl _) _
     have HB66:Hid (OwR B (x12.alloc (.cells #[.int .i64 0] 3)) gv9 26 1 (pgc (k+1) (at1 xv k (.slice pq S pc)))∧(∀ p,p<k+1→Own B (x12.alloc (.cells #[.int .i64 0] 3)) (at1 xv k (.slice pq S pc) p) (List.replicate S 255))∧OwR B (x12.alloc (.cells #[.int .i64 0] 3)) (.slice uq k uc) 3 1 (usc k fun _=>0)∧Vr (x12.alloc (.cells #[.int .i64 0] 3)) h3 (bkc gv9 (.slice uq k uc) (-1) false 0)∧B≤(x12.alloc (.cells #[.int .i64 0] 3)).heap.size):=⟨HB6.out.1.low ha6,fun p hp=>own_low (HB6.out.2.1 p hp) ha6,HB6.out.2.2.1.low ha6,HB6.out.2.2.2.1.below ha6 (range_lt HB6.out.2.2.2.1.1 (by simp [bkc])),Nat.le_trans HB6.out.2.2.2.2 ha6.size⟩
     have HU6:Hid (OwR B (x12.alloc (.cells #[.int .i64 0] 3)) (.slice uq k uc) 3 1 (usc k fun _=>0)):=HB66.out.2.2.1
     have HZ6:Hid (B≤(x12.alloc (.cells #[.int .i64 0] 3)).heap.size):=HB66.out.2.2.2.2
     have HR6:Hid (Rws (x12.alloc (.cells #[.int .i64 0] 3)) (.slice (some ⟨x12.heap.size,0,none⟩) 1 1) 1 [[.int .i64 0]]):=rws_alloc x12 3 (.int .i64 0)
     have HP66:=hdH (HP6.out.below ha6 (HP6.out.lt (by omega)))
     have HY66:=hdH (HY2.out.below ha6 (range_lt HY2.out.1 (by simp)))
     have HB666:=hdH (HBe.out.trans (ha6.mono HBe.out.size))
     clear ha6
     have t1:=tR
     go_wp2_with (first
      |(have q3:=t3;refine store_law1 _ h3 1 uv9 rfl rfl (HU.out.2.2.2.1.there1 1 (by simp [bkc])) (HU.out.2.2.2.1.free 1 (by simp [bkc])) one_ints.2 hu1 hu2 ?_;intro w8 e8
        have g8:w7.grownBy w8 (some h3):=by rw [e8.out];exact keep_set _ _ _ _
        have hno:∀ (v:Value) (e:TypeId) (es:List (List Value)),OwR B w7 v e 1 es→OwR B w8 v e 1 es:=fun v e es ho=>ho.kept g8 (own_ne fun kk hkk=>by have:=(ho.1.lt kk hkk).1;have:=HO.out;omega)
        have hno2:∀ (v:Value) (l:List Int),Own B w7 v l→Own B w8 v l:=fun v l ho=>World.ownsRow.kept ho g8 (own_ne fun kk hkk=>by have:=(World.ownsRow.lt ho kk hkk).1;have:=HO.out;omega)
        have HX8:Hid (∃ gv uv,Bln w8 h3 B (k+1) S gv uv):=by
         refine ⟨gv9,uv9,?_,⟨_,hno _ _ _ HU.out.1,fun p hp=>hno2 _ _ (HU.out.2.1 p hp)⟩,hno _ _ _ HU.out.2.2.1,by have:=HO.out;omega,Nat.le_trans HU.out.2.2.2.2 g8.size⟩
         have:=HU.out.2.2.2.1.set 1 (by simp [bkc]) uv9
         rw [←e8.out] at this
         exact this
        have HY8:Hid (Ar w8 h1 0 .i64 g∧Vr w8 h2 [.slice none 0 0,.slice none 0 0,.int .i64 0,.bool false,.int .i64 0]):=⟨HP7.out.heap (g8.block h1 (HP7.out.lt (by omega)) (by have:=HO.out;simp;omega)),HY7.out.kept g8 (range_lt HY7.out.1 (by simp)) (by have:=HO.out;simp;omega)⟩
        have HB8:=hdH (HB7.out.trans ((Below.refl w.heap.size w7).grown g8 HB7.out.size (fun kk hkk=>by injection hkk with hkk;have:=HO.out;omega)))
        clear e8 g8 hno hno2 t3)
      |(have q2:=t1;at_builtin;refine push_lawT _ Tryz.underlying70 _ 1 8 info_int rfl (by omega) B HZ6.out _ _ (usc k fun _=>0) [[.int .i64 0]] rfl rfl HU6.out HR6.out (fun u hu=>by simp at hu;subst hu;rfl) (by rw [usc_len];simp;omega) (by rw [usc_len];simp;omega) (by simp) ?_;intro uv9 w7 o7 g7
        have hgo:∀ kk,(Value.slice uq k uc).ownBlock =some kk→B≤kk:=fun kk hkk=>(HU6.out.1.lt kk hkk).1
        have hne3:∀ x,x<B→some x≠(Value.slice uq k uc).ownBlock :=fun x hx e=>by have:=hgo x e.symm;omega
        have HU:Hid (OwR B w7 gv9 26 1 (pgc (k+1) (at1 xv k (.slice pq S pc)))∧(∀ p,p<k+1→Own B w7 (at1 xv k (.slice pq S pc) p) (List.replicate S 255))∧OwR B w7 uv9 3 1 (usc (k+1) fun _=>0)∧Vr w7 h3 (bkc gv9 (.slice uq k uc) (-1) false 0)∧B≤w7.heap.size):=by
         refine ⟨HB66.out.1.ap HU6.out.1 (by decide) g7,fun p hp=>own_ap (HB66.out.2.1 p hp) HU6.out.1 (by decide) g7,by rw [usc_succ];exact o7,HB66.out.2.2.2.1.kept g7 (range_lt HB66.out.2.2.2.1.1 (by simp [bkc])) (hne3 h3 (by have:=HO.out;omega)),Nat.le_trans HZ6.out g7.size⟩
        have HP7:=hdH (HP66.out.heap (g7.block h1 (HP66.out.lt (by omega)) (hne3 h1 (by have:=HO.out;omega))))
        have HY7:=hdH (HY66.out.kept g7 (range_lt HY66.out.1 (by simp)) (hne3 h2 (by have:=HO.out;omega)))
        have HB7:=hdH (HB666.out.trans ((Below.refl w.heap.size _).grown g7 HB666.out.size (fun kk hkk=>by have:=hgo kk hkk;have:=HO.out;omega)))
        have hu1:uv9.oneCell'=true:=own_one (o7.base (Nat.zero_le _))
        have hu2:uv9.cells=#[uv9]:=own_cells (o7.base (Nat.zero_le _))
        clear o7 g7 hgo hne3 t1;have t3:=tR))
     go_roundw
     case rel=>exact ⟨k+1,by omega,by go_num,HX8,HY8,HB8⟩
     case measure=>simp [intOf];omega
  ·have e:P=k:=by omega
   subst e
   have HE:Hid (BlkO w.heap.size wa (.slice gq P gc) (.slice uq P uc) P (fun _=>List.replicate S 255) (fun _=>0)):=by
    obtain ⟨c1,⟨xv,c2,c3⟩,c4,c5,c6⟩:=HB.out
    have:BlkO B wa (.slice gq P gc) (.slice uq P uc) P (fun _=>List.replicate S 255) (fun _=>0):=by
     exact ⟨⟨xv,c2,c3⟩,c4⟩
    exact this.base (by have:=HO.out;omega)
   have r0:=HB.out.1.cell 0 _ rfl
   have r1:=HB.out.1.cell 1 _ rfl
   have r2:=HB.out.1.cell 2 _ rfl
   have r3:=HB.out.1.cell 3 _ rfl
   have r4:=HB.out.1.cell 4 _ rfl
   have t2:=tR
   go_wp2_with (first
    |(have q2:=t2;refine store_lawC _ (bkc (.slice gq P gc) (.slice uq P uc) (-1) false 0) h2 0 rfl rfl HY.out.2.2 rowy_blk.2 (fun v hv=>by simp [bkc] at hv;rcases hv with rfl | rfl | rfl | rfl | rfl <;> rfl) ?_;intro w9 E9 R9 T9 B9
      have HR9:=hdH (R9)
      have g9:wa.grownBy w9 (some h2):=by rw [E9.out];exact keep_cells _ _ _ _
      have HE9:Hid (BlkO w.heap.size w9 (.slice gq P gc) (.slice uq P uc) P (fun _=>List.replicate S 255) (fun _=>0)):=by
       obtain ⟨c1,⟨xv,c2,c3⟩,c4,c5,c6⟩:=HB.out
       have:BlkO B w9 (.slice gq P gc) (.slice uq P uc) P (fun _=>List.replicate S 255) (fun _=>0):=by
          exact ⟨⟨xv,c2.kept g9 (own_ne fun kk hkk=>by have:=(c2.1.lt kk hkk).1;have:=HO.out;omega),fun p hp=>World.ownsRow.kept (c3 p hp) g9 (own_ne fun kk hkk=>by have:=(World.ownsRow.lt (c3 p hp) kk hkk).1;have:=HO.out;omega)⟩,c4.kept g9 (own_ne fun kk hkk=>by have:=(c4.1.lt kk hkk).1;have:=HO.out;omega)⟩
       exact this.base (by have:=HO.out;omega)
      have HB9:=hdH (HBe.out.trans (B9.mono (by have:=HO.out;omega)))
      clear R9 T9 E9 B9 g9 t2))
   exact bodyPost_ret (v:=.agg (bkc (.slice gq P gc) (.slice uq P uc) (-1) false 0).toArray) (results_c rfl _ _ h2 _ rowy_blk rfl HR9.out) rfl ⟨_,_,rfl,HE9.out,HB9.out⟩
end Go.Proofs.YtmbgokmomkmgcaaGreatDoor.na
