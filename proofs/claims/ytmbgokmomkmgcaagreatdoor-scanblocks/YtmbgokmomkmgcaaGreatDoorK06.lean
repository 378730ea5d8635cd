/- Parts of the proof: what ScanBlocks reaches. No claim of its own. -/
import Derived.Laws.AppendOwnNone
import Derived.WalkKit
import Derived.WalkSmall
import Derived.ProofKit
import Derived.OpenShut
import Derived.BigQuiet
import Derived.Deep.QuietTactic
import Derived.Deep.RegionHeld3
import Derived.Lib.AppendZeros
import Derived.Lib.SliceRun
import Derived.Deep.WholeRow
import Derived.Deep.MidRow
import Derived.Laws.StructEq
import Derived.Deep.DeepCutAuto
import Derived.Test.YtmbgokmomkmgcaaGreatDoorK00
import Derived.Test.YtmbgokmomkmgcaaGreatDoorK01
import Derived.Test.YtmbgokmomkmgcaaGreatDoorK02
import Derived.Test.YtmbgokmomkmgcaaGreatDoorK03
import Derived.Test.YtmbgokmomkmgcaaGreatDoorK04
set_option maxHeartbeats 8000000
namespace Go.Proofs.YtmbgokmomkmgcaaGreatDoor.he
open Go.RowKit Go.Proofs.YtmbgokmomkmgcaaGreatDoor.fa
set_option maxRecDepth 20000
section
variable {ops:Array Oper} {o:Oper} {a:Act} {Q:Exit→Act→World→Prop} {K:Act→World→Prop} {E:Prop}
theorem step_lit4 (w:World) (hg:o.guard=none) (d:Option Tmp) (hd:o.dst=d) (x y z u:Operand) (hop:o.op=Op.buildSlice 26 4 #[(0,x),(1,y),(2,z),(3,u)]) (p q r s:Int) (hx:a.eval x=.int .u8 p) (hy:a.eval y=.int .u8 q) (hz:a.eval z=.int .u8 r) (hu:a.eval u=.int .u8 s)
  (hK:∀ v w',Own w.heap.size w' v [p,q,r,s]→Below w.heap.size w w'→K (a.put d v) w'):if Region.wanted o (yielded ops a.tmps)=true then Oper.wp Tryz.prog o a w K Q else E:=by
 have hw:Region.wanted o (yielded ops a.tmps)=true:=by simp [Region.wanted,hg]
 rw [if_pos hw]
 subst hd
 have hrun:(Instr.buildSlice 26 4 #[(0,.int .u8 p),(1,.int .u8 q),(2,.int .u8 r),(3,.int .u8 s)]).run Tryz.prog w=.ok (.slice (some ⟨w.heap.size,0,none⟩) 4 4) (w.alloc (.cells #[.int .u8 p,.int .u8 q,.int .u8 r,.int .u8 s] 5)):=by kernel_rfl
 unfold Oper.wp execOp
 simp only [hop,List.map_toArray,List.map_cons,List.map_nil,hx,hy,hz,hu,Sem.run_bind,Sem.run_pure,Result.andThen_ok,hrun]
 exact hK _ _ (World.ownsRow_lit (e:=5) (size:=1) (base:=w.heap.size) w #[.int .u8 p,.int .u8 q,.int .u8 r,.int .u8 s] 4 (Nat.le_refl _) (by simp [maxLen]) rfl) ((Below.refl _ _).alloc (Nat.le_refl _) _)
end
theorem ld_u32 {w:World} {b p:Nat} {x:Int} (h:w.cell? ⟨b,p,none⟩=some (.int .u32 x)):(Instr.loadAt 62 (.pointer (some ⟨b,p,none⟩))).run Tryz.prog w=.ok (.int .u32 x) w:=by
 simp only [Instr.loadAt,Instr.sureAddr,Sem.run_bind,Sem.run_pure,Result.andThen_ok,run_load1 w b p 62 .u32 x Tryz.underlying62 h]
theorem ld_int {w:World} {b p:Nat} {x:Int} (h:w.cell? ⟨b,p,none⟩=some (.int .i64 x)):(Instr.loadAt 3 (.pointer (some ⟨b,p,none⟩))).run Tryz.prog w=.ok (.int .i64 x) w:=by
 simp only [Instr.loadAt,Instr.sureAddr,Sem.run_bind,Sem.run_pure,Result.andThen_ok,run_load1 w b p 3 .i64 x Tryz.underlying3 h]
theorem ld_u8 {w:World} {b p:Nat} {x:Int} (h:w.cell? ⟨b,p,none⟩=some (.int .u8 x)):(Instr.loadAt 5 (.pointer (some ⟨b,p,none⟩))).run Tryz.prog w=.ok (.int .u8 x) w:=by
 simp only [Instr.loadAt,Instr.sureAddr,Sem.run_bind,Sem.run_pure,Result.andThen_ok,run_load1 w b p 5 .u8 x Tryz.underlying5 h]
theorem rbytes_own (k n c l e t:Int) (w:World) (h:Rh k n c) (hl:0≤l∧l≤4294967295) (he:0≤e∧e≤18446744073709551615) (ht:0≤t∧t≤18446744073709551615):
  Calls Tryz.prog 126 #[.agg (hv k n c l e t).toArray] w fun x w'=>∃ v,x=.returned v∧Own w.heap.size w' v (hb k n c l e t)∧Below w.heap.size w w':=by
 obtain ⟨r1,r2,r3,r4,r5,r6⟩:=h
 have k1:IntKind.u8.wrap k=k:=by rw [IntKind.wrap_u8];omega
 have k2:IntKind.u8.wrap n=n:=by rw [IntKind.wrap_u8];omega
 have k3:IntKind.u8.wrap c=c:=by rw [IntKind.wrap_u8];omega
 have k4:IntKind.u64.wrap l=l:=by rw [IntKind.wrap_u64];omega
 have S4:Hid (∀ w,Calls Tryz.prog 153 #[.int .u64 l,.int .i64 4] w fun e w'=>∃ v,e=.returned v∧Byt w' v (be l 4)∧Below w.heap.size w w'):=fun w=>by
  have:=rbig_any l 4 w (by omega)
  rw [clamp48.1] at this
  exact this
 have S8:Hid (∀ w,Calls Tryz.prog 153 #[.int .u64 e,.int .i64 8] w fun e' w'=>∃ v,e'=.returned v∧Byt w' v (be e 8)∧Below w.heap.size w w'):=fun w=>by
  have:=rbig_any e 8 w he
  rw [clamp48.2.1] at this
  exact this
 have S9:Hid (∀ w,Calls Tryz.prog 153 #[.int .u64 t,.int .i64 8] w fun e' w'=>∃ v,e'=.returned v∧Byt w' v (be t 8)∧Below w.heap.size w w'):=fun w=>by
  have:=rbig_any t 8 w ht
  rw [clamp48.2.1] at this
  exact this
 have LN:Hid ((be l 4).length =4∧(be e 8).length =8∧(be t 8).length =8):=⟨be_len _ _,be_len _ _,be_len _ _⟩
 have HE:Hid (([k,n,c,0] ++ be l 4 ++ be e 8) ++ be t 8=hb k n c l e t):=by
  show _=_
  simp [hb]
 generalize hb k n c l e t=Z at*
 generalize be l 4=X4 at*
 generalize be e 8=X8 at*
 generalize be t 8=X9 at*
 clear r1 r2 r3 r4 r5 r6 hl he ht
 have t0:=tR
 go_enter Tryz.func126,Tryz.ntmps126
 go_wp2_with (have q0:=t0;refine box_lawC _ (hv k n c l e t) rfl ?_;intro w1 V1 B1 s1;have HV:=hdH (V1);clear V1 t0)
 refine wp_region_held_drew (S:=fun w'=>Below w1.heap.size w1 w') (by kernel_rfl) (Below.refl _ _).drew (fun hS=>?_)
 obtain ⟨x1,hx0⟩:∃ x,x=w1.drew:=⟨_,rfl⟩
 rw [←hx0] at hS ⊢
 clear hx0
 refine tkH 0 (some 4) (.pointer (some ⟨w.heap.size,0,none⟩)) rfl rfl (Or.inl ⟨by rfl,fun w' hw'=>by go_simp⟩) hS ?_
 simp only [Act.put,zE1,zE2,zE3]
 refine tkH 1 (some 5) (.int .i64 k) rfl rfl (Or.inl ⟨by rfl,fun w' hw'=>by exact exec_loadN 3 (.tmp 4) rfl _ rfl _ _ (ld_int ((HV.out.below hw' s1).cell 0 _ rfl))⟩) hS ?_
 simp only [Act.put,zE1,zE2,zE3]
 refine tkH 2 (some 6) (.int .u8 k) rfl rfl (Or.inl ⟨by rfl,fun w' hw'=>by go_simp⟩) hS ?_
 simp only [Act.put,zE1,zE2,zE3]
 refine tkH 3 (some 7) (.pointer (some ⟨w.heap.size,1,none⟩)) rfl rfl (Or.inl ⟨by rfl,fun w' hw'=>by go_simp⟩) hS ?_
 simp only [Act.put,zE1,zE2,zE3]
 refine tkH 4 (some 8) (.int .i64 n) rfl rfl (Or.inl ⟨by rfl,fun w' hw'=>by exact exec_loadN 3 (.tmp 7) rfl _ rfl _ _ (ld_int ((HV.out.below hw' s1).cell 1 _ rfl))⟩) hS ?_
 simp only [Act.put,zE1,zE2,zE3]
 refine tkH 5 (some 9) (.int .u8 n) rfl rfl (Or.inl ⟨by rfl,fun w' hw'=>by go_simp⟩) hS ?_
 simp only [Act.put,zE1,zE2,zE3]
 refine tkH 6 (some 10) (.pointer (some ⟨w.heap.size,2,none⟩)) rfl rfl (Or.inl ⟨by rfl,fun w' hw'=>by go_simp⟩) hS ?_
 simp only [Act.put,zE1,zE2,zE3]
 refine tkH 7 (some 11) (.int .i64 c) rfl rfl (Or.inl ⟨by rfl,fun w' hw'=>by exact exec_loadN 3 (.tmp 10) rfl _ rfl _ _ (ld_int ((HV.out.below hw' s1).cell 2 _ rfl))⟩) hS ?_
 simp only [Act.put,zE1,zE2,zE3]
 refine tkH 8 (some 12) (.int .u8 c) rfl rfl (Or.inl ⟨by rfl,fun w' hw'=>by go_simp⟩) hS ?_
 simp only [Act.put,zE1,zE2,zE3]
 refine tkH 10 (some 14) (.pointer (some ⟨w.heap.size,3,none⟩)) rfl rfl (Or.inl ⟨by rfl,fun w' hw'=>by go_simp⟩) hS ?_
 simp only [Act.put,zE1,zE2,zE3]
 refine tkH 11 (some 15) (.int .u32 l) rfl rfl (Or.inl ⟨by rfl,fun w' hw'=>by exact exec_loadN 62 (.tmp 14) rfl _ rfl _ _ (ld_u32 ((HV.out.below hw' s1).cell 3 _ rfl))⟩) hS ?_
 simp only [Act.put,zE1,zE2,zE3]
 refine tkH 12 (some 16) (.int .u64 l) rfl rfl (Or.inl ⟨by rfl,fun w' hw'=>by go_simp⟩) hS ?_
 simp only [Act.put,zE1,zE2,zE3]
 refine wpAnyH_ready (rs:=[9,13]) (by kernel_rfl) (by simp) ?_
 refine AllReadyH.cons rfl (fun K hK=>?_) (AllReadyH.cons rfl (fun K hK=>?_) AllReadyH.nil)
 ·refine step_lit4 _ rfl (some 13) rfl (.tmp 6) (.tmp 9) (.tmp 12) (.const (.int .u8 0)) rfl k n c 0 rfl rfl rfl rfl ?_
  intro lv x2 y9 hb
  have OL:Hid (Own w1.heap.size x2 lv [k,n,c,0]):=own_less y9 hS.size
  have hS:Below w1.heap.size w1 x2:=hS.trans (hb.mono hS.size)
  clear hb y9
  refine hK.out _ _ hS (fun _=>?_)
  simp only [Act.put,zE1,zE2,zE3]
  clear hK K
  refine wpAnyH_ready (rs:=[13]) (by kernel_rfl) (by simp) ?_
  refine AllReadyH.cons rfl (fun K hK=>?_) AllReadyH.nil
  refine step_callW _ (by rfl) (some 17) rfl 153 #[.tmp 16,.const (.int .i64 4)] #[25,3] rfl (fun q w'=>by rfl) #[.int .u64 l,.int .i64 4] (by simp only [List.map_toArray,List.map_cons,List.map_nil];rfl) (fun u w'=>(Byt w' u X4)∧Below x2.heap.size x2 w') ?_ ?_
  ·exact S4.out x2
  rintro bv x3 ⟨y9,hb⟩
  have OL:=hdH (own_low OL.out hb)
  have YB:=hdH (y9)
  have hS:Below w1.heap.size w1 x3:=hS.trans (hb.mono hS.size)
  clear hb y9
  refine hK.out _ _ hS (fun _=>?_)
  simp only [Act.put,zE1,zE2,zE3]
  clear hK K
  refine wpAnyH_ready (rs:=[14]) (by kernel_rfl) (by simp) ?_
  refine AllReadyH.cons rfl (fun K hK=>?_) AllReadyH.nil
  refine step_pushs _ rfl (some 18) rfl (.tmp 13) (.tmp 17) rfl w1.heap.size hS.size _ _ [k,n,c,0] X4 rfl rfl OL.out YB.out (by simp) (by have:=LN.out;omega) ?_
  intro pv x4 y9 hb
  have OP:=hdH (y9)
  have hS:Below w1.heap.size w1 x4:=hS.trans hb
  clear hb y9
  refine hK.out _ _ hS (fun _=>?_)
  simp only [Act.put,zE1,zE2,zE3]
  clear hK K
  refine tkH 15 (some 3) (pv) rfl rfl (Or.inl ⟨by rfl,fun w' hw'=>by rfl⟩) hS ?_
  simp only [Act.put,zE1,zE2,zE3]
  refine wpAnyH_done (by kernel_rfl) ?_ _
  have HV:=hdH (HV.out.below hS s1)
  have BB:Hid (Below w.heap.size w x4):=B1.trans (hS.mono (by omega))
  have z9:w1.heap.size≤x4.heap.size:=hS.size
  have c4:=HV.out.cell 4 _ rfl
  clear hS
  have t1:=tR
  go_wp2_with (first
   |(have q4:=t4;at_builtin;refine pushs_law _ rfl (.tmp 24) (.tmp 27) rfl w1.heap.size (by omega) _ _ _ X9 rfl rfl OP.out Y9.out (by have:=LN.out;simp;omega) ?_;intro v8 w8 o8 B8;have OP:=hdH (o8);have BB:=hdH (BB.out.trans (B8.mono (by omega)));clear o8 B8 t4)
   |(have q3:=t3;go_at_call 153;refine (S9.out _).mono ?_;rintro e9 w7 ⟨v7,rfl,y7,B7⟩;have Y9:=hdH (y7);have OP:=hdH (own_low OP.out B7);have BB:=hdH (BB.out.trans (B7.mono BB.out.size));have z7:w1.heap.size≤w7.heap.size:=Nat.le_trans z6 B7.size;clear y7 B7 t3;have t4:=tR)
   |(have q2:=t2;at_builtin;refine pushs_law _ rfl (.tmp 19) (.tmp 22) rfl w1.heap.size (by omega) _ _ _ X8 rfl rfl OP.out Y8.out (by have:=LN.out;simp;omega) ?_;intro v6 w6 o6 B6;have OP:=hdH (o6);have c5:=(HV.out.below B6 s1).cell 5 _ rfl;have BB:=hdH (BB.out.trans (B6.mono (by omega)));have z6:w1.heap.size≤w6.heap.size:=Nat.le_trans z5 B6.size;clear o6 B6 t2;have t3:=tR)
   |(have q1:=t1;go_at_call 153;refine (S8.out _).mono ?_;rintro e9 w5 ⟨v5,rfl,y5,B5⟩;have Y8:=hdH (y5);have OP:=hdH (own_low OP.out B5);have HV:=hdH (HV.out.below B5 (by omega));have BB:=hdH (BB.out.trans (B5.mono BB.out.size));have z5:w1.heap.size≤w5.heap.size:=Nat.le_trans z9 B5.size;clear y5 B5 t1 c4;have t2:=tR))
  go_ret
  exact ⟨_,rfl,by have z:=OP.out;rw [HE.out] at z;exact own_less z (by omega),BB.out⟩
 ·refine step_callW _ (by rfl) (some 17) rfl 153 #[.tmp 16,.const (.int .i64 4)] #[25,3] rfl (fun q w'=>by rfl) #[.int .u64 l,.int .i64 4] (by simp only [List.map_toArray,List.map_cons,List.map_nil];rfl) (fun u w'=>(Byt w' u X4)∧Below x1.heap.size x1 w') ?_ ?_
  ·exact S4.out x1
  rintro bv x5 ⟨y9,hb⟩
  have YB:=hdH (y9)
  have hS:Below w1.heap.size w1 x5:=hS.trans (hb.mono hS.size)
  clear hb y9
  refine hK.out _ _ hS (fun _=>?_)
  simp only [Act.put,zE1,zE2,zE3]
  clear hK K
  refine wpAnyH_ready (rs:=[9]) (by kernel_rfl) (by simp) ?_
  refine AllReadyH.cons rfl (fun K hK=>?_) AllReadyH.nil
  refine step_lit4 _ rfl (some 13) rfl (.tmp 6) (.tmp 9) (.tmp 12) (.const (.int .u8 0)) rfl k n c 0 rfl rfl rfl rfl ?_
  intro lv x6 y9 hb
  have YB:=hdH (YB.out.below hb)
  have OL:Hid (Own w1.heap.size x6 lv [k,n,c,0]):=own_less y9 hS.size
  have hS:Below w1.heap.size w1 x6:=hS.trans (hb.mono hS.size)
  clear hb y9
  refine hK.out _ _ hS (fun _=>?_)
  simp only [Act.put,zE1,zE2,zE3]
  clear hK K
  refine wpAnyH_ready (rs:=[14]) (by kernel_rfl) (by simp) ?_
  refine AllReadyH.cons rfl (fun K hK=>?_) AllReadyH.nil
  refine step_pushs _ rfl (some 18) rfl (.tmp 13) (.tmp 17) rfl w1.heap.size hS.size _ _ [k,n,c,0] X4 rfl rfl OL.out YB.out (by simp) (by have:=LN.out;omega) ?_
  intro pv x7 y9 hb
  have OP:=hdH (y9)
  have hS:Below w1.heap.size w1 x7:=hS.trans hb
  clear hb y9
  refine hK.out _ _ hS (fun _=>?_)
  simp only [Act.put,zE1,zE2,zE3]
  clear hK K
  refine tkH 15 (some 3) (pv) rfl rfl (Or.inl ⟨by rfl,fun w' hw'=>by rfl⟩) hS ?_
  simp only [Act.put,zE1,zE2,zE3]
  refine wpAnyH_done (by kernel_rfl) ?_ _
  have HV:=hdH (HV.out.below hS s1)
  have BB:Hid (Below w.heap.size w x7):=B1.trans (hS.mono (by omega))
  have z9:w1.heap.size≤x7.heap.size:=hS.size
  have c4:=HV.out.cell 4 _ rfl
  clear hS
  have t1:=tR
  go_wp2_with (first
   |(have q4:=t4;at_builtin;refine pushs_law _ rfl (.tmp 24) (.tmp 27) rfl w1.heap.size (by omega) _ _ _ X9 rfl rfl OP.out Y9.out (by have:=LN.out;simp;omega) ?_;intro v8 w8 o8 B8;have OP:=hdH (o8);have BB:=hdH (BB.out.trans (B8.mono (by omega)));clear o8 B8 t4)
   |(have q3:=t3;go_at_call 153;refine (S9.out _).mono ?_;rintro e9 w7 ⟨v7,rfl,y7,B7⟩;have Y9:=hdH (y7);have OP:=hdH (own_low OP.out B7);have BB:=hdH (BB.out.trans (B7.mono BB.out.size));have z7:w1.heap.size≤w7.heap.size:=Nat.le_trans z6 B7.size;clear y7 B7 t3;have t4:=tR)
   |(have q2:=t2;at_builtin;refine pushs_law _ rfl (.tmp 19) (.tmp 22) rfl w1.heap.size (by omega) _ _ _ X8 rfl rfl OP.out Y8.out (by have:=LN.out;simp;omega) ?_;intro v6 w6 o6 B6;have OP:=hdH (o6);have c5:=(HV.out.below B6 s1).cell 5 _ rfl;have BB:=hdH (BB.out.trans (B6.mono (by omega)));have z6:w1.heap.size≤w6.heap.size:=Nat.le_trans z5 B6.size;clear o6 B6 t2;have t3:=tR)
   |(have q1:=t1;go_at_call 153;refine (S8.out _).mono ?_;rintro e9 w5 ⟨v5,rfl,y5,B5⟩;have Y8:=hdH (y5);have OP:=hdH (own_low OP.out B5);have HV:=hdH (HV.out.below B5 (by omega));have BB:=hdH (BB.out.trans (B5.mono BB.out.size));have z5:w1.heap.size≤w5.heap.size:=Nat.le_trans z9 B5.size;clear y5 B5 t1 c4;have t2:=tR))
  go_ret
  exact ⟨_,rfl,by have z:=OP.out;rw [HE.out] at z;exact own_less z (by omega),BB.out⟩
theorem rend_any (k n c l e t:Int) (v:Value) (tag:List Int) (w:World) (hb':Byt w v tag) (h:Rh k n c) (hl:0≤l∧l≤4294967295) (he:0≤e∧e≤18446744073709551615) (ht:0≤t∧t≤18446744073709551615) (hn:tag.length=0∨tag.length=32):
  Calls Tryz.prog 90 #[.agg (hv k n c l e t).toArray,v] w fun x w'=>∃ v,x=.returned v∧Byt w' v (hend (hb k n c l e t) (tgo tag) (List.replicate 8 255))∧Below w.heap.size w w':=by
 have SB:Hid (∀ w,Calls Tryz.prog 126 #[.agg (hv k n c l e t).toArray] w fun x w'=>∃ v,x=.returned v∧Own w.heap.size w' v (hb k n c l e t)∧Below w.heap.size w w'):=fun w=>rbytes_own k n c l e t w h hl he ht
 have AZ:Hid (AllB (hb k n c l e t)):=hb_all h l e t
 have LZ:Hid ((hb k n c l e t).length =24∧(inv (hb k n c l e t)).length =24):=⟨hb_len _ _ _ _ _ _,by rw [inv_len,hb_len]⟩
 have S8:Hid (∀ w,Calls Tryz.prog 89 #[.int .u8 255,.int .i64 8] w fun e w'=>∃ v,e=.returned v∧Byt w' v (List.replicate 8 255)∧Below w.heap.size w w'):=fun w=>by
  have:=rfill_any 255 8 w (by omega)
  rw [show clamp 8 65536=8 by decide] at this
  exact this
 have LT:Hid ((tgo tag).length =32∧(List.replicate 8 (255 :Int)).length =8):=⟨tgo_len hn,by simp⟩
 have HA:Hid (AllB (hend (hb k n c l e t) (tgo tag) (List.replicate 8 255))):=hend_all (hb_all h l e t) (tgo_all hb'.all) (allB_replicate 255 8 (by omega))
 have HE:Hid (((hb k n c l e t ++ inv (hb k n c l e t)) ++ tgo tag) ++ List.replicate 8 255=hend (hb k n c l e t) (tgo tag) (List.replicate 8 255)):=by
  show _=_
  simp [hend]
 have HTG:Hid ((tag.length=0∧∀ w,Calls Tryz.prog 89 #[.int .u8 255,.int .i64 32] w fun e w'=>∃ v,e=.returned v∧Byt w' v (tgo tag)∧Below w.heap.size w w')∨(tag.length=32∧∀ w',Below w.heap.size w w'→Byt w' v (tgo tag))):=by
  show _∨_
  rcases hn with q | q
  ·refine .inl ⟨q,fun w=>?_⟩
   have:=rfill_any 255 32 w (by omega)
   rw [show clamp 32 65536=32 by decide] at this
   have eT:tgo tag=List.replicate 32 255:=by unfold tgo;rw [if_pos q]
   rw [eT];exact this
  ·refine .inr ⟨q,fun w' hw=>?_⟩
   have eT:tgo tag=tag:=by unfold tgo;rw [if_neg (by omega)]
   rw [eT];exact hb'.below hw
 obtain ⟨ao,cap,rfl,h1,h2, -⟩:=hb'
 generalize hend (hb k n c l e t) (tgo tag) (List.replicate 8 255)=ZZ at*
 generalize hb k n c l e t=Z at*
 generalize tgo tag=TG at*
 generalize List.replicate 8 (255 :Int)=M8 at*
 generalize tag.length=nt at*
 clear h hl he ht h1 h2 hn
 have t0:=tR
 go_enter Tryz.func90,Tryz.ntmps90
 go_wp2_with (have q0:=t0;refine box_lawC _ (hv k n c l e t) rfl ?_;intro w1 V1 B1 s1;have HV:=hdH (V1);clear V1 t0)
 refine wp_region_held_drew (S:=fun w'=>Below w1.heap.size w1 w') (by kernel_rfl) (Below.refl _ _).drew (fun hS=>?_)
 obtain ⟨x1,hx0⟩:∃ x,x=w1.drew:=⟨_,rfl⟩
 rw [←hx0] at hS ⊢
 clear hx0
 refine tkH 0 (some 6) (.agg (hv k n c l e t).toArray) rfl rfl (Or.inl ⟨by rfl,fun w' hw'=>by exact exec_loadN 64 (.tmp 2) rfl _ rfl _ _ (load_cells rowy_head (HV.out.below hw' s1).1)⟩) hS ?_
 simp only [Act.put,zE1,zE2,zE3]
 refine tkH 2 (some 8) (.agg (hv k n c l e t).toArray) rfl rfl (Or.inl ⟨by rfl,fun w' hw'=>by exact exec_loadN 64 (.tmp 2) rfl _ rfl _ _ (load_cells rowy_head (HV.out.below hw' s1).1)⟩) hS ?_
 simp only [Act.put,zE1,zE2,zE3]
 refine wpAnyH_ready (rs:=[1]) (by kernel_rfl) (by simp) ?_
 refine AllReadyH.cons rfl (fun K hK=>?_) AllReadyH.nil
 have z1:w1.heap.size≤x1.heap.size:=hS.size
 refine step_callW _ (by rfl) (some 7) rfl 126 #[.tmp 6] #[64] rfl (fun q w'=>by rfl) #[.agg (hv k n c l e t).toArray] (by simp only [List.map_toArray,List.map_cons,List.map_nil];rfl) (fun u w'=>(Own x1.heap.size w' u Z)∧Below x1.heap.size x1 w') ?_ ?_
 ·exact SB.out x1
 rintro u1 x2 ⟨y9,hb⟩
 have O1:=hdH (y9)
 have hS:Below w1.heap.size w1 x2:=hS.trans (hb.mono hS.size)
 clear hb y9
 refine hK.out _ _ hS (fun _=>?_)
 simp only [Act.put,zE1,zE2,zE3]
 clear hK K
 refine wpAnyH_ready (rs:=[3]) (by kernel_rfl) (by simp) ?_
 refine AllReadyH.cons rfl (fun K hK=>?_) AllReadyH.nil
 refine step_callW _ (by rfl) (some 9) rfl 126 #[.tmp 8] #[64] rfl (fun q w'=>by rfl) #[.agg (hv k n c l e t).toArray] (by simp only [List.map_toArray,List.map_cons,List.map_nil];rfl) (fun u w'=>(Own x2.heap.size w' u Z)∧Below x2.heap.size x2 w') ?_ ?_
 ·exact SB.out x2
 rintro u2 x3 ⟨y9,hb⟩
 have O1:=hdH (own_low O1.out hb)
 have O2:=hdH (y9)
 have hS:Below w1.heap.size w1 x3:=hS.trans (hb.mono hS.size)
 clear hb y9
 refine hK.out _ _ hS (fun _=>?_)
 simp only [Act.put,zE1,zE2,zE3]
 clear hK K
 refine wpAnyH_ready (rs:=[4]) (by kernel_rfl) (by simp) ?_
 refine AllReadyH.cons rfl (fun K hK=>?_) AllReadyH.nil
 refine step_callW _ (by rfl) (some 10) rfl 127 #[.tmp 9] #[26] rfl (fun q w'=>by rfl) #[u2] (by simp only [List.map_toArray,List.map_cons,List.map_nil];rfl) (fun u w'=>(Byt w' u (inv Z))∧Below x3.heap.size x3 w') ?_ ?_
 ·exact (rinvert_any _ Z x3 (O2.out.byt AZ.out) (by have:=LZ.out;omega))
 rintro u3 x4 ⟨y9,hb⟩
 have O1:=hdH (own_low O1.out hb)
 have O2:=hdH (own_low O2.out hb)
 have YI:=hdH (y9)
 have hS:Below w1.heap.size w1 x4:=hS.trans (hb.mono hS.size)
 clear hb y9
 refine hK.out _ _ hS (fun _=>?_)
 simp only [Act.put,zE1,zE2,zE3]
 clear hK K
 refine wpAnyH_ready (rs:=[5]) (by kernel_rfl) (by simp) ?_
 refine AllReadyH.cons rfl (fun K hK=>?_) AllReadyH.nil
 refine step_pushs _ rfl (some 11) rfl (.tmp 7) (.tmp 10) rfl w1.heap.size hS.size _ _ Z (inv Z) rfl rfl (own_less O1.out z1) YI.out (by have:=LZ.out;omega) (by have:=LZ.out;omega) ?_
 intro pv x5 y9 hb
 have OP:=hdH (y9)
 have hS:Below w1.heap.size w1 x5:=hS.trans hb
 clear hb y9
 refine hK.out _ _ hS (fun _=>?_)
 simp only [Act.put,zE1,zE2,zE3]
 clear hK K
 refine tkH 6 (some 5) (pv) rfl rfl (Or.inl ⟨by rfl,fun w' hw'=>by rfl⟩) hS ?_
 simp only [Act.put,zE1,zE2,zE3]
 refine wpAnyH_done (by kernel_rfl) ?_ _
 have BB:Hid (Below w.heap.size w x5):=B1.trans (hS.mono (by omega))
 have z9:w1.heap.size≤x5.heap.size:=hS.size
 clear hS
 rcases HTG.out with ⟨q,SF⟩ | ⟨q,YF⟩
 ·subst q
  have SF:=hdH (SF)
  clear HTG
  have t1:=tR
  go_wp2_with (first
   |(have q4:=t4;at_builtin;refine pushs_law _ rfl (.tmp 19) (.tmp 20) rfl w1.heap.size (by omega) _ _ _ M8 rfl rfl OP.out YM.out (by have:=LZ.out;have:=LT.out;simp;omega) ?_;intro v8 w8 o8 B8;have OP:=hdH (o8);have BB:=hdH (BB.out.trans (B8.mono (by omega)));clear o8 B8 t4)
   |(have q3:=t3;go_at_call 89;refine (S8.out _).mono ?_;rintro e9 w7 ⟨v7,rfl,y7,B7⟩;have YM:=hdH (y7);have OP:=hdH (own_low OP.out B7);have BB:=hdH (BB.out.trans (B7.mono BB.out.size));have z7:w1.heap.size≤w7.heap.size:=Nat.le_trans z6 B7.size;clear y7 B7 t3;have t4:=tR)
   |(have q2:=t2;at_builtin;refine pushs_law _ rfl (.tmp 16) (.tmp 17) rfl w1.heap.size z5 _ _ _ TG rfl rfl OP.out YT.out (by have:=LZ.out;have:=LT.out;simp;omega) ?_;intro v6 w6 o6 B6;have OP:=hdH (o6);have BB:=hdH (BB.out.trans (B6.mono (by omega)));have z6:w1.heap.size≤w6.heap.size:=Nat.le_trans z5 B6.size;clear o6 B6 t2;have t3:=tR)
   |(have q1:=t1;go_at_call 89;refine (SF.out _).mono ?_;rintro e9 w5 ⟨v5,rfl,y5,B5⟩;have YT:=hdH (y5);have OP:=hdH (own_low OP.out B5);have BB:=hdH (BB.out.trans (B5.mono BB.out.size));have z5:w1.heap.size≤w5.heap.size:=Nat.le_trans z9 B5.size;clear y5 B5 t1;have t2:=tR))
  go_ret
  exact ⟨_,rfl,by have z:=OP.out;rw [HE.out] at z;exact z.byt HA.out,BB.out⟩
 ·subst q
  have YT:Hid (Byt x5 (.slice ao 32 cap) TG):=YF _ BB.out
  clear HTG YF
  have z5:=z9
  have t2:=tR
  go_wp2_with (first
   |(have q4:=t4;at_builtin;refine pushs_law _ rfl (.tmp 19) (.tmp 20) rfl w1.heap.size (by omega) _ _ _ M8 rfl rfl OP.out YM.out (by have:=LZ.out;have:=LT.out;simp;omega) ?_;intro v8 w8 o8 B8;have OP:=hdH (o8);have BB:=hdH (BB.out.trans (B8.mono (by omega)));clear o8 B8 t4)
   |(have q3:=t3;go_at_call 89;refine (S8.out _).mono ?_;rintro e9 w7 ⟨v7,rfl,y7,B7⟩;have YM:=hdH (y7);have OP:=hdH (own_low OP.out B7);have BB:=hdH (BB.out.trans (B7.mono BB.out.size));have z7:w1.heap.size≤w7.heap.size:=Nat.le_trans z6 B7.size;clear y7 B7 t3;have t4:=tR)
   |(have q2:=t2;at_builtin;refine pushs_law _ rfl (.tmp 16) (.tmp 17) rfl w1.heap.size z5 _ _ _ TG rfl rfl OP.out YT.out (by have:=LZ.out;have:=LT.out;simp;omega) ?_;intro v6 w6 o6 B6;have OP:=hdH (o6);have BB:=hdH (BB.out.trans (B6.mono (by omega)));have z6:w1.heap.size≤w6.heap.size:=Nat.le_trans z5 B6.size;clear o6 B6 t2;have t3:=tR))
  go_ret
  exact ⟨_,rfl,by have z:=OP.out;rw [HE.out] at z;exact z.byt HA.out,BB.out⟩
end Go.Proofs.YtmbgokmomkmgcaaGreatDoor.he
