/- Parts of the proof: what ScanBlocks reaches. No claim of its own. -/
import Derived.Deep.RegionHeld3
import Derived.Lib.MakeNoZero
import Derived.Laws.AppendOwnNone
import Derived.Lib.SliceRun
import Derived.WalkKit
import Derived.WalkSmall
import Derived.ProofKit
import Derived.OpenShut
import Derived.BigQuiet
import Derived.Deep.QuietTactic
import Derived.ArgAppend
import Derived.Deep.WholeRow
import Derived.Deep.MidRow
import Derived.Laws.StructEq
import Derived.Deep.DeepCutAuto
import Derived.Test.YtmbgokmomkmgcaaGreatDoorK00
import Derived.Test.YtmbgokmomkmgcaaGreatDoorK02
import Derived.Test.YtmbgokmomkmgcaaGreatDoorK08
import Derived.Test.YtmbgokmomkmgcaaGreatDoorK09
import Derived.Test.YtmbgokmomkmgcaaGreatDoorK10
import Derived.Test.YtmbgokmomkmgcaaGreatDoorK11
import Derived.Test.YtmbgokmomkmgcaaGreatDoorK12
set_option maxHeartbeats 8000000
namespace Go.Proofs.YtmbgokmomkmgcaaGreatDoor.na
open Go.RowKit Go.Proofs.YtmbgokmomkmgcaaGreatDoor.fa
set_option maxRecDepth 20000
section
variable {ops:Array Oper} {o:Oper} {a:Act} {Q:Exit→Act→World→Prop} {K:Act→World→Prop} {E:Prop}
end
theorem torn_any (va vb vm:Value) (xs ys m:List Int) (w:World) (ha:Byt w va xs) (hb:Byt w vb ys) (hm:Byt w vm m) (hl:xs.length=ys.length) (hmax:xs.length≤1048576):
  Calls Tryz.prog 140 #[va,vb,vm] w fun e w'=>∃ v,e=.returned v∧Byt w' v (ofb xs.length (torn xs ys m))∧Below w.heap.size w w':=by
 have S:Hid (Calls Tryz.prog 155 #[va,vb,vm] w fun e w'=>∃ v,e=.returned (.tuple #[v,.int .i64 0])∧Byt w' v (ofb xs.length (torn xs ys m))∧Below w.heap.size w w'):=by
  have:=clear_any va vb vm xs ys m w ha hb hm hl hmax
  rw [pgl_torn xs ys m ha.all hb.all] at this
  exact this
 generalize ofb xs.length (torn xs ys m)=zs at*
 clear ha hb hm hl
 go_enter Tryz.func140,Tryz.ntmps140
 go_wp2_with (go_at_call 155;refine S.out.mono ?_;rintro e w1 ⟨v1,rfl,y1,B1⟩;have Y1:=hdH (y1);clear y1)
 go_ret
 exact ⟨_,rfl,Y1.out,B1⟩
theorem p1_any (va vb:Value) (xs ys:List Int) (h:Nat) (w:World) (ha:Byt w va xs) (hb:Byt w vb ys) (hh:w.cell? ⟨h,0,none⟩=some vb) (hl:xs.length=ys.length) (hmax:xs.length≤1048576):
  Calls Tryz.prog 138 #[va,.pointer (some ⟨h,0,none⟩)] w fun e w'=>∃ v,e=.returned v∧Byt w' v (andl xs ys)∧Below w.heap.size w w':=by
 have lh:h<w.heap.size:=World.block_lt_of_cell? w _ hh
 have HAA:Hid (AllB xs):=ha.all
 have HBB:Hid (AllB ys):=hb.all
 obtain ⟨ao,ca,rfl,ha1,ha2,ha3, -,ha5⟩:=ha
 obtain ⟨bo,cb,rfl,hb1,hb2,hb3, -,hb5⟩:=hb
 rw [←hl] at hh hb1
 have HA5:=hdH (ha5)
 have HB5:Hid (0<xs.length→∃ b off,bo=some ⟨b,off,none⟩∧∀ t,t<xs.length→w.cell? ⟨b,off+t,none⟩=some (.int .u8 (gb ys t))):=by rw [hl];exact hb5
 clear ha5 ha3 hb5 hb3 hl
 have HZ:Hid ((andl xs ys).length =xs.length):=andl_len xs ys
 go_enter Tryz.func138,Tryz.ntmps138
 go_wp2_with (at_make;refine make_law _ rfl (.tmp 7) (.tmp 7) rfl w.heap.size (Nat.le_refl _) _ xs.length rfl rfl rfl (by omega) ?_;intro w1 hown hbel hlt)
 go_loopw [11] (fun i wr=>∃ k:Nat,k≤xs.length∧i=.int .i64 k∧OwnN w.heap.size wr w.heap.size xs.length (prt (andl xs ys) k)∧Below w.heap.size w wr) (fun i _=>xs.length-(intOf i).toNat)
 case atStart=>exact ⟨0,Nat.zero_le _,rfl,by rw [prt_zero,HZ.out];exact hown,hbel⟩
 case round=>
  clear hown hbel
  obtain ⟨k,hk,rfl,hown,hbel⟩:=hrel
  by_cases hlt':k<xs.length
  ·obtain ⟨b,off,rfl,hca⟩:=HA5.out (by omega)
   obtain ⟨b',off',rfl,hcb⟩:=HB5.out (by omega)
   have c1:wr.cell? ⟨b,off+k,none⟩=some (.int .u8 (gb xs k)):=(hbel.cell (World.block_lt_of_cell? w _ (hca k hlt'))).trans (hca k hlt')
   have c2:wr.cell? ⟨b',off'+k,none⟩=some (.int .u8 (gb ys k)):=(hbel.cell (World.block_lt_of_cell? w _ (hcb k hlt'))).trans (hcb k hlt')
   have c3:wr.cell? ⟨h,0,none⟩=some (.slice (some ⟨b',off',none⟩) xs.length cb):=(hbel.cell lh).trans hh
   have lk:(k:Int)<(xs.length:Int):=by omega
   have lk0:(0 :Int)≤(k:Int):=by omega
   have HX:Hid (bits .and .u8 (gb xs k) (gb ys k)=gb (andl xs ys) k):=by
    show _=_
    have a1:=HAA.out k
    have a2:=HBB.out k
    rw [andl_gb xs ys k hlt'];exact u8_and _ _ a1.1 (by omega) a2.1 (by omega)
   have HO:Hid (OwnN w.heap.size wr w.heap.size xs.length (prt (andl xs ys) k)):=hown
   have HBL:Hid (Below w.heap.size w wr):=hbel
   clear hca hcb hown hbel hh
   go_wp2
   refine wp_region_any (by kernel_rfl) ?_
   change wpAny _ _ _ _ _ _ _ (World.drew _)
   refine wpAny_quiet_then (C:=fun w'=>∃ n,w'=wr.drewN n) 0 12 1 _ (by kernel_rfl) rfl (by kernel_rfl) (by kernel_rfl) ⟨1,rfl⟩ ?_
   simp only [List.take_succ_cons,List.take_zero,List.drop_zero]
   repeat (quiet_step (fail))
   refine wpQuiet_nil ?_
   rintro f _ ⟨nq,rfl⟩
   have O1:OwnN w.heap.size (wr.drewN nq) w.heap.size xs.length (prt (andl xs ys) k):=HO.out.drew nq
   have HS:=O1.set k (gb (andl xs ys) k)
   rw [prt_set _ k (by rw [HZ.out];exact hlt')] at HS
   have B2:Below w.heap.size w ((wr.drewN nq).setCell ⟨w.heap.size,k,none⟩ (.int .u8 (gb (andl xs ys) k))):=(below_drawn HBL.out nq).setCell (Nat.le_refl _) _
   refine wpAny_ready (rs:=[12]) (by kernel_rfl) (by simp) ?_
   refine AllReady.cons rfl (fun K hK=>?_) AllReady.nil
   refine step_set _ rfl none rfl (.tmp 25) (.tmp 24) 5 rfl .u8 (gb (andl xs ys) k) w.heap.size k rfl (by rw [←HX.out];rfl) (by rw [O1.cell hlt'];rfl) (O1.free k) i_u8 (hK _ _ ?_)
   simp only [Act.put]
   clear O1 c1 c2 c3
   generalize (wr.drewN nq).setCell ⟨w.heap.size,k,none⟩ (.int .u8 (gb (andl xs ys) k))=w6 at*
   refine wpAny_done (by kernel_rfl) ?_ _
   go_wp2
   go_roundw
   case rel=>exact ⟨k+1,by omega,by go_num,HS,B2⟩
   case measure=>simp [intOf];omega
  ·have hks:k=xs.length:=by omega
   subst hks
   have hown2:OwnN w.heap.size wr w.heap.size xs.length (andl xs ys):=by
    have:=hown;rw [←HZ.out,prt_end,HZ.out] at this;exact this
   go_wp2
   go_ret
   exact ⟨_,rfl,hown2.byt (andl_all _ _ HAA.out),hbel⟩
theorem pgm_eq (S:Nat) (c:Bool) (m was b:List Int) (h:was.length=S):pgm S (some (c,m)) was b=if c=true then ofb was.length (torn was b m) else ofb was.length (failed was b m (8*was.length)):=by
 subst h
 cases c <;> rfl
theorem p2_any (va vb:Value) (xs ys m:List Int) (h:Nat) (f:Int × Bool × Value) (w:World) (ha:Byt w va xs) (hb:Byt w vb ys) (hm:Byt w f.2.2 m) (hh:w.cell? ⟨h,0,none⟩=some vb) (hl:xs.length=ys.length) (hmax:xs.length≤1048576):
  Calls Tryz.prog 139 #[va,fv f,.pointer (some ⟨h,0,none⟩)] w fun e w'=>∃ v,e=.returned v∧Byt w' v (pgm xs.length (some (f.2.1,m)) xs ys)∧Below w.heap.size w w':=by
 obtain ⟨n,cr,vm⟩:=f
 have lh:h<w.heap.size:=World.block_lt_of_cell? w _ hh
 have hm':Byt w vm m:=hm
 have ST:Hid (∀ w0,Below w.heap.size w w0→Calls Tryz.prog 140 #[va,vb,vm] w0 fun e w'=>∃ v,e=.returned v∧Byt w' v (ofb xs.length (torn xs ys m))∧Below w0.heap.size w0 w'):=fun w0 hw=>torn_any va vb vm xs ys m w0 (ha.below hw) (hb.below hw) (hm'.below hw) hl hmax
 have SF:Hid (∀ w0,Below w.heap.size w w0→Calls Tryz.prog 141 #[va,vb,vm] w0 fun e w'=>∃ v,e=.returned (.tuple #[v,.int .i64 0])∧Byt w' v (ofb xs.length (failed xs ys m (8*xs.length)))∧Below w0.heap.size w0 w'):=fun w0 hw=>by
  refine (fail_any va vb vm xs ys m w0 (ha.below hw) (hb.below hw) (hm'.below hw) hl hmax).mono ?_
  rintro e w' ⟨v,p,z,rfl,hL,y,B⟩
  rw [pgl_failed xs ys m p z ha.all hb.all hL] at y
  exact ⟨v,rfl,y,B⟩
 have HC:Hid (∀ w0,Below w.heap.size w w0→w0.cell? ⟨h,0,none⟩=some vb):=fun w0 hw=>(hw.cell lh).trans hh
 have HE:=pgm_eq xs.length cr m xs ys rfl
 obtain ⟨mo,mc,rfl⟩:=byt_form hm'
 obtain ⟨bo,bc,rfl⟩:=byt_form hb
 clear ha hb hm hm' hl hh
 have t0:=tR
 cases cr with
 |true=>
  rw [if_pos rfl] at HE
  rw [HE]
  generalize ofb xs.length (torn xs ys m)=zs at*
  go_enter Tryz.func139,Tryz.ntmps139
  go_wp2_with (first
   |(have q1:=t1;go_at_call 140;refine (ST.out _ BB.out).mono ?_;rintro e w2 ⟨v2,rfl,y2,B2⟩;have Y2:=hdH (y2);have BB2:=hdH (BB.out.trans (B2.mono BB.out.size));clear y2 B2 t1)
   |(have q0:=t0;refine box_lawV _ (n,true,.slice mo m.length mc) rfl ?_;intro w1 V1 B1 l1;have f1:=V1.1.2.1;have f2:=V1.1.2.2;have ch:=HC.out w1 B1;have BB:=hdH (B1);clear V1 t0;have t1:=tR))
  go_ret
  exact ⟨_,rfl,Y2.out,BB2.out⟩
 |false=>
  rw [if_neg (by decide)] at HE
  rw [HE]
  generalize ofb xs.length (failed xs ys m (8*xs.length))=zs at*
  go_enter Tryz.func139,Tryz.ntmps139
  go_wp2_with (first
   |(have q1:=t1;go_at_call 141;refine (SF.out _ BB.out).mono ?_;rintro e w2 ⟨v2,rfl,y2,B2⟩;have Y2:=hdH (y2);have BB2:=hdH (BB.out.trans (B2.mono BB.out.size));clear y2 B2 t1)
   |(have q0:=t0;refine box_lawV _ (n,false,.slice mo m.length mc) rfl ?_;intro w1 V1 B1 l1;have f1:=V1.1.2.1;have f2:=V1.1.2.2;have ch:=HC.out w1 B1;have BB:=hdH (B1);clear V1 t0;have t1:=tR))
  go_ret
  exact ⟨_,rfl,Y2.out,BB2.out⟩
def Deed (w:World) (dv va:Value) (R:Option (Bool × List Int)→List Int):Prop:=∃ K1 c1 K2 c2,dv=.agg ([.func (.func K1) #[] c1,.func (.func K2) #[] c2]:List Value).toArray ∧
 (∀ (q:Array Value) (w:World),(callFunc K1 q).run Tryz.prog w=.ok (.enter K1 q) w)∧(∀ (q:Array Value) (w:World),(callFunc K2 q).run Tryz.prog w=.ok (.enter K2 q) w)∧
 (∀ w0,Below w.heap.size w w0→Calls Tryz.prog K1 (#[va] ++ c1) w0 fun e w'=>∃ v,e=.returned v∧Byt w' v (R none)∧Below w0.heap.size w0 w')∧
 ∀ w0 f m,Below w.heap.size w w0→Byt w0 f.2.2 m→Calls Tryz.prog K2 (#[va,fv f] ++ c2) w0 fun e w'=>∃ v,e=.returned v∧Byt w' v (R (some (f.2.1,m)))∧Below w0.heap.size w0 w'
theorem Deed.below {w w':World} {dv va:Value} {R:Option (Bool × List Int)→List Int} (h:Deed w dv va R) (hb:Below w.heap.size w w'):Deed w' dv va R:=by
 obtain ⟨K1,c1,K2,c2,e,f1,f2,g1,g2⟩:=h
 exact ⟨K1,c1,K2,c2,e,f1,f2,fun w0 h0=>g1 w0 (hb.trans (h0.mono hb.size)),fun w0 f m h0=>g2 w0 f m (hb.trans (h0.mono hb.size))⟩
theorem programming_any (vb:Value) (ys:List Int) (w:World) (hb:Byt w vb ys):
  Calls Tryz.prog 99 #[vb] w fun e w'=>∃ dv,e=.returned dv∧Below w.heap.size w w'∧∀ w0 va xs,Below w'.heap.size w' w0→Byt w0 va xs→xs.length=ys.length→xs.length≤1048576→Deed w0 dv va (fun o=>pgm xs.length o xs ys):=by
 have HB:=hdH (hb)
 obtain ⟨bo,bc,rfl⟩:=byt_form hb
 have hmf:=makeFn
 clear hb
 have es:(w.alloc (.cells #[.slice bo ys.length bc] 26)).heap.size =w.heap.size+1:=by simp
 have B0:=(Below.refl w.heap.size w).alloc (Nat.le_refl _) (.cells #[.slice bo ys.length bc] 26)
 have BB:Hid (Below w.heap.size w ((w.alloc (.cells #[.slice bo ys.length bc] 26)).alloc (.cells #[.nilFunc,.nilFunc] 200))):=B0.alloc B0.size _
 have HV:Hid (Vr ((w.alloc (.cells #[.slice bo ys.length bc] 26)).alloc (.cells #[.nilFunc,.nilFunc] 200)) (w.heap.size+1) [.nilFunc,.nilFunc]):=by
  have:=Vr.new (w.alloc (.cells #[.slice bo ys.length bc] 26)) 200 [.nilFunc,.nilFunc]
  rw [es] at this
  exact this
 have HC:Hid (((w.alloc (.cells #[.slice bo ys.length bc] 26)).alloc (.cells #[.nilFunc,.nilFunc] 200)).cell? ⟨w.heap.size,0,none⟩=some (.slice bo ys.length bc)):=by
  have e:=cell_of_row (w.alloc (.cells #[.slice bo ys.length bc] 26)) w.heap.size 0 _ 26 (0,0) (heap_alloc_last w _)
  exact (((Below.refl _ _).alloc (Nat.le_refl _) _).cell (show w.heap.size<_ by rw [es];omega)).trans e
 clear es B0
 have t1:=tR
 go_enter Tryz.func99,Tryz.ntmps99
 go_wp2_with (have q1:=t1;refine store_lawC _ [.func (.func 138) #[] #[.pointer (some ⟨w.heap.size,0,none⟩)],.func (.func 139) #[] #[.pointer (some ⟨w.heap.size,0,none⟩)]] (w.heap.size+1) 0 rfl rfl HV.out.2 rowy_deed.2 (fun v hv=>by simp at hv;rcases hv with rfl | rfl <;> rfl) ?_;intro w2 E2 R2 T2 B2;have HR:=hdH (R2);have HC2:Hid (w2.cell? ⟨w.heap.size,0,none⟩=some (.slice bo ys.length bc)):=(B2.cell (show w.heap.size<w.heap.size+1 by omega)).trans HC.out;have BB:=hdH (BB.out.trans (B2.mono (by omega)));clear R2 T2 E2 B2 t1)
 refine bodyPost_ret (v:=.agg ([.func (.func 138) #[] #[.pointer (some ⟨w.heap.size,0,none⟩)],.func (.func 139) #[] #[.pointer (some ⟨w.heap.size,0,none⟩)]]:List Value).toArray) (results_c rfl _ _ (w.heap.size+1) _ rowy_deed rfl HR.out) rfl ⟨_,rfl,BB.out,?_⟩
 intro w0 va xs hw ha hl hm
 have lz:w.heap.size<w2.heap.size:=World.block_lt_of_cell? _ _ HC2.out
 refine ⟨138,#[.pointer (some ⟨w.heap.size,0,none⟩)],139,#[.pointer (some ⟨w.heap.size,0,none⟩)],rfl,fun q w=>by rfl,fun q w=>by rfl,fun w3 h3=>?_,fun w3 f m h3 hf=>?_⟩
 ·have hw3:Below w2.heap.size w2 w3:=hw.trans (h3.mono hw.size)
  exact p1_any va _ xs ys w.heap.size w3 (ha.below h3) (HB.out.below (BB.out.trans (hw3.mono BB.out.size))) ((hw3.cell lz).trans HC2.out) hl hm
 ·have hw3:Below w2.heap.size w2 w3:=hw.trans (h3.mono hw.size)
  exact p2_any va _ xs ys m w.heap.size f w3 (ha.below h3) (HB.out.below (BB.out.trans (hw3.mono BB.out.size))) hf ((hw3.cell lz).trans HC2.out) hl hm
end Go.Proofs.YtmbgokmomkmgcaaGreatDoor.na
