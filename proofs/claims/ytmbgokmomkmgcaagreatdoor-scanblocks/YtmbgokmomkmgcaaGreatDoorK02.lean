/- Parts of the proof: what ScanBlocks reaches. No claim of its own. -/
import Derived.WalkKit
import Derived.WalkSmall
import Derived.ProofKit
import Derived.OpenShut
import Derived.BigQuiet
import Derived.Deep.QuietTactic
import Derived.Deep.WholeRow
import Derived.Deep.MidRow
import Derived.Laws.StructEq
import Derived.Deep.RegionHeld3
import Derived.Laws.AppendOwnNone
import Derived.Lib.AppendZeros
import Derived.Lib.SliceRun
import Derived.Deep.DeepHandedRow
import Derived.Lib.LaidTab
import Derived.Deep.Matrix
import Derived.Deep.DeepCutAuto
import Derived.Test.YtmbgokmomkmgcaaGreatDoorK00
set_option maxHeartbeats 8000000
namespace Go.Proofs.YtmbgokmomkmgcaaGreatDoor.fa
open Go.RowKit
set_option maxRecDepth 20000
theorem makeFn (fn:Fn) (first cap:Array Value) (w:World):(Instr.makeFunc fn first cap).run Tryz.prog w=.ok (.func fn first cap) w:=rfl
theorem bitsOf_any (vm:Value) (m:List Int) (w:World) (hm:Byt w vm m):
  Calls Tryz.prog 156 #[vm] w fun e w'=>e=.returned (.func (.func 166) #[] #[.pointer (some ⟨w.heap.size,0,none⟩)])∧Say w' w.heap.size m∧Below w.heap.size w w':=by
 have HM:=hdH (hm)
 obtain ⟨ao,cap,rfl,h1,h2,h3,h4,h5⟩:=hm
 clear h5 h3 h4
 have hmf:=makeFn
 by_cases hl:m.length=0
 ·have HE:Hid (ms m= [255]):=by show _=_;unfold ms;rw [if_pos hl]
  have S:Hid (∀ w0,Calls Tryz.prog 123 #[.int .u8 255,.int .i64 1] w0 fun e w'=>∃ v,e=.returned v∧Byt w' v [255]∧Below w0.heap.size w0 w'):=fun w0=>fill_any 255 1 w0 (by decide)
  generalize hn:m.length=n at*
  subst hl
  go_enter Tryz.func156,Tryz.ntmps156
  go_wp2_with (go_at_call 123;refine (S.out _).mono ?_;rintro e w1 ⟨v1,rfl,y1,B1⟩;obtain ⟨ao1,cap1,rfl⟩:=byt_form y1;have V1:=(Var.new w _ _).below B1 (by simp);have c1:=V1.1;have f1:=V1.2)
  go_ret
  refine ⟨rfl,⟨_,(V1.set _).1,?_⟩,?_⟩
  ·rw [HE.out]
   exact byt_other y1 V1.1 (by simp)
  ·exact (((Below.refl _ _).alloc (Nat.le_refl _) _).trans (B1.mono (by simp))).setCell (Nat.le_refl _) _
 ·have HE:Hid (ms m=m):=by show _=_;unfold ms;rw [if_neg hl]
  have l0:(m.length:Int)≠0:=by omega
  go_enter Tryz.func156,Tryz.ntmps156
  go_wp2
  go_ret
  refine ⟨rfl,⟨_,(Var.new w _ _).1,?_⟩,(Below.refl _ _).alloc (Nat.le_refl _) _⟩
  rw [HE.out]
  exact HM.out.below ((Below.refl _ _).alloc (Nat.le_refl _) _)
end Go.Proofs.YtmbgokmomkmgcaaGreatDoor.fa
namespace Go.Proofs.YtmbgokmomkmgcaaGreatDoor.fa
open Go.RowKit
set_option maxRecDepth 20000
def andl (xs ys:List Int):List Int:=(List.range xs.length).map fun k=>(((gb xs k).toNat &&& (gb ys k).toNat :Nat):Int)
theorem andl_len (xs ys:List Int):(andl xs ys).length =xs.length:=by simp [andl]
theorem andl_gb (xs ys:List Int) (k:Nat) (h:k<xs.length):gb (andl xs ys) k=(((gb xs k).toNat &&& (gb ys k).toNat :Nat):Int):=by simp [gb,List.getD,andl,h]
theorem andl_ofb (xs ys:List Int) (hx:AllB xs):andl xs ys=ofb xs.length fun i=>hs xs i && hs ys i:=by
 refine ext_gb (by rw [andl_len,ofb_len]) fun k hk=>?_
 rw [andl_len] at hk
 rw [andl_gb xs ys k hk,ofb_gb _ _ k hk,ands_ofb xs ys hx k]
theorem andl_all (xs ys:List Int) (hx:AllB xs):AllB (andl xs ys):=by rw [andl_ofb xs ys hx];exact ofb_all _ _
theorem andl_take (xs ys:List Int) (k:Nat) (hk:k<xs.length):(andl xs ys).take (k+1)=(andl xs ys).take k ++ [gb (andl xs ys) k]:=by
 rw [List.take_succ_eq_append_getElem (by rw [andl_len];exact hk)]
 simp [gb,List.getD,show k<(andl xs ys).length by rw [andl_len];exact hk]
end Go.Proofs.YtmbgokmomkmgcaaGreatDoor.fa
namespace Go.Proofs.YtmbgokmomkmgcaaGreatDoor.fa
open Go.RowKit
set_option maxRecDepth 20000
def tc (xs ys:List Int) (i:Nat):Int:=(((gb xs i).toNat &&& (255-(gb ys i).toNat):Nat):Int)
theorem tc_bd (xs ys:List Int) (hx:AllB xs) (i:Nat):0≤tc xs ys i∧tc xs ys i≤255:=by
 have:=hx i
 unfold tc
 have h:(gb xs i).toNat &&& (255-(gb ys i).toNat)≤(gb xs i).toNat :=Nat.and_le_left
 omega
theorem toClear_any (va vb:Value) (xs ys:List Int) (i:Nat) (w:World) (ha:Byt w va xs) (hb:Byt w vb ys) (hl:xs.length=ys.length) (hi:i<xs.length):
  Calls Tryz.prog 167 #[va,vb,.int .i64 i] w fun e w'=>e=.returned (.int .u8 (tc xs ys i))∧∃ n,w'=w.drewN n:=by
 have a1:=ha.all i
 have a2:=hb.all i
 obtain ⟨ao,ca,rfl,ha1,ha2, -, -,ha5⟩:=ha
 obtain ⟨bo,cb,rfl,hb1,hb2, -, -,hb5⟩:=hb
 obtain ⟨b,off,rfl,hca⟩:=ha5 (by omega)
 obtain ⟨b',off',rfl,hcb⟩:=hb5 (by omega)
 have c1:=hca i hi
 have c2:=hcb i (by omega)
 have i0:(0 :Int)≤(i:Int):=by omega
 have i1:(i:Int)<(xs.length:Int):=by omega
 have i2:(i:Int)<(ys.length:Int):=by omega
 have e:bits .andNot .u8 (gb xs i) (gb ys i)=tc xs ys i:=u8_andNot _ _ a1.1 (by omega) a2.1 (by omega)
 generalize tc xs ys i=z at*
 generalize gb xs i=x at*
 generalize gb ys i=y at*
 clear hca hcb ha5 hb5 a1 a2 hl
 go_enter Tryz.func167,Tryz.ntmps167
 go_wp2
 go_quiet (fail)
 go_wp2
 go_ret
 exact ⟨rfl,_,rfl⟩
def Tells (w:World) (v:Value) (D:Nat→Int) (n:Nat):Prop:=∃ K caps,v=.func (.func K) #[] caps∧(∀ (q:Array Value) (w:World),(callFunc K q).run Tryz.prog w=.ok (.enter K q) w)∧(∀ i,0≤D i∧D i≤255)∧
 ∀ w',Below w.heap.size w w'→∀ i,i<n→Calls Tryz.prog K (#[.int .i64 i] ++ caps) w' fun e w''=>e=.returned (.int .u8 (D i))∧∃ m,w''=w'.drewN m
def pgl (xs ys:List Int) (D:Nat→Int):List Int:=(List.range xs.length).map fun k=>(((gb xs k).toNat &&& (255-((tc xs ys k).toNat &&& (D k).toNat)):Nat):Int)
theorem pgl_len (xs ys:List Int) (D:Nat→Int):(pgl xs ys D).length =xs.length:=by simp [pgl]
theorem pgl_gb (xs ys:List Int) (D:Nat→Int) (k:Nat) (h:k<xs.length):gb (pgl xs ys D) k=(((gb xs k).toNat &&& (255-((tc xs ys k).toNat &&& (D k).toNat)):Nat):Int):=by simp [gb,List.getD,pgl,h]
theorem pgl_all (xs ys:List Int) (D:Nat→Int) (hx:AllB xs):AllB (pgl xs ys D):=allB_mem fun z hz=>by
 obtain ⟨k,hk,rfl⟩:=List.mem_map.1 hz
 have:=hx k
 have h:(gb xs k).toNat &&& (255-((tc xs ys k).toNat &&& (D k).toNat))≤(gb xs k).toNat :=Nat.and_le_left
 omega
def prt (zs:List Int) (k:Nat):List Int:=zs.take k ++ List.replicate (zs.length-k) 0
theorem prt_zero (zs:List Int):prt zs 0=List.replicate zs.length 0:=by simp [prt]
theorem prt_end (zs:List Int):prt zs zs.length=zs:=by simp [prt]
theorem prt_set (zs:List Int) (k:Nat) (h:k<zs.length):(prt zs k).set k (gb zs k)=prt zs (k+1):=by
 unfold prt
 obtain ⟨d,hd⟩:∃ d,zs.length-k=d+1:=⟨zs.length-k-1,by omega⟩
 have e:zs.length-(k+1)=d:=by omega
 have hm:min k zs.length=k:=by omega
 rw [hd,e,List.set_append_right _ _ (by simp;omega),List.take_succ_eq_append_getElem h,List.append_assoc]
 simp only [List.length_take,hm,Nat.sub_self,List.replicate_succ,List.set_cons_zero,gb,List.getD,List.getElem?_eq_getElem h,Option.getD_some,List.cons_append,List.nil_append]
theorem prog_any (va vb vd:Value) (xs ys:List Int) (D:Nat→Int) (w:World) (ha:Byt w va xs) (hb:Byt w vb ys) (hl:xs.length=ys.length) (hmax:xs.length≤1048576) (hD:Tells w vd D xs.length):
  Calls Tryz.prog 159 #[va,vb,vd] w fun e w'=>∃ v,e=.returned v∧Byt w' v (pgl xs ys D)∧Below w.heap.size w w':=by
 obtain ⟨K,caps,rfl,hcf,hDb,hDc⟩:=hD
 have HA:=hdH (ha)
 have HB:=hdH (hb)
 obtain ⟨ao,ca,rfl,ha1,ha2,ha3, -,ha5⟩:=ha
 have HA5:=hdH (ha5)
 have HL:=hdH (hl)
 have HDB:Hid (∀ i,0≤D i∧D i≤255):=hDb
 have HDC:Hid (∀ w',Below w.heap.size w w'→∀ i,i<xs.length→Calls Tryz.prog K (#[.int .i64 i] ++ caps) w' fun e w''=>e=.returned (.int .u8 (D i))∧∃ m,w''=w'.drewN m):=hDc
 clear ha5 ha3 hb hl hDb hDc
 have HZ:Hid ((pgl xs ys D).length =xs.length):=pgl_len xs ys D
 go_enter Tryz.func159,Tryz.ntmps159
 go_wp2_with (at_make;refine make_law _ rfl (.tmp 10) (.tmp 10) rfl w.heap.size (Nat.le_refl _) _ xs.length rfl rfl rfl (by omega) ?_;intro w1 hown hbel hlt)
 go_loopw [14] (fun i wr=>∃ k:Nat,k≤xs.length∧i=.int .i64 k∧OwnN w.heap.size wr w.heap.size xs.length (prt (pgl xs ys D) k)∧Below w.heap.size w wr) (fun i _=>xs.length-(intOf i).toNat)
 case atStart=>exact ⟨0,Nat.zero_le _,rfl,by rw [prt_zero,HZ.out];exact hown,hbel⟩
 case round=>
  clear hown hbel
  obtain ⟨k,hk,rfl,hown,hbel⟩:=hrel
  by_cases hlt':k<xs.length
  ·obtain ⟨b,off,rfl,hca⟩:=HA5.out (by omega)
   have n1:=World.block_lt_of_cell? w _ (hca k hlt')
   have c1:wr.cell? ⟨b,off+k,none⟩=some (.int .u8 (gb xs k)):=(hbel.cell n1).trans (hca k hlt')
   have lk:(k:Int)<(xs.length:Int):=by omega
   have lk0:(0 :Int)≤(k:Int):=by omega
   have S1:Hid (∀ n,Calls Tryz.prog 167 #[.slice (some ⟨b,off,none⟩) xs.length ca,vb,.int .i64 k] (wr.drewN n) fun e w'=>e=.returned (.int .u8 (tc xs ys k))∧∃ m,w'=(wr.drewN n).drewN m):=fun n=>toClear_any _ _ xs ys k _ (byt_drawn (HA.out.below hbel) n) (byt_drawn (HB.out.below hbel) n) HL.out hlt'
   have S2:Hid (∀ n,Calls Tryz.prog K (#[.int .i64 k] ++ caps) (wr.drewN n) fun e w'=>e=.returned (.int .u8 (D k))∧∃ m,w'=(wr.drewN n).drewN m):=fun n=>HDC.out _ (below_drawn hbel n) k hlt'
   have HX:Hid (bits .andNot .u8 (gb xs k) (bits .and .u8 (tc xs ys k) (D k))=gb (pgl xs ys D) k):=by
    show _=_
    have b1:=HA.out.all k
    have b2:=tc_bd xs ys HA.out.all k
    have b3:=HDB.out k
    rw [pgl_gb xs ys D k hlt',u8_and _ _ b2.1 (by omega) b3.1 (by omega)]
    have h:(tc xs ys k).toNat &&& (D k).toNat ≤(tc xs ys k).toNat :=Nat.and_le_left
    rw [u8_andNot _ _ b1.1 (by omega) (by omega) (by omega),Int.toNat_natCast]
   have HO:Hid (OwnN w.heap.size wr w.heap.size xs.length (prt (pgl xs ys D) k)):=hown
   have HBL:Hid (Below w.heap.size w wr):=hbel
   clear hca hown hbel
   go_wp2
   refine wp_region_any (by kernel_rfl) ?_
   change wpAny _ _ _ _ _ _ _ (World.drew _)
   refine wpAny_quiet_then (C:=fun w'=>∃ n,w'=wr.drewN n) 0 16 1 _ (by kernel_rfl) rfl (by kernel_rfl) (by kernel_rfl) ⟨1,rfl⟩ ?_
   simp only [List.take_succ_cons,List.take_zero,List.drop_zero]
   repeat (quiet_step (first
    |with_reducible exact Calls.quiet_of (S1.out _)
    |with_reducible exact Calls.quiet_of (S2.out _)))
   refine wpQuiet_nil ?_
   rintro f _ ⟨nq,rfl⟩
   have O1:OwnN w.heap.size (wr.drewN nq) w.heap.size xs.length (prt (pgl xs ys D) k):=HO.out.drew nq
   have HS:=O1.set k (gb (pgl xs ys D) k)
   rw [prt_set _ k (by rw [HZ.out];exact hlt')] at HS
   have B2:Below w.heap.size w ((wr.drewN nq).setCell ⟨w.heap.size,k,none⟩ (.int .u8 (gb (pgl xs ys D) k))):=(below_drawn HBL.out nq).setCell (Nat.le_refl _) _
   refine wpAny_ready (rs:=[16]) (by kernel_rfl) (by simp) ?_
   refine AllReady.cons rfl (fun K hK=>?_) AllReady.nil
   refine step_set _ rfl none rfl (.tmp 32) (.tmp 31) 5 rfl .u8 (gb (pgl xs ys D) k) w.heap.size k rfl (by rw [←HX.out];rfl) (by rw [O1.cell hlt'];rfl) (O1.free k) i_u8 (hK _ _ ?_)
   simp only [Act.put]
   clear O1 c1
   generalize (wr.drewN nq).setCell ⟨w.heap.size,k,none⟩ (.int .u8 (gb (pgl xs ys D) k))=w6 at*
   refine wpAny_done (by kernel_rfl) ?_ _
   go_wp2
   go_roundw
   case rel=>exact ⟨k+1,by omega,by go_num,HS,B2⟩
   case measure=>simp [intOf];omega
  ·have hks:k=xs.length:=by omega
   subst hks
   have hown2:OwnN w.heap.size wr w.heap.size xs.length (pgl xs ys D):=by
    have:=hown;rw [←HZ.out,prt_end,HZ.out] at this;exact this
   go_wp2
   go_ret
   exact ⟨_,rfl,hown2.byt (pgl_all _ _ _ HA.out.all),hbel⟩
end Go.Proofs.YtmbgokmomkmgcaaGreatDoor.fa
namespace Go.Proofs.YtmbgokmomkmgcaaGreatDoor.fa
open Go.RowKit
set_option maxRecDepth 20000
def ln (x:Nat):Nat:=if x<1 then 0 else if x<2 then 1 else if x<4 then 2 else if x<8 then 3 else if x<16 then 4 else if x<32 then 5 else if x<64 then 6 else if x<128 then 7 else 8
theorem ln_top:∀ x,x<256→0<x→1≤ln x∧ln x≤8∧bit x (ln x-1)=true∧∀ t,t<8→ln x≤t→bit x t=false:=by decide+kernel
set_option maxRecDepth 20000 in
theorem len8_any (x:Nat) (w:World) (hx:x<256):
  Calls Tryz.prog 168 #[.int .u8 x] w fun e w'=>e=.returned (.int .i64 (ln x))∧w'=w:=by
 go_enter Tryz.func168,Tryz.ntmps168
 go_wp2
 go_ret
 refine ⟨ret_int ?_,rfl⟩
 clear w
 revert x
 decide+kernel
end Go.Proofs.YtmbgokmomkmgcaaGreatDoor.fa
namespace Go.Proofs.YtmbgokmomkmgcaaGreatDoor.fa
open Go.RowKit
set_option maxRecDepth 20000
theorem bit_not:∀ y,y<256→∀ t,t<8→bit (255-y) t= !bit y t:=by decide+kernel
theorem bit_and (a b t:Nat):bit (a &&& b) t=(bit a t && bit b t):=by rw [bit_test,bit_test,bit_test,Nat.testBit_and]
theorem bit_zero (t:Nat):bit 0 t=false:=by unfold bit;simp
theorem bit_pow:∀ k,k<8→∀ t,t<8→bit (2 ^ k) t=decide (t=k):=by decide+kernel
theorem tc_bit (xs ys:List Int) (hy:AllB ys) (j t:Nat) (ht:t<8):bit (tc xs ys j).toNat t=due xs ys (8*j+t):=by
 have b:=hy j
 unfold tc due
 rw [Int.toNat_natCast,bit_and,bit_not _ (by omega) t ht,hs_at xs j t ht,hs_at ys j t ht]
theorem lst_eq (xs ys:List Int) (N p:Nat) (hp:p<N) (hd:due xs ys p=true) (h:∀ k,p<k→k<N→due xs ys k=false):lst xs ys N=p+1:=by
 induction N with
 |zero=>omega
 |succ N ih=>
  unfold lst
  by_cases e:p=N
  ·subst e;rw [if_pos hd]
  ·rw [if_neg (by rw [h N (by omega) (by omega)];simp),ih (by omega) (fun k h1 h2=>h k h1 (by omega))]
theorem lst_none (xs ys:List Int) (N:Nat) (h:∀ k,k<N→due xs ys k=false):lst xs ys N=0:=by
 induction N with
 |zero=>rfl
 |succ N ih=>
  unfold lst
  rw [if_neg (by rw [h N (by omega)];simp),ih (fun k hk=>h k (by omega))]
def IsL (xs ys:List Int) (p z:Nat):Prop:=(p=0∧z=0∧lst xs ys (8*xs.length)=0)∨∃ t,t<8∧p<xs.length∧z=2 ^ t∧lst xs ys (8*xs.length)=8*p+t+1
theorem isL_some (xs ys:List Int) (hx:AllB xs) (hy:AllB ys) (p x:Nat) (hp:p<xs.length) (hx0:tc xs ys p=x) (h0:0<x) (h:∀ q,8*(p+1)≤q→q<8*xs.length→due xs ys q=false):IsL xs ys p (2 ^ (ln x-1)):=by
 have hb:=tc_bd xs ys hx p
 obtain ⟨l1,l2,l3,l4⟩:=ln_top x (by omega) h0
 have hbit:∀ t,t<8→due xs ys (8*p+t)=bit x t:=fun t ht=>by rw [←tc_bit xs ys hy p t ht,hx0,Int.toNat_natCast]
 refine Or.inr ⟨ln x-1,by omega,hp,rfl,lst_eq xs ys _ _ (by omega) (by rw [hbit _ (by omega)];exact l3) fun k h1 h2=>?_⟩
 by_cases hk:8*(p+1)≤k
 ·exact h k hk h2
 ·have e:k=8*p+(k-8*p):=by omega
  rw [e,hbit _ (by omega)]
  exact l4 _ (by omega) (by omega)
theorem due_byte (xs ys:List Int) (hy:AllB ys) (p:Nat) (h0:tc xs ys p=0) (q:Nat) (h1:8*p≤q) (h2:q<8*(p+1)):due xs ys q=false:=by
 have:=tc_bit xs ys hy p (q-8*p) (by omega)
 rw [h0,show (0 :Int).toNat =0 from rfl,bit_zero,show 8*p+(q-8*p)=q by omega] at this
 exact this.symm
theorem last_any (va vb:Value) (xs ys:List Int) (w:World) (ha:Byt w va xs) (hb:Byt w vb ys) (hl:xs.length=ys.length):
  Calls Tryz.prog 157 #[va,vb] w fun e w'=>∃ p z:Nat,e=.returned (.tuple #[.int .i64 p,.int .u8 z])∧IsL xs ys p z∧∃ n,w'=w.drewN n:=by
 have HX:Hid (AllB xs∧AllB ys):=⟨ha.all,hb.all⟩
 have S1:Hid (∀ n i,i<xs.length→Calls Tryz.prog 167 #[va,vb,.int .i64 i] (w.drewN n) fun e w'=>e=.returned (.int .u8 (tc xs ys i))∧∃ m,w'=(w.drewN n).drewN m):=fun n i hi=>toClear_any va vb xs ys i _ (byt_drawn ha n) (byt_drawn hb n) hl hi
 have S2:Hid (∀ (x:Nat) w0,x<256→Calls Tryz.prog 168 #[.int .u8 x] w0 fun e w'=>e=.returned (.int .i64 (ln x))∧w'=w0):=fun x w0 h=>len8_any x w0 h
 obtain ⟨ao,ca,rfl,ha1,ha2, -⟩:=ha
 clear hb hl
 go_enter Tryz.func157,Tryz.ntmps157
 go_wp2
 go_loopw [6] (fun i wr=>∃ k n:Nat,k≤xs.length∧i=.int .i64 ((k:Int)-1)∧Hid (∀ q,8*k≤q→q<8*xs.length→due xs ys q=false)∧wr=w.drewN n) (fun i _=>(intOf i+1).toNat)
 case atStart=>exact ⟨xs.length,0,Nat.le_refl _,by go_num,fun q h1 h2=>by omega,rfl⟩
 case round=>
  obtain ⟨k,n,hk,rfl,HK,rfl⟩:=hrel
  rcases Nat.eq_zero_or_pos k with h0 | hp
  ·subst h0
   go_wp2
   go_ret2
   exact ⟨0,0,rfl,Or.inl ⟨rfl,rfl,lst_none _ _ _ fun q hq=>HK.out q (by omega) hq⟩,n,rfl⟩
  ·obtain ⟨p,rfl⟩:∃ p,k=p+1:=⟨k-1,by omega⟩
   have e1:(((p+1 :Nat):Int)-1)=(p:Int):=by omega
   rw [e1]
   have tb:=tc_bd xs ys HX.out.1 p
   obtain ⟨x,hx⟩:∃ x:Nat,tc xs ys p=x:=⟨(tc xs ys p).toNat,by omega⟩
   have xb:x<256:=by omega
   have S3:Hid (Calls Tryz.prog 167 #[.slice ao xs.length ca,vb,.int .i64 p] (w.drewN n) fun e w'=>e=.returned (.int .u8 x)∧∃ m,w'=(w.drewN n).drewN m):=by rw [←hx];exact S1.out n p (by omega)
   have HXX:=hdH (hx)
   have p0:(0 :Int)≤(p:Int):=by omega
   have q1:IntKind.i64.wrap (p:Int)=p:=by rw [IntKind.wrap_i64];omega
   clear hx tb e1
   by_cases hz:x=0
   ·subst hz
    go_wp2_with (go_at_call 167;refine S3.out.mono ?_;rintro e w2 ⟨rfl,nn,hw⟩;obtain rfl:=hw.symm)
    go_roundw
    case rel=>exact ⟨p,n+nn,by omega,by go_num,fun q h1 h2=>if h:8*(p+1)≤q then HK.out q h h2 else due_byte xs ys HX.out.2 p HXX.out q h1 (by omega),rfl⟩
    case measure=>simp [intOf]
   ·have xn:((x:Int) != 0)=true:=by simpa using (show (x:Int)≠0 by omega)
    have S4:Hid (∀ w0,Calls Tryz.prog 168 #[.int .u8 x] w0 fun e w'=>e=.returned (.int .i64 (ln x))∧w'=w0):=fun w0=>S2.out x w0 xb
    obtain ⟨l1,l2, -, -⟩:=ln_top x xb (by omega)
    obtain ⟨t,ht⟩:∃ t,ln x=t+1:=⟨ln x-1,by omega⟩
    have HT:=hdH (ht)
    rw [ht] at S4
    have t7:t≤7:=by omega
    have r1:IntKind.i64.wrap (((t+1 :Nat):Int)-1)=t:=by rw [IntKind.wrap_i64];omega
    have t0:(0 :Int)≤(t:Int):=by omega
    have z2:2 ^ t≤128:=Nat.pow_le_pow_right (by omega) (show t≤7 by omega)
    clear ht l1 l2
    go_wp2_with (go_at_call 167;refine S3.out.mono ?_;rintro e w2 ⟨rfl,nn,hw⟩;obtain rfl:=hw.symm)
    obtain ⟨wz,hwz⟩:∃ wz,wz=w.drewN (n+nn):=⟨_,rfl⟩
    have HW:Hid (wz=w.drewN (n+nn)):=hwz
    rw [←hwz]
    clear hwz
    go_quiet ((go_at_call 168;exact Calls.quiet_of_same (S4.out _)))
    go_wp2
    go_ret2
    refine ⟨p,2 ^ t,?_,?_,n+nn+nq,?_⟩
    ·have e2:(2 :Int) ^ t%256=((2 ^ t:Nat):Int):=by
      rw [show (2 :Int) ^ t=((2 ^ t:Nat):Int) by simp]
      generalize 2 ^ t=q at*
      omega
     rw [e2]
     rfl
    ·have:=isL_some xs ys HX.out.1 HX.out.2 p x (by omega) HXX.out (by omega) HK.out
     rwa [HT.out,Nat.add_sub_cancel] at this
    ·rw [HW.out,World.drewN_drewN]
end Go.Proofs.YtmbgokmomkmgcaaGreatDoor.fa
namespace Go.Proofs.YtmbgokmomkmgcaaGreatDoor.he
open Go.RowKit Go.Proofs.YtmbgokmomkmgcaaGreatDoor.fa
set_option maxRecDepth 20000
section
variable {ops:Array Oper} {rest:List Oper} {o:Oper} {a:Act} {Q:Exit→Act→World→Prop}
end
theorem clone_any (w:World) (ad:Addr) (n cap:Nat) (xs:List Int) (h:Byt w (.slice (some ad) n cap) xs) (hl:xs.length≤1000000):
  Calls Tryz.prog 81 #[.slice (some ad) n cap] w fun e w'=>∃ v',e=.returned v'∧Own w.heap.size w' v' xs∧Below w.heap.size w w':=by
 have HV:Hid (Byt (w.alloc (.cells #[] 5)) (.slice (some ad) n cap) xs):=h.below ((Below.refl _ _).alloc (Nat.le_refl _) _)
 have HO:Hid (Own w.heap.size (w.alloc (.cells #[] 5)) (.slice (some ⟨w.heap.size,0,none⟩) 0 0) []):=Own.empty w (Nat.le_refl _)
 have B0:Below w.heap.size w (w.alloc (.cells #[] 5)):=(Below.refl _ _).alloc (Nat.le_refl _) _
 have z0:=B0.size
 have qn:∀ w:World,(binOp .eql 26 (.slice (some ad) n cap) (.slice none 0 0)).run Tryz.prog w=.ok (.bool false) w:=fun w=>Lib.run_eql_slice_nil w _ _ (some ad) n cap 0 0 Tryz.underlying26
 clear h
 go_enter Tryz.func81,Tryz.ntmps81
 go_wp2_with (refine pushs_law _ rfl (.tmp 5) (.tmp 6) rfl w.heap.size z0 _ _ [] xs rfl rfl HO.out HV.out (by simp;omega) ?_;intro v1 w1 O1 b1;rw [List.nil_append] at O1;have HO1:=hdH (O1);clear O1;have c1:Below w.heap.size w w1:=B0.trans b1)
 go_ret
 exact ⟨_,rfl,HO1.out,c1⟩
end Go.Proofs.YtmbgokmomkmgcaaGreatDoor.he
namespace Go.Proofs.YtmbgokmomkmgcaaGreatDoor
open Go.RowKit
set_option maxRecDepth 20000
theorem not_same {xs ys:List Int} {k:Nat} (h:gb xs k≠gb ys k):decide (xs=ys)=false:=by
 simp only [decide_eq_false_iff_not];intro e;exact h (by rw [e])
theorem same_any (w:World) (va vb:Value) (xs ys:List Int) (ha:Byt w va xs) (hb:Byt w vb ys):
  Calls Tryz.prog 125 #[va,vb] w fun e w'=>e=.returned (.bool (decide (xs=ys)))∧∃ n,w'=w.drewN n:=by
 obtain ⟨ao,ca,rfl,ha1,ha2,ha3, -,ha5⟩:=ha
 obtain ⟨bo,cb,rfl,hb1,hb2,hb3, -,hb5⟩:=hb
 by_cases hl:xs.length=ys.length
 ·have HL:=hdH (hl)
  have HB5:Hid (0<xs.length→∃ b off,bo=some ⟨b,off,none⟩∧∀ t,t<xs.length→w.cell? ⟨b,off+t,none⟩=some (.int .u8 (gb ys t))):=by
   rw [hl];exact hb5
  have HA5:=hdH (ha5)
  clear hb5 ha5
  rw [←hl] at hb1 ⊢
  clear hl
  have hm:xs.length≤9223372036854775807:=by omega
  go_enter Tryz.func125,Tryz.ntmps125
  go_wp2
  go_loopw [5] (fun i wr=>∃ k n:Nat,k≤xs.length∧i=.int .i64 k∧wr=w.drewN n∧Hid (∀ t,t<k→gb xs t=gb ys t)) (fun i _=>xs.length-(intOf i).toNat)
  case atStart=>exact ⟨0,0,Nat.zero_le _,rfl,rfl,fun t ht=>by omega⟩
  case round=>
   obtain ⟨k,n,hk,rfl,rfl,heq⟩:=hrel
   by_cases hlt:k<xs.length
   ·obtain ⟨b,off,rfl,hca⟩:=HA5.out (by omega)
    obtain ⟨b',off',rfl,hcb⟩:=HB5.out (by omega)
    have c1:w.cell? ⟨b,off+k,none⟩=some (.int .u8 (gb xs k)):=hca k hlt
    have c2:w.cell? ⟨b',off'+k,none⟩=some (.int .u8 (gb ys k)):=hcb k hlt
    have lk:(k:Int)<(xs.length:Int):=by omega
    clear hca hcb
    go_wp2
    go_quiet (fail)
    go_wp2
    ·have hne:(gb xs k != gb ys k)=true:=by assumption
     go_ret
     refine ⟨?_,n+nq,World.drewN_drewN ..⟩
     have:decide (xs=ys)=false:=not_same (by simpa using hne)
     rw [this];rfl
    ·have hne:(gb xs k != gb ys k)=false:=by assumption
     go_roundw
     case rel=>exact ⟨k+1,n+nq,by omega,by go_num,rfl,fun t ht=>if h:t<k then heq.out t h else by
      have:t=k:=by omega
      subst this;simpa using hne⟩
     case measure=>simp [intOf];omega
   ·go_wp2
    go_ret
    refine ⟨?_,n,rfl⟩
    have:decide (xs=ys)=true:=decide_eq_true (ext_gb HL.out fun t ht=>heq.out t (by omega))
    rw [this];rfl
 ·have:decide (xs=ys)=false:=by simp only [decide_eq_false_iff_not];intro e;exact hl (by rw [e])
  rw [this]
  go_enter Tryz.func125,Tryz.ntmps125
  go_wp2
  go_ret
  exact ⟨rfl,0,rfl⟩
end Go.Proofs.YtmbgokmomkmgcaaGreatDoor
namespace Go.Proofs.YtmbgokmomkmgcaaGreatDoor
open Go.ChangeShapes Go.WideShapes Go.ChangeAt Go.RowKit
set_option maxRecDepth 20000
theorem laidOut:laidOutB Tryz.prog=true:=by kernel_rfl
theorem trodAll_below {H:Type} {enc:TypeId × Value→H} {W W':World} (hb:Below W.heap.size W W'):
  ∀ (ts:List TypeId) (vs:List Value) (ds:List (DataW H)) (ps:List MemPlace),(∀ t ∈ ts,Tryz.prog.readableRec t=true∧t<Tryz.prog.types.size)→(∀ x ∈ ps,x.block<W.heap.size)→
   DataW.TrodAll enc Tryz.prog W 0 (fun _=>true) true ts vs ds ps→DataW.TrodAll enc Tryz.prog W' 0 (fun b=>decide (b<W.heap.size)) true ts vs ds ps
 |[],[],[],_,_,_,h=>h
 |t :: ts,v :: vs,d :: ds,ps,ht,hp,h=>by
  obtain ⟨p,q,h1,h2,rfl⟩:=h
  have t1:=ht t (by simp)
  exact ⟨p,q,Below.trod laidOut t1.1 t1.2 h1 hb (fun x hx=>hp x (by simp [hx])),trodAll_below hb ts vs ds q (fun t h=>ht t (by simp [h])) (fun x hx=>hp x (by simp [hx])) h2,rfl⟩
theorem post_law {H:Type} {enc:TypeId × Value→H} {s:ChangeSpec} {f:Func} {W W':World} {args:Array Value} {ds gs:List (DataW H)} {before:List MemPlace}
  (hv:s.vars= []) (hr:f.resultTypes=#[4]) (hts:∀ t ∈ f.params.toList,Tryz.prog.readableRec t=true∧t<Tryz.prog.types.size)
  (hres:(s.fn H (ds ++ gs)).results = [.lit (.bool true)]) (hargs:(s.fn H (ds ++ gs)).args =ds) (hvars:(s.fn H (ds ++ gs)).vars = [])
  (hW:DataW.Whole enc Tryz.prog f.params.toList s.vars false W args.toList ds gs before) (hb:Below W.heap.size W W'):
  s.post enc Tryz.prog f false true false false W args (.bool true) W':=by
 have hW':=hW
 have hlt:=hW.lt
 obtain ⟨p,q,hA,hV,hpq,hfz,hnd⟩:=hW
 refine ⟨ds,gs,before,[],p,[],hW',?_,?_,?_,hb.frame _,fun h=>by cases h⟩
 ·rw [hres,hr]
  exact trodAll_mk1 (shut_bool Tryz.underlying4 _)
 ·rw [hargs]
  exact trodAll_below hb _ _ _ _ hts (fun x hx=>by simpa using hlt x (by rw [hpq];simp [hx])) hA
 ·rw [hvars,hv];rfl
end Go.Proofs.YtmbgokmomkmgcaaGreatDoor
namespace Go.Proofs.YtmbgokmomkmgcaaGreatDoor.ge
open Go.RowKit
set_option maxRecDepth 20000
def qt (u s:Nat):Nat:=(s+u-1)/u+2
theorem qt_le (u s k:Nat) (hu:0<u):qt u s≤k+2↔s≤k*u:=by
 unfold qt
 constructor
 ·intro h
  have h1:(s+u-1)/u≤k:=by omega
  have h2:s+u-1<(k+1)*u:=by
   rcases Nat.lt_or_ge (s+u-1) ((k+1)*u) with h | h
   ·exact h
   ·have:=(Nat.le_div_iff_mul_le hu).2 h
    omega
  rw [Nat.add_mul] at h2
  omega
 ·intro h
  have h2:(s+u-1)/u<k+1:=by
   rw [Nat.div_lt_iff_lt_mul hu,Nat.add_mul]
   omega
  omega
theorem qt_two (u s:Nat):2≤qt u s:=Nat.le_add_left 2 _
theorem qt_count (u s n:Nat) (hu:0<u) (h1:s≤n*u) (h2:∀ m,m<n→m*u<s):qt u s=n+2:=by
 have a:=(qt_le u s n hu).2 h1
 rcases Nat.lt_or_ge (qt u s) (n+2) with h | h
 ·have h3:=qt_two u s
  have:=(qt_le u s (qt u s-2) hu).1 (by omega)
  have:=h2 (qt u s-2) (by omega)
  omega
 ·omega
end Go.Proofs.YtmbgokmomkmgcaaGreatDoor.ge
namespace Go.Proofs.YtmbgokmomkmgcaaGreatDoor.ge
open Go.RowKit
set_option maxRecDepth 20000
def Kept (g:List Int):Prop:=(7≤gb g 0∧gb g 0≤64)∧(4≤gb g 1∧gb g 1≤32)∧(32≤gb g 2∧gb g 2≤4096)∧(0≤gb g 3∧gb g 3≤8)∧(1≤gb g 4∧gb g 4≤1000)∧(1≤gb g 5∧gb g 5≤1000)
def rec (g:List Int):Int:=(624+gb g 2-1)/gb g 2
def Rt (g:List Int):Prop:=Kept g∧gb g 2%16=0∧rec g≤gb g 1∧gb g 3+3≤gb g 0-4
theorem und_geo:∃ d,Tryz.prog.underlying 23=some d∧d.isRow=true:=⟨_,Tryz.underlying23,rfl⟩
theorem size_geo:(Tryz.prog.info? 23).map (·.size)=some 6:=by kernel_rfl
theorem load_geo {w:World} {b:Nat} {g:List Int} (h:Ar w b 0 .i64 g) (hl:g.length=6):(Instr.loadAt 23 (.pointer (some ⟨b,0,none⟩))).run Tryz.prog w=.ok (.agg (ints .i64 g)) w:=by
 obtain ⟨d,hu,hd⟩:=und_geo
 have:=run_loadVar_mid (P:=Tryz.prog) w b 0 23 _ _ h.1 hu hd (by rw [size_geo];simp [hl])
 simp only [Instr.loadAt,Instr.sureAddr,Sem.run_bind,Sem.run_pure,Result.andThen_ok,this]
 rfl
section
variable {ops:Array Oper} {rest:List Oper} {a:Act} {Q:Exit→Act→World→Prop}
theorem load_lawS {d:Option Tmp} {t:TypeId} {x:Operand} {ty:TypeId} {pos:String} {af:Array Edge} {gd:Option (Nat × Bool)} (w:World) (hw:Region.wanted ⟨d,Op.load t x,ty,pos,af,gd⟩ (yielded ops a.tmps)=true) (p v:Value) (hx:a.eval x=p) (h:(Instr.loadAt t p).run Tryz.prog w=.ok v w)
  (hK:wpList Tryz.prog ops Q rest (a.put d v) w):wpList Tryz.prog ops Q (⟨d,Op.load t x,ty,pos,af,gd⟩ :: rest) a w:=by
 refine wpList_step fun K hK'=>?_
 rw [if_pos hw]
 unfold Oper.wp execOp
 simp only [hx,Sem.run_bind,Result.andThen_ok,h]
 exact hK' _ _ hK
end
theorem geo_cells {w:World} {b:Nat} {g:List Int} (h:Ar w b 0 .i64 g) (hl:g.length=6):
  w.cell? ⟨b,0,none⟩=some (.int .i64 (gb g 0))∧w.cell? ⟨b,1,none⟩=some (.int .i64 (gb g 1))∧w.cell? ⟨b,2,none⟩=some (.int .i64 (gb g 2))∧w.cell? ⟨b,3,none⟩=some (.int .i64 (gb g 3))∧
  w.cell? ⟨b,4,none⟩=some (.int .i64 (gb g 4))∧w.cell? ⟨b,5,none⟩=some (.int .i64 (gb g 5)):=
 ⟨h.cell0 0 (by omega),h.cell0 1 (by omega),h.cell0 2 (by omega),h.cell0 3 (by omega),h.cell0 4 (by omega),h.cell0 5 (by omega)⟩
theorem parts_any (n e:Int) (w:World) (hn:1≤n∧n≤65535) (he:1≤e∧e≤65535):
  Calls Tryz.prog 101 #[.int .i64 n,.int .i64 e] w fun x w'=>x=.returned (.int .i64 ((n+e-1)/e))∧w'=w:=by
 have h0:0≤(n+e-1)/e:=Int.ediv_nonneg (by omega) (by omega)
 have h1:(n+e-1)/e≤n+e-1:=Int.ediv_le_self _ (by omega)
 have q1:(n+e-1).tdiv e=(n+e-1)/e:=Int.tdiv_eq_ediv_of_nonneg (by omega)
 generalize (n+e-1)/e=z at*
 have q2:IntKind.i64.wrap (n+e)=n+e:=by rw [IntKind.wrap_i64];omega
 have q3:IntKind.i64.wrap (n+e-1)=n+e-1:=by rw [IntKind.wrap_i64];omega
 have q4:IntKind.i64.wrap z=z:=by rw [IntKind.wrap_i64];omega
 have q5:e≠0:=by omega
 go_enter Tryz.func101,Tryz.ntmps101
 go_wp2
 go_ret
 exact ⟨rfl,rfl⟩
theorem in_yes (n a b:Int) (w:World) (hn:a≤n∧n≤b):
  Calls Tryz.prog 45 #[.int .i64 n,.int .i64 a,.int .i64 b] w fun x w'=>x=.returned (.bool true)∧w'=w:=by
 obtain ⟨h1,h2⟩:=hn
 go_enter Tryz.func45,Tryz.ntmps45
 go_wp2
 go_ret
 exact ⟨rfl,rfl⟩
theorem in_no (n a b:Int) (w:World) (hn:¬(a≤n∧n≤b)):
  Calls Tryz.prog 45 #[.int .i64 n,.int .i64 a,.int .i64 b] w fun x w'=>x=.returned (.bool false)∧w'=w:=by
 by_cases h1:a≤n
 ·have h2:¬n≤b:=fun h=>hn ⟨h1,h⟩
  clear hn
  go_enter Tryz.func45,Tryz.ntmps45
  go_wp2
  go_ret
  exact ⟨rfl,rfl⟩
 ·clear hn
  go_enter Tryz.func45,Tryz.ntmps45
  go_wp2
  go_ret
  exact ⟨rfl,rfl⟩
theorem db_any (g:List Int) (w:World) (hl:g.length=6) (hk:Kept g):
  Calls Tryz.prog 60 #[.agg (ints .i64 g)] w fun x w'=>x=.returned (.int .i64 (gb g 0-4))∧Below w.heap.size w w':=by
 have q1:IntKind.i64.wrap (gb g 0-4)=gb g 0-4:=by obtain ⟨h, -⟩:=hk;rw [IntKind.wrap_i64];omega
 clear hk
 generalize hq:gb g 0-4=z at*
 go_enter Tryz.func60,Tryz.ntmps60
 go_wp2_with (refine box_lawF _ rfl (.tmp 0) 23 rfl .i64 g rfl ?_;intro w1 X1 B1 L1;obtain ⟨f0,f1,f2,f3,f4,f5⟩:=geo_cells X1 hl)
 go_ret
 exact ⟨rfl,B1⟩
theorem rec_any (g:List Int) (w:World) (hl:g.length=6) (hk:Kept g):
  Calls Tryz.prog 59 #[.agg (ints .i64 g)] w fun x w'=>x=.returned (.int .i64 (rec g))∧Below w.heap.size w w':=by
 have S:Hid (∀ w,Calls Tryz.prog 101 #[.int .i64 624,.int .i64 (gb g 2)] w fun x w'=>x=.returned (.int .i64 (rec g))∧w'=w):=fun w=>parts_any 624 (gb g 2) w (by omega) (by obtain ⟨-, -,h, -⟩:=hk;omega)
 clear hk
 generalize rec g=z at*
 go_enter Tryz.func59,Tryz.ntmps59
 go_wp2_with (first
  |(go_at_call 101;refine (S.out _).mono ?_;rintro e wx ⟨rfl,hw⟩;obtain rfl:=hw.symm)
  |(refine box_lawF _ rfl (.tmp 0) 23 rfl .i64 g rfl ?_;intro w1 X1 B1 L1;obtain ⟨f0,f1,f2,f3,f4,f5⟩:=geo_cells X1 hl))
 go_ret
 exact ⟨rfl,B1⟩
end Go.Proofs.YtmbgokmomkmgcaaGreatDoor.ge
namespace Go.Proofs.YtmbgokmomkmgcaaGreatDoor.ge
open Go.RowKit
set_option maxRecDepth 20000
def spl (g:List Int):List Int:=[gb g 0,7,64,gb g 1,4,32,gb g 2,32,4096,gb g 3,0,8,gb g 4,1,1000,gb g 5,1,1000]
def kp (g:List Int) (i:Nat):Bool:=decide (gb (spl g) (i*3+1)≤gb (spl g) (i*3)) && decide (gb (spl g) (i*3)≤gb (spl g) (i*3+2))
theorem kept_iff (g:List Int):Kept g↔∀ i,i<6→kp g i=true:=by
 constructor
 ·rintro ⟨h0,h1,h2,h3,h4,h5⟩ i hi
  have:i=0∨i=1∨i=2∨i=3∨i=4∨i=5:=by omega
  rcases this with rfl | rfl | rfl | rfl | rfl | rfl
  ·exact Bool.and_eq_true_iff.2 ⟨decide_eq_true h0.1,decide_eq_true h0.2⟩
  ·exact Bool.and_eq_true_iff.2 ⟨decide_eq_true h1.1,decide_eq_true h1.2⟩
  ·exact Bool.and_eq_true_iff.2 ⟨decide_eq_true h2.1,decide_eq_true h2.2⟩
  ·exact Bool.and_eq_true_iff.2 ⟨decide_eq_true h3.1,decide_eq_true h3.2⟩
  ·exact Bool.and_eq_true_iff.2 ⟨decide_eq_true h4.1,decide_eq_true h4.2⟩
  ·exact Bool.and_eq_true_iff.2 ⟨decide_eq_true h5.1,decide_eq_true h5.2⟩
 ·intro h
  have f:∀ i,i<6→gb (spl g) (i*3+1)≤gb (spl g) (i*3)∧gb (spl g) (i*3)≤gb (spl g) (i*3+2):=fun i hi=>by
   have:=Bool.and_eq_true_iff.1 (h i hi)
   exact ⟨of_decide_eq_true this.1,of_decide_eq_true this.2⟩
  exact ⟨f 0 (by omega),f 1 (by omega),f 2 (by omega),f 3 (by omega),f 4 (by omega),f 5 (by omega)⟩
theorem kept1_any (i b:Nat) (L:List Int) (w:World) (hA:Ar w b 0 .i64 L) (hl:L.length=18) (hi:i<6) (t:Bool) (ht:t=(decide (gb L (i*3+1)≤gb L (i*3)) && decide (gb L (i*3)≤gb L (i*3+2)))):
  Calls Tryz.prog 100 #[.int .i64 i,.pointer (some ⟨b,0,none⟩)] w fun e w'=>e=.returned (.bool t)∧∃ n,w'=w.drewN n:=by
 have c0:=hA.cell0 (i*3) (by omega)
 have c1:=hA.cell0 (i*3+1) (by omega)
 have c2:=hA.cell0 (i*3+2) (by omega)
 have i0:(0 :Int)≤(i:Int):=by omega
 have i1:(i:Int)<6:=by omega
 have q1:IntKind.i64.wrap (i:Int)=i:=by rw [IntKind.wrap_i64];omega
 clear hA hl hi
 generalize gb L (i*3)=x0 at*
 generalize gb L (i*3+1)=x1 at*
 generalize gb L (i*3+2)=x2 at*
 by_cases h:x1≤x0
 ·have hd:decide (x1≤x0)=true:=decide_eq_true h
  rw [hd,Bool.true_and] at ht
  subst ht
  clear h
  go_enter Tryz.func100,Tryz.ntmps100
  go_wp2
  go_quiet (fail)
  go_wp2
  go_ret
  exact ⟨rfl,_,rfl⟩
 ·have hd:decide (x1≤x0)=false:=decide_eq_false h
  rw [hd,Bool.false_and] at ht
  subst ht
  clear h
  go_enter Tryz.func100,Tryz.ntmps100
  go_wp2
  go_quiet (fail)
  go_wp2
  go_ret
  exact ⟨rfl,_,rfl⟩
theorem zero_spans:(Tryz.prog.info? 204).map (fun i=>(i.zero,i.size))=some (some (.agg (ints .i64 (List.replicate 18 0))),(List.replicate 18 (0 :Int)).length):=by kernel_rfl
theorem size_spans:(Tryz.prog.info? 204).map (·.size)=some 18:=by kernel_rfl
theorem kp_more {g:List Int} {k:Nat} (h:∀ j,j<k→kp g j=true) (h':kp g k=true):∀ j,j<k+1→kp g j=true:=fun j hj=>by
 by_cases e:j<k
 ·exact h j e
 ·have:j=k:=by omega
  subst this;exact h'
theorem kept_any (g:List Int) (w:World) (hl:g.length=6) (t:Bool) (ht:t=true↔Kept g):
  Calls Tryz.prog 58 #[.agg (ints .i64 g)] w fun x w'=>x=.returned (.bool t)∧Below w.heap.size w w':=by
 have HT:Hid (t=true↔∀ i,i<6→kp g i=true):=ht.trans (kept_iff g)
 have S:Hid (∀ (i b:Nat) (w:World),Ar w b 0 .i64 (spl g)→i<6→Calls Tryz.prog 100 #[.int .i64 i,.pointer (some ⟨b,0,none⟩)] w fun e w'=>e=.returned (.bool (kp g i))∧∃ n,w'=w.drewN n):=fun i b w hA hi=>kept1_any i b (spl g) w hA rfl hi _ rfl
 have hmf:∀ (fn:Fn) (first cap:Array Value) (w:World),(Instr.makeFunc fn first cap).run Tryz.prog w=.ok (.func fn first cap) w:=fun _ _ _ _=>rfl
 clear ht
 go_enter Tryz.func58,Tryz.ntmps58
 go_wp2_with (first
  |(refine store_lawF _ rfl (.tmp 3) (.tmp 24) 204 rfl .i64 (List.replicate 18 0) (spl g) _ rfl rfl X2 18 size_spans rfl rfl ?_;intro w3 X3 B3)
  |(refine new_lawF _ rfl 204 rfl .i64 (List.replicate 18 0) zero_spans ?_;intro w2 X2 B2 L2)
  |(refine box_lawF _ rfl (.tmp 0) 23 rfl .i64 g rfl ?_;intro w1 X1 B1 L1;obtain ⟨f0,f1,f2,f3,f4,f5⟩:=geo_cells X1 hl))
 have HB:Hid (Below w.heap.size w w3):=B1.trans ((B2.trans B3).mono (by omega))
 generalize hq:w1.heap.size=c at*
 have hcw:w.heap.size≤c:=by omega
 clear X1 X2 B1 B2 B3 L1 L2 f0 f1 f2 f3 f4 f5 hq
 go_loopw [26] (fun i wr=>∃ k:Nat,k≤6∧i=.int .i64 k∧Hid (∀ j,j<k→kp g j=true)∧Hid (Ar wr c 0 .i64 (spl g))∧Hid (Below w.heap.size w wr)) (fun i _=>6-(intOf i).toNat)
 case atStart=>exact ⟨0,Nat.zero_le _,rfl,(fun j hj=>by omega),X3,HB⟩
 case round=>
  obtain ⟨k,hk,rfl,HK,HX,HW⟩:=hrel
  obtain ⟨wa,rfl⟩:∃ wx,wx=wr:=⟨_,rfl⟩
  have k0:(0 :Int)≤(k:Int):=by omega
  have q1:IntKind.i64.wrap (k:Int)=k:=by rw [IntKind.wrap_i64];omega
  by_cases hlt:k<6
  ·have k1:(k:Int)<6:=by omega
   by_cases hp:kp g k=true
   ·have S1:Hid (Calls Tryz.prog 100 #[.int .i64 k,.pointer (some ⟨c,0,none⟩)] wa fun e w'=>e=.returned (.bool true)∧∃ n,w'=wa.drewN n):=by
     have:=S.out k c wa HX.out hlt
     rwa [hp] at this
    have HP:Hid (kp g k=true):=hp
    clear hp
    go_wp2_with (go_at_call 100;refine S1.out.mono ?_;rintro e wx ⟨rfl,n,hw⟩;obtain rfl:=hw.symm)
    go_roundw
    case rel=>exact ⟨k+1,by omega,by go_num,kp_more HK.out HP.out,HX.out.drewN n,below_drewN HW.out n⟩
    case measure=>simp [intOf];omega
   ·have S1:Hid (Calls Tryz.prog 100 #[.int .i64 k,.pointer (some ⟨c,0,none⟩)] wa fun e w'=>e=.returned (.bool false)∧∃ n,w'=wa.drewN n):=by
     have:=S.out k c wa HX.out hlt
     rwa [Bool.eq_false_iff.2 hp] at this
    have ht:t=false:=Bool.eq_false_iff.2 fun h=>hp (HT.out.1 h k hlt)
    subst ht
    clear hp
    go_wp2_with (go_at_call 100;refine S1.out.mono ?_;rintro e wx ⟨rfl,n,hw⟩;obtain rfl:=hw.symm)
    go_ret
    exact ⟨rfl,below_drewN HW.out n⟩
  ·have hk6:k=6:=by omega
   subst hk6
   have ht:t=true:=HT.out.2 HK.out
   subst ht
   go_wp2
   go_ret
   exact ⟨rfl,HW.out⟩
end Go.Proofs.YtmbgokmomkmgcaaGreatDoor.ge
namespace Go.Proofs.YtmbgokmomkmgcaaGreatDoor.ge
open Go.RowKit
set_option maxRecDepth 20000
section
variable {ops:Array Oper} {C:World→Prop} {K:Act→Prop} {o:Oper} {a:Act}
theorem q_skip (hw:Region.wanted o (yielded ops a.tmps)=false) (d:Option Tmp) (hd:o.dst=d) (hK:K (a.put d undef)):
  if Region.wanted o (yielded ops a.tmps)=true then o.quiet Tryz.prog a C K else K (a.put o.dst undef):=by
 rw [if_neg (by rw [hw];simp)]
 subst hd
 exact hK
theorem q_loadS (hw:Region.wanted o (yielded ops a.tmps)=true) (d:Option Tmp) (hd:o.dst=d) (x:Operand) (t:TypeId) (hop:o.op=Op.load t x) (p v:Value) (hx:a.eval x=p) (h:∀ w,C w→(Instr.loadAt t p).run Tryz.prog w=.ok v w) (hK:K (a.put d v)):
  if Region.wanted o (yielded ops a.tmps)=true then o.quiet Tryz.prog a C K else K (a.put o.dst undef):=by
 refine q_val hw d hd _ (fun w hC=>?_) hK
 unfold execOp
 simp only [hop,hx,Sem.run_bind,Result.andThen_ok,h w hC]
 rfl
end
theorem Hid.mk' {p:Prop} (h:p):Hid p:=h
theorem geo_class {w1:World} {c:Nat} {g:List Int} (h:Ar w1 c 0 .i64 g) (hl:g.length=6):∀ w',Below w1.heap.size w1 w'→
  w'.cell? ⟨c,0,none⟩=some (.int .i64 (gb g 0))∧w'.cell? ⟨c,1,none⟩=some (.int .i64 (gb g 1))∧w'.cell? ⟨c,2,none⟩=some (.int .i64 (gb g 2))∧w'.cell? ⟨c,3,none⟩=some (.int .i64 (gb g 3))∧
  w'.cell? ⟨c,4,none⟩=some (.int .i64 (gb g 4))∧w'.cell? ⟨c,5,none⟩=some (.int .i64 (gb g 5))∧(Instr.loadAt 23 (.pointer (some ⟨c,0,none⟩))).run Tryz.prog w'=.ok (.agg (ints .i64 g)) w':=
 fun _ hb=>by
  have a:=h.below hb (h.lt (by omega))
  obtain ⟨f0,f1,f2,f3,f4,f5⟩:=geo_cells a hl
  exact ⟨f0,f1,f2,f3,f4,f5,load_geo a hl⟩
theorem call_class {f:FuncId} {vs:Array Value} {v:Value} (h:∀ w,Calls Tryz.prog f vs w fun e w'=>e=.returned v∧Below w.heap.size w w') (w1:World):∀ w',Below w1.heap.size w1 w'→Calls Tryz.prog f vs w' fun e w''=>e=.returned v∧Below w1.heap.size w1 w'':=
 fun w' hb=>(h w').mono fun _ _ h'=>⟨h'.1,hb.trans (h'.2.mono hb.size)⟩
theorem check_k (g:List Int) (w:World) (hl:g.length=6) (hk:¬Kept g):
  Calls Tryz.prog 24 #[.agg (ints .i64 g)] w fun x w'=>x=.returned (.int .i64 2)∧Below w.heap.size w w':=by
 have S:Hid (∀ w,Calls Tryz.prog 58 #[.agg (ints .i64 g)] w fun x w'=>x=.returned (.bool false)∧Below w.heap.size w w'):=fun w=>kept_any g w hl false (iff_of_false Bool.false_ne_true hk)
 have t0:=tR
 clear hk
 go_enter Tryz.func24,Tryz.ntmps24
 go_wp2_with (first
  |(go_at_call 58;refine (S.out _).mono ?_;rintro e w2 ⟨rfl,B2⟩;have HX:=hdH (HX.out.below B2 (by omega));obtain ⟨e0,e1,e2,e3,e4,e5⟩:=geo_cells HX.out hl)
  |(have q1:=HX;refine load_lawS _ (by rfl) _ _ rfl (load_geo HX.out hl) ?_)
  |(have q0:=t0;refine box_lawF _ rfl (.tmp 0) 23 rfl .i64 g rfl ?_;intro w1 X1 B1 L1;have HX:=hdH (X1);obtain ⟨f0,f1,f2,f3,f4,f5⟩:=geo_cells X1 hl;clear X1 t0))
 go_ret
 exact ⟨rfl,B1.trans (B2.mono (by omega))⟩
theorem check_m (g:List Int) (w:World) (hl:g.length=6) (hk:Kept g) (h16:gb g 2%16≠0):
  Calls Tryz.prog 24 #[.agg (ints .i64 g)] w fun x w'=>x=.returned (.int .i64 2)∧Below w.heap.size w w':=by
 have S:Hid (∀ w,Calls Tryz.prog 58 #[.agg (ints .i64 g)] w fun x w'=>x=.returned (.bool true)∧Below w.heap.size w w'):=fun w=>kept_any g w hl true (iff_of_true rfl hk)
 obtain ⟨m,hm⟩:∃ m,m=gb g 2%16:=⟨_,rfl⟩
 have q1:(gb g 2).tmod 16=m:=by rw [hm];exact Int.tmod_eq_emod_of_nonneg (by obtain ⟨-, -,h, -⟩:=hk;omega)
 have m0:m≠0:=by omega
 have m1:IntKind.i64.wrap m=m:=by rw [IntKind.wrap_i64];omega
 have t0:=tR
 clear hk h16 hm
 go_enter Tryz.func24,Tryz.ntmps24
 go_wp2_with (first
  |(go_at_call 58;refine (S.out _).mono ?_;rintro e w2 ⟨rfl,B2⟩;have HX:=hdH (HX.out.below B2 (by omega));obtain ⟨e0,e1,e2,e3,e4,e5⟩:=geo_cells HX.out hl)
  |(have q1:=HX;refine load_lawS _ (by rfl) _ _ rfl (load_geo HX.out hl) ?_)
  |(have q0:=t0;refine box_lawF _ rfl (.tmp 0) 23 rfl .i64 g rfl ?_;intro w1 X1 B1 L1;have HX:=hdH (X1);obtain ⟨f0,f1,f2,f3,f4,f5⟩:=geo_cells X1 hl;clear X1 t0))
 go_ret
 exact ⟨rfl,B1.trans (B2.mono (by omega))⟩
set_option linter.unusedVariables false in
theorem check_r_m:
  (∀ (g:List Int) (w:World) (hl:g.length=6) (hk:Kept g) (h16:gb g 2%16=0) (hr:gb g 1<rec g),Calls Tryz.prog 24 #[.agg (ints .i64 g)] w fun x w'=>x=.returned (.int .i64 2)∧Below w.heap.size w w')∧
  (∀ (g:List Int) (w:World) (hl:g.length=6) (hk:Kept g) (h16:gb g 2%16=0) (hr:rec g≤gb g 1) (hs:gb g 0-4<gb g 3+3),Calls Tryz.prog 24 #[.agg (ints .i64 g)] w fun x w'=>x=.returned (.int .i64 2)∧Below w.heap.size w w')∧
  (∀ (g:List Int) (w:World) (hl:g.length=6) (hk:Kept g) (h16:gb g 2%16=0) (hr:rec g≤gb g 1) (hs:gb g 3+3≤gb g 0-4),Calls Tryz.prog 24 #[.agg (ints .i64 g)] w fun x w'=>x=.returned (.int .i64 0)∧Below w.heap.size w w'):=by
 refine ⟨?c0,?c1,?c2⟩
 case' c0=>intro g w hl hk h16 hr;have mA:=tR
 case' c1=>intro g w hl hk h16 hr hs;have mB:=tR
 case' c2=>intro g w hl hk h16 hr hs;have mC:=tR
 all_goals
  have S:Hid (∀ w,Calls Tryz.prog 58 #[.agg (ints .i64 g)] w fun x w'=>x=.returned (.bool true)∧Below w.heap.size w w'):=fun w=>kept_any g w hl true (iff_of_true rfl hk)
  obtain ⟨m,hm⟩:∃ m,m=gb g 2%16:=⟨_,rfl⟩
  have q1:(gb g 2).tmod 16=m:=by rw [hm];exact Int.tmod_eq_emod_of_nonneg (by obtain ⟨-, -,h, -⟩:=hk;omega)
  have m0:m=0:=by omega
  subst m0
  have SR':Hid (∀ w,Calls Tryz.prog 59 #[.agg (ints .i64 g)] w fun x w'=>x=.returned (.int .i64 (rec g))∧Below w.heap.size w w'):=fun w=>rec_any g w hl hk
  have SD':Hid (∀ w,Calls Tryz.prog 60 #[.agg (ints .i64 g)] w fun x w'=>x=.returned (.int .i64 (gb g 0-4))∧Below w.heap.size w w'):=fun w=>db_any g w hl hk
  have q2:IntKind.i64.wrap (gb g 3+3)=gb g 3+3:=by obtain ⟨-, -, -,h, -⟩:=hk;rw [IntKind.wrap_i64];omega
  have t0:=tR
  clear hk h16 hm
  generalize rec g=z at*
  generalize gb g 0-4=y at*
  go_enter Tryz.func24,Tryz.ntmps24
  go_wp2_with (first
   |(go_at_call 58;refine (S.out _).mono ?_;rintro e w2 ⟨rfl,B2⟩;have HX:=hdH (HX.out.below B2 (by omega));obtain ⟨e0,e1,e2,e3,e4,e5⟩:=geo_cells HX.out hl)
   |(have q1:=HX;refine load_lawS _ (by rfl) _ _ rfl (load_geo HX.out hl) ?_)
   |(have q0:=t0;refine box_lawF _ rfl (.tmp 0) 23 rfl .i64 g rfl ?_;intro w1 X1 B1 L1;have HX:=hdH (X1);obtain ⟨f0,f1,f2,f3,f4,f5⟩:=geo_cells X1 hl;clear X1 t0))
  have SR:Hid (∀ w',Below w2.heap.size w2 w'→Calls Tryz.prog 59 #[.agg (ints .i64 g)] w' fun x w''=>x=.returned (.int .i64 z)∧Below w2.heap.size w2 w''):=call_class SR'.out w2
  have SD:Hid (∀ w',Below w2.heap.size w2 w'→Calls Tryz.prog 60 #[.agg (ints .i64 g)] w' fun x w''=>x=.returned (.int .i64 y)∧Below w2.heap.size w2 w''):=call_class SD'.out w2
  have GC:=Hid.mk' (geo_class HX.out hl)
  refine region_quietC (C:=fun w'=>Below w2.heap.size w2 w') (by kernel_rfl) (by kernel_rfl) (Below.refl _ _).drew ?_
  refine wpQuiet_step (fun K hK=>?_)
  refine q_loadS (by rfl) (some 12) rfl (.tmp 1) 23 rfl (.pointer (some ⟨w.heap.size,0,none⟩)) (.agg (ints .i64 g)) rfl (fun w' h=>(GC.out w' h).2.2.2.2.2.2) (hK _ ?_)
  simp only [Act.put,zE1,zE2,zE3]
  clear hK K
  refine wpQuiet_step (fun K hK=>?_)
  refine q_call (by rfl) (some 13) rfl 59 #[.tmp 12] #[23] rfl (fun q w'=>by rfl) #[.agg (ints .i64 g)] (by simp only [List.map_toArray,List.map_cons,List.map_nil];rfl) (.int .i64 z) SR.out (hK _ ?_)
  simp only [Act.put,zE1,zE2,zE3]
  clear hK K
  refine wpQuiet_step (fun K hK=>?_)
  refine q_val (by rfl) (some 14) rfl (.pointer (some ⟨w.heap.size,1,none⟩)) (fun w' _=>by go_simp) (hK _ ?_)
  simp only [Act.put,zE1,zE2,zE3]
  clear hK K
  refine wpQuiet_step (fun K hK=>?_)
  refine q_get (by rfl) (some 15) rfl (.tmp 14) 3 rfl .i64 (gb g 1) w.heap.size (1) rfl Tryz.underlying3 (fun w' h=>(GC.out w' h).2.1) (hK _ ?_)
  simp only [Act.put,zE1,zE2,zE3]
  clear hK K
  refine wpQuiet_step (fun K hK=>?_)
  first
   |have m9:=mA
    refine q_val (by rfl) (some 16) rfl (.bool true) (fun w' _=>by go_simp) (hK _ ?_)
   |refine q_val (by rfl) (some 16) rfl (.bool false) (fun w' _=>by go_simp) (hK _ ?_)
  simp only [Act.put,zE1,zE2,zE3]
  clear hK K
  refine wpQuiet_step (fun K hK=>?_)
  first
   |have m9:=mA
    refine q_val (by rfl) (some 17) rfl (.bool true) (fun w' _=>by rfl) (hK _ ?_)
   |refine q_val (by rfl) (some 17) rfl (.bool false) (fun w' _=>by rfl) (hK _ ?_)
  simp only [Act.put,zE1,zE2,zE3]
  clear hK K
  refine wpQuiet_step (fun K hK=>?_)
  first
   |have m9:=mA
    refine q_skip (by rfl) (some 18) rfl (hK _ ?_)
   |refine q_loadS (by rfl) (some 18) rfl (.tmp 1) 23 rfl (.pointer (some ⟨w.heap.size,0,none⟩)) (.agg (ints .i64 g)) rfl (fun w' h=>(GC.out w' h).2.2.2.2.2.2) (hK _ ?_)
  simp only [Act.put,zE1,zE2,zE3]
  clear hK K
  refine wpQuiet_step (fun K hK=>?_)
  first
   |have m9:=mA
    refine q_skip (by rfl) (some 19) rfl (hK _ ?_)
   |refine q_call (by rfl) (some 19) rfl 60 #[.tmp 18] #[23] rfl (fun q w'=>by rfl) #[.agg (ints .i64 g)] (by simp only [List.map_toArray,List.map_cons,List.map_nil];rfl) (.int .i64 y) SD.out (hK _ ?_)
  simp only [Act.put,zE1,zE2,zE3]
  clear hK K
  refine wpQuiet_step (fun K hK=>?_)
  first
   |have m9:=mA
    refine q_skip (by rfl) (some 20) rfl (hK _ ?_)
   |refine q_val (by rfl) (some 20) rfl (.pointer (some ⟨w.heap.size,3,none⟩)) (fun w' _=>by go_simp) (hK _ ?_)
  simp only [Act.put,zE1,zE2,zE3]
  clear hK K
  refine wpQuiet_step (fun K hK=>?_)
  first
   |have m9:=mA
    refine q_skip (by rfl) (some 21) rfl (hK _ ?_)
   |refine q_get (by rfl) (some 21) rfl (.tmp 20) 3 rfl .i64 (gb g 3) w.heap.size (3) rfl Tryz.underlying3 (fun w' h=>(GC.out w' h).2.2.2.1) (hK _ ?_)
  simp only [Act.put,zE1,zE2,zE3]
  clear hK K
  refine wpQuiet_step (fun K hK=>?_)
  first
   |have m9:=mA
    refine q_skip (by rfl) (some 22) rfl (hK _ ?_)
   |refine q_val (by rfl) (some 22) rfl (.int .i64 (gb g 3+3)) (fun w' _=>by go_simp) (hK _ ?_)
  simp only [Act.put,zE1,zE2,zE3]
  clear hK K
  refine wpQuiet_step (fun K hK=>?_)
  first
   |have m9:=mA
    refine q_skip (by rfl) (some 23) rfl (hK _ ?_)
   |have m9:=mB
    refine q_val (by rfl) (some 23) rfl (.bool true) (fun w' _=>by go_simp) (hK _ ?_)
   |refine q_val (by rfl) (some 23) rfl (.bool false) (fun w' _=>by go_simp) (hK _ ?_)
  simp only [Act.put,zE1,zE2,zE3]
  clear hK K
  refine wpQuiet_step (fun K hK=>?_)
  first
   |have m9:=mC
    refine q_val (by rfl) (some 24) rfl (.bool false) (fun w' _=>by rfl) (hK _ ?_)
   |refine q_val (by rfl) (some 24) rfl (.bool true) (fun w' _=>by rfl) (hK _ ?_)
  simp only [Act.put,zE1,zE2,zE3]
  clear hK K
  refine wpQuiet_nil ?_
  intro w3 B3
  go_wp2
  go_ret
  exact ⟨rfl,B1.trans ((B2.mono (by omega)).trans (B3.mono (by have:=B2.size;omega)))⟩
theorem check_yes (g:List Int) (hl:g.length=6) (h:Rt g) (w:World):
  Calls Tryz.prog 24 #[.agg (ints .i64 g)] w fun x w'=>x=.returned (.int .i64 0)∧Below w.heap.size w w':=check_r_m.2.2 g w hl h.1 h.2.1 h.2.2.1 h.2.2.2
theorem check_no (g:List Int) (hl:g.length=6) (h:¬Rt g) (w:World):
  Calls Tryz.prog 24 #[.agg (ints .i64 g)] w fun x w'=>x=.returned (.int .i64 2)∧Below w.heap.size w w':=by
 by_cases hk:Kept g
 ·by_cases h1:gb g 2%16=0
  ·by_cases h2:rec g≤gb g 1
   ·exact check_r_m.2.1 g w hl hk h1 h2 (Int.not_le.1 fun h3=>h ⟨hk,h1,h2,h3⟩)
   ·exact check_r_m.1 g w hl hk h1 (Int.not_le.1 h2)
  ·exact check_m g w hl hk h1
 ·exact check_k g w hl hk
end Go.Proofs.YtmbgokmomkmgcaaGreatDoor.ge
namespace Go.Proofs.YtmbgokmomkmgcaaGreatDoor.ge
open Go.RowKit
set_option maxRecDepth 20000
theorem data_yes (g:List Int) (hl:g.length=6) (h:Rt g) (w:World):
  Calls Tryz.prog 61 #[.agg (ints .i64 g)] w fun x w'=>x=.returned (.int .i64 (gb g 0-4))∧Below w.heap.size w w':=by
 have S:Hid (∀ w,Calls Tryz.prog 24 #[.agg (ints .i64 g)] w fun x w'=>x=.returned (.int .i64 0)∧Below w.heap.size w w'):=check_yes g hl h
 have S2:Hid (∀ w,Calls Tryz.prog 60 #[.agg (ints .i64 g)] w fun x w'=>x=.returned (.int .i64 (gb g 0-4))∧Below w.heap.size w w'):=fun w=>db_any g w hl h.1
 generalize gb g 0-4=z at*
 clear h
 have t0:=tR
 go_enter Tryz.func61,Tryz.ntmps61
 go_wp2_with (first
  |(have q2:=t2;go_at_call 60;refine (S2.out _).mono ?_;rintro e w3 ⟨rfl,B3⟩;have HX:=hdH (HX.out.below B3 (HX.out.lt (by omega)));obtain ⟨e0,e1,e2,e3,e4,e5⟩:=geo_cells HX.out hl;have BB:=hdH (BB.out.trans (B3.mono BB.out.size));have t3:=tR;clear B3 t2)
  |(have q1:=t1;go_at_call 24;refine (S.out _).mono ?_;rintro e w2 ⟨rfl,B2⟩;have HX:=hdH (HX.out.below B2 (HX.out.lt (by omega)));obtain ⟨e0,e1,e2,e3,e4,e5⟩:=geo_cells HX.out hl;have BB:=hdH (BB.out.trans (B2.mono BB.out.size));have t2:=tR;clear B2 t1)
  |(have q1:=HX;refine load_lawS _ (by rfl) _ _ rfl (load_geo HX.out hl) ?_)
  |(have q0:=t0;refine box_lawF _ rfl (.tmp 0) 23 rfl .i64 g rfl ?_;intro w1 X1 B1 L1;have HX:=hdH (X1);obtain ⟨f0,f1,f2,f3,f4,f5⟩:=geo_cells X1 hl;have BB:=hdH (B1);have t1:=tR;clear X1 t0 B1))
 go_ret
 exact ⟨rfl,BB.out⟩
theorem psize_yes (g:List Int) (hl:g.length=6) (h:Rt g) (w:World):
  Calls Tryz.prog 50 #[.agg (ints .i64 g)] w fun x w'=>x=.returned (.int .i64 (gb g 2+88))∧Below w.heap.size w w':=by
 have S:Hid (∀ w,Calls Tryz.prog 24 #[.agg (ints .i64 g)] w fun x w'=>x=.returned (.int .i64 0)∧Below w.heap.size w w'):=check_yes g hl h
 have q1:IntKind.i64.wrap (gb g 2+88)=gb g 2+88:=by obtain ⟨⟨-, -,h, -⟩, -⟩:=h;rw [IntKind.wrap_i64];omega
 clear h
 have t0:=tR
 go_enter Tryz.func50,Tryz.ntmps50
 go_wp2_with (first
  |(have q1:=t1;go_at_call 24;refine (S.out _).mono ?_;rintro e w2 ⟨rfl,B2⟩;have HX:=hdH (HX.out.below B2 (HX.out.lt (by omega)));obtain ⟨e0,e1,e2,e3,e4,e5⟩:=geo_cells HX.out hl;have BB:=hdH (BB.out.trans (B2.mono BB.out.size));have t2:=tR;clear B2 t1)
  |(have q1:=HX;refine load_lawS _ (by rfl) _ _ rfl (load_geo HX.out hl) ?_)
  |(have q0:=t0;refine box_lawF _ rfl (.tmp 0) 23 rfl .i64 g rfl ?_;intro w1 X1 B1 L1;have HX:=hdH (X1);obtain ⟨f0,f1,f2,f3,f4,f5⟩:=geo_cells X1 hl;have BB:=hdH (B1);have t1:=tR;clear X1 t0 B1))
 go_ret
 exact ⟨rfl,BB.out⟩
end Go.Proofs.YtmbgokmomkmgcaaGreatDoor.ge
namespace Go.Proofs.YtmbgokmomkmgcaaGreatDoor.ge
open Go.RowKit
set_option maxRecDepth 20000
theorem div_count (u s n:Nat) (hu:0<u) (h1:s≤n*u) (h2:∀ m,m<n→m*u<s):((s:Int)+(u:Int)-1)/(u:Int)=(n:Int):=by
 have:=qt_count u s n hu h1 h2
 unfold qt at this
 have e:((s:Int)+(u:Int)-1)=((s+u-1 :Nat):Int):=by omega
 rw [e,←Int.natCast_ediv]
 omega
theorem more_count {u s k:Nat} (h:∀ m,m<k→m*u<s) (h':k*u<s):∀ m,m<k+1→m*u<s:=fun m hm=>by
 by_cases e:m<k
 ·exact h m e
 ·have:m=k:=by omega
  subst this;exact h'
theorem rchunks_any (g:List Int) (hl:g.length=6) (hk:Kept g) (w:World):
  Calls Tryz.prog 46 #[.agg (ints .i64 g)] w fun x w'=>x=.returned (.int .i64 (rec g))∧Below w.heap.size w w':=by
 obtain ⟨u,hu⟩:∃ u:Nat,gb g 2=(u:Int):=⟨(gb g 2).toNat,by obtain ⟨-, -,h, -⟩:=hk;omega⟩
 have hu1:32≤u∧u≤4096:=by obtain ⟨-, -,h, -⟩:=hk;omega
 have HR:Hid (∀ n:Nat,624≤n*u→(∀ m,m<n→m*u<624)→rec g=(n:Int)):=fun n h1 h2=>by
  unfold rec;rw [hu];exact div_count u 624 n (by omega) h1 h2
 clear hk
 generalize rec g=z at*
 go_enter Tryz.func46,Tryz.ntmps46
 go_wp2_with (refine box_lawF _ rfl (.tmp 0) 23 rfl .i64 g rfl ?_;intro w1 X1 B1 L1;obtain ⟨f0,f1,f2,f3,f4,f5⟩:=geo_cells X1 hl)
 have c2:w1.cell? ⟨w.heap.size,2,none⟩=some (.int .i64 (u:Int)):=by rw [f2,hu]
 clear f0 f1 f2 f3 f4 f5 X1 hu
 go_loopw [3] (fun i wr=>∃ k:Nat,k≤20∧i=.int .i64 k∧Hid (∀ m,m<k→m*u<624)∧wr=w1) (fun i _=>20-(intOf i).toNat)
 case atStart=>exact ⟨0,Nat.zero_le _,rfl,(fun j hj=>by omega),rfl⟩
 case round=>
  obtain ⟨k,hk,rfl,HK,rfl⟩:=hrel
  have k0:(0 :Int)≤(k:Int):=by omega
  have q1:IntKind.i64.wrap (k:Int)=k:=by rw [IntKind.wrap_i64];omega
  obtain ⟨m,hm⟩:∃ m:Nat,m=k*u:=⟨_,rfl⟩
  have hm1:m≤81920:=by rw [hm];exact Nat.le_trans (Nat.mul_le_mul hk hu1.2) (by omega)
  have qm:(k:Int)*(u:Int)=(m:Int):=by rw [hm];simp
  have HM:=hdH (hm)
  have h20:Hid (640≤20*u):=by show _≤_;omega
  clear hm
  by_cases hlt:m<624
  ·have k1:(m:Int)<624:=by omega
   have hk20:k<20:=by
    rcases Nat.lt_or_ge k 20 with h | h
    ·exact h
    ·have:k=20:=by omega
     subst this
     have:=HM.out;have:=h20.out;omega
   have HN:Hid (∀ m,m<k+1→m*u<624):=more_count HK.out (by rw [←HM.out];exact hlt)
   go_wp2
   go_roundw
   case rel=>exact ⟨k+1,by omega,by go_num,HN,by simp⟩
   case measure=>simp [intOf];omega
  ·have k1:¬(m:Int)<624:=by omega
   have hz:=HR.out k (by rw [←HM.out];omega) HK.out
   subst hz
   go_wp2
   go_ret
   exact ⟨rfl,B1⟩
end Go.Proofs.YtmbgokmomkmgcaaGreatDoor.ge
namespace Go.Proofs.YtmbgokmomkmgcaaGreatDoor.fa
open Go.RowKit
set_option maxRecDepth 20000
theorem say_tells {w:World} {c:Nat} {m:List Int} (h:Say w c m) (hm:AllB m) (n:Nat) (hn:n≤9223372036854775807):Tells w (.func (.func 166) #[] #[.pointer (some ⟨c,0,none⟩)]) (mb m) n:=
 ⟨166,#[.pointer (some ⟨c,0,none⟩)],rfl,fun _ _=>rfl,mb_bd hm,fun _ hb i hi=>said_any c m i _ (h.below hb) (by omega)⟩
theorem clear_any (va vb vm:Value) (xs ys m:List Int) (w:World) (ha:Byt w va xs) (hb:Byt w vb ys) (hm:Byt w vm m) (hl:xs.length=ys.length) (hmax:xs.length≤1048576):
  Calls Tryz.prog 155 #[va,vb,vm] w fun e w'=>∃ v,e=.returned (.tuple #[v,.int .i64 0])∧Byt w' v (pgl xs ys (mb m))∧Below w.heap.size w w':=by
 have SB:Hid (Calls Tryz.prog 156 #[vm] w fun e w'=>e=.returned (.func (.func 166) #[] #[.pointer (some ⟨w.heap.size,0,none⟩)])∧Say w' w.heap.size m∧Below w.heap.size w w'):=bitsOf_any vm m w hm
 have SP:Hid (∀ w1 c,Say w1 c m→Below w.heap.size w w1→Calls Tryz.prog 159 #[va,vb,.func (.func 166) #[] #[.pointer (some ⟨c,0,none⟩)]] w1 fun e w'=>∃ v,e=.returned v∧Byt w' v (pgl xs ys (mb m))∧Below w1.heap.size w1 w'):=fun w1 c h1 h2=>prog_any va vb _ xs ys (mb m) w1 (ha.below h2) (hb.below h2) hl hmax (say_tells h1 hm.all _ (by omega))
 obtain ⟨ao,ca,rfl,ha1,ha2, -⟩:=ha
 obtain ⟨bo,cb,rfl,hb1,hb2, -⟩:=hb
 rw [←hl] at hb1 SP ⊢
 generalize pgl xs ys (mb m)=zs at*
 clear hl hm
 go_enter Tryz.func155,Tryz.ntmps155
 go_wp2_with (first
  |(go_at_call 159;refine (SP.out _ _ Y0.out B0).mono ?_;rintro e w1 ⟨v1,rfl,y1,B1⟩;have Y1:=hdH (y1);clear y1)
  |(go_at_call 156;refine SB.out.mono ?_;rintro e w0 ⟨rfl,y0,B0⟩;have Y0:=hdH (y0);clear y0))
 go_ret2
 exact ⟨_,rfl,Y1.out,B0.trans (B1.mono B0.size)⟩
end Go.Proofs.YtmbgokmomkmgcaaGreatDoor.fa
namespace Go.Proofs.YtmbgokmomkmgcaaGreatDoor.ge
open Go.RowKit
set_option maxRecDepth 20000
section
variable {ops:Array Oper} {o:Oper} {a:Act} {Q:Exit→Act→World→Prop} {K:Act→World→Prop} {E:Prop}
theorem step_callW (w:World) (hw:Region.wanted o (yielded ops a.tmps)=true) (d:Option Tmp) (hd:o.dst=d) (f:FuncId) (args:Array Operand) (ats:Array TypeId) (hop:o.op=.call {callee:=.value (.func f),args:=args,argTypes:=ats})
  (hcf:∀ (q:Array Value) (w:World),(callFunc f q).run Tryz.prog w=.ok (.enter f q) w) (vs:Array Value) (hx:args.map a.eval=vs) (R:Value→World→Prop) (hc:Calls Tryz.prog f vs w fun e w'=>∃ v,e=.returned v∧R v w') (hK:∀ v w',R v w'→K (a.put d v) w'):if Region.wanted o (yielded ops a.tmps)=true then Oper.wp Tryz.prog o a w K Q else E:=by
 rw [if_pos hw]
 subst hd
 subst hx
 unfold Oper.wp
 simp only [execOp,hop]
 go_simp
 refine hc.mono ?_
 rintro e w' ⟨v,rfl,hr⟩
 exact hK v w' hr
end
end Go.Proofs.YtmbgokmomkmgcaaGreatDoor.ge
