/- Parts of the proof: what ScanBlocks reaches. No claim of its own. -/
import Derived.Laws.AppendOwnNone
import Derived.WalkKit
import Derived.WalkSmall
import Derived.ProofKit
import Derived.OpenShut
import Derived.BigQuiet
import Derived.Deep.QuietTactic
import Derived.Deep.RegionHeld3
import Derived.Deep.WholeRow
import Derived.Deep.MidRow
import Derived.Laws.StructEq
import Derived.Lib.AppendZeros
import Derived.Lib.SliceRun
import Derived.Deep.DeepCutAuto
import Derived.Deep.RegionWith
import Derived.Test.YtmbgokmomkmgcaaGreatDoorK00
import Derived.Test.YtmbgokmomkmgcaaGreatDoorK01
import Derived.Test.YtmbgokmomkmgcaaGreatDoorK02
set_option maxHeartbeats 8000000
namespace Go.Proofs.YtmbgokmomkmgcaaGreatDoor.he
open Go.RowKit Go.Proofs.YtmbgokmomkmgcaaGreatDoor.fa
set_option maxRecDepth 20000
def be (x:Int) (s:Nat):List Int:=(le x s).reverse
theorem be_len (x:Int) (s:Nat):(be x s).length =s:=by simp [be,le_len]
theorem be_all (x:Int) (s:Nat):AllB (be x s):=allB_reverse (le_all x s)
def hb (k n c l e t:Int):List Int:=[k,n,c,0] ++ (be l 4 ++ (be e 8 ++ be t 8))
theorem hb_len (k n c l e t:Int):(hb k n c l e t).length =24:=by simp [hb,be_len]
def Rh (k n c:Int):Prop:=1≤k∧k≤4∧0≤n∧n≤255∧0≤c∧c≤255
theorem allB_app {xs ys:List Int} (h:AllB xs) (h':AllB ys):AllB (xs ++ ys):=allB_mem fun x hx=>by
 rcases List.mem_append.1 hx with q | q
 ·obtain ⟨i,hi,rfl⟩:=mem_gb q;exact h i
 ·obtain ⟨i,hi,rfl⟩:=mem_gb q;exact h' i
theorem hb_all {k n c:Int} (h:Rh k n c) (l e t:Int):AllB (hb k n c l e t):=by
 obtain ⟨h1,h2,h3,h4,h5,h6⟩:=h
 refine allB_app (allB_mem fun x hx=>?_) (allB_app (be_all l 4) (allB_app (be_all e 8) (be_all t 8)))
 simp at hx
 rcases hx with rfl | rfl | rfl | rfl <;> omega
def sub (xs:List Int) (l h:Nat):List Int:=(xs.take h).drop l
theorem sub_len (xs:List Int) (l h:Nat) (hh:h≤xs.length):(sub xs l h).length =h-l:=by simp [sub];omega
theorem sub_gb (xs:List Int) (l h t:Nat) (ht:t<h-l):gb (sub xs l h) t=gb xs (l+t):=gb_cut xs l h t ht
theorem allB_sub {xs:List Int} (h:AllB xs) (l u:Nat):AllB (sub xs l u):=allB_mem fun x hx=>by
 obtain ⟨i,hi,rfl⟩:=mem_gb (List.mem_of_mem_take (List.mem_of_mem_drop hx))
 exact h i
theorem gb_appL (xs ys:List Int) (k:Nat):gb (xs ++ ys) k=if k<xs.length then gb xs k else gb ys (k-xs.length):=by
 unfold gb
 rw [List.getD_eq_getElem?_getD]
 by_cases h:k<xs.length
 ·rw [if_pos h,List.getElem?_append_left h];rfl
 ·rw [if_neg h,List.getElem?_append_right (by omega)];rfl
def n4 (a b c d:Int):Int:=((a*256+b)*256+c)*256+d
theorem num_of4 (a b c d:Int) (ha:0≤a∧a≤255) (hb:0≤b∧b≤255) (hc:0≤c∧c≤255) (_hd:0≤d∧d≤255):num (last8 [a,b,c,d])=n4 a b c d:=by
 simp [num,last8,n4]
 omega
theorem num_of8 (a b c d e f g h:Int) (ha:0≤a∧a≤255) (hb:0≤b∧b≤255) (hc:0≤c∧c≤255) (hd:0≤d∧d≤255) (he:0≤e∧e≤255) (hf:0≤f∧f≤255) (hg:0≤g∧g≤255) (_hh:0≤h∧h≤255):num (last8 [a,b,c,d,e,f,g,h])=n4 a b c d*4294967296+n4 e f g h:=by
 simp [num,last8,n4]
 omega
theorem be4 (x:Int):be x 4= [x/256/256/256%256,x/256/256%256,x/256%256,x%256]:=rfl
theorem be8 (x:Int):be x 8= [x/256/256/256/256/256/256/256%256,x/256/256/256/256/256/256%256,x/256/256/256/256/256%256,x/256/256/256/256%256,x/256/256/256%256,x/256/256%256,x/256%256,x%256]:=rfl
theorem list4 {xs:List Int} (h:xs.length=4):xs= [gb xs 0,gb xs 1,gb xs 2,gb xs 3]:=by
 match xs,h with
 |[a,b,c,d],_=>rfl
theorem list8 {xs:List Int} (h:xs.length=8):xs= [gb xs 0,gb xs 1,gb xs 2,gb xs 3,gb xs 4,gb xs 5,gb xs 6,gb xs 7]:=by
 match xs,h with
 |[a,b,c,d,e,f,g,h],_=>rfl
theorem be_num4 {xs:List Int} (h:xs.length=4) (ha:AllB xs):be (num (last8 xs)) 4=xs∧0≤num (last8 xs)∧num (last8 xs)≤4294967295:=by
 have h0:=ha 0;have h1:=ha 1;have h2:=ha 2;have h3:=ha 3
 rw [list4 h]
 generalize gb xs 0=a at*;generalize gb xs 1=b at*;generalize gb xs 2=c at*;generalize gb xs 3=d at*
 rw [num_of4 _ _ _ _ h0 h1 h2 h3,be4]
 unfold n4
 refine ⟨?_,by omega,by omega⟩
 have e1:(((a*256+b)*256+c)*256+d)%256=d:=by omega
 have e2:(((a*256+b)*256+c)*256+d)/256%256=c:=by omega
 have e3:(((a*256+b)*256+c)*256+d)/256/256%256=b:=by omega
 have e4:(((a*256+b)*256+c)*256+d)/256/256/256%256=a:=by omega
 rw [e1,e2,e3,e4]
theorem be_num8 {xs:List Int} (h:xs.length=8) (ha:AllB xs):be (num (last8 xs)) 8=xs∧0≤num (last8 xs)∧num (last8 xs)≤18446744073709551615:=by
 have h0:=ha 0;have h1:=ha 1;have h2:=ha 2;have h3:=ha 3;have h4:=ha 4;have h5:=ha 5;have h6:=ha 6;have h7:=ha 7
 rw [list8 h]
 generalize gb xs 0=a at*;generalize gb xs 1=b at*;generalize gb xs 2=c at*;generalize gb xs 3=d at*
 generalize gb xs 4=e at*;generalize gb xs 5=f at*;generalize gb xs 6=g at*;generalize gb xs 7=i at*
 rw [num_of8 _ _ _ _ _ _ _ _ h0 h1 h2 h3 h4 h5 h6 h7,be8]
 unfold n4
 refine ⟨?_,by omega,by omega⟩
 generalize hN:(((a*256+b)*256+c)*256+d)*4294967296+(((e*256+f)*256+g)*256+i)=N
 have e1:N%256=i:=by omega
 have f1:N/256=(((a*256+b)*256+c)*256+d)*16777216+((e*256+f)*256+g):=by omega
 have e2:N/256%256=g:=by omega
 have f2:N/256/256=(((a*256+b)*256+c)*256+d)*65536+(e*256+f):=by omega
 have e3:N/256/256%256=f:=by omega
 have f3:N/256/256/256=(((a*256+b)*256+c)*256+d)*256+e:=by omega
 have e4:N/256/256/256%256=e:=by omega
 have f4:N/256/256/256/256=((a*256+b)*256+c)*256+d:=by omega
 have e5:N/256/256/256/256%256=d:=by omega
 have f5:N/256/256/256/256/256=(a*256+b)*256+c:=by omega
 have e6:N/256/256/256/256/256%256=c:=by omega
 have f6:N/256/256/256/256/256/256=a*256+b:=by omega
 have e7:N/256/256/256/256/256/256%256=b:=by omega
 have e8:N/256/256/256/256/256/256/256%256=a:=by omega
 rw [e1,e2,e3,e4,e5,e6,e7,e8]
def qk (xs:List Int):Int:=gb xs 0
def qn (xs:List Int):Int:=gb xs 1
def qc (xs:List Int):Int:=gb xs 2
def ql (xs:List Int):Int:=num (last8 (sub xs 4 8))
def qe (xs:List Int):Int:=num (last8 (sub xs 8 16))
def qt (xs:List Int):Int:=num (last8 (sub xs 16 24))
def Tl (xs:List Int):Prop:=inv (sub xs 0 24)=sub xs 24 48∧gb xs 3=0∧1≤gb xs 0∧gb xs 0≤4
theorem ext4 (xs:List Int) (h:24≤xs.length) (ha:AllB xs) (h0:gb xs 3=0):hb (qk xs) (qn xs) (qc xs) (ql xs) (qe xs) (qt xs)=sub xs 0 24:=by
 have a1:=(be_num4 (xs:=sub xs 4 8) (by rw [sub_len _ _ _ (by omega)]) (allB_sub ha 4 8)).1
 have a2:=(be_num8 (xs:=sub xs 8 16) (by rw [sub_len _ _ _ (by omega)]) (allB_sub ha 8 16)).1
 have a3:=(be_num8 (xs:=sub xs 16 24) (by rw [sub_len _ _ _ (by omega)]) (allB_sub ha 16 24)).1
 unfold hb ql qe qt
 rw [a1,a2,a3]
 refine ext_gb (by simp [sub_len,show 8≤xs.length by omega,show 16≤xs.length by omega,h]) fun t ht=>?_
 have l1:=sub_len xs 4 8 (by omega)
 have l2:=sub_len xs 8 16 (by omega)
 have l3:=sub_len xs 16 24 (by omega)
 simp only [List.length_append,List.length_cons,List.length_nil,l1,l2,l3] at ht
 rw [sub_gb xs 0 24 t (by omega),Nat.zero_add,gb_appL]
 split
 ·rename_i q
  simp at q
  match t,q with
  |0,_=>rfl
  |1,_=>rfl
  |2,_=>rfl
  |3,_=>exact h0.symm
 ·rename_i q
  simp at q
  simp only [List.length_cons,List.length_nil]
  rw [gb_appL,l1]
  split
  ·rw [sub_gb xs 4 8 _ (by omega)];congr 1;omega
  ·rw [gb_appL,l2]
   split
   ·rw [sub_gb xs 8 16 _ (by omega)];congr 1;omega
   ·rw [sub_gb xs 16 24 _ (by omega)];congr 1;omega
theorem hb3 (k n c l e t:Int):gb (hb k n c l e t) 3=0:=rfl
def hend (hs tag mark:List Int):List Int:=hs ++ (inv hs ++ (tag ++ mark))
theorem hend_len {hs tag mark:List Int} (h:hs.length=24) (h1:tag.length=32) (h2:mark.length=8):(hend hs tag mark).length =88:=by
 simp [hend,inv_len,h,h1,h2]
theorem hend_all {hs tag mark:List Int} (h:AllB hs) (h1:AllB tag) (h2:AllB mark):AllB (hend hs tag mark):=allB_app h (allB_app (inv_all hs h) (allB_app h1 h2))
theorem tl_ref (xs:List Int) (hx:xs.length=88) (ha:AllB xs):Tl xs↔Rh (qk xs) (qn xs) (qc xs)∧hb (qk xs) (qn xs) (qc xs) (ql xs) (qe xs) (qt xs) ++ inv (hb (qk xs) (qn xs) (qc xs) (ql xs) (qe xs) (qt xs))=sub xs 0 48:=by
 have l1:=sub_len xs 0 24 (by omega)
 have l2:=sub_len xs 24 48 (by omega)
 have e0:sub xs 0 48=sub xs 0 24 ++ sub xs 24 48:=by
  have z:=List.take_append_drop 24 (xs.take 48)
  rw [List.take_take,show min 24 48=24 by omega] at z
  unfold sub
  rw [List.drop_zero,List.drop_zero]
  exact z.symm
 constructor
 ·rintro ⟨h1,h2,h3,h4⟩
  have b1:=ha 1;have b2:=ha 2
  refine ⟨⟨h3,h4,b1.1,b1.2,b2.1,b2.2⟩,?_⟩
  rw [ext4 xs (by omega) ha h2,h1,e0]
 ·rintro ⟨hr,h⟩
  rw [e0] at h
  obtain ⟨h1,h2⟩:=List.append_inj h (by rw [hb_len,l1])
  refine ⟨by rw [←h1,h2],?_,hr.1,hr.2.1⟩
  have:=congrArg (fun l=>gb l 3) h1
  simp only [sub_gb xs 0 24 3 (by omega)] at this
  rw [hb3] at this
  exact this.symm
def mark (n:Nat):List Int:=List.replicate (n-8) 255 ++ List.replicate 8 0
theorem mark_all (n:Nat):AllB (mark n):=allB_app (allB_replicate 255 _ (by omega)) (allB_replicate 0 _ (by omega))
end Go.Proofs.YtmbgokmomkmgcaaGreatDoor.he
namespace Go.Proofs.YtmbgokmomkmgcaaGreatDoor.he
open Go.RowKit Go.Proofs.YtmbgokmomkmgcaaGreatDoor.fa
set_option maxRecDepth 20000
theorem kind_any (k:Int) (w:World) (b:Bool) (hb:b=decide (1≤k∧k≤4)):
  Calls Tryz.prog 121 #[.int .i64 k] w fun e w'=>e=.returned (.bool b)∧w'=w:=by
 have HB:=hdH (hb)
 clear hb
 by_cases a1:1≤k
 ·have l1:k≥1:=a1
  by_cases a2:k≤4
  ·go_enter Tryz.func121,Tryz.ntmps121
   go_wp2
   go_ret
   exact ⟨ret_bool (by rw [HB.out];simp;omega),rfl⟩
  ·go_enter Tryz.func121,Tryz.ntmps121
   go_wp2
   go_ret
   exact ⟨ret_bool (by rw [HB.out];simp;omega),rfl⟩
 ·have l1:¬k≥1:=a1
  go_enter Tryz.func121,Tryz.ntmps121
  go_wp2
  go_ret
  exact ⟨ret_bool (by rw [HB.out];simp;omega),rfl⟩
def nv (xs:List Int):List Value:=xs.map (Value.int .u64)
theorem nv_one (xs:List Int):∀ v ∈ nv xs,v.oneCell'=true:=fun v hv'=>by
 simp only [nv,List.mem_map] at hv'
 obtain ⟨x,_,rfl⟩:=hv'
 rfl
theorem headOf_any (k n c z l e t:Int) (w:World) (hk:0≤k∧k≤255) (hn:0≤n∧n≤255) (hc:0≤c∧c≤255) (hl:0≤l∧l≤4294967295):
  Calls Tryz.prog 119 #[.agg (nv [k,n,c,z,l,e,t]).toArray] w fun x w'=>x=.returned (.agg (hv k n c l e t).toArray)∧Below w.heap.size w w':=by
 have k1:IntKind.i64.wrap k=k:=by rw [IntKind.wrap_i64];omega
 have k2:IntKind.i64.wrap n=n:=by rw [IntKind.wrap_i64];omega
 have k3:IntKind.i64.wrap c=c:=by rw [IntKind.wrap_i64];omega
 have k4:IntKind.u32.wrap l=l:=by rw [IntKind.wrap_u32];omega
 clear hk hn hc hl
 go_enter Tryz.func119,Tryz.ntmps119
 have t0:=tR
 go_wp2_with (first
  |(have q2:=t2;refine store_lawC _ (hv k n c l e t) w1.heap.size 0 rfl rfl HV2.out.2 rowy_head.2 (hv_one _ _ _ _ _ _) ?_;intro w3 E3 R3 T3 B3;have HR:=hdH (R3);clear t2 E3 R3 T3)
  |(have q1:=t1;refine new_lawC _ (hv 0 0 0 0 0 0) zero_head ?_;intro w2 V2 B2 s2;have HV2:=hdH (V2);have A2:=HA.out.below B2 s1;have c0:=A2.cell 0 _ rfl;have c1:=A2.cell 1 _ rfl;have c2:=A2.cell 2 _ rfl;have c4:=A2.cell 4 _ rfl;have c5:=A2.cell 5 _ rfl;have c6:=A2.cell 6 _ rfl;clear A2 V2 t1;have t2:=tR)
  |(have q0:=t0;refine box_lawC _ (nv [k,n,c,z,l,e,t]) rfl ?_;intro w1 V1 B1 s1;have HA:=hdH (V1);clear V1 t0;have t1:=tR))
 refine bodyPost_ret (v:=.agg (hv k n c l e t).toArray) (results_c rfl _ _ w1.heap.size _ rowy_head rfl HR.out) rfl ⟨rfl,?_⟩
 exact (B1.trans (B2.mono (by omega))).trans (B3.mono (by omega))
end Go.Proofs.YtmbgokmomkmgcaaGreatDoor.he
namespace Go.Proofs.YtmbgokmomkmgcaaGreatDoor.he
open Go.RowKit Go.Proofs.YtmbgokmomkmgcaaGreatDoor.fa
set_option maxRecDepth 20000
theorem right_any (k n c l e t:Int) (w:World) (b:Bool) (hb:b=decide (1≤k∧k≤4∧0≤n∧n≤255∧0≤c∧c≤255)):
  Calls Tryz.prog 16 #[.agg (hv k n c l e t).toArray] w fun x w'=>x=.returned (.bool b)∧Below w.heap.size w w':=by
 have HB:=hdH (hb)
 clear hb
 by_cases a0:k≥1
 ·by_cases a1:k≤4
  ·by_cases a2:n≥0
   ·by_cases a3:n≤255
    ·by_cases a4:c≥0
     ·by_cases a5:c≤255
      ·go_enter Tryz.func16,Tryz.ntmps16
       go_wp2_with (refine box_lawC _ (hv k n c l e t) rfl ?_;intro w1 V1 B1 s1;have c0:=V1.cell 0 _ rfl;have c1:=V1.cell 1 _ rfl;have c2:=V1.cell 2 _ rfl;clear V1)
       go_ret
       exact ⟨ret_bool (by rw [HB.out];simp;omega),B1⟩
      ·go_enter Tryz.func16,Tryz.ntmps16
       go_wp2_with (refine box_lawC _ (hv k n c l e t) rfl ?_;intro w1 V1 B1 s1;have c0:=V1.cell 0 _ rfl;have c1:=V1.cell 1 _ rfl;have c2:=V1.cell 2 _ rfl;clear V1)
       go_ret
       exact ⟨ret_bool (by rw [HB.out];simp;omega),B1⟩
     ·go_enter Tryz.func16,Tryz.ntmps16
      go_wp2_with (refine box_lawC _ (hv k n c l e t) rfl ?_;intro w1 V1 B1 s1;have c0:=V1.cell 0 _ rfl;have c1:=V1.cell 1 _ rfl;have c2:=V1.cell 2 _ rfl;clear V1)
      go_ret
      exact ⟨ret_bool (by rw [HB.out];simp;omega),B1⟩
    ·go_enter Tryz.func16,Tryz.ntmps16
     go_wp2_with (refine box_lawC _ (hv k n c l e t) rfl ?_;intro w1 V1 B1 s1;have c0:=V1.cell 0 _ rfl;have c1:=V1.cell 1 _ rfl;have c2:=V1.cell 2 _ rfl;clear V1)
     go_ret
     exact ⟨ret_bool (by rw [HB.out];simp;omega),B1⟩
   ·go_enter Tryz.func16,Tryz.ntmps16
    go_wp2_with (refine box_lawC _ (hv k n c l e t) rfl ?_;intro w1 V1 B1 s1;have c0:=V1.cell 0 _ rfl;have c1:=V1.cell 1 _ rfl;have c2:=V1.cell 2 _ rfl;clear V1)
    go_ret
    exact ⟨ret_bool (by rw [HB.out];simp;omega),B1⟩
  ·go_enter Tryz.func16,Tryz.ntmps16
   go_wp2_with (refine box_lawC _ (hv k n c l e t) rfl ?_;intro w1 V1 B1 s1;have c0:=V1.cell 0 _ rfl;have c1:=V1.cell 1 _ rfl;have c2:=V1.cell 2 _ rfl;clear V1)
   go_ret
   exact ⟨ret_bool (by rw [HB.out];simp;omega),B1⟩
 ·go_enter Tryz.func16,Tryz.ntmps16
  go_wp2_with (refine box_lawC _ (hv k n c l e t) rfl ?_;intro w1 V1 B1 s1;have c0:=V1.cell 0 _ rfl;have c1:=V1.cell 1 _ rfl;have c2:=V1.cell 2 _ rfl;clear V1)
  go_ret
  exact ⟨ret_bool (by rw [HB.out];simp;omega),B1⟩
end Go.Proofs.YtmbgokmomkmgcaaGreatDoor.he
namespace Go.Proofs.YtmbgokmomkmgcaaGreatDoor.he
open Go.RowKit Go.Proofs.YtmbgokmomkmgcaaGreatDoor.fa
set_option maxRecDepth 20000
theorem own_low {B:Nat} {w w':World} {v:Value} {xs:List Int} (h:Own B w v xs) (hb:Below w.heap.size w w'):Own B w' v xs:=World.ownsRow.kept h ⟨hb.os,hb.tape,hb.output,hb.size,fun j hj _=>hb.block j hj⟩ (by cases hv:v.ownBlock <;> simp) (row:=none)
theorem own_less {w:World} {B B':Nat} {v:Value} {xs:List Int} (h:Own B w v xs) (hB:B'≤B):Own B' w v xs:=by
 obtain ⟨a1,a2⟩:=h
 refine ⟨a1,?_⟩
 rcases a2 with e1 | ⟨g',c',u',e1,e2,e3⟩
 ·exact Or.inl e1
 ·exact Or.inr ⟨g',c',u',e1,by omega,e3⟩
theorem clamp48:clamp 4 8=4∧clamp 8 8=8∧clamp 1 8=1:=by decide
end Go.Proofs.YtmbgokmomkmgcaaGreatDoor.he
namespace Go.Proofs.YtmbgokmomkmgcaaGreatDoor.he
open Go.RowKit Go.Proofs.YtmbgokmomkmgcaaGreatDoor.fa
set_option maxRecDepth 20000
theorem load_lawC {ops:Array Oper} {rest:List Oper} {a:Act} {Q:Exit→Act→World→Prop} {d:Option Tmp} {x:Operand} {t ty:TypeId} {pos:String} {af:Array Edge} {gd:Option (Nat × Bool)} (w:World) (hw:Region.wanted ⟨d,Op.load t x,ty,pos,af,gd⟩ (yielded ops a.tmps)=true) (cs:List Value) (b p:Nat) (hx:a.eval x=.pointer (some ⟨b,p,none⟩)) (h:w.rangeAt b p cs) (ht:Rowy t cs.length)
  (hK:wpList Tryz.prog ops Q rest (a.put d (.agg cs.toArray)) w):wpList Tryz.prog ops Q (⟨d,Op.load t x,ty,pos,af,gd⟩ :: rest) a w:=by
 refine wpList_step fun K hK'=>?_
 rw [if_pos hw]
 unfold Oper.wp execOp
 simp only [hx,Sem.run_bind,Result.andThen_ok,load_cells ht h]
 exact hK' _ _ hK
theorem num_one (xs:List Int) (i:Nat) (h:i<xs.length) (ha:AllB xs):num (last8 (sub xs i (i+1)))=gb xs i:=by
 have l:=sub_len xs i (i+1) (by omega)
 have g:=sub_gb xs i (i+1) 0 (by omega)
 have b:=ha i
 generalize sub xs i (i+1)=ys at*
 match ys,l with
 |[y],_=>
  have:y=gb xs i:=g
  subst this
  show (0*256)%18446744073709551616+gb xs i=gb xs i
  omega
 |[],l=>simp at l
 |_ :: _ :: _,l=>simp at l
theorem in_any (v:Value) (xs:List Int) (w:World) (hb:Byt w v xs) (hl:xs.length=24) (hT:Tab w):
  Calls Tryz.prog 118 #[v] w fun x w'=>x=.returned (.agg (nv [gb xs 0,gb xs 1,gb xs 2,gb xs 3,ql xs,qe xs,qt xs]).toArray)∧Below w.heap.size w w':=by
 have HB:Hid (Byt w v xs):=hb
 have HL:Hid (xs.length=24):=hl
 have HT:Hid (Tab w):=hT
 have hA:=hb.all
 have N0:Hid (num (last8 (sub xs 0 1))=gb xs 0):=num_one xs 0 (by omega) hA
 have N1:Hid (num (last8 (sub xs 1 2))=gb xs 1):=num_one xs 1 (by omega) hA
 have N2:Hid (num (last8 (sub xs 2 3))=gb xs 2):=num_one xs 2 (by omega) hA
 have N3:Hid (num (last8 (sub xs 3 4))=gb xs 3):=num_one xs 3 (by omega) hA
 have N4:Hid (num (last8 (sub xs 4 8))=ql xs):=rfl
 have N5:Hid (num (last8 (sub xs 8 16))=qe xs):=rfl
 have N6:Hid (num (last8 (sub xs 16 24))=qt xs):=rfl
 generalize gb xs 0=n0 at*
 generalize gb xs 1=n1 at*
 generalize gb xs 2=n2 at*
 generalize gb xs 3=n3 at*
 generalize ql xs=n4 at*
 generalize qe xs=n5 at*
 generalize qt xs=n6 at*
 clear hb hl hT hA
 have t0:=tR
 go_enter Tryz.func118,Tryz.ntmps118
 go_wp2_with (first
  |(have q2:=t2;refine load_lawC _ rfl (([1,1,1,1,4,8,8]:List Int).map (Value.int .i64)) 1 0 rfl (HT2.out.range) rowy_sizes ?_;clear t2)
  |(have q1:=t1;refine new_lawC _ (nv [0,0,0,0,0,0,0]) zero_nums ?_;intro w2 V2 B2 s2;have HG:Hid (Vr w2 w1.heap.size (nv [0,0,0,0,0,0,0])):=V2;have HR:Hid (Vr w2 w.heap.size (nv [0,0,0,0,0,0,0])):=HR.out.below B2 s1;have C2:Below w.heap.size w w2:=B1.trans (B2.mono (by omega));have HT2:Hid (Tab w2):=HT.out.below C2;clear V2 B2 t1;have t2:=tR)
  |(have q0:=t0;refine new_lawC _ (nv [0,0,0,0,0,0,0]) zero_nums ?_;intro w1 V1 B1 s1;have HR:Hid (Vr w1 w.heap.size (nv [0,0,0,0,0,0,0])):=V1;clear V1 t0;have t1:=tR))
 have hne:w.heap.size≠w1.heap.size:=by omega
 go_loopw [8,4] (fun i z wr=>((i=.int .i64 0∧z=.int .i64 0∧Vr wr w1.heap.size (nv [0,0,0,0,0,0,0]))∨(i=.int .i64 1∧z=.int .i64 1∧Vr wr w1.heap.size (nv [n0,0,0,0,0,0,0]))∨(i=.int .i64 2∧z=.int .i64 2∧Vr wr w1.heap.size (nv [n0,n1,0,0,0,0,0]))∨(i=.int .i64 3∧z=.int .i64 3∧Vr wr w1.heap.size (nv [n0,n1,n2,0,0,0,0]))∨(i=.int .i64 4∧z=.int .i64 4∧Vr wr w1.heap.size (nv [n0,n1,n2,n3,0,0,0]))∨(i=.int .i64 5∧z=.int .i64 8∧Vr wr w1.heap.size (nv [n0,n1,n2,n3,n4,0,0]))∨(i=.int .i64 6∧z=.int .i64 16∧Vr wr w1.heap.size (nv [n0,n1,n2,n3,n4,n5,0]))∨(i=.int .i64 7∧z=.int .i64 24∧Vr wr w1.heap.size (nv [n0,n1,n2,n3,n4,n5,n6])))∧Vr wr w.heap.size (nv [0,0,0,0,0,0,0])∧Below w.heap.size w wr) (fun i _ _=>7-(intOf i).toNat)
 case atStart=>exact ⟨.inl ⟨rfl,rfl,HG.out⟩,HR.out,C2⟩
 case round=>
  clear HG HR C2 HT2
  obtain ⟨hrel,hr,b4⟩:=hrel
  have HR:Hid (Vr wr w.heap.size (nv [0,0,0,0,0,0,0])):=hr
  have C4:Hid (Below w.heap.size w wr):=b4
  have Y4:Hid (Byt wr v xs):=HB.out.below b4
  clear hr b4
  obtain ⟨rfl,rfl,g4⟩ | ⟨rfl,rfl,g4⟩ | ⟨rfl,rfl,g4⟩ | ⟨rfl,rfl,g4⟩ | ⟨rfl,rfl,g4⟩ | ⟨rfl,rfl,g4⟩ | ⟨rfl,rfl,g4⟩ | ⟨rfl,rfl,g4⟩:=hrel
  ·have c1:=g4.cell 0 _ rfl
   have c2:=g4.free 0 (by simp [nv])
   have G5:Hid (Vr (wr.setCell ⟨w1.heap.size,0,none⟩ (.int .u64 n0)) w1.heap.size (nv [n0,0,0,0,0,0,0])):=g4.set 0 (by simp [nv]) (.int .u64 n0)
   clear g4
   have u0:(0 :Nat)=0:=rfl
   go_wp2_with (first
    |(have q:=u2;go_at_call 148;refine (num_any _ _ _ Y5.out).mono ?_;rintro e9 w9 ⟨rfl,hw⟩;obtain rfl:=hw.symm;rw [N0.out];clear u2)
    |(have q:=u1;refine cut_part _ rfl (.tmp 13) (.tmp 14) (.tmp 17) rfl _ xs _ _ 0 1 rfl rfl rfl rfl rfl (by omega) (by have:=HL.out;omega) Y4.out ?_;intro v5 y5;have Y5:Hid (Byt wr v5 (sub xs 0 1)):=y5;clear y5 u1;have u2:(0 :Nat)=0:=rfl)
    |(have q:=u0;refine idx_law _ rfl (.tmp 7) (.tmp 8) 246 rfl _ _ (.int .i64 1) rfl rfl (by kernel_rfl) ?_;clear u0;have u1:(0 :Nat)=0:=rfl))
   go_roundw
   case rel=>exact ⟨.inr (.inl ⟨rfl,rfl,G5.out⟩),HR.out.other _ hne,C4.out.setCell (p:=⟨w1.heap.size,0,none⟩) (by show _≤w1.heap.size;omega) _⟩
   case measure=>simp [intOf]
  ·have c1:=g4.cell 1 _ rfl
   have c2:=g4.free 1 (by simp [nv])
   have G5:Hid (Vr (wr.setCell ⟨w1.heap.size,1,none⟩ (.int .u64 n1)) w1.heap.size (nv [n0,n1,0,0,0,0,0])):=g4.set 1 (by simp [nv]) (.int .u64 n1)
   clear g4
   have u0:(0 :Nat)=0:=rfl
   go_wp2_with (first
    |(have q:=u2;go_at_call 148;refine (num_any _ _ _ Y5.out).mono ?_;rintro e9 w9 ⟨rfl,hw⟩;obtain rfl:=hw.symm;rw [N1.out];clear u2)
    |(have q:=u1;refine cut_part _ rfl (.tmp 13) (.tmp 14) (.tmp 17) rfl _ xs _ _ 1 2 rfl rfl rfl rfl rfl (by omega) (by have:=HL.out;omega) Y4.out ?_;intro v5 y5;have Y5:Hid (Byt wr v5 (sub xs 1 2)):=y5;clear y5 u1;have u2:(0 :Nat)=0:=rfl)
    |(have q:=u0;refine idx_law _ rfl (.tmp 7) (.tmp 8) 246 rfl _ _ (.int .i64 1) rfl rfl (by kernel_rfl) ?_;clear u0;have u1:(0 :Nat)=0:=rfl))
   go_roundw
   case rel=>exact ⟨.inr (.inr (.inl ⟨rfl,rfl,G5.out⟩)),HR.out.other _ hne,C4.out.setCell (p:=⟨w1.heap.size,1,none⟩) (by show _≤w1.heap.size;omega) _⟩
   case measure=>simp [intOf]
  ·have c1:=g4.cell 2 _ rfl
   have c2:=g4.free 2 (by simp [nv])
   have G5:Hid (Vr (wr.setCell ⟨w1.heap.size,2,none⟩ (.int .u64 n2)) w1.heap.size (nv [n0,n1,n2,0,0,0,0])):=g4.set 2 (by simp [nv]) (.int .u64 n2)
   clear g4
   have u0:(0 :Nat)=0:=rfl
   go_wp2_with (first
    |(have q:=u2;go_at_call 148;refine (num_any _ _ _ Y5.out).mono ?_;rintro e9 w9 ⟨rfl,hw⟩;obtain rfl:=hw.symm;rw [N2.out];clear u2)
    |(have q:=u1;refine cut_part _ rfl (.tmp 13) (.tmp 14) (.tmp 17) rfl _ xs _ _ 2 3 rfl rfl rfl rfl rfl (by omega) (by have:=HL.out;omega) Y4.out ?_;intro v5 y5;have Y5:Hid (Byt wr v5 (sub xs 2 3)):=y5;clear y5 u1;have u2:(0 :Nat)=0:=rfl)
    |(have q:=u0;refine idx_law _ rfl (.tmp 7) (.tmp 8) 246 rfl _ _ (.int .i64 1) rfl rfl (by kernel_rfl) ?_;clear u0;have u1:(0 :Nat)=0:=rfl))
   go_roundw
   case rel=>exact ⟨.inr (.inr (.inr (.inl ⟨rfl,rfl,G5.out⟩))),HR.out.other _ hne,C4.out.setCell (p:=⟨w1.heap.size,2,none⟩) (by show _≤w1.heap.size;omega) _⟩
   case measure=>simp [intOf]
  ·have c1:=g4.cell 3 _ rfl
   have c2:=g4.free 3 (by simp [nv])
   have G5:Hid (Vr (wr.setCell ⟨w1.heap.size,3,none⟩ (.int .u64 n3)) w1.heap.size (nv [n0,n1,n2,n3,0,0,0])):=g4.set 3 (by simp [nv]) (.int .u64 n3)
   clear g4
   have u0:(0 :Nat)=0:=rfl
   go_wp2_with (first
    |(have q:=u2;go_at_call 148;refine (num_any _ _ _ Y5.out).mono ?_;rintro e9 w9 ⟨rfl,hw⟩;obtain rfl:=hw.symm;rw [N3.out];clear u2)
    |(have q:=u1;refine cut_part _ rfl (.tmp 13) (.tmp 14) (.tmp 17) rfl _ xs _ _ 3 4 rfl rfl rfl rfl rfl (by omega) (by have:=HL.out;omega) Y4.out ?_;intro v5 y5;have Y5:Hid (Byt wr v5 (sub xs 3 4)):=y5;clear y5 u1;have u2:(0 :Nat)=0:=rfl)
    |(have q:=u0;refine idx_law _ rfl (.tmp 7) (.tmp 8) 246 rfl _ _ (.int .i64 1) rfl rfl (by kernel_rfl) ?_;clear u0;have u1:(0 :Nat)=0:=rfl))
   go_roundw
   case rel=>exact ⟨.inr (.inr (.inr (.inr (.inl ⟨rfl,rfl,G5.out⟩)))),HR.out.other _ hne,C4.out.setCell (p:=⟨w1.heap.size,3,none⟩) (by show _≤w1.heap.size;omega) _⟩
   case measure=>simp [intOf]
  ·have c1:=g4.cell 4 _ rfl
   have c2:=g4.free 4 (by simp [nv])
   have G5:Hid (Vr (wr.setCell ⟨w1.heap.size,4,none⟩ (.int .u64 n4)) w1.heap.size (nv [n0,n1,n2,n3,n4,0,0])):=g4.set 4 (by simp [nv]) (.int .u64 n4)
   clear g4
   have u0:(0 :Nat)=0:=rfl
   go_wp2_with (first
    |(have q:=u2;go_at_call 148;refine (num_any _ _ _ Y5.out).mono ?_;rintro e9 w9 ⟨rfl,hw⟩;obtain rfl:=hw.symm;rw [N4.out];clear u2)
    |(have q:=u1;refine cut_part _ rfl (.tmp 13) (.tmp 14) (.tmp 17) rfl _ xs _ _ 4 8 rfl rfl rfl rfl rfl (by omega) (by have:=HL.out;omega) Y4.out ?_;intro v5 y5;have Y5:Hid (Byt wr v5 (sub xs 4 8)):=y5;clear y5 u1;have u2:(0 :Nat)=0:=rfl)
    |(have q:=u0;refine idx_law _ rfl (.tmp 7) (.tmp 8) 246 rfl _ _ (.int .i64 4) rfl rfl (by kernel_rfl) ?_;clear u0;have u1:(0 :Nat)=0:=rfl))
   go_roundw
   case rel=>exact ⟨.inr (.inr (.inr (.inr (.inr (.inl ⟨rfl,rfl,G5.out⟩))))),HR.out.other _ hne,C4.out.setCell (p:=⟨w1.heap.size,4,none⟩) (by show _≤w1.heap.size;omega) _⟩
   case measure=>simp [intOf]
  ·have c1:=g4.cell 5 _ rfl
   have c2:=g4.free 5 (by simp [nv])
   have G5:Hid (Vr (wr.setCell ⟨w1.heap.size,5,none⟩ (.int .u64 n5)) w1.heap.size (nv [n0,n1,n2,n3,n4,n5,0])):=g4.set 5 (by simp [nv]) (.int .u64 n5)
   clear g4
   have u0:(0 :Nat)=0:=rfl
   go_wp2_with (first
    |(have q:=u2;go_at_call 148;refine (num_any _ _ _ Y5.out).mono ?_;rintro e9 w9 ⟨rfl,hw⟩;obtain rfl:=hw.symm;rw [N5.out];clear u2)
    |(have q:=u1;refine cut_part _ rfl (.tmp 13) (.tmp 14) (.tmp 17) rfl _ xs _ _ 8 16 rfl rfl rfl rfl rfl (by omega) (by have:=HL.out;omega) Y4.out ?_;intro v5 y5;have Y5:Hid (Byt wr v5 (sub xs 8 16)):=y5;clear y5 u1;have u2:(0 :Nat)=0:=rfl)
    |(have q:=u0;refine idx_law _ rfl (.tmp 7) (.tmp 8) 246 rfl _ _ (.int .i64 8) rfl rfl (by kernel_rfl) ?_;clear u0;have u1:(0 :Nat)=0:=rfl))
   go_roundw
   case rel=>exact ⟨.inr (.inr (.inr (.inr (.inr (.inr (.inl ⟨rfl,rfl,G5.out⟩)))))),HR.out.other _ hne,C4.out.setCell (p:=⟨w1.heap.size,5,none⟩) (by show _≤w1.heap.size;omega) _⟩
   case measure=>simp [intOf]
  ·have c1:=g4.cell 6 _ rfl
   have c2:=g4.free 6 (by simp [nv])
   have G5:Hid (Vr (wr.setCell ⟨w1.heap.size,6,none⟩ (.int .u64 n6)) w1.heap.size (nv [n0,n1,n2,n3,n4,n5,n6])):=g4.set 6 (by simp [nv]) (.int .u64 n6)
   clear g4
   have u0:(0 :Nat)=0:=rfl
   go_wp2_with (first
    |(have q:=u2;go_at_call 148;refine (num_any _ _ _ Y5.out).mono ?_;rintro e9 w9 ⟨rfl,hw⟩;obtain rfl:=hw.symm;rw [N6.out];clear u2)
    |(have q:=u1;refine cut_part _ rfl (.tmp 13) (.tmp 14) (.tmp 17) rfl _ xs _ _ 16 24 rfl rfl rfl rfl rfl (by omega) (by have:=HL.out;omega) Y4.out ?_;intro v5 y5;have Y5:Hid (Byt wr v5 (sub xs 16 24)):=y5;clear y5 u1;have u2:(0 :Nat)=0:=rfl)
    |(have q:=u0;refine idx_law _ rfl (.tmp 7) (.tmp 8) 246 rfl _ _ (.int .i64 8) rfl rfl (by kernel_rfl) ?_;clear u0;have u1:(0 :Nat)=0:=rfl))
   go_roundw
   case rel=>exact ⟨.inr (.inr (.inr (.inr (.inr (.inr (.inr (⟨rfl,rfl,G5.out⟩))))))),HR.out.other _ hne,C4.out.setCell (p:=⟨w1.heap.size,6,none⟩) (by show _≤w1.heap.size;omega) _⟩
   case measure=>simp [intOf]
  ·have G4:Hid (Vr wr w1.heap.size (nv [n0,n1,n2,n3,n4,n5,n6])):=g4
   clear g4
   have u0:(0 :Nat)=0:=rfl
   go_wp2_with (first
    |(have q:=u1;refine store_lawC _ (nv [n0,n1,n2,n3,n4,n5,n6]) w.heap.size 0 rfl rfl HR.out.2 rowy_nums.2 (nv_one _) ?_;intro w5 E5 R5 T5 B5;have HQ:Hid (w5.rangeAt w.heap.size 0 (nv [n0,n1,n2,n3,n4,n5,n6])):=R5;clear u1 E5 R5 T5)
    |(have q:=u0;refine load_lawC _ rfl (nv [n0,n1,n2,n3,n4,n5,n6]) w1.heap.size 0 rfl G4.out.1 rowy_nums ?_;clear u0;have u1:(0 :Nat)=0:=rfl))
   refine bodyPost_ret (v:=.agg (nv [n0,n1,n2,n3,n4,n5,n6]).toArray) (results_c rfl _ _ w.heap.size _ rowy_nums rfl HQ.out) rfl ⟨rfl,?_⟩
   exact C4.out.trans B5
end Go.Proofs.YtmbgokmomkmgcaaGreatDoor.he
namespace Go.Proofs.YtmbgokmomkmgcaaGreatDoor.he
open Go.RowKit Go.Proofs.YtmbgokmomkmgcaaGreatDoor.fa
set_option maxRecDepth 20000
def sl:Value→Nat→Nat→Value
 |.slice ao _ cap,l,h=>sliced ao l h cap 1
 |_,_,_=>undef
theorem sl_byt {w:World} {v:Value} {xs:List Int} (hb:Byt w v xs) (l h:Nat) (hl:l≤h) (hh:h≤xs.length):Byt w (sl v l h) ((xs.take h).drop l):=by
 obtain ⟨ao,cap,rfl,hc,hb'⟩:=byt_cut hb l h hl hh
 exact hb'
theorem sl_to {w:World} {v:Value} {xs:List Int} (hb:Byt w v xs) (h:Nat) (hh:h≤xs.length):Byt w (sl v 0 h) (xs.take h):=by
 have:=sl_byt hb 0 h (Nat.zero_le _) hh
 rwa [List.drop_zero] at this
theorem sl_from {w:World} {v:Value} {xs:List Int} (hb:Byt w v xs) (l:Nat) (hl:l≤xs.length):Byt w (sl v l xs.length) (xs.drop l):=by
 have:=sl_byt hb l xs.length hl (Nat.le_refl _)
 rwa [List.take_length] at this
theorem sl_sub {w:World} {v:Value} {xs:List Int} (hb:Byt w v xs) (l h:Nat) (hl:l≤h) (hh:h≤xs.length):Byt w (sl v l h) (sub xs l h):=sl_byt hb l h hl hh
theorem byt_form {w:World} {v:Value} {xs:List Int} {n:Nat} (h:Byt w v xs) (hn:xs.length=n):∃ ao cap,v=.slice ao n cap:=by
 obtain ⟨ao,cap,e, -⟩:=h
 rw [hn] at e
 exact ⟨ao,cap,e⟩
theorem byt_drawn {w:World} {v:Value} {xs:List Int} (h:Byt w v xs) (m:Nat):Byt (w.drewN m) v xs:=h
theorem below_drawn {B:Nat} {w w':World} (h:Below B w w') (m:Nat):Below B w (w'.drewN m):=⟨h.os,h.tape,h.output,h.size,fun k hk=>h.block k hk⟩
section
variable {ev:Operand→Value} {o:Oper}
theorem exec_to (s x:Operand) (hop:o.op=Op.slice 26 s none (some x) none) (v:Value) (xs:List Int) (w0:World) (hb:Byt w0 v xs) (h:Nat) (hs:ev s=v) (hx:ev x=.int .i64 (h:Int)) (hh:h≤xs.length) (w:World):(execOp ev o).run Tryz.prog w=.ok (.value (sl v 0 h)) w:=by
 obtain ⟨ao,cap,rfl,hc, -⟩:=byt_cut hb 0 h (Nat.zero_le _) hh
 have hrun:=run_slice_h (P:=Tryz.prog) w 26 ao xs.length cap und_bytes .i64 (h:Int) (by omega) (by omega)
 rw [elem_bytes,run_size_u8] at hrun
 simp [execOp,hop,hs,hx,run_sliceAt_slice w 26 _ _ _ _ und_bytes,hrun,Result.andThen,sl]
theorem exec_part (s x y:Operand) (hop:o.op=Op.slice 26 s (some x) (some y) none) (v:Value) (xs:List Int) (w0:World) (hb:Byt w0 v xs) (l h:Nat) (hs:ev s=v) (hx:ev x=.int .i64 (l:Int)) (hy:ev y=.int .i64 (h:Int)) (hl:l≤h) (hh:h≤xs.length) (w:World):(execOp ev o).run Tryz.prog w=.ok (.value (sl v l h)) w:=by
 obtain ⟨ao,cap,rfl,hc, -⟩:=byt_cut hb l h hl hh
 have hrun:=run_slice_lh (P:=Tryz.prog) w 26 ao xs.length cap und_bytes .i64 .i64 (l:Int) (h:Int) (by omega) (by omega) (by omega)
 rw [elem_bytes,run_size_u8] at hrun
 simp [execOp,hop,hs,hx,hy,run_sliceAt_slice w 26 _ _ _ _ und_bytes,hrun,Result.andThen,sl]
theorem exec_from (s x:Operand) (hop:o.op=Op.slice 26 s (some x) none none) (v:Value) (xs:List Int) (w0:World) (hb:Byt w0 v xs) (l n:Nat) (hs:ev s=v) (hx:ev x=.int .i64 (l:Int)) (hn:xs.length=n) (hl:l≤n) (w:World):(execOp ev o).run Tryz.prog w=.ok (.value (sl v l n)) w:=by
 subst hn
 obtain ⟨ao,cap,rfl,hc, -⟩:=byt_cut hb l xs.length hl (Nat.le_refl _)
 have hrun:=run_slice_l (P:=Tryz.prog) w 26 ao xs.length cap und_bytes .i64 (l:Int) (by omega) (by omega)
 rw [elem_bytes,run_size_u8] at hrun
 simp [execOp,hop,hs,hx,run_sliceAt_slice w 26 _ _ _ _ und_bytes,hrun,Result.andThen,sl]
theorem exec_loadN (t:TypeId) (x:Operand) (hop:o.op=Op.load t x) (p:Value) (hx:ev x=p) (v:Value) (w:World) (hr:(Instr.loadAt t p).run Tryz.prog w=.ok v w):(execOp ev o).run Tryz.prog w=.ok (.value v) w:=by
 unfold execOp
 simp only [hop,hx,Sem.run_bind,Result.andThen_ok,hr]
 rfl
end
section
variable {ops:Array Oper} {o:Oper} {a:Act} {Q:Exit→Act→World→Prop} {K:Act→World→Prop} {E:Prop}
theorem step_callW (w:World) (hw:Region.wanted o (yielded ops a.tmps)=true) (d:Option Tmp) (hd:o.dst=d) (f:FuncId) (args:Array Operand) (ats:Array TypeId) (hop:o.op=.call {callee:=.value (.func f),args:=args,argTypes:=ats})
  (hcf:∀ (q:Array Value) (w:World),(callFunc f q).run Tryz.prog w=.ok (.enter f q) w) (vs:Array Value) (hx:args.map a.eval=vs) (R:Value→World→Prop) (hc:Calls Tryz.prog f vs w fun e w'=>∃ v,e=.returned v∧R v w') (hK:∀ v w',R v w'→K (a.put d v) w'):if Region.wanted o (yielded ops a.tmps)=true then Oper.wp Tryz.prog o a w K Q else E:=by
 rw [if_pos hw]
 subst hd
 subst hx
 unfold Oper.wp
 simp only [execOp,hop]
 go_simp
 refine hc.mono ?_
 rintro e w' ⟨v,rfl,hr⟩
 exact hK v w' hr
theorem step_nil (w:World) (hg:o.guard=none) (d:Option Tmp) (hd:o.dst=d) (hop:o.op=Op.buildSlice 26 0 #[])
  (hK:∀ v w',Own w.heap.size w' v []→Below w.heap.size w w'→K (a.put d v) w'):if Region.wanted o (yielded ops a.tmps)=true then Oper.wp Tryz.prog o a w K Q else E:=by
 have hw:Region.wanted o (yielded ops a.tmps)=true:=by simp [Region.wanted,hg]
 rw [if_pos hw]
 subst hd
 have hrun:(Instr.buildSlice 26 0 #[]).run Tryz.prog w=.ok (.slice (some ⟨w.heap.size,0,none⟩) 0 0) (w.alloc (.cells #[] 5)):=by kernel_rfl
 unfold Oper.wp execOp
 simp only [hop,List.map_toArray,List.map_nil,Sem.run_bind,Sem.run_pure,Result.andThen_ok,hrun]
 exact hK _ _ (Own.empty w (Nat.le_refl _)) ((Below.refl _ _).alloc (Nat.le_refl _) _)
theorem step_pushs (w:World) (hg:o.guard=none) (d:Option Tmp) (hd:o.dst=d) (s x:Operand) (hop:o.op=.call {callee:=.builtin .append,args:=#[s,x],argTypes:=#[26,26]})
  (B:Nat) (hB:B≤w.heap.size) (v vy:Value) (xs ys:List Int) (hs:a.eval s=v) (hx:a.eval x=vy) (hown:Own B w v xs) (hy:Byt w vy ys) (hn:xs.length≤1099511627776) (hm:ys.length≤1099511627776)
  (hK:∀ v' w',Own B w' v' (xs ++ ys)→Below B w w'→K (a.put d v') w'):if Region.wanted o (yielded ops a.tmps)=true then Oper.wp Tryz.prog o a w K Q else E:=by
 have hw:Region.wanted o (yielded ops a.tmps)=true:=by simp [Region.wanted,hg]
 rw [if_pos hw]
 subst hd
 obtain ⟨i0,hi,hz0,hz1,hz2⟩:=info_parts info_u8
 obtain ⟨ao,cap,rfl,h1,h2,h3,h4,h5⟩:=hy
 cases ao with
 |none=>
  have hc:=h4 rfl
  subst hc
  have:ys= []:=List.eq_nil_of_length_eq_zero (by omega)
  subst this
  have hrun:=run_append_owned_none (P:=Tryz.prog) (w:=w) B 26 o.type 5 i0 1 Tryz.underlying26 hi v xs.length _ hown
  have hx':a.eval x=.slice none 0 0:=hx
  unfold Oper.wp
  simp [execOp,hop,resolve,invoke,builtin,hs,hx',hrun,Result.andThen]
  refine hK v w ?_ (Below.refl _ _)
  rwa [List.append_nil]
 |some ad=>
  refine wp_append_own _ s x 26 hop B 5 i0 (.int .u8 0) 1 1 Tryz.underlying26 hi hz0 hz1 hz2 rfl (by decide) v xs.length _ hs hown ad ys.length cap (ys.map (Value.int .u8)) hx (by simp) ?_ ?_ (by simp only [maxLen];omega) (by omega) hB fun v' w' h1 h2 _=>?_
  ·intro j u hj
   have hjl:j<ys.length:=by have:=(List.getElem?_eq_some_iff.1 hj).1;simpa using this
   obtain ⟨b,off,e,hc⟩:=h5 (by omega)
   cases e
   rw [Addr.add_mid,hc j hjl,←hj]
   simp [gb,List.getD,hjl]
  ·intro u hu
   simp only [List.mem_map] at hu
   obtain ⟨y,_,rfl⟩:=hu
   rfl
  ·refine hK v' w' ?_ ?_
   ·show w'.ownsRow B 5 1 v' (xs ++ ys).length ((xs ++ ys).map (Value.int .u8))
    simpa using h1
   ·exact (Below.refl B w).grown h2 hB fun k hk=>(World.ownsRow.lt hown k hk).1
theorem step_newC (w:World) (hg:o.guard=none) (d:Option Tmp) (hd:o.dst=d) (t:TypeId) (hop:o.op=Op.alloc t) (cs:List Value) (hz:(Tryz.prog.info? t).map (fun i=>(i.zero,i.size))=some (some (.agg cs.toArray),cs.length))
  (hK:∀ w',Vr w' w.heap.size cs→Below w.heap.size w w'→w.heap.size<w'.heap.size→K (a.put d (.pointer (some ⟨w.heap.size,0,none⟩))) w'):if Region.wanted o (yielded ops a.tmps)=true then Oper.wp Tryz.prog o a w K Q else E:=by
 have hw:Region.wanted o (yielded ops a.tmps)=true:=by simp [Region.wanted,hg]
 rw [if_pos hw]
 subst hd
 have hz':=(zero_of_info hz).1
 unfold Oper.wp
 simp [execOp,hop,Instr.alloc,hz',newVar,newRow,Value.cells,Result.andThen]
 exact hK _ (Vr.new w t cs) ((Below.refl _ _).alloc (Nat.le_refl _) _) (by simp)
theorem step_storeC (w:World) (hg:o.guard=none) (d:Option Tmp) (hd:o.dst=d) (x y:Operand) (t:TypeId) (hop:o.op=Op.store t x y) (c:Nat) (cs0 cs:List Value) (hx:a.eval x=.pointer (some ⟨c,0,none⟩)) (hy:a.eval y=.agg cs.toArray) (hV:Vr w c cs0) (hl:cs0.length=cs.length) (hs:(Tryz.prog.info? t).map (·.size)=some cs.length) (h1:∀ v ∈ cs,v.oneCell'=true)
  (hK:∀ w',Vr w' c cs→Below c w w'→K (a.put d undef) w'):if Region.wanted o (yielded ops a.tmps)=true then Oper.wp Tryz.prog o a w K Q else E:=by
 have hw:Region.wanted o (yielded ops a.tmps)=true:=by simp [Region.wanted,hg]
 rw [if_pos hw]
 subst hd
 have ht:w.there c 0 cs.length:=by rw [←hl];exact hV.2
 refine wp_store_mid t x y hop c 0 cs.toArray hx hy (by simpa using ht) (by simpa using hs) (all_oneCell_toArray h1) ?_
 exact hK _ ⟨World.rangeAt_setCells_same w c 0 cs ht,World.there_setCells ht c 0 _⟩ (below_cells _ (Nat.le_refl _) _ _ (Below.refl _ _))
end
end Go.Proofs.YtmbgokmomkmgcaaGreatDoor.he
namespace Go.Proofs.YtmbgokmomkmgcaaGreatDoor.he
open Go.RowKit Go.Proofs.YtmbgokmomkmgcaaGreatDoor.fa
set_option maxRecDepth 20000
theorem whole_any (v:Value) (xs:List Int) (w:World) (hb:Byt w v xs) (hl:xs.length=88):
  Calls Tryz.prog 120 #[v] w fun x w'=>x=.returned (.bool (decide (inv (sub xs 0 24)=sub xs 24 48)))∧Below w.heap.size w w':=by
 have HB:=hdH (hb)
 obtain ⟨ao,cap,hv⟩:=byt_form hb hl
 subst hv
 have HL:=hdH (hl)
 clear hb hl
 generalize hZ:inv (sub xs 0 24)=Z
 have HZ:=hdH (hZ)
 clear hZ
 go_enter Tryz.func120,Tryz.ntmps120
 go_wp2
 refine wp_region_held_drew (S:=fun w'=>Below w.heap.size w w') (by kernel_rfl) (Below.refl _ _).drew (fun hS=>?_)
 obtain ⟨x1,hx0⟩:∃ x,x=w.drew:=⟨_,rfl⟩
 rw [←hx0] at hS ⊢
 clear hx0
 refine tkH 0 (some 3) (.slice ao 88 cap) rfl rfl (Or.inl ⟨by rfl,fun w' hw'=>by rfl⟩) hS ?_
 simp only [Act.put,zE1,zE2,zE3]
 refine tkH 1 (some 4) (sl (.slice ao 88 cap) 0 24) rfl rfl (Or.inl ⟨by rfl,fun w' hw'=>by exact exec_to (.tmp 3) (.const (.int .i64 24)) rfl _ xs _ HB.out 24 rfl rfl (by have:=HL.out;omega) _⟩) hS ?_
 simp only [Act.put,zE1,zE2,zE3]
 refine tkH 3 (some 6) (.slice ao 88 cap) rfl rfl (Or.inl ⟨by rfl,fun w' hw'=>by rfl⟩) hS ?_
 simp only [Act.put,zE1,zE2,zE3]
 refine tkH 4 (some 7) (sl (.slice ao 88 cap) 24 48) rfl rfl (Or.inl ⟨by rfl,fun w' hw'=>by exact exec_part (.tmp 6) (.const (.int .i64 24)) (.const (.int .i64 48)) rfl _ xs _ HB.out 24 48 rfl rfl rfl (by omega) (by have:=HL.out;omega) _⟩) hS ?_
 simp only [Act.put,zE1,zE2,zE3]
 refine wpAnyH_ready (rs:=[2]) (by kernel_rfl) (by simp) ?_
 refine AllReadyH.cons rfl (fun K hK=>?_) AllReadyH.nil
 refine step_callW _ (by rfl) (some 5) rfl 149 #[.tmp 4] #[26] rfl (fun q w'=>by rfl) #[sl (.slice ao 88 cap) 0 24] (by simp only [List.map_toArray,List.map_cons,List.map_nil];rfl) (fun u w'=>Byt w' u Z∧Below x1.heap.size x1 w') ?_ ?_
 ·exact (invert_any _ _ x1 (sl_sub (HB.out.below hS) 0 24 (by omega) (by have:=HL.out;omega)) (by rw [sub_len _ _ _ (by have:=HL.out;omega)];omega)).mono fun e w' ⟨u,h1,h2,h3⟩=>⟨u,h1,by rw [HZ.out] at h2;exact h2,h3⟩
 rintro u1 x2 ⟨y1,hb⟩
 have Y1:=hdH (y1)
 clear y1
 have hS:Below w.heap.size w x2:=hS.trans (hb.mono hS.size)
 clear hb
 refine hK.out _ _ hS (fun _=>?_)
 simp only [Act.put,zE1,zE2,zE3]
 clear hK K
 refine wpAnyH_ready (rs:=[5]) (by kernel_rfl) (by simp) ?_
 refine AllReadyH.cons rfl (fun K hK=>?_) AllReadyH.nil
 refine step_callW _ (by rfl) (some 8) rfl 122 #[.tmp 5,.tmp 7] #[26,26] rfl (fun q w'=>by rfl) #[u1,sl (.slice ao 88 cap) 24 48] (by simp only [List.map_toArray,List.map_cons,List.map_nil];rfl) (fun u w'=>u=.bool (decide (Z=sub xs 24 48))∧Below x2.heap.size x2 w') ?_ ?_
 ·exact (oSame_any _ _ _ _ x2 Y1.out (sl_sub (HB.out.below hS) 24 48 (by omega) (by have:=HL.out;omega))).mono fun e w' ⟨h1,n,h2⟩=>⟨_,h1,rfl,by rw [h2];exact below_drawn (Below.refl _ _) n⟩
 rintro _ x3 ⟨rfl,hb⟩
 have hS:Below w.heap.size w x3:=hS.trans (hb.mono hS.size)
 clear hb
 refine hK.out _ _ hS (fun _=>?_)
 simp only [Act.put,zE1,zE2,zE3]
 clear hK K
 refine tkH 6 (some 2) (.bool (decide (Z=sub xs 24 48))) rfl rfl (Or.inl ⟨by rfl,fun w' hw'=>by rfl⟩) hS ?_
 simp only [Act.put,zE1,zE2,zE3]
 refine wpAnyH_done (by kernel_rfl) ?_ _
 go_wp2
 go_ret
 exact ⟨rfl,hS⟩
theorem comm_yes (v:Value) (xs:List Int) (w:World) (hb:Byt w v xs) (hl:xs.length=88):
  Calls Tryz.prog 82 #[v] w fun x w'=>x=.returned (.bool (decide (xs.drop 80=List.replicate 8 0)))∧Below w.heap.size w w':=by
 have HB:=hdH (hb)
 obtain ⟨ao,cap,hv⟩:=byt_form hb hl
 subst hv
 have HL:=hdH (hl)
 clear hb hl
 have SF:Hid (∀ w,Calls Tryz.prog 123 #[.int .u8 0,.int .i64 8] w fun e w'=>∃ v,e=.returned v∧Byt w' v (List.replicate 8 0)∧Below w.heap.size w w'):=fun w=>by
  have:=fill_any 0 8 w (by omega)
  rw [show clamp 8 65536=8 by decide] at this
  exact this
 have HD:Hid (∀ w',Byt w' (.slice ao 88 cap) xs→Byt w' (sl (.slice ao 88 cap) 80 88) (xs.drop 80)):=fun w' h=>by
  have:=sl_from h 80 (by have:=HL.out;omega)
  rw [HL.out] at this
  exact this
 generalize List.replicate 8 (0 :Int)=Z at*
 generalize xs.drop 80=D at*
 go_enter Tryz.func82,Tryz.ntmps82
 go_wp2
 refine wp_region_held_drew (S:=fun w'=>Below w.heap.size w w') (by kernel_rfl) (Below.refl _ _).drew (fun hS=>?_)
 obtain ⟨x1,hx0⟩:∃ x,x=w.drew:=⟨_,rfl⟩
 rw [←hx0] at hS ⊢
 clear hx0
 refine tkH 0 (some 3) (.slice ao 88 cap) rfl rfl (Or.inl ⟨by rfl,fun w' hw'=>by rfl⟩) hS ?_
 simp only [Act.put,zE1,zE2,zE3]
 refine tkH 1 (some 4) (.int .i64 88) rfl rfl (Or.inl ⟨by rfl,fun w' hw'=>by go_simp⟩) hS ?_
 simp only [Act.put,zE1,zE2,zE3]
 refine tkH 2 (some 5) (.bool true) rfl rfl (Or.inl ⟨by rfl,fun w' hw'=>by go_simp⟩) hS ?_
 simp only [Act.put,zE1,zE2,zE3]
 refine tkH 3 (some 6) (.bool true) rfl rfl (Or.inl ⟨by rfl,fun w' hw'=>by rfl⟩) hS ?_
 simp only [Act.put,zE1,zE2,zE3]
 refine tkH 4 (some 7) (.slice ao 88 cap) rfl rfl (Or.inl ⟨by rfl,fun w' hw'=>by rfl⟩) hS ?_
 simp only [Act.put,zE1,zE2,zE3]
 refine tkH 5 (some 8) (sl (.slice ao 88 cap) 80 88) rfl rfl (Or.inl ⟨by rfl,fun w' hw'=>by exact exec_from (.tmp 7) (.const (.int .i64 80)) rfl _ xs _ HB.out 80 88 rfl rfl HL.out (by omega) _⟩) hS ?_
 simp only [Act.put,zE1,zE2,zE3]
 refine wpAnyH_ready (rs:=[6]) (by kernel_rfl) (by simp) ?_
 refine AllReadyH.cons rfl (fun K hK=>?_) AllReadyH.nil
 refine step_callW _ (by rfl) (some 9) rfl 123 #[.const (.int .u8 0),.const (.int .i64 8)] #[5,3] rfl (fun q w'=>by rfl) #[.int .u8 0,.int .i64 8] (by simp only [List.map_toArray,List.map_cons,List.map_nil];rfl) (fun u w'=>Byt w' u Z∧Below x1.heap.size x1 w') ?_ ?_
 ·exact SF.out x1
 rintro u1 x2 ⟨y1,hb⟩
 have Y1:=hdH (y1)
 clear y1
 have hS:Below w.heap.size w x2:=hS.trans (hb.mono hS.size)
 clear hb
 refine hK.out _ _ hS (fun _=>?_)
 simp only [Act.put,zE1,zE2,zE3]
 clear hK K
 refine wpAnyH_ready (rs:=[7]) (by kernel_rfl) (by simp) ?_
 refine AllReadyH.cons rfl (fun K hK=>?_) AllReadyH.nil
 refine step_callW _ (by rfl) (some 10) rfl 122 #[.tmp 8,.tmp 9] #[26,26] rfl (fun q w'=>by rfl) #[sl (.slice ao 88 cap) 80 88,u1] (by simp only [List.map_toArray,List.map_cons,List.map_nil];rfl) (fun u w'=>u=.bool (decide (D=Z))∧Below x2.heap.size x2 w') ?_ ?_
 ·exact (oSame_any _ _ _ _ x2 (HD.out _ (HB.out.below hS)) Y1.out).mono fun e w' ⟨h1,n,h2⟩=>⟨_,h1,rfl,by rw [h2];exact below_drawn (Below.refl _ _) n⟩
 rintro _ x3 ⟨rfl,hb⟩
 have hS:Below w.heap.size w x3:=hS.trans (hb.mono hS.size)
 clear hb
 refine hK.out _ _ hS (fun _=>?_)
 simp only [Act.put,zE1,zE2,zE3]
 clear hK K
 refine tkH 8 (some 11) (.bool (decide (D=Z))) rfl rfl (Or.inl ⟨by rfl,fun w' hw'=>by rfl⟩) hS ?_
 simp only [Act.put,zE1,zE2,zE3]
 refine tkH 9 (some 2) (.bool (decide (D=Z))) rfl rfl (Or.inl ⟨by rfl,fun w' hw'=>by rfl⟩) hS ?_
 simp only [Act.put,zE1,zE2,zE3]
 refine wpAnyH_done (by kernel_rfl) ?_ _
 go_wp2
 go_ret
 exact ⟨rfl,hS⟩
theorem rcomm_any (v:Value) (xs:List Int) (w:World) (hb:Byt w v xs) (hl:xs.length=88):
  Calls Tryz.prog 84 #[v] w fun x w'=>x=.returned (.bool (decide (xs.drop 80=List.replicate 8 0)))∧Below w.heap.size w w':=by
 have HB:=hdH (hb)
 obtain ⟨ao,cap,hv⟩:=byt_form hb hl
 subst hv
 have HL:=hdH (hl)
 clear hb hl
 have SF:Hid (∀ w,Calls Tryz.prog 89 #[.int .u8 0,.int .i64 8] w fun e w'=>∃ v,e=.returned v∧Byt w' v (List.replicate 8 0)∧Below w.heap.size w w'):=fun w=>by
  have:=rfill_any 0 8 w (by omega)
  rw [show clamp 8 65536=8 by decide] at this
  exact this
 have HD:Hid (∀ w',Byt w' (.slice ao 88 cap) xs→Byt w' (sl (.slice ao 88 cap) 80 88) (xs.drop 80)):=fun w' h=>by
  have:=sl_from h 80 (by have:=HL.out;omega)
  rw [HL.out] at this
  exact this
 generalize List.replicate 8 (0 :Int)=Z at*
 generalize xs.drop 80=D at*
 go_enter Tryz.func84,Tryz.ntmps84
 go_wp2
 refine wp_region_held_drew (S:=fun w'=>Below w.heap.size w w') (by kernel_rfl) (Below.refl _ _).drew (fun hS=>?_)
 obtain ⟨x1,hx0⟩:∃ x,x=w.drew:=⟨_,rfl⟩
 rw [←hx0] at hS ⊢
 clear hx0
 refine tkH 0 (some 3) (.slice ao 88 cap) rfl rfl (Or.inl ⟨by rfl,fun w' hw'=>by rfl⟩) hS ?_
 simp only [Act.put,zE1,zE2,zE3]
 refine tkH 1 (some 4) (sl (.slice ao 88 cap) 80 88) rfl rfl (Or.inl ⟨by rfl,fun w' hw'=>by exact exec_from (.tmp 3) (.const (.int .i64 80)) rfl _ xs _ HB.out 80 88 rfl rfl HL.out (by omega) _⟩) hS ?_
 simp only [Act.put,zE1,zE2,zE3]
 refine wpAnyH_ready (rs:=[2]) (by kernel_rfl) (by simp) ?_
 refine AllReadyH.cons rfl (fun K hK=>?_) AllReadyH.nil
 refine step_callW _ (by rfl) (some 5) rfl 89 #[.const (.int .u8 0),.const (.int .i64 8)] #[5,3] rfl (fun q w'=>by rfl) #[.int .u8 0,.int .i64 8] (by simp only [List.map_toArray,List.map_cons,List.map_nil];rfl) (fun u w'=>Byt w' u Z∧Below x1.heap.size x1 w') ?_ ?_
 ·exact SF.out x1
 rintro u1 x2 ⟨y1,hb⟩
 have Y1:=hdH (y1)
 clear y1
 have hS:Below w.heap.size w x2:=hS.trans (hb.mono hS.size)
 clear hb
 refine hK.out _ _ hS (fun _=>?_)
 simp only [Act.put,zE1,zE2,zE3]
 clear hK K
 refine wpAnyH_ready (rs:=[3]) (by kernel_rfl) (by simp) ?_
 refine AllReadyH.cons rfl (fun K hK=>?_) AllReadyH.nil
 refine step_callW _ (by rfl) (some 6) rfl 125 #[.tmp 4,.tmp 5] #[26,26] rfl (fun q w'=>by rfl) #[sl (.slice ao 88 cap) 80 88,u1] (by simp only [List.map_toArray,List.map_cons,List.map_nil];rfl) (fun u w'=>u=.bool (decide (D=Z))∧Below x2.heap.size x2 w') ?_ ?_
 ·exact (same_any x2 _ _ _ _ (HD.out _ (HB.out.below hS)) Y1.out).mono fun e w' ⟨h1,n,h2⟩=>⟨_,h1,rfl,by rw [h2];exact below_drawn (Below.refl _ _) n⟩
 rintro _ x3 ⟨rfl,hb⟩
 have hS:Below w.heap.size w x3:=hS.trans (hb.mono hS.size)
 clear hb
 refine hK.out _ _ hS (fun _=>?_)
 simp only [Act.put,zE1,zE2,zE3]
 clear hK K
 refine tkH 4 (some 2) (.bool (decide (D=Z))) rfl rfl (Or.inl ⟨by rfl,fun w' hw'=>by rfl⟩) hS ?_
 simp only [Act.put,zE1,zE2,zE3]
 refine wpAnyH_done (by kernel_rfl) ?_ _
 go_wp2
 go_ret
 exact ⟨rfl,hS⟩
def tgo (tag:List Int):List Int:=if tag.length=0 then List.replicate 32 255 else tag
theorem tgo_len {tag:List Int} (h:tag.length=0∨tag.length=32):(tgo tag).length =32:=by
 unfold tgo
 split
 ·simp
 ·omega
theorem tgo_all {tag:List Int} (h:AllB tag):AllB (tgo tag):=by
 unfold tgo
 split
 ·exact allB_replicate 255 32 (by omega)
 ·exact h
end Go.Proofs.YtmbgokmomkmgcaaGreatDoor.he
namespace Go.Proofs.YtmbgokmomkmgcaaGreatDoor.le
open Go.RowKit Go.Proofs.YtmbgokmomkmgcaaGreatDoor.he
set_option maxRecDepth 20000
theorem at_yes (c d n k:Nat) (f:Nat→Bk) (w:World) (h:Led w c d n f) (hk:k<n):Calls Tryz.prog 20 #[pt c,.int .i64 k] w fun e w'=>e=.returned (.agg (f k).cs.toArray)∧Below w.heap.size w w':=by
 have S:Hid (∀ w1,Below w.heap.size w w1→Calls Tryz.prog 51 #[pt c,.int .i64 k] w1 fun e w'=>e=.returned (.bool true)∧w'=w1):=fun w1 hw=>has_any (pt c) n f w1 k (.inr ⟨c,d,rfl,h.below hw⟩) true (decide_eq_true (by omega)).symm
 have HL:=hdH (h)
 have k0:(0 :Int)≤(k:Int):=by omega
 have k1:(k:Int)<(n:Int):=by omega
 clear h
 have t0:=tR
 go_enter Tryz.func20,Tryz.ntmps20
 go_wp2_with (first
  |(have qq:=t2;(with_reducible refine at_store ?_);refine store_lawC _ (f k).cs w.heap.size 0 rfl rfl V1.out.2 size_lblk (f k).one ?_;intro w6 E6 R6 T6 B6;have HR:=hdH (R6);have BB:Hid (Below w.heap.size w w6):=B1.trans B6;clear E6 R6 T6 B6 t2)
  |(have qq:=t1;go_at_call 51;refine (S.out w1 B1).mono ?_;rintro e9 w9 ⟨rfl,hw⟩;obtain rfl:=hw.symm;clear t1;have t2:=tR)
  |(have qq:=t0;(with_reducible refine at_alloc ?_);refine new_lawC _ b0.cs zero_lblk ?_;intro w1 X1 B1 l1;have V1:=hdH (X1);have c0:=(HL.out.below B1).cell;have nn:=nine ((HL.out.below B1).2.1 k hk).1;clear X1 t0;have t1:=tR))
 exact bodyPost_ret (v:=.agg (f k).cs.toArray) (results_c rfl _ _ w.heap.size _ rowy_lblk rfl HR.out) rfl ⟨rfl,BB.out⟩
theorem owner_un (w:World):Calls Tryz.prog 112 #[.int .i64 (-1)] w fun e w'=>e=.returned (.bool true)∧w'=w:=by
 have S:Hid (∀ w,Calls Tryz.prog 147 #[.int .i64 (-1)] w fun e w'=>e=.returned (.bool false)∧w'=w):=fun w=>ns_any (-1) w false (decide_eq_false (by omega)).symm
 go_enter Tryz.func112,Tryz.ntmps112
 go_wp2_with (go_at_call 147;refine (S.out _).mono ?_;rintro e9 w9 ⟨rfl,hw⟩;obtain rfl:=hw.symm)
 go_ret
 exact ⟨rfl,rfl⟩
theorem heap_cellsM (d:Nat):∀ (vs:List Value) (o:Nat) (w:World) (k:Nat),k≠d→(w.setCells d o vs).heap[k]? =w.heap[k]?
 |[],_,_,_,_=>rfl
 |v :: r,o,w,k,h=>(heap_cellsM d r (o+1) (w.setCell ⟨d,o,none⟩ v) k h).trans (Below.heap_setCell w ⟨d,o,none⟩ v k h)
theorem wrt_cellsM (w:World) (d q:Nat) (y:Bk):Wrt d q w (w.setCells d q y.cs):=by
 have hb:=below_cells (B:=0) d (Nat.zero_le _) y.cs q (Below.refl 0 w)
 refine ⟨⟨hb.os,hb.tape,hb.output,hb.size,fun k _ hr=>heap_cellsM d y.cs q w k (fun e=>hr (by rw [e]))⟩,fun j hj=>⟨?_,World.frozen?_setCells ..⟩⟩
 exact World.cell?_setCells_out d y.cs q w ⟨d,j,none⟩ (fun _ _=>by show j<q∨q+9≤j;exact hj)
theorem set1_any (d q b:Nat) (x y:Bk) (w:World) (hx:At w d q x.cs) (hy:Vr w b y.cs):Calls Tryz.prog 114 #[.pointer (some ⟨d,q,none⟩),pt b] w fun e w'=>e=.returned (.tuple #[])∧At w' d q y.cs∧Wrt d q w w':=by
 have HX:=hdH (hx)
 have HY:=hdH (hy)
 clear hx hy
 have t0:=tR
 go_enter Tryz.func114,Tryz.ntmps114
 go_wp2_with (first
  |(have q1:=t1;(with_reducible refine at_store ?_);refine store_lawC _ y.cs d q rfl rfl (by have z:=HX.out.2;exact z) (by exact size_lblk) y.one ?_;intro w2 E9 R9 T9 B9;have HA:Hid (At w2 d q y.cs):=⟨R9,T9⟩;have e9:=E9.out;subst e9;have HW:=hdE (wrt_cellsM w d q y);clear E9 R9 T9 B9 t1)
  |(have q0:=t0;refine load_lawC _ rfl y.cs b 0 rfl HY.out.1 rowy_lblk ?_;clear t0;have t1:=tR))
 refine bodyPost_end (v:=.tuple #[]) (results_none rfl _ _ _) rfl ⟨rfl,?_,?_⟩
 ·exact HA.out
 ·exact HW.out
theorem set_un (c d n k:Nat) (f:Nat→Bk) (w:World) (h:Led w c d n f) (hk:k<n):Calls Tryz.prog 73 #[pt c,.int .i64 k,.agg bn.cs.toArray] w fun e w'=>e=.returned (.int .i64 0)∧Led w' c d n (up f k bn)∧w.grownBy w' (some d):=by
 have S:Hid (∀ w1,Below w.heap.size w w1→Vr w1 w.heap.size bn.cs→Calls Tryz.prog 113 #[pt c,.int .i64 k,.func (.func 114) #[] #[pt w.heap.size]] w1 fun e w'=>e=.returned (.int .i64 0)∧Led w' c d n (up f k bn)∧w1.grownBy w' (some d)):=fun w1 hb hv=>
  change_yes c d n k f w1 (h.below hb) hk _ 114 #[pt w.heap.size] (fun _ _=>rfl) (set1_any d (k*9) w.heap.size (f k) bn w1 ((h.below hb).2.1 k hk) hv)
 have hmf:∀ (fn:Fn) (first cap:Array Value) (w:World),(Instr.makeFunc fn first cap).run Tryz.prog w=.ok (.func fn first cap) w:=fun _ _ _ _=>rfl
 clear h
 have t0:=tR
 go_enter Tryz.func73,Tryz.ntmps73
 go_wp2_with (first
  |(have qq:=t1;go_at_call 113;refine (S.out w1 B1 V1.out).mono ?_;rintro e w3 ⟨rfl,L3,G3⟩;clear t1)
  |(go_at_call 112;refine (owner_un _).mono ?_;rintro e w9 ⟨rfl,hw⟩;obtain rfl:=hw.symm)
  |(have qq:=t0;refine box_lawC _ bn.cs rfl ?_;intro w1 X1 B1 l1;have c1:=X1.cell 0 _ rfl;have V1:=hdH (X1);clear X1 t0;have t1:=tR))
 go_ret
 exact ⟨rfl,L3,grown_trans (grown_below B1) G3⟩
theorem up_bn (k:Nat):up (fun _=>bn) k bn=fun _=>bn:=funext fun i=>by unfold up;split <;> rfl
end Go.Proofs.YtmbgokmomkmgcaaGreatDoor.le
