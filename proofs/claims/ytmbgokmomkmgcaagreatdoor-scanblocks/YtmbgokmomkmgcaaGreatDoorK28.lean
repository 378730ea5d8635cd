/- Parts of the proof: what ScanBlocks reaches. No claim of its own. -/
import Derived.Lib.MakeNoZero
import Derived.Laws.AppendOwnNone
import Derived.Deep.DeepCutAuto
import Derived.ArgAppend
import Derived.WalkKit
import Derived.WalkSmall
import Derived.ProofKit
import Derived.OpenShut
import Derived.BigQuiet
import Derived.Deep.QuietTactic
import Derived.Deep.RegionHeld3
import Derived.Lib.SliceRun
import Derived.Deep.WholeRow
import Derived.Deep.MidRow
import Derived.Laws.StructEq
import Derived.OwnWalk
import Derived.Lib.AppendZeros
import Derived.Deep.DeepHandedRow
import Derived.Lib.LaidTab
import Derived.Deep.Matrix
import Derived.Test.YtmbgokmomkmgcaaGreatDoorK00
import Derived.Test.YtmbgokmomkmgcaaGreatDoorK01
import Derived.Test.YtmbgokmomkmgcaaGreatDoorK02
import Derived.Test.YtmbgokmomkmgcaaGreatDoorK03
import Derived.Test.YtmbgokmomkmgcaaGreatDoorK04
import Derived.Test.YtmbgokmomkmgcaaGreatDoorK05
import Derived.Test.YtmbgokmomkmgcaaGreatDoorK06
import Derived.Test.YtmbgokmomkmgcaaGreatDoorK07
import Derived.Test.YtmbgokmomkmgcaaGreatDoorK08
import Derived.Test.YtmbgokmomkmgcaaGreatDoorK09
import Derived.Test.YtmbgokmomkmgcaaGreatDoorK10
import Derived.Test.YtmbgokmomkmgcaaGreatDoorK11
import Derived.Test.YtmbgokmomkmgcaaGreatDoorK12
import Derived.Test.YtmbgokmomkmgcaaGreatDoorK13
import Derived.Test.YtmbgokmomkmgcaaGreatDoorK14
import Derived.Test.YtmbgokmomkmgcaaGreatDoorK15
import Derived.Test.YtmbgokmomkmgcaaGreatDoorK16
import Derived.Test.YtmbgokmomkmgcaaGreatDoorK18
import Derived.Test.YtmbgokmomkmgcaaGreatDoorK19
import Derived.Test.YtmbgokmomkmgcaaGreatDoorK20
import Derived.Test.YtmbgokmomkmgcaaGreatDoorK25
import Derived.Test.YtmbgokmomkmgcaaGreatDoorK26
import Derived.Test.YtmbgokmomkmgcaaGreatDoorK27
set_option maxHeartbeats 8000000
namespace Go.Proofs.YtmbgokmomkmgcaaGreatDoor.na
open Go.RowKit Go.Proofs.YtmbgokmomkmgcaaGreatDoor.fa
set_option maxRecDepth 20000
def RpgD (N P:Nat) (g2 g3 g4 g5:Int) (po:Option Addr) (pn pc n b p:Nat) (gv uv:Nat→Value) (l:Nat→Int) (s:Nat→Bool) (e:Nat→Int) (us:Nat→Int) (xv:Nat→Value) (new:List Int) (c:Bool) (cc:Int) (w:World) (x:Ending) (w':World):Prop:=∃ r rc gw uw nv,x=.returned (.tuple #[.agg (chr [(N:Int),(P:Int),g2,g3,g4,g5] (.slice (some ⟨r,0,none⟩) N rc) (.slice po pn pc) c ((n+1 :Nat):Int)).toArray,.int .i64 cc])∧OwR w.heap.size w' (.slice (some ⟨r,0,none⟩) N rc) 72 5 (bks N (at1 gv b gw) (at1 uv b uw) (at1 l b (max (l b) (p:Int))) (at1 s b false) (at1 e b (e b)))∧OwR w.heap.size w' gw 26 1 (pgc P (at1 xv p nv))∧Own w.heap.size w' nv new∧OwR w.heap.size w' uw 3 1 (usc P (at1 us p (us p+1)))∧Below w.heap.size w w'
theorem pgc_one {P:Nat} {xv:Nat→Value} (h:∀ j,j<P→(xv j).oneCell' =true):∀ u ∈ (pgc P xv).flatten,u.oneCell'=true:=fun u hu=>by
 simp only [pgc,List.mem_flatten,List.mem_map,List.mem_range] at hu
 obtain ⟨t,⟨j,hj,rfl⟩,hu⟩:=hu
 simp at hu
 subst hu
 exact h j hj
theorem usc_one {P:Nat} {us:Nat→Int}:∀ u ∈ (usc P us).flatten,u.oneCell'=true:=fun u hu=>by
 simp only [usc,List.mem_flatten,List.mem_map,List.mem_range] at hu
 obtain ⟨t,⟨j,hj,rfl⟩,hu⟩:=hu
 simp at hu
 subst hu
 rfl
theorem OwR.put1 {B:Nat} {w w':World} {g n cap:Nat} {t:TypeId} {ess:List (List Value)} {v:Value} {p:Nat} (h:OwR B w (.slice (some ⟨g,0,none⟩) n cap) t 1 ess) (hn:ess.length=n) (hp:p<n) (hw:w'=w.setCell ⟨g,p,none⟩ v):OwR B w' (.slice (some ⟨g,0,none⟩) n cap) t 1 (ess.set p [v]):=by
 have z:=h.put hn p hp [v] rfl
 rw [Nat.mul_one] at z
 rw [hw]
 exact z
theorem owr_there {B:Nat} {w:World} {g n cap:Nat} {t:TypeId} {ess:List (List Value)} {p:Nat} (h:OwR B w (.slice (some ⟨g,0,none⟩) n cap) t 1 ess) (hp:p<ess.length):(w.cell? ⟨g,p,none⟩).isSome =true∧w.frozen? ⟨g,p,none⟩=false:=by
 obtain ⟨g',cap',e,_,hr⟩:=h.row (by omega)
 cases e
 have z:=(hr p hp).2 0 (by omega)
 rw [Nat.mul_one,Nat.add_zero] at z
 exact z
theorem owr_cell {B:Nat} {w:World} {g n cap:Nat} {t:TypeId} {ess:List (List Value)} {p:Nat} {v:Value} (h:OwR B w (.slice (some ⟨g,0,none⟩) n cap) t 1 ess) (hp:p<ess.length) (he:el ess p= [v]):w.cell? ⟨g,p,none⟩=some v:=by
 obtain ⟨g',cap',e,_,hr⟩:=h.row (by omega)
 cases e
 have z:=(hr p hp).1
 rw [he,Nat.mul_one] at z
 exact z 0 _ rfl
theorem ownb_one {B:Nat} {w:World} {v:Value} {xs:List Int} (h:Own B w v xs):v.oneCell'=true:=by
 rcases h.2 with ⟨rfl, -⟩ | ⟨g,cap,cur,rfl, -⟩ <;> rfl
theorem ownb_cells {B:Nat} {w:World} {v:Value} {xs:List Int} (h:Own B w v xs):v.cells=#[v]:=by
 rcases h.2 with ⟨rfl, -⟩ | ⟨g,cap,cur,rfl, -⟩ <;> rfl
set_option linter.unusedVariables false in
theorem rpg_n0_m:
  (∀ (N P:Nat) (g2 g3 g4 g5:Int) (bq:Option Addr) (bc:Nat) (po:Option Addr) (pn pc:Nat) (S:Nat) (hs:Shp [(N:Int),(P:Int),g2,g3,g4,g5] N P S) (n b p:Nat) (hn:n≤1000000) (hb:b<N) (hp:p<P) (gv uv:Nat→Value) (l:Nat→Int) (s:Nat→Bool) (e:Nat→Int) (pb:Nat→List Int) (us:Nat→Int) (xv:Nat→Value) (vq:Option Addr) (vc:Nat) (ys:List Int) (pl:Pln) (w:World) (hR:Rws w (.slice bq N bc) 5 (bks N gv uv l s e)) (h1:∀ b,b<N→(gv b).oneCell' =true∧(uv b).oneCell' =true) (hX:Rws w (gv b) 1 (pgc P xv)) (hXb:∀ j,j<P→Byt w (xv j) (pb j)∧(pb j).length =S) (hU:Rws w (uv b) 1 (usc P us)) (hy:Byt w (.slice vq S vc) ys) (hyl:ys.length=S) (hP:Pla w (.slice po pn pc) pl) (h7:s b=false) (hpl:pl n=none) (hu:us p=0) (hlp:l b<(p:Int)),Calls Tryz.prog 55 #[.agg (chr [(N:Int),(P:Int),g2,g3,g4,g5] (.slice bq N bc) (.slice po pn pc) false (n:Int)).toArray,.agg (ints .i64 [(b:Int),(p:Int)]),.slice vq S vc] w (RpgD N P g2 g3 g4 g5 po pn pc n b p gv uv l s e us xv (andl (pb p) ys) false 0 w))∧
  (∀ (N P:Nat) (g2 g3 g4 g5:Int) (bq:Option Addr) (bc:Nat) (po:Option Addr) (pn pc:Nat) (S:Nat) (hs:Shp [(N:Int),(P:Int),g2,g3,g4,g5] N P S) (n b p:Nat) (hn:n≤1000000) (hb:b<N) (hp:p<P) (gv uv:Nat→Value) (l:Nat→Int) (s:Nat→Bool) (e:Nat→Int) (pb:Nat→List Int) (us:Nat→Int) (xv:Nat→Value) (vq:Option Addr) (vc:Nat) (ys:List Int) (pl:Pln) (w:World) (hR:Rws w (.slice bq N bc) 5 (bks N gv uv l s e)) (h1:∀ b,b<N→(gv b).oneCell' =true∧(uv b).oneCell' =true) (hX:Rws w (gv b) 1 (pgc P xv)) (hXb:∀ j,j<P→Byt w (xv j) (pb j)∧(pb j).length =S) (hU:Rws w (uv b) 1 (usc P us)) (hy:Byt w (.slice vq S vc) ys) (hyl:ys.length=S) (hP:Pla w (.slice po pn pc) pl) (h7:s b=false) (hpl:pl n=none) (hu:us p=1),Calls Tryz.prog 55 #[.agg (chr [(N:Int),(P:Int),g2,g3,g4,g5] (.slice bq N bc) (.slice po pn pc) false (n:Int)).toArray,.agg (ints .i64 [(b:Int),(p:Int)]),.slice vq S vc] w (RpgD N P g2 g3 g4 g5 po pn pc n b p gv uv l s e us xv (andl (pb p) ys) false 0 w)):=by
 refine ⟨?c0,?c1⟩
 case' c0=>intro N P g2 g3 g4 g5 bq bc po pn pc S hs n b p hn hb hp gv uv l s e pb us xv vq vc ys pl w hR h1 hX hXb hU hy hyl hP h7 hpl hu hlp;have mA:=tR
 case' c1=>intro N P g2 g3 g4 g5 bq bc po pn pc S hs n b p hn hb hp gv uv l s e pb us xv vq vc ys pl w hR h1 hX hXb hU hy hyl hP h7 hpl hu;have mB:=tR
 all_goals
  have HQS:IntKind.i64.wrap (g2+88)=(S:Int):=by
   obtain ⟨gl,hr,z0,z1,z2⟩:=hs
   obtain ⟨k1,k2,k3, -⟩:=hr.1
   have e1:gb [(N:Int),(P:Int),g2,g3,g4,g5] 2=g2:=rfl
   rw [IntKind.wrap_i64];omega
  have b0:(0 :Int)≤(b:Int):=by omega
  have b1:(b:Int)<(N:Int):=by omega
  have p0:(0 :Int)≤(p:Int):=by omega
  have p1:(p:Int)<(P:Int):=by omega
  have SR:Hid (∀ w,Calls Tryz.prog 91 #[.agg (ints .i64 [(N:Int),(P:Int),g2,g3,g4,g5]),.agg (ints .i64 [(b:Int),(p:Int)])] w fun e w'=>e=.returned (.bool true)∧Below w.heap.size w w'):=fun w=>by
   have z:=place_any [(N:Int),(P:Int),g2,g3,g4,g5] N P S hs b p w
   rw [show decide (0≤(b:Int)∧(b:Int)<(N:Int)∧0≤(p:Int)∧(p:Int)<(P:Int))=true from decide_eq_true ⟨b0,b1,p0,p1⟩] at z
   exact z
  have HNM:Hid (N≤64∧P≤32∧S≤4184):=by
   obtain ⟨gl,hr,z0,z1,z2⟩:=hs
   obtain ⟨k1,k2,k3, -⟩:=hr.1
   show _∧_∧_
   omega
  have hx1:=hX
  have hy1:=hU
  have HR:Hid (∀ w',Below w.heap.size w w'→Rws w' (.slice bq N bc) 5 (bks N gv uv l s e)):=fun w' h=>hR.below (by omega) h
  obtain ⟨xq,xc,hx⟩:=rws_form hx1 (pgc_len P xv)
  obtain ⟨yq,yc,hy'⟩:=rws_form hy1 (usc_len P us)
  rw [hx] at hx1
  rw [hy'] at hy1
  obtain ⟨xb,xo,hxq,hcx⟩:=hx1.at (t:=p) (by rw [pgc_len];exact hp)
  obtain ⟨yb,yo,hyq,hcy⟩:=hy1.at (t:=p) (by rw [usc_len];exact hp)
  subst hxq
  subst hyq
  rw [pgc_el P xv p hp] at hcx
  rw [usc_el P us p hp] at hcy
  have CX:Hid (∀ w',Below w.heap.size w w'→w'.cell? ⟨xb,xo+p,none⟩=some (xv p)):=fun w' h=>by
   have z:=hcx 0 _ rfl
   rw [Nat.mul_one,Nat.add_zero] at z
   rw [h.cell (World.block_lt_of_cell? w _ z)];exact z
  have CY:Hid (∀ w',Below w.heap.size w w'→w'.cell? ⟨yb,yo+p,none⟩=some (.int .i64 (us p))):=fun w' h=>by
   have z:=hcy 0 _ rfl
   rw [Nat.mul_one,Nat.add_zero] at z
   rw [h.cell (World.block_lt_of_cell? w _ z)];exact z
  have hc9:=hR.at (t:=b) (by rw [bks_len];exact hb)
  obtain ⟨bb,off,hbq,hc⟩:=hc9
  subst hbq
  rw [bks_el N gv uv l s e b hb,hx,hy'] at hc
  have HC0:Hid (∀ w',Below w.heap.size w w'→w'.rangeAt bb (off+b*5) (bkc (.slice (some ⟨xb,xo,none⟩) P xc) (.slice (some ⟨yb,yo,none⟩) P yc) (l b) (s b) (e b))):=fun w' h=>range_heap hc (h.block bb (range_lt hc (by simp [bkc])))
  have HXr:Hid (∀ w',Below w.heap.size w w'→Rws w' (.slice (some ⟨xb,xo,none⟩) P xc) 1 (pgc P xv)):=fun w' h=>hx1.below (by omega) h
  have HYr:Hid (∀ w',Below w.heap.size w w'→Rws w' (.slice (some ⟨yb,yo,none⟩) P yc) 1 (usc P us)):=fun w' h=>hy1.below (by omega) h
  have H1p:Hid (∀ u ∈ (pgc P xv).flatten,u.oneCell'=true):=pgc_one fun j hj=>byt_one_cell (hXb j hj).1
  have LP:Hid ((pgc P xv).length =P∧(usc P us).length =P):=⟨pgc_len P xv,usc_len P us⟩
  have hP32:P≤32:=HNM.out.2.1
  have hN64:N≤64:=HNM.out.1
  have hbp:=(hXb p hp).2
  obtain ⟨mm,hmm⟩:∃ m:List Int,m= []:=⟨_,rfl⟩
  have SC:Hid (∀ w',Below w.heap.size w w'→Calls Tryz.prog 92 #[.agg (chr [(N:Int),(P:Int),g2,g3,g4,g5] (.slice (some ⟨bb,off,none⟩) N bc) (.slice po pn pc) false (n:Int)).toArray] w' fun e w''=>∃ mv,e=.returned (.tuple #[.int .i64 0,mv,.bool false])∧Byt w'' mv mm∧Below w'.heap.size w' w''):=fun w' h=>by
   rw [hmm]
   have:=code_any [(N:Int),(P:Int),g2,g3,g4,g5] rfl (.slice (some ⟨bb,off,none⟩) N bc) (.slice po pn pc) false n pl w' (hP.below h)
   rw [hpl] at this
   exact this
  have SA:Hid (∀ w',Below w.heap.size w w'→Calls Tryz.prog 93 #[xv p,.slice vq S vc] w' fun e w''=>∃ v,e=.returned v∧Own w'.heap.size w'' v (andl (pb p) ys)∧Below w'.heap.size w' w''):=fun w' h=>rand_own _ _ _ _ w' ((hXb p hp).1.below h) (hy.below h) (by omega) (by have:=HNM.out;omega)
  have SW:Hid (∀ w',Below w.heap.size w w'→∀ (uq vq:Option Addr) (uc vc:Nat),Calls Tryz.prog 95 #[.agg (chr [(N:Int),(P:Int),g2,g3,g4,g5] (.slice (some ⟨bb,off,none⟩) N bc) (.slice po pn pc) false (n:Int)).toArray,.int .i64 (b:Int),.agg (bkc (.slice uq P uc) (.slice vq P vc) (max (l b) (p:Int)) false (e b)).toArray] w' fun x w''=>∃ r rc,x=.returned (.agg (chr [(N:Int),(P:Int),g2,g3,g4,g5] (.slice (some ⟨r,0,none⟩) N rc) (.slice po pn pc) false ((n+1 :Nat):Int)).toArray)∧OwR w'.heap.size w'' (.slice (some ⟨r,0,none⟩) N rc) 72 5 (bks N (at1 gv b (.slice uq P uc)) (at1 uv b (.slice vq P vc)) (at1 l b (max (l b) (p:Int))) (at1 s b false) (at1 e b (e b)))∧Below w'.heap.size w' w''):=fun w' h uq vq uc vc=>with_any N P g2 g3 g4 g5 (some ⟨bb,off,none⟩) bc po pn pc false n b gv uv l s e uq vq P uc P vc (max (l b) (p:Int)) false (e b) w' hN64 hb hn (HR.out w' h) h1
  have HUV:=hdH (hu)
  rw [hu] at CY
  have H7:=hdH (h7)
  have HMX:Hid ((if l b<(p:Int) then (p:Int) else l b)=max (l b) (p:Int)):=by
   show _=_
   rw [Int.max_def]
   split <;> split <;> omega
  first
   |have m9:=mB
    skip
   |have hl9:¬(p:Int)≤l b:=by omega
    have HMY:Hid ((p:Int)=max (l b) (p:Int)):=by show _=_;omega
  generalize hNEW:(andl (pb p) ys)=NEW at*
  first
   |have m9:=mB
    skip
   |clear hlp
  clear hmm h7 hu hs hR hX hXb hU hy hyl hP hpl hc hx1 hy1 hcx hcy h1 hbp hNEW HNM HR
  have t0:=tR
  go_enter Tryz.func55,Tryz.ntmps55
  go_wp2_with (first
   |(have q19:=t19;(with_reducible refine at_store ?_);refine store_lawC _ (chr [(N:Int),(P:Int),g2,g3,g4,g5] (.slice (some ⟨r,0,none⟩) N rc) (.slice po pn pc) false ((n+1 :Nat):Int)) w2.heap.size 0 rfl rfl HC.out.2 rowy_chipR.2 (fun v hv=>by simp [chr] at hv;rcases hv with rfl | rfl | rfl | rfl | rfl | rfl | rfl | rfl | rfl | rfl <;> rfl) ?_;intro w20 E9 R9 T9 B9;have kp:w19.grownBy w20 (some w2.heap.size):=(by rw [E9.out];exact keep_cells _ _ _ _);have HN:Hid (Own w6.heap.size w20 nv NEW):=World.ownsRow.kept HN.out kp (own_ne fun kk hkk=>by have:=(World.ownsRow.lt HN.out kk hkk).1;have h9:=HL.out;have h8:=l6;omega);have HG:=hdH (HG.out.kept kp (own_ne fun kk hkk=>by have:=(HG.out.1.lt kk hkk).1;have h9:=HL.out;have h8:=l6;omega));have HU:=hdH (HU.out.kept kp (own_ne fun kk hkk=>by have:=(HU.out.1.lt kk hkk).1;have h9:=HL.out;have h8:=l6;omega));have HO:=hdH (HO.out.kept kp (own_ne fun kk hkk=>by have:=(HO.out.1.lt kk hkk).1;have h9:=HL.out;have h8:=l6;omega));have BB:=hdH (BB.out.trans ((Below.refl w.heap.size _).grown kp BB.out.size (fun kk hkk=>by have hk9:=Option.some.inj hkk;have h9:=HL.out;have h8:=l6;omega)));have HR9:=hdH (R9);clear E9 R9 T9 B9 kp t19)
   |(have q18:=t18;(with_reducible refine at_store ?_);refine store_law1 _ w.heap.size 8 (.bool false) rfl rfl (HA.out.there1 8 (by simp [chr])) (HA.out.free 8 (by simp [chr])) one_bool.2 rfl rfl ?_;intro w19 E9;have kp:w18.grownBy w19 (some w.heap.size):=(by rw [E9.out];exact keep_set _ _ _ _);have HC:=hdH (HC.out.kept kp (range_lt HC.out.1 (by simp)) (by have h9:=HL.out;have h8:=l6;simp;omega));have HX:=hdH (HX.out.kept kp (range_lt HX.out.1 (by simp [bkc])) (by have h9:=HL.out;have h8:=l6;simp;omega));have HP:=hdH (HP.out.heap (kp.block _ (HP.out.lt (by simp)) (by have h9:=HL.out;have h8:=l6;simp;omega)));have HN:Hid (Own w6.heap.size w19 nv NEW):=World.ownsRow.kept HN.out kp (own_ne fun kk hkk=>by have:=(World.ownsRow.lt HN.out kk hkk).1;have h9:=HL.out;have h8:=l6;omega);have HG:=hdH (HG.out.kept kp (own_ne fun kk hkk=>by have:=(HG.out.1.lt kk hkk).1;have h9:=HL.out;have h8:=l6;omega));have HU:=hdH (HU.out.kept kp (own_ne fun kk hkk=>by have:=(HU.out.1.lt kk hkk).1;have h9:=HL.out;have h8:=l6;omega));have HO:=hdH (HO.out.kept kp (own_ne fun kk hkk=>by have:=(HO.out.1.lt kk hkk).1;have h9:=HL.out;have h8:=l6;omega));have BB:=hdH (BB.out.trans ((Below.refl w.heap.size _).grown kp BB.out.size (fun kk hkk=>by have hk9:=Option.some.inj hkk;have h9:=HL.out;have h8:=l6;omega)));have z9:=HA.out.set 8 (by simp [chr]) (.bool false);rw [←E9.out] at z9;have HA:=hdH (z9);have r0:=HA.out.cell 0 _ rfl;have r1:=HA.out.cell 1 _ rfl;have r2:=HA.out.cell 2 _ rfl;have r3:=HA.out.cell 3 _ rfl;have r4:=HA.out.cell 4 _ rfl;have r5:=HA.out.cell 5 _ rfl;have r6:=HA.out.cell 6 _ rfl;have r7:=HA.out.cell 7 _ rfl;have r8:=HA.out.cell 8 _ rfl;have r9:=HA.out.cell 9 _ rfl;clear z9 E9 kp t18;have t19:=tR)
   |(have q17:=t17;(with_reducible refine at_store ?_);refine store_lawC _ (chr [(N:Int),(P:Int),g2,g3,g4,g5] (.slice (some ⟨r,0,none⟩) N rc) (.slice po pn pc) false ((n+1 :Nat):Int)) w.heap.size 0 rfl rfl HA.out.2 rowy_chipR.2 (fun v hv=>by simp [chr] at hv;rcases hv with rfl | rfl | rfl | rfl | rfl | rfl | rfl | rfl | rfl | rfl <;> rfl) ?_;intro w18 E9 R9 T9 B9;have kp:w17.grownBy w18 (some w.heap.size):=(by rw [E9.out];exact keep_cells _ _ _ _);have HC:=hdH (HC.out.kept kp (range_lt HC.out.1 (by simp)) (by have h9:=HL.out;have h8:=l6;simp;omega));have HX:=hdH (HX.out.kept kp (range_lt HX.out.1 (by simp [bkc])) (by have h9:=HL.out;have h8:=l6;simp;omega));have HP:=hdH (HP.out.heap (kp.block _ (HP.out.lt (by simp)) (by have h9:=HL.out;have h8:=l6;simp;omega)));have HN:Hid (Own w6.heap.size w18 nv NEW):=World.ownsRow.kept HN.out kp (own_ne fun kk hkk=>by have:=(World.ownsRow.lt HN.out kk hkk).1;have h9:=HL.out;have h8:=l6;omega);have HG:=hdH (HG.out.kept kp (own_ne fun kk hkk=>by have:=(HG.out.1.lt kk hkk).1;have h9:=HL.out;have h8:=l6;omega));have HU:=hdH (HU.out.kept kp (own_ne fun kk hkk=>by have:=(HU.out.1.lt kk hkk).1;have h9:=HL.out;have h8:=l6;omega));have HO:=hdH (HO.out.kept kp (own_ne fun kk hkk=>by have:=(HO.out.1.lt kk hkk).1;have h9:=HL.out;have h8:=l6;omega));have BB:=hdH (BB.out.trans ((Below.refl w.heap.size _).grown kp BB.out.size (fun kk hkk=>by have hk9:=Option.some.inj hkk;have h9:=HL.out;have h8:=l6;omega)));have HA:Hid (Vr w18 w.heap.size (chr [(N:Int),(P:Int),g2,g3,g4,g5] (.slice (some ⟨r,0,none⟩) N rc) (.slice po pn pc) false ((n+1 :Nat):Int))):=⟨R9,T9⟩;clear E9 R9 T9 B9 kp t17;have t18:=tR)
   |(have q16:=t16;go_at_call 95;refine (SW.out _ BB.out _ _ _ _).mono ?_;rintro e9 w17 ⟨r,rc,rfl,o17,Bx⟩;have HO:Hid (OwR w6.heap.size w17 (.slice (some ⟨r,0,none⟩) N rc) 72 5 (bks N (at1 gv b (.slice (some ⟨rg,0,none⟩) P gc)) (at1 uv b (.slice (some ⟨ru,0,none⟩) P uc)) (at1 l b (max (l b) (p:Int))) (at1 s b false) (at1 e b (e b)))):=o17.base (by have:=l16;omega);clear r0 r1 r2 r3 r4 r5 r6 r7 r8 r9 x0 x1 x2 x3 x4 u0 u1 h7;have HA:=hdH (HA.out.below Bx (range_lt HA.out.1 (by simp [chr])));have HC:=hdH (HC.out.below Bx (range_lt HC.out.1 (by simp)));have HX:=hdH (HX.out.below Bx (range_lt HX.out.1 (by simp [bkc])));have HP:=hdH (HP.out.below Bx (HP.out.lt (by simp)));have HN:=hdH (own_low HN.out Bx);have HG:=hdH (HG.out.low Bx);have HU:=hdH (HU.out.low Bx);have BB:=hdH (BB.out.trans (Bx.mono BB.out.size));clear o17 Bx t16;have t17:=tR)
   |(have q15:=t15;(with_reducible refine at_store ?_);(first | (have m9:=mB;refine store_law1 _ w4.heap.size 2 (.int .i64 (max (l b) (p:Int))) rfl (congrArg (Value.int .i64) HMX.out) (HX.out.there1 2 (by simp [bkc])) (HX.out.free 2 (by simp [bkc])) one_int.2 rfl rfl ?_) | (refine store_law1 _ w4.heap.size 2 (.int .i64 (max (l b) (p:Int))) rfl (by first | exact congrArg (Value.int .i64) HMX.out | exact congrArg (Value.int .i64) HMY.out) (HX.out.there1 2 (by simp [bkc])) (HX.out.free 2 (by simp [bkc])) one_int.2 rfl rfl ?_));intro w16 E9;have kp:w15.grownBy w16 (some w4.heap.size):=(by rw [E9.out];exact keep_set _ _ _ _);have HA:=hdH (HA.out.kept kp (range_lt HA.out.1 (by simp [chr])) (by have h9:=HL.out;have h8:=l6;simp;omega));have HC:=hdH (HC.out.kept kp (range_lt HC.out.1 (by simp)) (by have h9:=HL.out;have h8:=l6;simp;omega));have HP:=hdH (HP.out.heap (kp.block _ (HP.out.lt (by simp)) (by have h9:=HL.out;have h8:=l6;simp;omega)));have HN:Hid (Own w6.heap.size w16 nv NEW):=World.ownsRow.kept HN.out kp (own_ne fun kk hkk=>by have:=(World.ownsRow.lt HN.out kk hkk).1;have h9:=HL.out;have h8:=l6;omega);have HG:=hdH (HG.out.kept kp (own_ne fun kk hkk=>by have:=(HG.out.1.lt kk hkk).1;have h9:=HL.out;have h8:=l6;omega));have HU:=hdH (HU.out.kept kp (own_ne fun kk hkk=>by have:=(HU.out.1.lt kk hkk).1;have h9:=HL.out;have h8:=l6;omega));have BB:=hdH (BB.out.trans ((Below.refl w.heap.size _).grown kp BB.out.size (fun kk hkk=>by have hk9:=Option.some.inj hkk;have h9:=HL.out;have h8:=l6;omega)));have z9:=HX.out.set 2 (by simp [bkc]) (.int .i64 (max (l b) (p:Int)));rw [←E9.out] at z9;have HX:=hdH (z9);clear x0 x1 x2 x3 x4 u0 u1;have x0:=HX.out.cell 0 _ rfl;have x1:=HX.out.cell 1 _ rfl;have x2:=HX.out.cell 2 _ rfl;have x3:=HX.out.cell 3 _ rfl;have x4:=HX.out.cell 4 _ rfl;have r0:=HA.out.cell 0 _ rfl;have r1:=HA.out.cell 1 _ rfl;have r2:=HA.out.cell 2 _ rfl;have r3:=HA.out.cell 3 _ rfl;have r4:=HA.out.cell 4 _ rfl;have r5:=HA.out.cell 5 _ rfl;have r6:=HA.out.cell 6 _ rfl;have r7:=HA.out.cell 7 _ rfl;have r8:=HA.out.cell 8 _ rfl;have r9:=HA.out.cell 9 _ rfl;have u0:w16.cell? ⟨w1.heap.size,0,none⟩=some (.int .i64 (b:Int)):=HP.out.cell0 0 (by simp);have u1:w16.cell? ⟨w1.heap.size,1,none⟩=some (.int .i64 (p:Int)):=HP.out.cell0 1 (by simp);have h7:=H7.out;have l16:w6.heap.size≤w16.heap.size:=(by have:=(HG.out.1.lt rg rfl).2;have:=lg;omega);clear z9 E9 kp t15;have t16:=tR)
   |(have q14:=t14;(with_reducible refine at_store ?_);(first | (have m9:=mA;refine store_law1 _ ru p (.int .i64 1) rfl (by first | rfl | simp) (owr_there HU.out (by rw [LP.out.2];exact hp)).1 (owr_there HU.out (by rw [LP.out.2];exact hp)).2 one_int.2 rfl rfl ?_) | (refine store_law1 _ ru p (.int .i64 2) rfl (by first | rfl | simp) (owr_there HU.out (by rw [LP.out.2];exact hp)).1 (owr_there HU.out (by rw [LP.out.2];exact hp)).2 one_int.2 rfl rfl ?_));intro w15 E9;have kp:w14.grownBy w15 (some ru):=(by rw [E9.out];exact keep_set _ _ _ _);have HA:=hdH (HA.out.kept kp (range_lt HA.out.1 (by simp [chr])) (by have h9:=HL.out;have h8:=l6;have:=lu;simp;omega));have HC:=hdH (HC.out.kept kp (range_lt HC.out.1 (by simp)) (by have h9:=HL.out;have h8:=l6;have:=lu;simp;omega));have HX:=hdH (HX.out.kept kp (range_lt HX.out.1 (by simp [bkc])) (by have h9:=HL.out;have h8:=l6;have:=lu;simp;omega));have HP:=hdH (HP.out.heap (kp.block _ (HP.out.lt (by simp)) (by have h9:=HL.out;have h8:=l6;have:=lu;simp;omega)));have HN:Hid (Own w6.heap.size w15 nv NEW):=World.ownsRow.kept HN.out kp (own_apart HN.out HU.out.1 (by decide));have HG:=hdH (HG.out.kept kp (own_apart HG.out.1 HU.out.1 (by decide)));have BB:=hdH (BB.out.trans ((Below.refl w.heap.size _).grown kp BB.out.size (fun kk hkk=>by have hk9:=Option.some.inj hkk;have h9:=HL.out;have h8:=l6;have:=lu;omega)));have z9:=HU.out.put1 (usc_len P us) hp E9.out;(first | (have m9:=mA;rw [usc_set P us p 1 hp,show (1 :Int)=us p+1 by have:=HUV.out;omega] at z9) | (rw [usc_set P us p 2 hp,show (2 :Int)=us p+1 by have:=HUV.out;omega] at z9));have HU:=hdH (z9);clear x0 x1 x2 x3 x4 u0 u1 cu hwu;have x0:=HX.out.cell 0 _ rfl;have x1:=HX.out.cell 1 _ rfl;have x2:=HX.out.cell 2 _ rfl;have x3:=HX.out.cell 3 _ rfl;have x4:=HX.out.cell 4 _ rfl;have u0:w15.cell? ⟨w1.heap.size,0,none⟩=some (.int .i64 (b:Int)):=HP.out.cell0 0 (by simp);have u1:w15.cell? ⟨w1.heap.size,1,none⟩=some (.int .i64 (p:Int)):=HP.out.cell0 1 (by simp);clear z9 E9 kp t14;have t15:=tR)
   |(have q13:=t13;(with_reducible refine at_store ?_);refine store_law1 _ rg p nv rfl rfl (owr_there HG.out (by rw [LP.out.1];exact hp)).1 (owr_there HG.out (by rw [LP.out.1];exact hp)).2 one_bytes.2 (ownb_one HN.out) (ownb_cells HN.out) ?_;intro w14 E9;have kp:w13.grownBy w14 (some rg):=(by rw [E9.out];exact keep_set _ _ _ _);have hlt:=lg;have HA:=hdH (HA.out.kept kp (range_lt HA.out.1 (by simp [chr])) (by have h9:=HL.out;have h8:=l6;have:=lg;simp;omega));have HC:=hdH (HC.out.kept kp (range_lt HC.out.1 (by simp)) (by have h9:=HL.out;have h8:=l6;have:=lg;simp;omega));have HX:=hdH (HX.out.kept kp (range_lt HX.out.1 (by simp [bkc])) (by have h9:=HL.out;have h8:=l6;have:=lg;simp;omega));have HP:=hdH (HP.out.heap (kp.block _ (HP.out.lt (by simp)) (by have h9:=HL.out;have h8:=l6;have:=lg;simp;omega)));have HN:Hid (Own w6.heap.size w14 nv NEW):=World.ownsRow.kept HN.out kp (own_apart HN.out HG.out.1 (by decide));have HU:=hdH (HU.out.kept kp (own_apart HU.out.1 HG.out.1 (by decide)));have BB:=hdH (BB.out.trans ((Below.refl w.heap.size _).grown kp BB.out.size (fun kk hkk=>by have hk9:=Option.some.inj hkk;have h9:=HL.out;have h8:=l6;have:=lg;omega)));have z9:=HG.out.put1 (pgc_len P xv) hp E9.out;rw [pgc_set P xv p nv hp] at z9;have HG:=hdH (z9);clear x0 x1 x2 x3 x4 u0 u1;have x0:=HX.out.cell 0 _ rfl;have x1:=HX.out.cell 1 _ rfl;have x2:=HX.out.cell 2 _ rfl;have x3:=HX.out.cell 3 _ rfl;have x4:=HX.out.cell 4 _ rfl;have u0:w14.cell? ⟨w1.heap.size,0,none⟩=some (.int .i64 (b:Int)):=HP.out.cell0 0 (by simp);have u1:w14.cell? ⟨w1.heap.size,1,none⟩=some (.int .i64 (p:Int)):=HP.out.cell0 1 (by simp);have cu:=owr_cell HU.out (by rw [LP.out.2];exact hp) (usc_el P us p hp);have hwu:=HUV.out;clear z9 E9 kp hlt t13;have t14:=tR)
   |(have q12:=t12;(with_reducible refine at_store ?_);refine store_law1 _ w4.heap.size 1 (.slice (some ⟨ru,0,none⟩) P uc) rfl (rfl) (HX.out.there1 1 (by simp [bkc])) (HX.out.free 1 (by simp [bkc])) one_ints.2 rfl rfl ?_;intro w13 E9;have kp:w12.grownBy w13 (some w4.heap.size):=(by rw [E9.out];exact keep_set _ _ _ _);have HA:=hdH (HA.out.kept kp (range_lt HA.out.1 (by simp [chr])) (by have h9:=HL.out;have h8:=l6;simp;omega));have HC:=hdH (HC.out.kept kp (range_lt HC.out.1 (by simp)) (by have h9:=HL.out;have h8:=l6;simp;omega));have HP:=hdH (HP.out.heap (kp.block _ (HP.out.lt (by simp)) (by have h9:=HL.out;have h8:=l6;simp;omega)));have HN:Hid (Own w6.heap.size w13 nv NEW):=World.ownsRow.kept HN.out kp (own_ne fun kk hkk=>by have:=(World.ownsRow.lt HN.out kk hkk).1;have h9:=HL.out;have h8:=l6;omega);have HG:=hdH (HG.out.kept kp (own_ne fun kk hkk=>by have:=(HG.out.1.lt kk hkk).1;have h9:=HL.out;have h8:=l6;omega));have HU:=hdH (HU.out.kept kp (own_ne fun kk hkk=>by have:=(HU.out.1.lt kk hkk).1;have h9:=HL.out;have h8:=l6;omega));have BB:=hdH (BB.out.trans ((Below.refl w.heap.size _).grown kp BB.out.size (fun kk hkk=>by have hk9:=Option.some.inj hkk;have h9:=HL.out;have h8:=l6;omega)));have z9:=HX.out.set 1 (by simp [bkc]) (.slice (some ⟨ru,0,none⟩) P uc);rw [←E9.out] at z9;have HX:=hdH (z9);have x0:=HX.out.cell 0 _ rfl;have x1:=HX.out.cell 1 _ rfl;have x2:=HX.out.cell 2 _ rfl;have x3:=HX.out.cell 3 _ rfl;have x4:=HX.out.cell 4 _ rfl;have u0:w13.cell? ⟨w1.heap.size,0,none⟩=some (.int .i64 (b:Int)):=HP.out.cell0 0 (by simp);have u1:w13.cell? ⟨w1.heap.size,1,none⟩=some (.int .i64 (p:Int)):=HP.out.cell0 1 (by simp);clear z9 E9 kp t12;have t13:=tR)
   |(have q11:=t11;at_builtin;refine push_lawT _ Tryz.underlying70 _ 1 8 info_int rfl (by omega) w6.heap.size (by simp;omega) _ _ [] (usc P us) rfl rfl (OwR.empty w11 3 1 l11) YU.out usc_one (by rw [LP.out.2];simp;omega) (by rw [LP.out.2];simp;omega) (by rw [LP.out.2];omega) ?_;intro v12 w12 O12 kp;rw [List.nil_append] at O12;have ne11:∀ x,x<w11.heap.size→some x≠(Value.slice (some ⟨w11.heap.size,0,none⟩) 0 0).ownBlock :=fun x hx e=>(by have z:x=w11.heap.size:=Option.some.inj e;omega);have HA:=hdH (HA.out.kept kp (range_lt HA.out.1 (by simp [chr])) (ne11 _ (by have h9:=HL.out;have h8:=l6;omega)));have HC:=hdH (HC.out.kept kp (range_lt HC.out.1 (by simp)) (ne11 _ (by have h9:=HL.out;have h8:=l6;omega)));have HX:=hdH (HX.out.kept kp (range_lt HX.out.1 (by simp [bkc])) (ne11 _ (by have h9:=HL.out;have h8:=l6;omega)));have HP:=hdH (HP.out.heap (kp.block _ (HP.out.lt (by simp)) (ne11 _ (by have h9:=HL.out;have h8:=l6;omega))));have HN:Hid (Own w6.heap.size w12 nv NEW):=World.ownsRow.kept HN.out kp (own_apart HN.out (OwR.empty w11 3 1 l11).1 (by decide));have HG:=hdH (HG.out.kept kp (own_apart HG.out.1 (OwR.empty w11 3 1 l11).1 (by decide)));have BB:=hdH (BB.out.trans ((Below.refl w.heap.size _).grown kp BB.out.size (fun kk hkk=>by have hk9:w11.heap.size=kk:=Option.some.inj hkk;have h9:=HL.out;have h8:=l6;omega)));obtain ⟨ru,uc,rfl,hr9,hrow⟩:=O12.row (by rw [LP.out.2];omega);rw [LP.out.2] at O12 hrow ⊢;have HU:=hdH (O12);have lu:w6.heap.size≤ru:=hr9;clear x0 x1 x2 x3 x4 u0 u1;clear O12 kp ne11 hr9 hrow YU t11;have t12:=tR)
   |(have q10:=t10;(with_reducible refine at_store ?_);refine store_law1 _ w4.heap.size 0 (.slice (some ⟨rg,0,none⟩) P gc) rfl (rfl) (HX.out.there1 0 (by simp [bkc])) (HX.out.free 0 (by simp [bkc])) one_pages.2 rfl rfl ?_;intro w11 E9;have kp:w10.grownBy w11 (some w4.heap.size):=(by rw [E9.out];exact keep_set _ _ _ _);have HA:=hdH (HA.out.kept kp (range_lt HA.out.1 (by simp [chr])) (by have h9:=HL.out;have h8:=l6;simp;omega));have HC:=hdH (HC.out.kept kp (range_lt HC.out.1 (by simp)) (by have h9:=HL.out;have h8:=l6;simp;omega));have HP:=hdH (HP.out.heap (kp.block _ (HP.out.lt (by simp)) (by have h9:=HL.out;have h8:=l6;simp;omega)));have HN:Hid (Own w6.heap.size w11 nv NEW):=World.ownsRow.kept HN.out kp (own_ne fun kk hkk=>by have:=(World.ownsRow.lt HN.out kk hkk).1;have h9:=HL.out;have h8:=l6;omega);have HG:=hdH (HG.out.kept kp (own_ne fun kk hkk=>by have:=(HG.out.1.lt kk hkk).1;have h9:=HL.out;have h8:=l6;omega));have BB:=hdH (BB.out.trans ((Below.refl w.heap.size _).grown kp BB.out.size (fun kk hkk=>by have hk9:=Option.some.inj hkk;have h9:=HL.out;have h8:=l6;omega)));have z9:=HX.out.set 0 (by simp [bkc]) (.slice (some ⟨rg,0,none⟩) P gc);rw [←E9.out] at z9;have HX:=hdH (z9);have l11:w6.heap.size≤w11.heap.size:=(by have:=kp.size;omega);have ha9:Below w11.heap.size w11 (w11.alloc (.cells #[] 3)):=(Below.refl _ _).alloc (Nat.le_refl _) _;have HA:=hdH (HA.out.below ha9 (range_lt HA.out.1 (by simp [chr])));have HC:=hdH (HC.out.below ha9 (range_lt HC.out.1 (by simp)));have HX:=hdH (HX.out.below ha9 (range_lt HX.out.1 (by simp [bkc])));have HP:=hdH (HP.out.below ha9 (HP.out.lt (by simp)));have HN:=hdH (own_low HN.out ha9);have HG:=hdH (HG.out.low ha9);have BB:=hdH (BB.out.trans (ha9.mono BB.out.size));have x0:=HX.out.cell 0 _ rfl;have x1:=HX.out.cell 1 _ rfl;have x2:=HX.out.cell 2 _ rfl;have x3:=HX.out.cell 3 _ rfl;have x4:=HX.out.cell 4 _ rfl;have u0:(w11.alloc (.cells #[] 3)).cell? ⟨w1.heap.size,0,none⟩=some (.int .i64 (b:Int)):=HP.out.cell0 0 (by simp);have u1:(w11.alloc (.cells #[] 3)).cell? ⟨w1.heap.size,1,none⟩=some (.int .i64 (p:Int)):=HP.out.cell0 1 (by simp);have YU:Hid (Rws (w11.alloc (.cells #[] 3)) (.slice (some ⟨yb,yo,none⟩) P yc) 1 (usc P us)):=HYr.out _ BB.out;clear ha9;clear z9 E9 kp t10;have t11:=tR)
   |(have q9:=t9;at_builtin;refine push_lawT _ Tryz.underlying69 _ 1 24 info_bytes rfl (by omega) w6.heap.size (by simp;omega) _ _ [] (pgc P xv) rfl rfl (OwR.empty w9 26 1 lz) YX.out H1p.out (by rw [LP.out.1];simp;omega) (by rw [LP.out.1];simp;omega) (by rw [LP.out.1];omega) ?_;intro v10 w10 O10 kp;rw [List.nil_append] at O10;have ne9:∀ x,x<w9.heap.size→some x≠(Value.slice (some ⟨w9.heap.size,0,none⟩) 0 0).ownBlock :=fun x hx e=>(by have z:x=w9.heap.size:=Option.some.inj e;omega);have HA:=hdH (HA.out.kept kp (range_lt HA.out.1 (by simp [chr])) (ne9 _ (by have h9:=HL.out;have h8:=l6;omega)));have HC:=hdH (HC.out.kept kp (range_lt HC.out.1 (by simp)) (ne9 _ (by have h9:=HL.out;have h8:=l6;omega)));have HX:=hdH (HX.out.kept kp (range_lt HX.out.1 (by simp [bkc])) (ne9 _ (by have h9:=HL.out;have h8:=l6;omega)));have HP:=hdH (HP.out.heap (kp.block _ (HP.out.lt (by simp)) (ne9 _ (by have h9:=HL.out;have h8:=l6;omega))));have HN:Hid (Own w6.heap.size w10 nv NEW):=World.ownsRow.kept HN.out kp (own_apart HN.out (OwR.empty w9 26 1 lz).1 (by decide));have BB:=hdH (BB.out.trans ((Below.refl w.heap.size _).grown kp BB.out.size (fun kk hkk=>by have hk9:w9.heap.size=kk:=Option.some.inj hkk;have h9:=HL.out;have h8:=l6;omega)));obtain ⟨rg,gc,rfl,hr9,hrow⟩:=O10.row (by rw [LP.out.1];omega);rw [LP.out.1] at O10 hrow ⊢;have HG:=hdH (O10);have lg:w6.heap.size≤rg:=hr9;have l10:w9.heap.size≤w10.heap.size:=(by have z:=kp.size;simp at z;omega);clear x0 x1 x2 x3 x4 u0 u1;clear O10 kp ne9 hr9 hrow YX t9;have t10:=tR)
   |(have q7:=t7;go_at_call 93;refine (SA.out _ BB.out).mono ?_;rintro e9 w9 ⟨nv,rfl,y8,Bx⟩;have HN:Hid (Own w6.heap.size w9 nv NEW):=own_base y8 l7;clear x0 x1 x2 x3 x4 u0 u1 cx;have HA:=hdH (HA.out.below Bx (range_lt HA.out.1 (by simp [chr])));have HC:=hdH (HC.out.below Bx (range_lt HC.out.1 (by simp)));have HX:=hdH (HX.out.below Bx (range_lt HX.out.1 (by simp [bkc])));have HP:=hdH (HP.out.below Bx (HP.out.lt (by simp)));have BB:=hdH (BB.out.trans (Bx.mono BB.out.size));have lq:w6.heap.size≤w9.heap.size:=Nat.le_trans l7 Bx.size;clear y8 Bx t7;have ha9:Below w9.heap.size w9 (w9.alloc (.cells #[] 26)):=(Below.refl _ _).alloc (Nat.le_refl _) _;have HA:=hdH (HA.out.below ha9 (range_lt HA.out.1 (by simp [chr])));have HC:=hdH (HC.out.below ha9 (range_lt HC.out.1 (by simp)));have HX:=hdH (HX.out.below ha9 (range_lt HX.out.1 (by simp [bkc])));have HP:=hdH (HP.out.below ha9 (HP.out.lt (by simp)));have HN:=hdH (own_low HN.out ha9);have BB:=hdH (BB.out.trans (ha9.mono BB.out.size));have x0:=HX.out.cell 0 _ rfl;have x1:=HX.out.cell 1 _ rfl;have x2:=HX.out.cell 2 _ rfl;have x3:=HX.out.cell 3 _ rfl;have x4:=HX.out.cell 4 _ rfl;have u0:(w9.alloc (.cells #[] 26)).cell? ⟨w1.heap.size,0,none⟩=some (.int .i64 (b:Int)):=HP.out.cell0 0 (by simp);have u1:(w9.alloc (.cells #[] 26)).cell? ⟨w1.heap.size,1,none⟩=some (.int .i64 (p:Int)):=HP.out.cell0 1 (by simp);have YX:Hid (Rws (w9.alloc (.cells #[] 26)) (.slice (some ⟨xb,xo,none⟩) P xc) 1 (pgc P xv)):=HXr.out _ BB.out;have lz:w6.heap.size≤w9.heap.size:=lq;clear ha9 lq;have t9:=tR)
   |(have q6:=t6;go_at_call 92;refine (SC.out _ BB.out).mono ?_;rintro e9 w7 ⟨mv,rfl,y7,Bx⟩;have YK:=hdH (y7);obtain ⟨mq,mc,rfl⟩:=byt_form y7;clear r0 r1 r2 r3 r4 r5 r6 r7 r8 r9 x0 x1 x2 x3 x4 u0 u1 cy h7;have HA:=hdH (HA.out.below Bx (range_lt HA.out.1 (by simp [chr])));have HC:=hdH (HC.out.below Bx (range_lt HC.out.1 (by simp)));have HX:=hdH (HX.out.below Bx (range_lt HX.out.1 (by simp [bkc])));have HP:=hdH (HP.out.below Bx (HP.out.lt (by simp)));have BB:=hdH (BB.out.trans (Bx.mono BB.out.size));have x0:=HX.out.cell 0 _ rfl;have x1:=HX.out.cell 1 _ rfl;have x2:=HX.out.cell 2 _ rfl;have x3:=HX.out.cell 3 _ rfl;have x4:=HX.out.cell 4 _ rfl;have u0:w7.cell? ⟨w1.heap.size,0,none⟩=some (.int .i64 (b:Int)):=HP.out.cell0 0 (by simp);have u1:w7.cell? ⟨w1.heap.size,1,none⟩=some (.int .i64 (p:Int)):=HP.out.cell0 1 (by simp);have cx:=CX.out w7 BB.out;have l7:w6.heap.size≤w7.heap.size:=Bx.size;clear y7 Bx t6;have t7:=tR)
   |(have q5:=t5;(with_reducible refine at_store ?_);refine store_lawC _ (bkc (.slice (some ⟨xb,xo,none⟩) P xc) (.slice (some ⟨yb,yo,none⟩) P yc) (l b) (s b) (e b)) w4.heap.size 0 rfl rfl HX0.out.2 rowy_blk.2 (fun v hv=>by simp [bkc] at hv;rcases hv with rfl | rfl | rfl | rfl | rfl <;> rfl) ?_;intro w6 E6 R6 T6 B6;have HX:Hid (Vr w6 w4.heap.size (bkc (.slice (some ⟨xb,xo,none⟩) P xc) (.slice (some ⟨yb,yo,none⟩) P yc) (l b) (s b) (e b))):=⟨R6,T6⟩;have HA:=hdH (HA.out.below B6 (by have:=HL.out;omega));have HC:=hdH (HC.out.below B6 (by have:=HL.out;omega));have HP:=hdH (HP.out.below B6 (by have:=HL.out;omega));have BB:=hdH (BB.out.trans (B6.mono (by have:=HL.out;omega)));have l6:w4.heap.size<w6.heap.size:=Nat.lt_of_lt_of_le l5 B6.size;have r0:=HA.out.cell 0 _ rfl;have r1:=HA.out.cell 1 _ rfl;have r2:=HA.out.cell 2 _ rfl;have r3:=HA.out.cell 3 _ rfl;have r4:=HA.out.cell 4 _ rfl;have r5:=HA.out.cell 5 _ rfl;have r6:=HA.out.cell 6 _ rfl;have r7:=HA.out.cell 7 _ rfl;have r8:=HA.out.cell 8 _ rfl;have r9:=HA.out.cell 9 _ rfl;have u0:w6.cell? ⟨w1.heap.size,0,none⟩=some (.int .i64 (b:Int)):=HP.out.cell0 0 (by simp);have u1:w6.cell? ⟨w1.heap.size,1,none⟩=some (.int .i64 (p:Int)):=HP.out.cell0 1 (by simp);have x0:=HX.out.cell 0 _ rfl;have x1:=HX.out.cell 1 _ rfl;have x2:=HX.out.cell 2 _ rfl;have x3:=HX.out.cell 3 _ rfl;have x4:=HX.out.cell 4 _ rfl;have cy:=CY.out w6 BB.out;have h7:=H7.out;clear E6 R6 T6 B6 t5;have t6:=tR)
   |(have q4:=t4;(with_reducible refine at_alloc ?_);refine new_lawC _ _ zero_blk ?_;intro w5 V5 B5 l5;have HX0:=hdH (V5);have HA:=hdH (HA.out.below B5 (range_lt HA.out.1 (by simp [chr])));have HC:=hdH (HC.out.below B5 (range_lt HC.out.1 (by simp)));have HP:=hdH (HP.out.below B5 (HP.out.lt (by simp)));have BB:=hdH (BB.out.trans (B5.mono BB.out.size));clear d0 d1 d2 d3 d4;clear r0 r1 r2 r3 r4 r5 r6 r7 r8 r9;clear u0 u1 V5 B5 t4;have t5:=tR)
   |(have q3:=t3;go_at_call 91;refine (SR.out _).mono ?_;rintro e9 w4 ⟨rfl,B4⟩;have HC:=hdH (HC.out.below B4 (range_lt HC.out.1 (by simp)));have HA:=hdH (HA.out.below B4 (range_lt HA.out.1 (by simp [chr])));have HP:=hdH (HP.out.below B4 (HP.out.lt (by simp)));have BB:=hdH (BB.out.trans (B4.mono BB.out.size));have HL:Hid (w.heap.size<w1.heap.size∧w1.heap.size<w2.heap.size∧w2.heap.size<w4.heap.size):=⟨l1,l2,Nat.lt_of_lt_of_le l3 B4.size⟩;clear r0 r1 r2 r3 r4 r5 r6 r7 r8 r9;clear u0 u1;have r0:=HA.out.cell 0 _ rfl;have r1:=HA.out.cell 1 _ rfl;have r2:=HA.out.cell 2 _ rfl;have r3:=HA.out.cell 3 _ rfl;have r4:=HA.out.cell 4 _ rfl;have r5:=HA.out.cell 5 _ rfl;have r6:=HA.out.cell 6 _ rfl;have r7:=HA.out.cell 7 _ rfl;have r8:=HA.out.cell 8 _ rfl;have r9:=HA.out.cell 9 _ rfl;have u0:w4.cell? ⟨w1.heap.size,0,none⟩=some (.int .i64 (b:Int)):=HP.out.cell0 0 (by simp);have u1:w4.cell? ⟨w1.heap.size,1,none⟩=some (.int .i64 (p:Int)):=HP.out.cell0 1 (by simp);have hcc:=HC0.out w4 BB.out;have d0:=hcc 0 _ rfl;rw [Nat.add_zero] at d0;have d1:=hcc 1 _ rfl;have d2:=hcc 2 _ rfl;have d3:=hcc 3 _ rfl;have d4:=hcc 4 _ rfl;clear hcc B4 t3;have t4:=tR)
   |(have q2:=t2;(with_reducible refine at_alloc ?_);refine new_lawC _ _ zero_chr ?_;intro w3 V3 B3 l3;have HC:=hdH (V3);have HA:=hdH (HA.out.below B3 (range_lt HA.out.1 (by simp [chr])));have HP:=hdH (HP.out.below B3 (HP.out.lt (by simp)));have BB:=hdH (BB.out.trans (B3.mono BB.out.size));have r0:=HA.out.cell 0 _ rfl;have r1:=HA.out.cell 1 _ rfl;have r2:=HA.out.cell 2 _ rfl;have r3:=HA.out.cell 3 _ rfl;have r4:=HA.out.cell 4 _ rfl;have r5:=HA.out.cell 5 _ rfl;have r6:=HA.out.cell 6 _ rfl;have r7:=HA.out.cell 7 _ rfl;have r8:=HA.out.cell 8 _ rfl;have r9:=HA.out.cell 9 _ rfl;have u0:w3.cell? ⟨w1.heap.size,0,none⟩=some (.int .i64 (b:Int)):=HP.out.cell0 0 (by simp);have u1:w3.cell? ⟨w1.heap.size,1,none⟩=some (.int .i64 (p:Int)):=HP.out.cell0 1 (by simp);clear V3 B3 t2;have t3:=tR)
   |(have q1:=t1;refine box_lawF _ rfl (.tmp 1) 78 rfl .i64 [(b:Int),(p:Int)] rfl ?_;intro w2 X2 B2 l2;have HP:=hdH (X2);have HA:=hdH (HA.out.below B2 (range_lt HA.out.1 (by simp [chr])));have BB:=hdH (BB.out.trans (B2.mono BB.out.size));clear X2 B2 t1;have t2:=tR)
   |(have q0:=t0;refine box_lawC _ (chr [(N:Int),(P:Int),g2,g3,g4,g5] (.slice (some ⟨bb,off,none⟩) N bc) (.slice po pn pc) false (n:Int)) rfl ?_;intro w1 V1 B1 l1;have HA:=hdH (V1);have BB:=hdH (B1);clear V1 B1 t0;have t1:=tR))
  all_goals exact bodyPost_ret (v:=.tuple #[.agg (chr [(N:Int),(P:Int),g2,g3,g4,g5] (.slice (some ⟨r,0,none⟩) N rc) (.slice po pn pc) false ((n+1 :Nat):Int)).toArray,.int .i64 0]) (results_cv rfl _ _ w2.heap.size _ _ rowy_chipR rfl rfl HR9.out) rfl ⟨r,rc,_,_,nv,rfl,HO.out.base (by have h9:=HL.out;have h8:=l6;omega),HG.out.base (by have h9:=HL.out;have h8:=l6;omega),own_base HN.out (by have h9:=HL.out;have h8:=l6;omega),HU.out.base (by have h9:=HL.out;have h8:=l6;omega),BB.out⟩
end Go.Proofs.YtmbgokmomkmgcaaGreatDoor.na
namespace Go.Proofs.YtmbgokmomkmgcaaGreatDoor.na
open Go.RowKit Go.Proofs.YtmbgokmomkmgcaaGreatDoor.fa
set_option maxRecDepth 20000
theorem raw_newS (N P S:Nat):raw N P (new S) []=raw0 N P S:=by
 have h1:∀ n,jnd n (fun _=>List.replicate S (255 :Int))=List.replicate (n*S) 255:=fun n=>by
  induction n with
  |zero=>simp [jnd]
  |succ n ih=>rw [jnd_succ,ih,Nat.succ_mul,←List.replicate_append_replicate]
 have h2:∀ n,((List.range n).flatMap fun _=>List.replicate (P*S) (255 :Int))=List.replicate (n*(P*S)) 255:=fun n=>by
  induction n with
  |zero=>simp
  |succ n ih=>rw [List.range_succ,List.flatMap_append,ih,Nat.succ_mul,←List.replicate_append_replicate];simp
 have h3:img N P (new S)=List.replicate (N*(P*S)) 255:=by
  show ((List.range N).flatMap fun _=>jnd P (fun _=>List.replicate S (255 :Int)))=_
  rw [h1 P,h2 N]
 have h4:(List.range P).map (fun _=>(0 :Int))=List.replicate P 0:=by
  rw [List.map_const']
  simp
 unfold raw raw0
 rw [h3]
 show mkX _ (fun b=>(List.range P).map (fun _=>(0 :Int))) _ _ _ _=_
 rw [h4]
 rfl
theorem Blk.formG {w:World} {gv uv:Value} {P:Nat} {pg:Nat→List Int} {us:Nat→Int} (h:Blk w gv uv P pg us):∃ q c,gv=.slice q P c:=by
 obtain ⟨⟨xv,h1, -⟩, -⟩:=h
 exact rws_form h1 (pgc_len P xv)
theorem Blk.formU {w:World} {gv uv:Value} {P:Nat} {pg:Nat→List Int} {us:Nat→Int} (h:Blk w gv uv P pg us):∃ q c,uv=.slice q P c:=by
 obtain ⟨-,h1⟩:=h
 exact rws_form h1 (usc_len P us)
theorem Blk.one {w:World} {gv uv:Value} {P:Nat} {pg:Nat→List Int} {us:Nat→Int} (h:Blk w gv uv P pg us):gv.oneCell'=true∧uv.oneCell'=true:=by
 obtain ⟨q,c,rfl⟩:=h.formG
 obtain ⟨q',c',rfl⟩:=h.formU
 exact ⟨rfl,rfl⟩
theorem geo6 {g:List Int} {N P S:Nat} (h:Shp g N P S):∃ g2 g3 g4 g5,g= [(N:Int),(P:Int),g2,g3,g4,g5]:=by
 obtain ⟨h0, -,h1,h2, -⟩:=h
 match g,h0 with
 |[a,b,c,d,e,f],_=>
  have e1:a=(N:Int):=h1
  have e2:b=(P:Int):=h2
  subst e1;subst e2
  exact ⟨c,d,e,f,rfl⟩
theorem pla_form {w:World} {pv:Value} {pl:Pln} (h:Pla w pv pl):∃ po pn pc,pv=.slice po pn pc:=by
 obtain ⟨fs,ms,⟨ao,cap,rfl, -⟩, -⟩:=h
 exact ⟨_,_,_,rfl⟩
theorem ref_open {w:World} {v:Value} {g:List Int} {N P:Nat} {pl:Pln} {s:St} (h:Ref w v g N P pl s):∃ bq bc po pn pc gv uv,v=.agg (chr g (.slice bq N bc) (.slice po pn pc) (off s) (ops s)).toArray ∧Rws w (.slice bq N bc) 5 (bks N gv uv (lsp s) (scr s) (ers s))∧(∀ b,b<N→Blk w (gv b) (uv b) P (pgs s b) (usd s b))∧Pla w (.slice po pn pc) pl:=by
 obtain ⟨bv,pv,gv,uv,rfl,h1,h2,h3⟩:=h
 obtain ⟨bq,bc,rfl⟩:=rws_form h1 (bks_len N _ _ _ _ _)
 obtain ⟨po,pn,pc,rfl⟩:=pla_form h3
 exact ⟨bq,bc,po,pn,pc,gv,uv,rfl,h1,h2,h3⟩
theorem ref_put {M:Nat→Bool} {w w':World} {g:List Int} {N P:Nat} {pl:Pln} {s s':St} {gv uv:Nat→Value} {pv gw uw:Value} {r rc b:Nat} {L:Nat→Int} {C:Nat→Bool} {E:Nat→Int} {o:Bool} {n:Int}
  (hM:Mlt M w) (hB:∀ k,k<N→Blk (hid M w) (gv k) (uv k) P (pgs s k) (usd s k)) (hP:Pla (hid M w) pv pl) (hw:Below w.heap.size w w') (hO:OwR w.heap.size w' (.slice (some ⟨r,0,none⟩) N rc) 72 5 (bks N (at1 gv b gw) (at1 uv b uw) L C E))
  (hN:Blk (hid M w') gw uw P (pgs s' b) (usd s' b)) (eL:∀ k,k<N→L k=lsp s' k) (eC:∀ k,k<N→C k=scr s' k) (eE:∀ k,k<N→E k=ers s' k) (eP:∀ k,k<N→k≠b→∀ p,p<P→pgs s k p=pgs s' k p) (eU:∀ k,k<N→k≠b→∀ p,p<P→usd s k p=usd s' k p) (eo:o=off s') (en:n=(ops s':Int)):
  Ref (hid M w') (.agg (chr g (.slice (some ⟨r,0,none⟩) N rc) pv o n).toArray) g N P pl s':=by
 subst eo
 subst en
 have hb:=below_hid (M:=M) hw
 refine ⟨_,pv,at1 gv b gw,at1 uv b uw,rfl,?_,fun k hk=>?_,hP.below hb⟩
 ·have z:=owr_hid (M:=M) hO hM
  rw [bks_congr (fun _ _=>rfl) (fun _ _=>rfl) eL eC eE] at z
  exact z
 ·by_cases e:k=b
  ·subst e
   rw [at1_same,at1_same];exact hN
  ·rw [at1_other _ _ _ _ e,at1_other _ _ _ _ e]
   exact ((hB k hk).below hb).congr (eP k hk e) (eU k hk e)
section
variable {M:Nat→Bool} {w:World} {v:Value} {g:List Int} {N P S:Nat} {pl:Pln} {s:St}
theorem rprog_no0 (hs:Shp g N P S) (hR:Ref (hid M w) v g N P pl s) (ho:off s=false) (hc:∀ b,scr s b=false) (b p:Int) (vb:Value) (ys:List Int) (hy:Byt w vb ys) (x:Int) (hx:pno N P S s b p ys=some x):
  Calls Tryz.prog 55 #[v,.agg (ints .i64 [b,p]),vb] w fun e w'=>e=.returned (.tuple #[v,.int .i64 x])∧Below w.heap.size w w':=by
 obtain ⟨g2,g3,g4,g5,rfl⟩:=geo6 hs
 obtain ⟨bq,bc,po,pn,pc,gv,uv,rfl,h1,h2,h3⟩:=ref_open hR
 obtain ⟨vq,vc,rfl, -⟩:=hy
 unfold pno at hx
 rw [ho] at hx ⊢
 rw [if_neg Bool.false_ne_true] at hx
 by_cases hg:0≤b∧b<N∧0≤p∧p<P∧ys.length=S
 ·rw [if_neg (by simpa using hg)] at hx
  obtain ⟨q1,q2,q3,q4,q5⟩:=hg
  obtain ⟨b',rfl⟩:∃ b':Nat,b=b':=⟨b.toNat,by omega⟩
  obtain ⟨p',rfl⟩:∃ p':Nat,p=p':=⟨p.toNat,by omega⟩
  simp only [Int.toNat_natCast] at hx
  have hb':b'<N:=by omega
  have hp':p'<P:=by omega
  rw [q5]
  have hs7:=hc b'
  by_cases hu:2≤usd s b' p'
  ·rw [if_pos (.inr hu)] at hx
   cases hx
   exact rpg_twc_m.1 N P g2 g3 g4 g5 bq bc po pn pc S hs (ops s) b' p' hb' hp' gv uv _ _ _ _ _ vq vc w (hid_rws h1) (fun k hk=>hid_blk (h2 k hk)) hs7 hu
  ·rw [if_neg (by rw [hs7];simp;omega)] at hx
   by_cases h6:usd s b' p'=0∧(p':Int)≤lsp s b'
   ·rw [if_pos h6] at hx
    cases hx
    exact rpg_twc_m.2 N P g2 g3 g4 g5 bq bc po pn pc S hs (ops s) b' p' hb' hp' gv uv _ _ _ _ _ vq vc w (hid_rws h1) (fun k hk=>hid_blk (h2 k hk)) hs7 h6.1 h6.2
   ·rw [if_neg h6] at hx
    cases hx
 ·rw [if_pos (by simpa using hg)] at hx
  cases hx
  exact rpg_no N P g2 g3 g4 g5 bq bc po pn pc _ b p S hs vq ys.length vc hg w
theorem blk_prog {w':World} {gw uw nv:Value} {p:Nat} {us:Nat→Int} {xv:Nat→Value} {pg pg':Nat→List Int} {us':Nat→Int} {new:List Int} (hM:Mlt M w) (hw:Below w.heap.size w w') (hG:OwR w.heap.size w' gw 26 1 (pgc P (at1 xv p nv))) (hN:Own w.heap.size w' nv new) (ha:AllB new) (hU:OwR w.heap.size w' uw 3 1 (usc P us')) (hX:∀ j,j<P→Byt (hid M w) (xv j) (pg j)) (e1:pg' p=new) (e2:∀ j,j<P→j≠p→pg j=pg' j) (e3:∀ j,j<P→us' j=us j):Blk (hid M w') gw uw P pg' us:=by
 refine ⟨⟨at1 xv p nv,owr_hid hG hM,fun j hj=>?_⟩,?_⟩
 ·by_cases e:j=p
  ·subst e
   rw [at1_same,e1];exact own_hid hN ha hM
  ·rw [at1_other _ _ _ _ e,←e2 j hj e]
   exact (hX j hj).below (below_hid hw)
 ·have z:=owr_hid (M:=M) hU hM
  rw [usc_congr e3] at z
  exact z
theorem rprog_do0 (hs:Shp g N P S) (hM:Mlt M w) (hW:Wf N P S s) (hR:Ref (hid M w) v g N P pl s) (hn:ops s≤1000000) (b p:Nat) (vb:Value) (ys:List Int) (hy:Byt w vb ys) (hx:pno N P S s b p ys=none) (hpl:pl (ops s)=none):
  Calls Tryz.prog 55 #[v,.agg (ints .i64 [(b:Int),(p:Int)]),vb] w fun e w'=>∃ v',e=.returned (.tuple #[v',.int .i64 (ans (pl (ops s)))])∧Ref (hid M w') v' g N P pl (pdo S pl s b p ys)∧Below w.heap.size w w':=by
 obtain ⟨g2,g3,g4,g5,rfl⟩:=geo6 hs
 obtain ⟨bq,bc,po,pn,pc,gv,uv,rfl,h1,h2,h3⟩:=ref_open hR
 obtain ⟨q0,⟨q1,q2,q3,q4,q5⟩,q6,q7,q8⟩:=pno_none hx
 simp only [Int.toNat_natCast] at q6 q7 q8
 have hb:b<N:=by omega
 have hp:p<P:=by omega
 have hwf:=(hW b hb).1
 obtain ⟨⟨xv,x1,x2⟩,x3⟩:=h2 b hb
 have hxb:∀ j,j<P→Byt w (xv j) (pgs s b j)∧(pgs s b j).length =S:=fun j hj=>⟨hid_byt (x2 j hj),(hwf j hj).1⟩
 have ho1:∀ k,k<N→(gv k).oneCell' =true∧(uv k).oneCell' =true:=fun k hk=>(h2 k hk).one
 have hyb:=hy
 obtain ⟨vq,vc,rfl, -⟩:=hy
 rw [q5] at hyb ⊢
 rw [q0]
 have hu0:=(hwf p hp).2.2.1
 have key:∀ (c:Bool) (cc:Int) (new:List Int),crs (pl (ops s))=c→ans (pl (ops s))=cc→new=pgm S (pl (ops s)) (pgs s b p) ys→
   Calls Tryz.prog 55 #[.agg (chr [(N:Int),(P:Int),g2,g3,g4,g5] (.slice bq N bc) (.slice po pn pc) false (ops s)).toArray,.agg (ints .i64 [(b:Int),(p:Int)]),.slice vq S vc] w (RpgD N P g2 g3 g4 g5 po pn pc (ops s) b p gv uv (lsp s) (scr s) (ers s) (usd s b) xv new c cc w)→
   Calls Tryz.prog 55 #[.agg (chr [(N:Int),(P:Int),g2,g3,g4,g5] (.slice bq N bc) (.slice po pn pc) false (ops s)).toArray,.agg (ints .i64 [(b:Int),(p:Int)]),.slice vq S vc] w fun e w'=>∃ v',e=.returned (.tuple #[v',.int .i64 (ans (pl (ops s)))])∧Ref (hid M w') v' [(N:Int),(P:Int),g2,g3,g4,g5] N P pl (pdo S pl s b p ys)∧Below w.heap.size w w':=fun c cc new e1 e2 e3 hC=>by
  refine hC.mono fun e w'=>?_
  rintro ⟨r,rc,gw,uw,nv,rfl,hO,hG,hN,hU,hw⟩
  subst e1
  subst e2
  have hall:AllB new:=by rw [e3];exact (pgm_wf S _ (hwf p hp).2.1 (hwf p hp).1).2
  refine ⟨_,rfl,ref_put hM h2 h3 hw hO (blk_prog hM hw hG hN hall hU x2 ?_ ?_ ?_) (fun _ _=>rfl) (fun k hk=>?_) (fun k hk=>?_) (fun k hk hne j hj=>?_) (fun k hk hne j hj=>?_) ?_ rfl,hw⟩
  ·exact (at2_same _ _ _ _).trans e3.symm
  ·exact fun j hj hne=>(at2_other _ _ _ _ _ _ fun z=>hne z.2).symm
  ·intro j hj
   by_cases z:j=p
   ·subst z;rw [at1_same];exact (at2_same _ _ _ _).symm
   ·rw [at1_other _ _ _ _ z];exact (at2_other _ _ _ _ _ _ fun y=>z y.2).symm
  ·by_cases z:k=b
   ·subst z;rw [at1_same];exact q6.symm
   ·rw [at1_other _ _ _ _ z];rfl
  ·by_cases z:k=b
   ·subst z;rw [at1_same];rfl
   ·rw [at1_other _ _ _ _ z];rfl
  ·exact (at2_other _ _ _ _ _ _ fun z=>hne z.1).symm
  ·exact (at2_other _ _ _ _ _ _ fun z=>hne z.1).symm
  ·rfl
 have hu:usd s b p=0∧lsp s b<(p:Int)∨usd s b p=1:=by
  rcases Int.lt_or_le 0 (usd s b p) with z | z
  ·exact .inr (by omega)
  ·have z0:usd s b p=0:=by omega
   exact .inl ⟨z0,Int.not_le.1 fun y=>q8 ⟨z0,y⟩⟩
 have r1:=hid_rws h1
 have r3:=hid_pla h3
 have xr:=hid_rws x1
 have ur:=hid_rws x3
 rw [hpl] at key
 rcases hu with ⟨hu,hlp⟩ | hu
 ·rw [hpl];exact key _ _ _ rfl rfl rfl (rpg_n0_m.1 N P g2 g3 g4 g5 bq bc po pn pc S hs (ops s) b p hn hb hp gv uv _ _ _ _ _ xv vq vc ys pl w r1 ho1 xr hxb ur hyb q5 r3 q6 hpl hu hlp)
 ·rw [hpl];exact key _ _ _ rfl rfl rfl (rpg_n0_m.2 N P g2 g3 g4 g5 bq bc po pn pc S hs (ops s) b p hn hb hp gv uv _ _ _ _ _ xv vq vc ys pl w r1 ho1 xr hxb ur hyb q5 r3 q6 hpl hu)
end
end Go.Proofs.YtmbgokmomkmgcaaGreatDoor.na
namespace Go.Proofs.YtmbgokmomkmgcaaGreatDoor.sc
open Go.RowKit Go.Proofs.YtmbgokmomkmgcaaGreatDoor.fa Go.Proofs.YtmbgokmomkmgcaaGreatDoor.he Go.Proofs.YtmbgokmomkmgcaaGreatDoor.pa
set_option maxRecDepth 20000
structure Ch where
 c:Nat
 r:Nat
 d:Nat
 q:Nat→Nat
 pv:Value
 N:Nat
 P:Nat
 S:Nat
 g3:Int
 g4:Int
 g5:Int
 pl:na.Pln
def Ch.g (H:Ch):List Int:=[(H.N:Int),(H.P:Int),(H.S:Int),H.g3,H.g4,H.g5]
def Ch.T (H:Ch):Nat:=H.S+88
def Cs (H:Ch) (M:Nat→Bool) (w:World) (s:na.St) (l:List na.Opn):Prop:=
 (∃ tv,na.Lay M w H.c H.r H.d H.q H.pv tv H.g H.N H.P H.T H.pl (na.raw H.N H.P s l))∧na.Mlt M w∧na.Wf H.N H.P H.T s∧na.Lsp H.N H.P s∧l.length=na.ops s∧∀ o ∈ l,(o.2.2.2.1:List Int).length ≤4184
section
variable {H:Ch} {M M':Nat→Bool} {w w':World} {s s':na.St} {l l':List na.Opn}
theorem dl_snoc {l:List na.Opn} {o:na.Opn} (h:∀ o ∈ l,(o.2.2.2.1:List Int).length ≤4184) (ho:(o.2.2.2.1:List Int).length ≤4184):∀ q ∈ l ++ [o],(q.2.2.2.1:List Int).length ≤4184:=fun q hq=>by
 rcases List.mem_append.1 hq with z | z
 ·exact h q z
 ·rw [List.mem_singleton.1 z];exact ho
theorem Cs.below (h:Cs H M w s' l) (hb:Below w.heap.size w w'):Cs H M w' s' l:=by
 obtain ⟨⟨tv,h1⟩,h2,h3⟩:=h
 exact ⟨⟨tv,h1.below hb⟩,fun k hk=>Nat.lt_of_lt_of_le (h2 k hk) hb.size,h3⟩
end
abbrev Qz:Type:=Option Addr × Nat × Option Addr × Nat × Nat
def chl (H:Ch) (q:Qz) (s:na.St):List Value:=na.chr [(H.N:Int),(H.P:Int),(H.S:Int),H.g3,H.g4,H.g5] (.slice q.1 H.N q.2.1) (.slice q.2.2.1 q.2.2.2.1 q.2.2.2.2) (na.off s) (na.ops s)
def Zc:List Value:=[.int .i64 0,.int .i64 0,.int .i64 0,.int .i64 0,.int .i64 0,.int .i64 0,.slice none 0 0,.slice none 0 0,.bool false,.int .i64 0]
def Rc (H:Ch) (s:na.St) (q:Qz) (w:World):Prop:=na.Ref w (.agg (chl H q s).toArray) H.g H.N H.P H.pl s
theorem kp_rc (H:Ch) (s:na.St) (q:Qz):Kp (Rc H s q):=fun _ _ hb h=>h.below hb
theorem rc_less {H:Ch} {s:na.St} {q:Qz} {M0:Nat→Bool} (M:Nat→Bool) (w:World) (hM:∀ k,M0 k=true→M k=true) (h:Rc H s q (na.hid M w)):Rc H s q (na.hid M0 w):=ref_less h hM
theorem rc_open {H:Ch} {s:na.St} {v:Value} {w:World} (h:na.Ref w v H.g H.N H.P H.pl s):∃ q:Qz,v=.agg (chl H q s).toArray ∧Rc H s q w:=by
 obtain ⟨bq,bc,po,pn,pc,gv,uv,rfl, -⟩:=na.ref_open h
 exact ⟨(bq,bc,po,pn,pc),rfl,h⟩
theorem chl_one (H:Ch) (q:Qz) (s:na.St):∀ v ∈ chl H q s,v.oneCell'=true:=by
 intro v hv
 simp [chl,na.chr] at hv
 rcases hv with rfl | rfl | rfl | rfl | rfl | rfl | rfl | rfl | rfl | rfl <;> rfl
theorem rnew_rc {H:Ch} (hs:na.Shp H.g H.N H.P H.T) (po:Option Addr) (pn pc:Nat) (U:Nat→Bool) (w:World) (hU:na.Mlt U w) (hp:na.Pla (na.hid U w) (.slice po pn pc) H.pl):
  Calls Tryz.prog 21 #[.agg (ints .i64 [(H.N:Int),(H.P:Int),(H.S:Int),H.g3,H.g4,H.g5]),.slice po pn pc] w fun e w'=>∃ q,e=.returned (.agg (chl H q (na.new H.T)).toArray)∧Rc H (na.new H.T) q (na.hid U w')∧Below w.heap.size w w':=by
 refine (na.rnew_any H.N H.P H.T (H.S:Int) H.g3 H.g4 H.g5 hs po pn pc w).mono ?_
 rintro e w' ⟨bv,rfl,⟨gv,uv,h1,h2⟩,hb⟩
 obtain ⟨bq,bc,rfl⟩:=na.rws_form h1.rws (na.bks_len H.N gv uv _ _ _)
 exact ⟨(bq,bc,po,pn,pc),rfl,⟨_,_,gv,uv,rfl,na.owr_hid h1 hU,fun b hb=>(h2 b hb).hid hU fun _ _=>allB_replicate 255 H.T (by omega),hp.below (na.below_hid hb)⟩,hb⟩
theorem rc_plain {H:Ch} {s:na.St} {q:Qz} {U:Nat→Bool} {w:World} (h:Rc H s q (na.hid U w)):Rc H s q w:=hid_ref h
def Calm (s:na.St):Prop:=na.off s=false∧∀ b,na.scr s b=false
def prs (H:Ch) (s:na.St) (b p:Int) (ys:List Int):na.St:=match na.pno H.N H.P H.T s b p ys with
 |some _=>s
 |none=>na.pdo H.T H.pl s b.toNat p.toNat ys
theorem calm_new (S:Nat):Calm (na.new S):=⟨rfl,fun _=>rfl⟩
theorem calm_prs {H:Ch} {s:na.St} (h:Calm s) (hp:∀ n,H.pl n=none) (b p:Int) (ys:List Int):Calm (prs H s b p ys):=by
 unfold prs
 split
 ·exact h
 ·refine ⟨?_,h.2⟩
  show na.crs (H.pl (na.ops s))=false
  rw [hp];rfl
theorem ops_prs (H:Ch) (s:na.St) (b p:Int) (ys:List Int):na.ops (prs H s b p ys)≤na.ops s+1:=by
 unfold prs
 split
 ·exact Nat.le_succ _
 ·exact Nat.le_refl _
theorem pla_nil (M:Nat→Bool) (w:World) (pl:na.Pln) (h:∀ n,pl n=none):na.Pla (na.hid M w) (.slice none 0 0) pl:=
 ⟨[],fun _=> [],⟨none,0,rfl,by simp,by simp,fun _=>rfl,fun h=>by simp at h⟩,fun t ht=>by simp at ht,by simp,fun t ht=>by simp at ht,fun n=>⟨fun t ht=>by have:=ht.1;simp at this,fun _=>h n⟩⟩
theorem new_cs (N P S:Nat) (g3 g4 g5:Int) (hs:na.Shp [(N:Int),(P:Int),(S:Int),g3,g4,g5] N P (S+88)) (w:World):
  Calls Tryz.prog 18 #[.agg (ints .i64 [(N:Int),(P:Int),(S:Int),g3,g4,g5]),.slice none 0 0] w fun e w'=>∃ H M,e=.returned (.tuple #[.pointer (some ⟨H.c,0,none⟩),.int .i64 0])∧Cs H M w' (na.new (S+88)) []∧(∀ k,M k=true→w.heap.size≤k)∧Below w.heap.size w w'∧(N=H.N∧P=H.P∧S=H.S∧g3=H.g3∧g4=H.g4∧g5=H.g5)∧∀ n,H.pl n=none:=by
 refine (na.new_yes (S:Int) g3 g4 g5 N P (S+88) hs (.slice none 0 0) [] (fun _=> []) w ⟨none,0,rfl,by simp,by simp,fun _=>rfl,fun h=>by simp at h⟩ (fun t ht=>by simp at ht) (by simp) (fun t ht=>by simp at ht)).mono ?_
 rintro e w' ⟨M,c,r,d,q,pv,tv,h1,h2,h3,h4,h5⟩
 refine ⟨⟨c,r,d,q,pv,N,P,S,g3,g4,g5,na.plnOf [] (fun _=> [])⟩,M,h1,⟨⟨tv,?_⟩,h3,na.new_wf N P (S+88),na.lsp_new N P (S+88),rfl,fun _ z=>absurd z List.not_mem_nil⟩,h4,h5,⟨rfl,rfl,rfl,rfl,rfl,rfl⟩,fun _=>rfl⟩
 rw [na.raw_newS]
 exact h2
theorem Cs.num {H:Ch} {M:Nat→Bool} {w:World} {s:na.St} {l:List na.Opn} (h:Cs H M w s l):7≤H.N∧H.N≤64∧4≤H.P∧H.P≤32∧120≤H.T∧H.T≤4184:=by
 obtain ⟨⟨tv,z⟩, -⟩:=h
 exact z.num
section
variable {H:Ch} {M M':Nat→Bool} {w w':World} {s s':na.St} {l l':List na.Opn}
theorem on_cs (h:Cs H M w s l):Calls Tryz.prog 23 #[.pointer (some ⟨H.c,0,none⟩)] w fun e w'=>e=.returned (.bool (!na.off s))∧w'=w:=by
 obtain ⟨⟨tv,z⟩, -⟩:=h
 exact na.on_any H.c (!na.off s) w z.cells.2.1
theorem geo_cs (h:Cs H M w s l):Calls Tryz.prog 25 #[.pointer (some ⟨H.c,0,none⟩)] w fun e w'=>e=.returned (.agg (ints .i64 H.g))∧Below w.heap.size w w':=by
 obtain ⟨⟨tv,z1⟩, -⟩:=h
 exact na.geometry_any z1
theorem read_cs (h:Cs H M w s l) (ho:na.off s=false) (k p:Nat) (hk:k<H.N) (hp:p<H.P):Calls Tryz.prog 62 #[.pointer (some ⟨H.c,0,none⟩),.agg (ints .i64 [(k:Int),(p:Int)])] w fun e w'=>∃ ao cap,e=.returned (.tuple #[.slice ao H.T cap,.int .i64 0])∧Own w.heap.size w' (.slice ao H.T cap) (na.pgs s k p)∧Below w.heap.size w w':=by
 obtain ⟨⟨tv,z1⟩, -,z3, -⟩:=h
 have hN:=z1.num
 refine (na.read_own z1 [(k:Int),(p:Int)] rfl (by show (!na.off s)=true;rw [ho];rfl) k p rfl rfl (by omega) hp).mono ?_
 rintro e w' ⟨v,h1,h2,h3⟩
 rw [na.raw_i,na.cut_page H.N H.P H.T s (fun b hb p hp=>((z3 b hb).1 p hp).1) k p (by omega) hp] at h2
 have z:=(z3 k (by omega)).1 p hp
 obtain ⟨ao,cap,e2⟩:=pa.own_form h2 z.2.1
 rw [z.1] at e2
 subst e2
 exact ⟨ao,cap,h1,h2,h3⟩
theorem prg_cs (h:Cs H M w s l) (hn:na.ops s≤1000000) (b p:Int) (vb:Value) (ys:List Int) (hy:Byt (na.hid M w) vb ys):
  Calls Tryz.prog 56 #[.pointer (some ⟨H.c,0,none⟩),.agg (ints .i64 [b,p]),vb] w fun e w'=>∃ x M' l',e=.returned (.int .i64 x)∧Cs H M' w' (prs H s b p ys) l'∧(∀ k,k<w.heap.size→M' k=M k)∧na.Frm M w w':=by
 have h0:=h
 obtain ⟨⟨tv,z1⟩,z2,z3,z4,z5,z6⟩:=h
 unfold prs
 split
 ·rename_i x hx
  refine (na.pprog_no z1 z4 b p vb ys (na.hid_byt hy) x hx).mono ?_
  rintro e w' ⟨h1,h2⟩
  exact ⟨x,M,l,h1,h0.below h2,fun _ _=>rfl,na.Frm.of_below h2⟩
 ·rename_i hx
  have hp:=na.pno_none hx
  obtain ⟨b',rfl⟩:∃ b':Nat,b=b':=⟨b.toNat,by omega⟩
  obtain ⟨p',rfl⟩:∃ p':Nat,p=p':=⟨p.toNat,by omega⟩
  simp only [Int.toNat_natCast] at hp ⊢
  refine (na.pprog_do z1 z2 z3 z4 z5 hn b' p' vb ys hy hx).mono ?_
  rintro e w' ⟨M',tv',h1,h2,h3,h4,h5⟩
  exact ⟨_,M',_,h1,⟨⟨tv',h2⟩,h5,na.pdo_wf z3 H.pl b' p' ys (by omega) hp.2.2.2.1,na.lsp_pdo z3 z4 H.pl b' p' (by omega) ys,by rw [List.length_append,z5];rfl,dl_snoc z6 (by show ys.length≤4184;have:=h0.num;omega)⟩,h3,h4⟩
theorem rprg_rc {q:Qz} (hs:na.Shp H.g H.N H.P H.T) (hW:na.Wf H.N H.P H.T s) (hn:na.ops s≤1000000) (hp0:∀ n,H.pl n=none) (hC:Calm s) (hM:na.Mlt M w) (hR:Rc H s q (na.hid M w)) (b p:Int) (vb:Value) (ys:List Int) (hy:Byt w vb ys):
  Calls Tryz.prog 55 #[.agg (chl H q s).toArray,.agg (ints .i64 [b,p]),vb] w fun e w'=>∃ q',(∃ x,e=.returned (.tuple #[.agg (chl H q' (prs H s b p ys)).toArray,.int .i64 x]))∧Rc H (prs H s b p ys) q' (na.hid M w')∧Below w.heap.size w w':=by
 unfold prs
 split
 ·rename_i x hx
  refine (na.rprog_no0 hs hR hC.1 hC.2 b p vb ys hy x hx).mono ?_
  rintro e w' ⟨h1,h2⟩
  exact ⟨q,⟨x,h1⟩,kp_rc H s q _ _ (na.below_hid h2) hR,h2⟩
 ·rename_i hx
  have hp:=na.pno_none hx
  obtain ⟨b',rfl⟩:∃ b':Nat,b=b':=⟨b.toNat,by omega⟩
  obtain ⟨p',rfl⟩:∃ p':Nat,p=p':=⟨p.toNat,by omega⟩
  simp only [Int.toNat_natCast]
  refine (na.rprog_do0 hs hM hW hR hn b' p' vb ys hy hx (hp0 _)).mono ?_
  rintro e w' ⟨v',h1,h2,h3⟩
  obtain ⟨q',rfl,h4⟩:=rc_open h2
  exact ⟨q',⟨_,h1⟩,h4,h3⟩
end
end Go.Proofs.YtmbgokmomkmgcaaGreatDoor.sc
