/- Parts of the proof: what ScanBlocks reaches. No claim of its own. -/
import Derived.Lib.MakeNoZero
import Derived.Deep.DeepCutAuto
import Derived.Deep.RegionHeld3
import Derived.Laws.AppendOwnNone
import Derived.Lib.AppendZeros
import Derived.Lib.SliceRun
import Derived.Laws.StructEq
import Derived.ArgAppend
import Derived.WalkKit
import Derived.WalkSmall
import Derived.ProofKit
import Derived.OpenShut
import Derived.BigQuiet
import Derived.Deep.QuietTactic
import Derived.Deep.WholeRow
import Derived.Deep.MidRow
import Derived.Deep.DeepHandedRow
import Derived.Lib.LaidTab
import Derived.Deep.Matrix
import Derived.OwnWalk
import Derived.Test.YtmbgokmomkmgcaaGreatDoorK00
import Derived.Test.YtmbgokmomkmgcaaGreatDoorK01
import Derived.Test.YtmbgokmomkmgcaaGreatDoorK02
import Derived.Test.YtmbgokmomkmgcaaGreatDoorK03
import Derived.Test.YtmbgokmomkmgcaaGreatDoorK04
import Derived.Test.YtmbgokmomkmgcaaGreatDoorK05
import Derived.Test.YtmbgokmomkmgcaaGreatDoorK06
import Derived.Test.YtmbgokmomkmgcaaGreatDoorK07
import Derived.Test.YtmbgokmomkmgcaaGreatDoorK08
import Derived.Test.YtmbgokmomkmgcaaGreatDoorK09
import Derived.Test.YtmbgokmomkmgcaaGreatDoorK10
import Derived.Test.YtmbgokmomkmgcaaGreatDoorK11
import Derived.Test.YtmbgokmomkmgcaaGreatDoorK12
import Derived.Test.YtmbgokmomkmgcaaGreatDoorK13
import Derived.Test.YtmbgokmomkmgcaaGreatDoorK14
import Derived.Test.YtmbgokmomkmgcaaGreatDoorK15
import Derived.Test.YtmbgokmomkmgcaaGreatDoorK16
import Derived.Test.YtmbgokmomkmgcaaGreatDoorK17
import Derived.Test.YtmbgokmomkmgcaaGreatDoorK18
import Derived.Test.YtmbgokmomkmgcaaGreatDoorK19
import Derived.Test.YtmbgokmomkmgcaaGreatDoorK20
import Derived.Test.YtmbgokmomkmgcaaGreatDoorK21
import Derived.Test.YtmbgokmomkmgcaaGreatDoorK25
import Derived.Test.YtmbgokmomkmgcaaGreatDoorK26
import Derived.Test.YtmbgokmomkmgcaaGreatDoorK27
import Derived.Test.YtmbgokmomkmgcaaGreatDoorK28
import Derived.Test.YtmbgokmomkmgcaaGreatDoorK29
import Derived.Test.YtmbgokmomkmgcaaGreatDoorK32
set_option maxHeartbeats 8000000
namespace Go.Proofs.YtmbgokmomkmgcaaGreatDoor.sc
open Go.RowKit Go.Proofs.YtmbgokmomkmgcaaGreatDoor.fa Go.Proofs.YtmbgokmomkmgcaaGreatDoor.he Go.Proofs.YtmbgokmomkmgcaaGreatDoor.pa
set_option maxRecDepth 20000
structure Pgd where
 b:Int
 p:Int
 k:Int
 n:Int
 c:Int
 l:Int
 e:Int
 t:Int
 s:Int
 d:Bool
def Pgd.cs (x:Pgd):List Value:=pgz x.b x.p x.k x.n x.c x.l x.e x.t x.s x.d
def Pgd.ok (x:Pgd):Prop:=Hb x.l x.e x.t
def Pgl (w:World) (v:Value) (n:Nat) (f:Nat→Pgd):Prop:=∃ ao cap,v=.slice ao n cap∧n≤cap∧(0<n→∃ b off,ao=some ⟨b,off,none⟩∧∀ i,i<n→w.rangeAt b (off+i*10) (f i).cs)∧∀ i,i<n→(f i).ok
theorem Pgl.below {w w':World} {v:Value} {n:Nat} {f:Nat→Pgd} (h:Pgl w v n f) (hb:Below w.heap.size w w'):Pgl w' v n f:=by
 obtain ⟨ao,cap,rfl,h1,h2,h3⟩:=h
 refine ⟨ao,cap,rfl,h1,fun hp=>?_,h3⟩
 obtain ⟨b,off,rfl,hc⟩:=h2 hp
 exact ⟨b,off,rfl,fun i hi=>range_heap (hc i hi) (hb.block b (range_lt (hc i hi) (Nat.succ_pos _)))⟩
def slz (u:Nat→Bool) (z e t:Nat→Int) (v:Nat→Value):List Value:=[.bool (u 0),.int .i64 (z 0),.int .u64 (e 0),.int .u64 (t 0),v 0,.bool (u 1),.int .i64 (z 1),.int .u64 (e 1),.int .u64 (t 1),v 1,.bool (u 2),.int .i64 (z 2),.int .u64 (e 2),.int .u64 (t 2),v 2,.bool (u 3),.int .i64 (z 3),.int .u64 (e 3),.int .u64 (t 3),v 3]
def csz (g0 g1 g2 g3 g4 g5:Int) (pv:Value) (u:Nat→Bool) (z e t:Nat→Int) (v:Nat→Value) (bad:Int):List Value:=[.int .i64 g0,.int .i64 g1,.int .i64 g2,.int .i64 g3,.int .i64 g4,.int .i64 g5,pv] ++ (slz u z e t v ++ [.int .u64 bad])
theorem csz_geo {w:World} {b:Nat} {g0 g1 g2 g3 g4 g5:Int} {pv:Value} {u:Nat→Bool} {z e t:Nat→Int} {v:Nat→Value} {bad:Int} (h:Vr w b (csz g0 g1 g2 g3 g4 g5 pv u z e t v bad)):w.rangeAt b 0 [.int .i64 g0,.int .i64 g1,.int .i64 g2,.int .i64 g3,.int .i64 g4,.int .i64 g5]:=fun j x hj=>h.1 j x (by
 match j,hj with
 |0,hj=>exact hj
 |1,hj=>exact hj
 |2,hj=>exact hj
 |3,hj=>exact hj
 |4,hj=>exact hj
 |5,hj=>exact hj)
theorem und_spages:Tryz.prog.underlying 24=some (.slice (Tryz.prog.elem 24)):=by kernel_rfl
theorem elem_spages:Tryz.prog.elem 24=84:=by kernel_rfl
theorem size_spage (w:World):(sizeOf 84).run Tryz.prog w=.ok 10 w:=by kernel_rfl
theorem one_spages:One 24:=⟨⟨_,Tryz.underlying24,rfl⟩,by kernel_rfl⟩
theorem exec_idxP {ev:Operand→Value} {o:Oper} (x y:Operand) (hop:o.op=Op.indexAddr 24 x y) (b off n cap i:Nat) (hx:ev x=.slice (some ⟨b,off,none⟩) n cap) (hy:ev y=.int .i64 (i:Int)) (hi:i<n) (w:World):(execOp ev o).run Tryz.prog w=.ok (.value (.pointer (some ⟨b,off+i*10,none⟩))) w:=by
 have hr:(Instr.indexAt 24 (.slice (some ⟨b,off,none⟩) n cap) (.int .i64 (i:Int))).run Tryz.prog w=.ok (.pointer (some ⟨b,off+i*10,none⟩)) w:=by
  rw [run_indexAt_slice _ _ _ _ _ _ _ und_spages,if_pos (by omega),elem_spages,size_spage]
  simp only [Result.andThen_ok,Int.toNat_natCast]
  rw [Addr.add_lit]
 unfold execOp
 simp only [hop,hx,hy,Sem.run_bind,Sem.run_pure,Result.andThen_ok,hr]
theorem pla_all {w:World} {pv:Value} {pl:na.Pln} (h:na.Pla w pv pl) (hp:∀ n,pl n=none) (w':World):na.Pla w' pv pl:=by
 obtain ⟨fs,ms,⟨ao,cap,rfl,h1,h2,h3,h4⟩,h5,h6,h7,h8⟩:=h
 have e:fs= []:=by
  match fs,h7,h8 with
  |[],_,_=>rfl
  |x :: r,h7,h8=>
   have a:=(h7 0 (Nat.succ_pos _)).1
   have z:=(h8 (gf (x :: r) 0).1.toNat).1 0 ⟨Nat.succ_pos _,by omega,fun s hs=>absurd hs (Nat.not_lt_zero _)⟩
   rw [hp] at z
   cases z
 subst e
 exact ⟨[],ms,⟨ao,cap,rfl,h1,h2,h3,fun q=>absurd q (Nat.lt_irrefl 0)⟩,fun t ht=>absurd ht (Nat.not_lt_zero _),h6,fun t ht=>absurd ht (Nat.not_lt_zero _),fun n=>⟨fun t ht=>absurd ht.1 (Nat.not_lt_zero _),fun _=>hp n⟩⟩
theorem Lw.start2 {H:Ch} {R:World→Prop} {W0 w:World} {U M:Nat→Bool} {s:na.St} {l:List na.Opn} {L:List (Nat × List Value)} (h:Cs H M w s l) (hp0:∀ n,H.pl n=none) (hU:na.Mlt U w) (hMU:∀ k,M k=true→U k=true) (hR:R (na.hid U w)) (hk:Kp R) (h0:Below W0.heap.size W0 w) (hu:∀ k,M k=true→W0.heap.size≤k)
  (hL:∀ i,i<L.length→Vr w (vk L i) (vc L i)∧U (vk L i)=true∧W0.heap.size≤vk L i∧vk L i<w.heap.size∧M (vk L i)=false∧((∀ v ∈ vc L i,∀ y,v≠ .int .u8 y)→NoB w (vk L i))) (ho:∀ i j,i<j→j<L.length→vk L i<vk L j):Lw H R W0 W0 M U M w s l L:=
 ⟨h,⟨U,hR,hU,fun k q=>by
   simp only [Bool.or_eq_true] at q
   rcases q with q | q
   ·exact q
   ·exact hMU k q,hk,h0,fun i hi=>⟨(hL i hi).1,(hL i hi).2.1,(hL i hi).2.2.1,(hL i hi).2.2.2.1⟩,ho⟩,fun i hi=>(hL i hi).2.2.2.2.1,fun i hi=>(hL i hi).2.2.2.2.2,na.Frm.of_below h0,fun _ _ q=>q,pla_all h.pla hp0 _,fun i hi=>(hL i hi).2.2.1,hu⟩
def ast (H:Ch) (o:Int) (f:Nat→Pgd):Nat→na.St
 |0=>na.new H.T
 |k+1=>pst H (ast H o f k) (f k).b (f k).p (f k).k (f k).n (f k).c (f k).l (f k).e (f k).t (f k).s o (f k).d
theorem ast_ok {H:Ch} (hp0:∀ n,H.pl n=none) (o:Int) (f:Nat→Pgd):∀ k,Calm (ast H o f k)∧na.ops (ast H o f k)≤2*k
 |0=>⟨calm_new _,Nat.zero_le _⟩
 |k+1=>by
  have z:=ast_ok hp0 o f k
  have y:=pst_ok (H:=H) z.1 hp0 (f k).b (f k).p (f k).k (f k).n (f k).c (f k).l (f k).e (f k).t (f k).s o (f k).d
  exact ⟨y.1,Nat.le_trans y.2 (by have:=z.2;omega)⟩
def AryI (H:Ch) (M0:Nat→Bool) (w:World) (U:Nat→Bool) (o:Int) (f:Nat→Pgd) (n b2 b5 b8:Nat) (c2:List Value) (i:Value) (wr:World):Prop:=
 ∃ (k:Nat) (q:Qz) (M:Nat→Bool) (l:List na.Opn),k≤n∧i=.int .i64 (k:Int)∧Lw H (Rc H (ast H o f k) q) w w M0 U M wr (ast H o f k) l [(b2,c2),(b5,Zc),(b8,chl H q (ast H o f k))]
def AryR (o:Int) (f:Nat→Pgd) (n N P S:Nat) (g3 g4 g5:Int) (w:World) (e:Ending) (w':World):Prop:=
 ∃ (H:Ch) (q:Qz) (M U:Nat→Bool) (l:List na.Opn),e=.returned (.tuple #[.pointer (some ⟨H.c,0,none⟩),.agg (chl H q (ast H o f n)).toArray])∧Cs H M w' (ast H o f n) l∧Rc H (ast H o f n) q (na.hid U w')∧(∀ k,M k=true→U k=true)∧(∀ k,M k=true→w.heap.size≤k)∧Below w.heap.size w w'∧(N=H.N∧P=H.P∧S=H.S∧g3=H.g3∧g4=H.g4∧g5=H.g5)∧∀ n,H.pl n=none
theorem ary_mk {o:Int} {f:Nat→Pgd} {n N P S:Nat} {g3 g4 g5:Int} {w:World} {e:Ending} {w':World} (H:Ch) (q:Qz) (M U:Nat→Bool) (l:List na.Opn) (h1:e=.returned (.tuple #[.pointer (some ⟨H.c,0,none⟩),.agg (chl H q (ast H o f n)).toArray])) (h2:Cs H M w' (ast H o f n) l) (h3:Rc H (ast H o f n) q (na.hid U w')) (h4:∀ k,M k=true→U k=true) (h5:∀ k,M k=true→w.heap.size≤k) (h6:Below w.heap.size w w') (h7:N=H.N∧P=H.P∧S=H.S∧g3=H.g3∧g4=H.g4∧g5=H.g5) (h8:∀ n,H.pl n=none):AryR o f n N P S g3 g4 g5 w e w':=⟨H,q,M,U,l,h1,h2,h3,h4,h5,h6,h7,h8⟩
theorem results_vcA {fn:Func} {p q:Tmp} {t:TypeId} (h:fn.results=#[.tmp q,.cell p t]) (tmps:Array Value) (w:World) (b:Nat) (cs:List Value) (v:Value) (ht:Rowy t cs.length) (hp:tmps.getD p undef=.pointer (some ⟨b,0,none⟩)) (hq:tmps.getD q undef=v) (ha:w.rangeAt b 0 cs):(results fn tmps).run Tryz.prog w=.ok (.tuple #[v,.agg cs.toArray]) w:=by
 have hp':tmps[p]?.getD undef=.pointer (some ⟨b,0,none⟩):=by simpa using hp
 have hq':tmps[q]?.getD undef=v:=by simpa using hq
 simp [results,h,hp',hq',asAddr,run_loadC ht ha]
theorem start_two {H:Ch} {R:World→Prop} {w w':World} {M:Nat→Bool} {s:na.St} {l:List na.Opn} {b2 b5 m:Nat} {c2 c5:List Value} (h:Cs H M w' s l) (hp0:∀ n,H.pl n=none) (hU:na.Mlt (fun k=>M k || (decide (k=b2) || decide (k=b5))) w') (hR:R (na.hid (fun k=>M k || (decide (k=b2) || decide (k=b5))) w')) (hk:Kp R) (h0:Below w.heap.size w w') (hu:∀ k,M k=true→m≤k) (l1:b2<b5) (l2:b5<m) (v2:Vr w' b2 c2) (v5:Vr w' b5 c5) (n2:(∀ v ∈ c2,∀ y,v≠ .int .u8 y)→NoB w' b2) (n5:NoB w' b5) (hb:w.heap.size≤b2:=by exact Nat.le_refl _):Lw H R w w M (fun k=>M k || (decide (k=b2) || decide (k=b5))) M w' s l [(b2,c2),(b5,c5)]:=by
 have hM:∀ k,k<m→M k=false:=fun k q=>by
  cases z:M k with
  |false=>rfl
  |true=>have:=hu k z;omega
 have hMb:∀ k,M k=true→w.heap.size≤k:=fun k q=>by have:=hu k q;omega
 refine Lw.start2 h hp0 hU (fun k q=>by simp [q]) hR hk h0 hMb (fun i hi=>?_) (fun i j hij hj=>?_)
 ·match i,hi with
  |0,_=>exact ⟨v2,by simp [vk],hb,hU b2 (by simp),hM b2 (by omega),n2⟩
  |1,_=>exact ⟨v5,by simp [vk],by show _≤b5;omega,hU b5 (by simp),hM b5 l2,fun _=>n5⟩
 ·have hj:j<2:=hj
  obtain ⟨rfl,rfl⟩:i=0∧j=1:=by omega
  exact l1
theorem array_any (N P S:Nat) (g3 g4 g5:Int) (ao:Option Addr) (n cap:Nat) (u:Nat→Bool) (z e t:Nat→Int) (v:Nat→Value) (bad o:Int) (f:Nat→Pgd) (w:World) (hs:na.Shp [(N:Int),(P:Int),(S:Int),g3,g4,g5] N P (S+88)) (hp:Pgl w (.slice ao n cap) n f) (hn:n≤40):
  Calls Tryz.prog 8 #[.agg (csz (N:Int) (P:Int) (S:Int) g3 g4 g5 (.slice ao n cap) u z e t v bad).toArray,.int .u8 o] w fun x w'=>AryR o f n N P S g3 g4 g5 w x w':=by
 have SN:Hid (∀ w0,Calls Tryz.prog 18 #[.agg (ints .i64 [(N:Int),(P:Int),(S:Int),g3,g4,g5]),.slice none 0 0] w0 fun e w'=>∃ H M,e=.returned (.tuple #[.pointer (some ⟨H.c,0,none⟩),.int .i64 0])∧Cs H M w' (na.new (S+88)) []∧(∀ k,M k=true→w0.heap.size≤k)∧Below w0.heap.size w0 w'∧(N=H.N∧P=H.P∧S=H.S∧g3=H.g3∧g4=H.g4∧g5=H.g5)∧∀ n,H.pl n=none):=fun w0=>new_cs N P S g3 g4 g5 hs w0
 have SHP:=hdH (hs)
 have N40:=hdH (hn)
 have HPL:Hid (0<n→∃ b off,ao=some ⟨b,off,none⟩∧∀ i,i<n→w.rangeAt b (off+i*10) (f i).cs):=(by
  obtain ⟨_,_,e9,_,q,_⟩:=hp
  injection e9 with e7 _ _
  rw [e7];exact q)
 have OKP:Hid (∀ i,i<n→(f i).ok):=(by obtain ⟨_,_,_,_,_,q⟩:=hp;exact q)
 clear hs hp hn
 have t0:=tR
 go_enter Tryz.func8,Tryz.ntmps8
 go_wp2_with (first
  |(have q7:=t7;(with_reducible refine at_store ?_);refine store_lawC _ (chl H q0 (na.new H.T)) w4.heap.size 0 rfl rfl (HQ.out.at 2 w4.heap.size Zc).2 rowy_chipR.2 (chl_one _ _ _) ?_;intro w6 E9 _ _ _;have E9:=E9.out;have HL:Hid (Lw H (Rc H (na.new H.T) q0) w w M0 (fun k=>M0 k || (decide (k=w.heap.size) || decide (k=w1.heap.size))) M0 w6 (na.new H.T) [] [(w.heap.size,(csz (H.N:Int) (H.P:Int) (H.S:Int) H.g3 H.g4 H.g5 (.slice ao n cap) u z e t v bad)),(w1.heap.size,Zc),(w4.heap.size,chl H q0 (na.new H.T))]):=(by rw [E9];exact HQ.out.store 2 (show 2<3 by decide) zc_nob (chl_nob _ _ _) rfl);clear E9 HQ t7;have c2_6:=(HL.out.at 0 w.heap.size (csz (H.N:Int) (H.P:Int) (H.S:Int) H.g3 H.g4 H.g5 (.slice ao n cap) u z e t v bad)).cell 6 _ rfl)
  |(have q6:=t6;(with_reducible refine at_alloc ?_);refine new_lawN _ Zc zero_chipR zc_nob ?_;intro w5 X9 N9 B9;have HQ:Hid (Lw H (Rc H (na.new H.T) q0) w w M0 (fun k=>M0 k || (decide (k=w.heap.size) || decide (k=w1.heap.size))) M0 w5 (na.new H.T) [] [(w.heap.size,(csz (H.N:Int) (H.P:Int) (H.S:Int) H.g3 H.g4 H.g5 (.slice ao n cap) u z e t v bad)),(w1.heap.size,Zc),(w4.heap.size,Zc)]):=HQ.out.new B9 X9 (fun _=>N9) (range_lt X9.1 (Nat.succ_pos _));clear X9 N9 B9 t6;have t7:=tR)
  |(have q5:=t5;go_at_call 21;have hU:na.Mlt (fun k=>M0 k || (decide (k=w.heap.size) || decide (k=w1.heap.size))) w3:=(fun k hk=>by simp only [Bool.or_eq_true,decide_eq_true_eq] at hk;rcases hk with q | q | q;exact HC.out.2.1 k q;exact Nat.lt_of_le_of_lt (Nat.le_of_eq q) (range_lt HV.out.1 (Nat.succ_pos _));exact Nat.lt_of_le_of_lt (Nat.le_of_eq q) (range_lt HV5.out.1 (Nat.succ_pos _)));refine (rnew_rc SHP.out none 0 0 (fun k=>M0 k || (decide (k=w.heap.size) || decide (k=w1.heap.size))) w3 hU (pla_nil _ _ _ HP.out)).mono ?_;rintro e9 w4 ⟨q0,rfl,h1,h2⟩;have HQ:Hid (Lw H (Rc H (na.new H.T) q0) w w M0 (fun k=>M0 k || (decide (k=w.heap.size) || decide (k=w1.heap.size))) M0 w4 (na.new H.T) [] [(w.heap.size,(csz (H.N:Int) (H.P:Int) (H.S:Int) H.g3 H.g4 H.g5 (.slice ao n cap) u z e t v bad)),(w1.heap.size,Zc)]):=start_two (HC.out.below h2) HP.out (fun k hk=>Nat.lt_of_lt_of_le (hU k hk) h2.size) h1 (kp_rc _ _ _) (BB.out.trans (h2.mono BB.out.size)) HM.out L1.out L2.out (HV.out.below h2 (range_lt HV.out.1 (Nat.succ_pos _))) (HV5.out.below h2 (range_lt HV5.out.1 (Nat.succ_pos _))) (fun q=>(NV.out q).heap (h2.block _ (range_lt HV.out.1 (Nat.succ_pos _)))) (N5.out.heap (h2.block _ (range_lt HV5.out.1 (Nat.succ_pos _))));clear h1 h2 hU t5 HC HV HV5 NV N5 BB;have t6:=tR)
  |(have q4:=t4;refine load_lawC _ rfl [.int .i64 (H.N:Int),.int .i64 (H.P:Int),.int .i64 (H.S:Int),.int .i64 H.g3,.int .i64 H.g4,.int .i64 H.g5] w.heap.size 0 rfl (csz_geo HV.out) rowy_geo6 ?_;clear t4;have t5:=tR)
  |(have q3:=t3;go_at_call 18;refine (SN.out w2).mono ?_;rintro e9 w3 ⟨H,M0,rfl,h1,h2,h3,⟨rfl,rfl,rfl,rfl,rfl,rfl⟩,h5⟩;have HC:=hdH (h1);have HM:=hdH (h2);have HP:=hdH (h5);have L2:Hid (w1.heap.size<w2.heap.size):=range_lt HV5.out.1 (Nat.succ_pos _);have NV:Hid ((∀ v' ∈ (csz (H.N:Int) (H.P:Int) (H.S:Int) H.g3 H.g4 H.g5 (.slice ao n cap) u z e t v bad),∀ y,v'≠ .int .u8 y)→NoB w3 w.heap.size):=fun q=>(NV.out q).heap (h3.block _ (Nat.lt_trans L1.out L2.out));have HV:=hdH (HV.out.below h3 (Nat.lt_trans L1.out L2.out));have HV5:=hdH (HV5.out.below h3 L2.out);have N5:=hdH (N5.out.heap (h3.block _ L2.out));have BB:=hdH (BB.out.trans (h3.mono BB.out.size));clear h1 h2 h3 h5 t3;have t4:=tR)
  |(have q2:=t2;refine load_lawC _ rfl [.int .i64 (N:Int),.int .i64 (P:Int),.int .i64 (S:Int),.int .i64 g3,.int .i64 g4,.int .i64 g5] w.heap.size 0 rfl (csz_geo HV.out) rowy_geo6 ?_;clear t2;have t3:=tR)
  |(have q1:=t1;(with_reducible refine at_alloc ?_);refine new_lawN _ Zc zero_chipR zc_nob ?_;intro w2 X9 N9 B9;have HV5:=hdH (X9);have N5:=hdH (N9);have L1:Hid (w.heap.size<w1.heap.size):=range_lt HV.out.1 (Nat.succ_pos _);have NV:Hid ((∀ v' ∈ (csz (N:Int) (P:Int) (S:Int) g3 g4 g5 (.slice ao n cap) u z e t v bad),∀ y,v'≠ .int .u8 y)→NoB w2 w.heap.size):=fun q=>(NV.out q).heap (B9.block _ L1.out);have HV:=hdH (HV.out.below B9 L1.out);have BB:=hdH (BB.out.trans (B9.mono BB.out.size));clear X9 N9 B9 t1;have t2:=tR)
  |(have q0:=t0;refine box_lawM _ (csz (N:Int) (P:Int) (S:Int) g3 g4 g5 (.slice ao n cap) u z e t v bad) rfl ?_;intro w1 X9 N9 B9 l9;have HV:=hdH (X9);have NV:=hdH (N9);have BB:=hdH (B9);clear X9 N9 B9 l9 t0;have t1:=tR))
 have SHH:=hdH (SHP.out)
 go_loopw [9] (fun i wr=>AryI H M0 w (fun k=>M0 k || (decide (k=w.heap.size) || decide (k=w1.heap.size))) o f n w.heap.size w1.heap.size w4.heap.size (csz (H.N:Int) (H.P:Int) (H.S:Int) H.g3 H.g4 H.g5 (.slice ao n cap) u z e t v bad) i wr) (fun i _=>n-(intOf i).toNat)
 case atStart=>exact ⟨0,q0,M0,[],Nat.zero_le _,rfl,HL.out⟩
 case round=>
  obtain ⟨k,q,M,l,hk,rfl,h9⟩:=hrel
  have HL:=hdH (h9)
  clear h9 c2_6
  have c2_6:=(HL.out.at 0 w.heap.size (csz (H.N:Int) (H.P:Int) (H.S:Int) H.g3 H.g4 H.g5 (.slice ao n cap) u z e t v bad)).cell 6 _ rfl
  by_cases hlt:k<n
  ·have lk:(k:Int)<(n:Int):=by omega
   have KN:Hid (k<n):=hlt
   have kb:k<40:=by have:=N40.out;omega
   obtain ⟨pb,pf,e8,hr8⟩:=HPL.out (by omega)
   have AO:=hdH (e8)
   have HPG:Hid (∀ W,Below w.heap.size w W→W.rangeAt pb (pf+k*10) (f k).cs):=fun W q=>range_heap (hr8 k hlt) (q.block pb (range_lt (hr8 k hlt) (Nat.succ_pos _)))
   clear hr8 e8 hk
   go_wp2_with fail
   have HL:Hid (Lw H (Rc H (ast H o f k) q) w w M0 (fun k=>M0 k || (decide (k=w.heap.size) || decide (k=w1.heap.size))) M wr.drew (ast H o f k) l [(w.heap.size,(csz (H.N:Int) (H.P:Int) (H.S:Int) H.g3 H.g4 H.g5 (.slice ao n cap) u z e t v bad)),(w1.heap.size,Zc),(w4.heap.size,chl H q (ast H o f k))]):=HL.out.below (Below.refl _ _).drew
   refine wp_region_held_drew (S:=fun w'=>Vr w' w.heap.size (csz (H.N:Int) (H.P:Int) (H.S:Int) H.g3 H.g4 H.g5 (.slice ao n cap) u z e t v bad)∧w'.rangeAt pb (pf+k*10) (f k).cs) (by kernel_rfl) ⟨HL.out.at 0 w.heap.size (csz (H.N:Int) (H.P:Int) (H.S:Int) H.g3 H.g4 H.g5 (.slice ao n cap) u z e t v bad),HPG.out _ HL.out.bl⟩ (fun hS=>?_)
   obtain ⟨x1,hx0⟩:∃ x,x=wr.drew:=⟨_,rfl⟩
   rw [←hx0] at hS HL ⊢
   clear hx0
   refine tkH 0 (some 26) (.pointer (some ⟨H.c,0,none⟩)) rfl rfl (Or.inl ⟨by rfl,fun w' hw'=>by rfl⟩) hS ?_
   simp only [Act.put,zE1,zE2,zE3]
   refine tkH 2 (some 28) (.pointer (some ⟨w.heap.size,6,none⟩)) rfl rfl (Or.inl ⟨by rfl,fun w' hw'=>by go_simp⟩) hS ?_
   simp only [Act.put,zE1,zE2,zE3]
   refine tkH 3 (some 29) (.slice ao n cap) rfl rfl (Or.inl ⟨by rfl,fun w' hw'=>by exact exec_loadN 24 (.tmp 28) rfl _ rfl _ _ (load_one one_spages (hw'.1.cell 6 _ rfl))⟩) hS ?_
   simp only [Act.put,zE1,zE2,zE3]
   refine tkH 4 (some 30) (.int .i64 (k:Int)) rfl rfl (Or.inl ⟨by rfl,fun w' hw'=>by rfl⟩) hS ?_
   simp only [Act.put,zE1,zE2,zE3]
   refine tkH 5 (some 31) (.pointer (some ⟨pb,pf+k*10,none⟩)) rfl rfl (Or.inl ⟨by rfl,fun w' hw'=>by exact exec_idxP (.tmp 29) (.tmp 30) rfl pb pf n cap k (congrArg (fun a=>Value.slice a n cap) AO.out) rfl KN.out _⟩) hS ?_
   simp only [Act.put,zE1,zE2,zE3]
   refine tkH 6 (some 32) (.agg (f k).cs.toArray) rfl rfl (Or.inl ⟨by rfl,fun w' hw'=>by exact exec_loadN 84 (.tmp 31) rfl _ rfl _ _ (load_cells rowy_spage hw'.2)⟩) hS ?_
   simp only [Act.put,zE1,zE2,zE3]
   refine tkH 7 (some 33) (.int .u8 o) rfl rfl (Or.inl ⟨by rfl,fun w' hw'=>by rfl⟩) hS ?_
   simp only [Act.put,zE1,zE2,zE3]
   refine wpAnyH_ready (rs:=[1]) (by kernel_rfl) (by simp) ?_
   refine AllReadyH.cons rfl (fun K hK=>?_) AllReadyH.nil
   refine na.step_load _ rfl (some 27) rfl (.tmp 8) 38 rfl _ (.agg (chl H q (ast H o f k)).toArray) rfl (load_cells rowy_chipR (HL.out.at 2 w4.heap.size (chl H q (ast H o f k))).1) ?_
   refine hK.out _ _ hS (fun _=>?_)
   simp only [Act.put,zE1,zE2,zE3]
   clear hK K
   refine wpAnyH_ready (rs:=[8]) (by kernel_rfl) (by simp) ?_
   refine AllReadyH.cons rfl (fun K hK=>?_) AllReadyH.nil
   refine step_callW _ (by rfl) (some 34) rfl 22 #[.tmp 26,.tmp 27,.tmp 32,.tmp 33] #[34,38,84,5] rfl (fun q w'=>by rfl) #[.pointer (some ⟨H.c,0,none⟩),.agg (chl H q (ast H o f k)).toArray,.agg (f k).cs.toArray,.int .u8 o] (by simp only [List.map_toArray,List.map_cons,List.map_nil];rfl) (fun zz w'=>∃ q2 M2 l2,zz=.agg (chl H q2 (ast H o f (k+1))).toArray ∧Lw H (Rc H (ast H o f (k+1)) q2) w w M0 (fun k=>M0 k || (decide (k=w.heap.size) || decide (k=w1.heap.size))) M2 w' (ast H o f (k+1)) l2 [(w.heap.size,(csz (H.N:Int) (H.P:Int) (H.S:Int) H.g3 H.g4 H.g5 (.slice ao n cap) u z e t v bad)),(w1.heap.size,Zc),(w4.heap.size,chl H q (ast H o f k))]) ?_ ?_
   ·exact (HL.out.both (P:=fun q2 s2 e=>s2=(ast H o f (k+1))∧e=.returned (.agg (chl H q2 (ast H o f (k+1))).toArray)) (R':=fun q2 s2=>Rc H s2 q2) (fun U h1 h2 h3=>(program_any H M U w x1 (ast H o f k) l q (f k).b (f k).p (f k).k (f k).n (f k).c (f k).l (f k).e (f k).t (f k).s o (f k).d HL.out.bs SHH.out HP.out (ast_ok HP.out o f k).1 (by have:=(ast_ok HP.out o f k).2;have:=N40.out;have:=KN.out;omega) h1 h2 h3 HL.out.bl HL.out.mu (OKP.out k KN.out)).mono (by rintro e w' ⟨q2,M2,l2,a1,a2,a3,a4,a5⟩;exact ⟨q2,M2,_,l2,⟨rfl,a1⟩,a2,a3,a4,a5⟩)) (fun q2 s2=>kp_rc _ _ _)).mono (by rintro e w' ⟨q2,M2,s2,l2,⟨rfl,a1⟩,a2⟩;exact ⟨_,a1,q2,M2,l2,rfl,a2⟩)
   rintro _ x2 ⟨q2,M2,l2,rfl,h9⟩
   have HL:=hdH (h9)
   have hS:Vr x2 w.heap.size (csz (H.N:Int) (H.P:Int) (H.S:Int) H.g3 H.g4 H.g5 (.slice ao n cap) u z e t v bad)∧x2.rangeAt pb (pf+k*10) (f k).cs :=⟨HL.out.at 0 w.heap.size (csz (H.N:Int) (H.P:Int) (H.S:Int) H.g3 H.g4 H.g5 (.slice ao n cap) u z e t v bad),HPG.out x2 HL.out.bl⟩
   clear h9
   refine hK.out _ _ hS (fun _=>?_)
   simp only [Act.put,zE1,zE2,zE3]
   clear hK K
   refine wpAnyH_ready (rs:=[9]) (by kernel_rfl) (by simp) ?_
   refine AllReadyH.cons rfl (fun K hK=>?_) AllReadyH.nil
   refine step_storeM _ rfl none rfl (.tmp 8) (.tmp 34) 38 rfl w4.heap.size (chl H q (ast H o f k)) (chl H q2 (ast H o f (k+1))) rfl rfl (HL.out.at 2 w4.heap.size (chl H q (ast H o f k))) rfl rowy_chipR.2 (chl_one _ _ _) ?_
   intro x3 E9
   have HL:Hid (Lw H (Rc H (ast H o f (k+1)) q2) w w M0 (fun k=>M0 k || (decide (k=w.heap.size) || decide (k=w1.heap.size))) M2 x3 (ast H o f (k+1)) l2 [(w.heap.size,(csz (H.N:Int) (H.P:Int) (H.S:Int) H.g3 H.g4 H.g5 (.slice ao n cap) u z e t v bad)),(w1.heap.size,Zc),(w4.heap.size,chl H q2 (ast H o f (k+1)))]):=(by rw [E9.out];exact HL.out.store 2 (show 2<3 by decide) (chl_nob _ _ _) (chl_nob _ _ _) rfl)
   have hS:Vr x3 w.heap.size (csz (H.N:Int) (H.P:Int) (H.S:Int) H.g3 H.g4 H.g5 (.slice ao n cap) u z e t v bad)∧x3.rangeAt pb (pf+k*10) (f k).cs :=⟨HL.out.at 0 w.heap.size (csz (H.N:Int) (H.P:Int) (H.S:Int) H.g3 H.g4 H.g5 (.slice ao n cap) u z e t v bad),HPG.out x3 HL.out.bl⟩
   clear E9
   refine hK.out _ _ hS (fun _=>?_)
   simp only [Act.put]
   clear hK K
   refine wpAnyH_done (by kernel_rfl) ?_ _
   go_wp2
   go_roundw
   case rel=>exact ⟨k+1,q2,M2,l2,by have:=KN.out;omega,by go_num,HL.out⟩
   case measure=>simp [intOf];have:=KN.out;omega
  ·have ek:k=n:=by omega
   subst ek
   have lk:¬(k:Int)<(k:Int):=by omega
   clear hk hlt
   go_wp2_with fail
   have HL:Hid (Lw H (Rc H (ast H o f k) q) w w M0 (fun k=>M0 k || (decide (k=w.heap.size) || decide (k=w1.heap.size))) M wr.drew (ast H o f k) l [(w.heap.size,(csz (H.N:Int) (H.P:Int) (H.S:Int) H.g3 H.g4 H.g5 (.slice ao k cap) u z e t v bad)),(w1.heap.size,Zc),(w4.heap.size,chl H q (ast H o f k))]):=HL.out.below (Below.refl _ _).drew
   refine wp_region_held_drew (S:=fun w'=>Vr w' w4.heap.size (chl H q (ast H o f k))) (by kernel_rfl) (HL.out.at 2 w4.heap.size (chl H q (ast H o f k))) (fun hS=>?_)
   obtain ⟨y1,hx0⟩:∃ x,x=wr.drew:=⟨_,rfl⟩
   rw [←hx0] at hS HL ⊢
   clear hx0
   refine tkH 0 (some 35) (.pointer (some ⟨H.c,0,none⟩)) rfl rfl (Or.inl ⟨by rfl,fun w' hw'=>by rfl⟩) hS ?_
   simp only [Act.put,zE1,zE2,zE3]
   refine tkH 1 (some 36) (.agg (chl H q (ast H o f k)).toArray) rfl rfl (Or.inl ⟨by rfl,fun w' hw'=>by exact exec_loadN 38 (.tmp 8) rfl _ rfl _ _ (load_cells rowy_chipR hw'.1)⟩) hS ?_
   simp only [Act.put,zE1,zE2,zE3]
   refine tkH 2 (some 4) (.pointer (some ⟨H.c,0,none⟩)) rfl rfl (Or.inl ⟨by rfl,fun w' hw'=>by rfl⟩) hS ?_
   simp only [Act.put,zE1,zE2,zE3]
   refine wpAnyH_ready (rs:=[3]) (by kernel_rfl) (by simp) ?_
   refine AllReadyH.cons rfl (fun K hK=>?_) AllReadyH.nil
   refine step_storeM _ rfl none rfl (.tmp 5) (.tmp 36) 38 rfl w1.heap.size Zc (chl H q (ast H o f k)) rfl rfl (HL.out.at 1 w1.heap.size Zc) rfl rowy_chipR.2 (chl_one _ _ _) ?_
   intro y2 E9
   have HL:Hid (Lw H (Rc H (ast H o f k) q) w w M0 (fun k=>M0 k || (decide (k=w.heap.size) || decide (k=w1.heap.size))) M y2 (ast H o f k) l [(w.heap.size,(csz (H.N:Int) (H.P:Int) (H.S:Int) H.g3 H.g4 H.g5 (.slice ao k cap) u z e t v bad)),(w1.heap.size,chl H q (ast H o f k)),(w4.heap.size,chl H q (ast H o f k))]):=(by rw [E9.out];exact HL.out.store 1 (show 1<3 by decide) zc_nob (chl_nob _ _ _) rfl)
   have hS:Vr y2 w4.heap.size (chl H q (ast H o f k)):=HL.out.at 2 w4.heap.size (chl H q (ast H o f k))
   clear E9
   refine hK.out _ _ hS (fun _=>?_)
   simp only [Act.put]
   clear hK K
   refine wpAnyH_done (by kernel_rfl) ?_ _
   go_wp2
   exact bodyPost_ret (v:=.tuple #[.pointer (some ⟨H.c,0,none⟩),.agg (chl H q (ast H o f k)).toArray]) (results_vcA rfl _ _ w1.heap.size _ _ rowy_chipR rfl rfl (HL.out.at 1 w1.heap.size (chl H q (ast H o f k))).1) rfl (ary_mk H q M _ l rfl HL.out.bs (HL.out.outR (T:=Rc H (ast H o f k) q) (fun _ z=>z) fun M1 hm z=>rc_less M1 _ hm z) (fun k z=>by simp [z]) HL.out.mu HL.out.bl ⟨rfl,rfl,rfl,rfl,rfl,rfl⟩ HP.out)
end Go.Proofs.YtmbgokmomkmgcaaGreatDoor.sc
namespace Go.Proofs.YtmbgokmomkmgcaaGreatDoor.sc
open Go.ChangeShapes Go.WideShapes Go.ChangeAt Go.RowKit Go.Proofs.YtmbgokmomkmgcaaGreatDoor.fa Go.Proofs.YtmbgokmomkmgcaaGreatDoor.he
set_option maxRecDepth 20000
theorem celI:Tryz.prog.cellsOf 3=1:=by kernel_rfl
theorem celB:Tryz.prog.cellsOf 4=1:=by kernel_rfl
theorem cel8:Tryz.prog.cellsOf 5=1:=by kernel_rfl
theorem cel32:Tryz.prog.cellsOf 62=1:=by kernel_rfl
theorem cel64:Tryz.prog.cellsOf 25=1:=by kernel_rfl
theorem celY:Tryz.prog.cellsOf 26=1:=by kernel_rfl
theorem celP:Tryz.prog.cellsOf 78=2:=by kernel_rfl
theorem celH:Tryz.prog.cellsOf 64=6:=by kernel_rfl
theorem celG:Tryz.prog.cellsOf 23=6:=by kernel_rfl
theorem celS:Tryz.prog.cellsOf 28=5:=by kernel_rfl
theorem celS4:Tryz.prog.cellsOf 29=20:=by kernel_rfl
theorem celPG:Tryz.prog.cellsOf 84=10:=by kernel_rfl
theorem celPS:Tryz.prog.cellsOf 24=1:=by kernel_rfl
theorem celC:Tryz.prog.cellsOf 31=28:=by kernel_rfl
instance:Inhabited Pgd:=⟨⟨0,0,0,0,0,0,0,0,0,false⟩⟩
section
variable {H:Type} {enc:TypeId × Value→H} {W:World}
theorem byt_shape {fuel:Nat} {v:Value} {x:DataW H × List MemPlace} (hf:DataW.trod enc Tryz.prog W 0 (fun _=>true) true fuel 26 [v]=some x):∃ ao m c,v=.slice ao m c:=by
 rcases Go.Deep.open_slice Tryz.underlying26 hf with ⟨hcs, -⟩ | ⟨a,len,cap,m,n,D,Pl,hcs, -⟩
 ·exact ⟨none,0,0,by simpa using hcs⟩
 ·exact ⟨some a,len,cap,by simpa using hcs⟩
theorem slot_shape {fuel:Nat} {c0 c1 c2 c3 c4:Value} {x:DataW H × List MemPlace}
  (hf:DataW.trod enc Tryz.prog W 0 (fun _=>true) true fuel 28 [c0,c1,c2,c3,c4]=some x):∃ u z e t ao m c,c0=.bool u∧c1=.int .i64 z∧c2=.int .u64 e∧c3=.int .u64 t∧c4=.slice ao m c:=by
 obtain ⟨xs,n, -, -, -,hlen,hall⟩:=DataW.trod_struct Tryz.underlying28 hf
 match xs,hlen with
 |[y0,y1,y2,y3,y4],_=>
  have a0:=hall 0 _ rfl
  have a1:=hall 1 _ rfl
  have a2:=hall 2 _ rfl
  have a3:=hall 3 _ rfl
  have a4:=hall 4 _ rfl
  simp [celI,cel64,celY,celB] at a0 a1 a2 a3 a4
  obtain ⟨b0,hb0, -⟩:=DataW.trod_bool Tryz.underlying4 a0
  obtain ⟨x1,hx1, -⟩:=DataW.trod_int Tryz.underlying3 a1
  obtain ⟨x2,hx2, -⟩:=DataW.trod_int Tryz.underlying25 a2
  obtain ⟨x3,hx3, -⟩:=DataW.trod_int Tryz.underlying25 a3
  obtain ⟨ao,m,c,h4⟩:=byt_shape a4
  simp at hb0 hx1 hx2 hx3
  exact ⟨b0,x1,x2,x3,ao,m,c,hb0,hx1,hx2,hx3,h4⟩
set_option maxRecDepth 20000 in
theorem pages_cell {fuel:Nat} {v:Value} {x:DataW H × List MemPlace} (hf:DataW.trod enc Tryz.prog W 0 (fun _=>true) true fuel 24 [v]=some x):∃ n f,Pgl W v n f:=by
 rcases Go.Deep.open_slice Tryz.underlying24 hf with ⟨hcs,hx⟩ | ⟨a,len,cap,m,n,D,Pl,hcs,_,hl,hm,hmm,hx,hr⟩
 ·obtain rfl:v=.slice none 0 0:=by simpa using hcs
  exact ⟨0,fun _=>⟨0,0,0,0,0,0,0,0,0,false⟩,none,0,rfl,Nat.le_refl _,fun h=>absurd h (Nat.lt_irrefl 0),fun i hi=>absurd hi (Nat.not_lt_zero i)⟩
 ·obtain rfl:v=.slice (some a) len cap:=by simpa using hcs
  simp at hmm
  subst hmm
  have each:∀ i,i<len→∃ q:Pgd,(∀ j u,q.cs[j]? =some u→W.cell? (a.add (i*10+j))=some u)∧q.ok:=by
   intro i hi
   obtain ⟨cs',h1,h2⟩:=hr i (by omega)
   rw [celPG] at h1
   obtain ⟨_,hlen,hcell⟩:=World.cells?_some h1
   obtain ⟨xs,k,hk,hxy,_,hxl,hff⟩:=DataW.trod_struct Tryz.underlying84 h2
   match xs,hxl,cs',hlen with
   |[y0,y1,y2,y3],_,[v0,v1,v2,v3,v4,v5,v6,v7,v8,v9],_=>
    have g0:=hff 0 _ rfl
    have g1:=hff 1 _ rfl
    have g2:=hff 2 _ rfl
    have g3:=hff 3 _ rfl
    simp [celP,celH,cel8,celB] at g0 g1 g2 g3
    obtain ⟨ys,k',hk',hyy,_,hyl,hgg⟩:=DataW.trod_struct Tryz.underlying78 g0
    obtain ⟨zs,k2,hk2,hzz,_,hzl,hzg⟩:=DataW.trod_struct Tryz.underlying64 g1
    match ys,hyl,zs,hzl with
    |[z0,z1],_,[s0,s1,s2,s3,s4,s5],_=>
     have p0:=hgg 0 _ rfl
     have p1:=hgg 1 _ rfl
     have r0:=hzg 0 _ rfl
     have r1:=hzg 1 _ rfl
     have r2:=hzg 2 _ rfl
     have r3:=hzg 3 _ rfl
     have r4:=hzg 4 _ rfl
     have r5:=hzg 5 _ rfl
     simp [celI,cel32,cel64] at p0 p1 r0 r1 r2 r3 r4 r5
     obtain ⟨x0,hx0, -⟩:=DataW.trod_int Tryz.underlying3 p0
     obtain ⟨x1,hx1, -⟩:=DataW.trod_int Tryz.underlying3 p1
     obtain ⟨x2,hx2, -⟩:=DataW.trod_int Tryz.underlying3 r0
     obtain ⟨x3,hx3, -⟩:=DataW.trod_int Tryz.underlying3 r1
     obtain ⟨x4,hx4, -⟩:=DataW.trod_int Tryz.underlying3 r2
     obtain ⟨x5,hx5, -,hw5⟩:=DataW.trod_int Tryz.underlying62 r3
     obtain ⟨x6,hx6, -,hw6⟩:=DataW.trod_int Tryz.underlying25 r4
     obtain ⟨x7,hx7, -,hw7⟩:=DataW.trod_int Tryz.underlying25 r5
     obtain ⟨x8,hx8, -⟩:=DataW.trod_int Tryz.underlying5 g2
     obtain ⟨x9,hx9, -⟩:=DataW.trod_bool Tryz.underlying4 g3
     simp at hx0 hx1 hx2 hx3 hx4 hx5 hx6 hx7 hx8 hx9
     subst hx0 hx1 hx2 hx3 hx4 hx5 hx6 hx7 hx8 hx9
     refine ⟨⟨x0,x1,x2,x3,x4,x5,x6,x7,x8,x9⟩,fun j u hj=>?_,bounds_u32 hw5,bounds_u64 hw6,bounds_u64 hw7⟩
     have hj':j<10:=(List.getElem?_eq_some_iff.1 hj).1
     have e:=hcell j (by omega)
     rw [Go.Deep.add_add] at e
     match j,hj,e with
     |0,hj,e=>simp [Pgd.cs,pgz] at hj;subst hj;simpa using e
     |1,hj,e=>simp [Pgd.cs,pgz] at hj;subst hj;simpa using e
     |2,hj,e=>simp [Pgd.cs,pgz] at hj;subst hj;simpa using e
     |3,hj,e=>simp [Pgd.cs,pgz] at hj;subst hj;simpa using e
     |4,hj,e=>simp [Pgd.cs,pgz] at hj;subst hj;simpa using e
     |5,hj,e=>simp [Pgd.cs,pgz] at hj;subst hj;simpa using e
     |6,hj,e=>simp [Pgd.cs,pgz] at hj;subst hj;simpa using e
     |7,hj,e=>simp [Pgd.cs,pgz] at hj;subst hj;simpa using e
     |8,hj,e=>simp [Pgd.cs,pgz] at hj;subst hj;simpa using e
     |9,hj,e=>simp [Pgd.cs,pgz] at hj;subst hj;simpa using e
  obtain ⟨q,hq⟩:=Go.Deep.choose_lt each
  refine ⟨len,q,some a,m,rfl,by omega,fun hp=>?_,fun i hi=>(hq i hi).2⟩
  obtain ⟨b,off,spot⟩:=a
  have hspot:spot=none:=by simpa [Addr.add] using World.cell?_spot ((hq 0 hp).1 0 _ rfl)
  subst hspot
  refine ⟨b,off,rfl,fun i hi j u hu=>?_⟩
  have:=(hq i hi).1 j u hu
  simp only [Addr.add_mid] at this
  rw [Nat.add_assoc]
  exact this
set_option maxRecDepth 20000 in
theorem case_open {base:Nat} {v:Value} {d:DataW H} {ps:List MemPlace}
  (ok:Value.okWide Tryz.prog W .any base 31 v) (h:DataW.Trod enc Tryz.prog W 0 (fun _=>true) true 31 v d ps):∃ (g0 g1 g2 g3 g4 g5:Int) (ao:Option Addr) (n cap:Nat) (u:Nat→Bool) (z e t:Nat→Int) (va:Nat→Option Addr) (vm vc:Nat→Nat) (bad:Int) (f:Nat→Pgd),v=.agg (csz g0 g1 g2 g3 g4 g5 (.slice ao n cap) u z e t (fun i=>.slice (va i) (vm i) (vc i)) bad).toArray ∧Pgl W (.slice ao n cap) n f:=by
 simp only [Value.okWide,Tryz.underlying31] at ok
 obtain ⟨cs,rfl,h2,_⟩:=ok
 rw [celC] at h2
 obtain ⟨l⟩:=cs
 match l,h2 with
 |[c0,c1,c2,c3,c4,c5,c6,d0,d1,d2,d3,d4,e0,e1,e2,e3,e4,f0,f1,f2,f3,f4,g0,g1,g2,g3,g4,c7],_=>
 obtain ⟨fuel,hf⟩:=h
 obtain ⟨xs,n, -,hxy, -,hlen,hall⟩:=DataW.trod_struct Tryz.underlying31 hf
 match xs,hlen with
 |[y0,y1,y2,y3],_=>
  have a0:=hall 0 _ rfl
  have a1:=hall 1 _ rfl
  have a2:=hall 2 _ rfl
  have a3:=hall 3 _ rfl
  simp [celG,celPS,celS4,cel64,Value.cells] at a0 a1 a2 a3
  obtain ⟨xs',n', -, -, -,hlen',hall'⟩:=DataW.trod_struct Tryz.underlying23 a0
  match xs',hlen' with
  |[z0,z1,z2,z3,z4,z5],_=>
   have b0:=hall' 0 _ rfl
   have b1:=hall' 1 _ rfl
   have b2:=hall' 2 _ rfl
   have b3:=hall' 3 _ rfl
   have b4:=hall' 4 _ rfl
   have b5:=hall' 5 _ rfl
   simp [celI] at b0 b1 b2 b3 b4 b5
   obtain ⟨x0,hx0, -⟩:=DataW.trod_int Tryz.underlying3 b0
   obtain ⟨x1,hx1, -⟩:=DataW.trod_int Tryz.underlying3 b1
   obtain ⟨x2,hx2, -⟩:=DataW.trod_int Tryz.underlying3 b2
   obtain ⟨x3,hx3, -⟩:=DataW.trod_int Tryz.underlying3 b3
   obtain ⟨x4,hx4, -⟩:=DataW.trod_int Tryz.underlying3 b4
   obtain ⟨x5,hx5, -⟩:=DataW.trod_int Tryz.underlying3 b5
   obtain ⟨bad,hx6, -⟩:=DataW.trod_int Tryz.underlying25 a3
   simp at hx0 hx1 hx2 hx3 hx4 hx5 hx6
   subst hx0 hx1 hx2 hx3 hx4 hx5 hx6
   obtain ⟨pn,f,hP⟩:=pages_cell a1
   obtain ⟨ao,cap,rfl, -⟩:=id hP
   obtain ⟨zs,m,rfl,hz,hcl,hzl,hza⟩:=DataW.trod_array Tryz.underlying29 a2
   match zs,hzl with
   |[w0,w1,w2,w3],_=>
    have s0:=hza 0 (by omega)
    have s1:=hza 1 (by omega)
    have s2:=hza 2 (by omega)
    have s3:=hza 3 (by omega)
    rw [celS] at s0 s1 s2 s3
    simp at s0 s1 s2 s3
    obtain ⟨u0,i0,j0,k0,o0,m0,q0,rfl,rfl,rfl,rfl,rfl⟩:=slot_shape s0
    obtain ⟨u1,i1,j1,k1,o1,m1,q1,rfl,rfl,rfl,rfl,rfl⟩:=slot_shape s1
    obtain ⟨u2,i2,j2,k2,o2,m2,q2,rfl,rfl,rfl,rfl,rfl⟩:=slot_shape s2
    obtain ⟨u3,i3,j3,k3,o3,m3,q3,rfl,rfl,rfl,rfl,rfl⟩:=slot_shape s3
    exact ⟨x0,x1,x2,x3,x4,x5,ao,pn,cap,fun k=>if k=0 then u0 else if k=1 then u1 else if k=2 then u2 else u3,fun k=>if k=0 then i0 else if k=1 then i1 else if k=2 then i2 else i3,fun k=>if k=0 then j0 else if k=1 then j1 else if k=2 then j2 else j3,fun k=>if k=0 then k0 else if k=1 then k1 else if k=2 then k2 else k3,fun k=>if k=0 then o0 else if k=1 then o1 else if k=2 then o2 else o3,fun k=>if k=0 then m0 else if k=1 then m1 else if k=2 then m2 else m3,fun k=>if k=0 then q0 else if k=1 then q1 else if k=2 then q2 else q3,bad,f,rfl,hP⟩
end
end Go.Proofs.YtmbgokmomkmgcaaGreatDoor.sc
