/- Parts of the proof: what ScanBlocks reaches. No claim of its own. -/
import Derived.Lib.MakeNoZero
import Derived.Deep.DeepCutAuto
import Derived.Deep.RegionHeld3
import Derived.Laws.AppendOwnNone
import Derived.Lib.AppendZeros
import Derived.Lib.SliceRun
import Derived.Laws.StructEq
import Derived.ArgAppend
import Derived.WalkKit
import Derived.WalkSmall
import Derived.ProofKit
import Derived.OpenShut
import Derived.BigQuiet
import Derived.Deep.QuietTactic
import Derived.Deep.WholeRow
import Derived.Deep.MidRow
import Derived.Deep.DeepHandedRow
import Derived.Lib.LaidTab
import Derived.Deep.Matrix
import Derived.OwnWalk
import Derived.Test.YtmbgokmomkmgcaaGreatDoorK00
import Derived.Test.YtmbgokmomkmgcaaGreatDoorK01
import Derived.Test.YtmbgokmomkmgcaaGreatDoorK02
import Derived.Test.YtmbgokmomkmgcaaGreatDoorK03
import Derived.Test.YtmbgokmomkmgcaaGreatDoorK04
import Derived.Test.YtmbgokmomkmgcaaGreatDoorK05
import Derived.Test.YtmbgokmomkmgcaaGreatDoorK06
import Derived.Test.YtmbgokmomkmgcaaGreatDoorK07
import Derived.Test.YtmbgokmomkmgcaaGreatDoorK08
import Derived.Test.YtmbgokmomkmgcaaGreatDoorK09
import Derived.Test.YtmbgokmomkmgcaaGreatDoorK10
import Derived.Test.YtmbgokmomkmgcaaGreatDoorK11
import Derived.Test.YtmbgokmomkmgcaaGreatDoorK12
import Derived.Test.YtmbgokmomkmgcaaGreatDoorK13
import Derived.Test.YtmbgokmomkmgcaaGreatDoorK14
import Derived.Test.YtmbgokmomkmgcaaGreatDoorK15
import Derived.Test.YtmbgokmomkmgcaaGreatDoorK16
import Derived.Test.YtmbgokmomkmgcaaGreatDoorK17
import Derived.Test.YtmbgokmomkmgcaaGreatDoorK18
import Derived.Test.YtmbgokmomkmgcaaGreatDoorK19
import Derived.Test.YtmbgokmomkmgcaaGreatDoorK20
import Derived.Test.YtmbgokmomkmgcaaGreatDoorK21
import Derived.Test.YtmbgokmomkmgcaaGreatDoorK25
import Derived.Test.YtmbgokmomkmgcaaGreatDoorK26
import Derived.Test.YtmbgokmomkmgcaaGreatDoorK27
import Derived.Test.YtmbgokmomkmgcaaGreatDoorK28
import Derived.Test.YtmbgokmomkmgcaaGreatDoorK29
set_option maxHeartbeats 8000000
namespace Go.Proofs.YtmbgokmomkmgcaaGreatDoor.sc
open Go.RowKit Go.Proofs.YtmbgokmomkmgcaaGreatDoor.fa Go.Proofs.YtmbgokmomkmgcaaGreatDoor.he Go.Proofs.YtmbgokmomkmgcaaGreatDoor.pa
set_option maxRecDepth 20000
def pgz (b p k n c l e t sd:Int) (d:Bool):List Value:=[.int .i64 b,.int .i64 p,.int .i64 k,.int .i64 n,.int .i64 c,.int .u32 l,.int .u64 e,.int .u64 t,.int .u8 sd,.bool d]
theorem rowy_spage:Rowy 84 10:=⟨⟨_,Tryz.underlying84,rfl⟩,by kernel_rfl⟩
theorem rowy_chipR:Rowy 38 10:=⟨⟨_,Tryz.underlying38,rfl⟩,by kernel_rfl⟩
theorem rowy_place:Rowy 78 2:=⟨⟨_,Tryz.underlying78,rfl⟩,by kernel_rfl⟩
theorem one_u8c:One 5:=⟨⟨_,Tryz.underlying5,rfl⟩,by kernel_rfl⟩
theorem zero_chipR:(Tryz.prog.info? 38).map (fun i=>(i.zero,i.size))=some (some (.agg Zc.toArray),Zc.length):=by kernel_rfl
theorem zc_nob:∀ v ∈ Zc,∀ y,v≠ .int .u8 y:=by
 intro v h y q
 subst q
 simp [Zc] at h
def g6 (H:Ch):List Value:=[.int .i64 (H.N:Int),.int .i64 (H.P:Int),.int .i64 (H.S:Int),.int .i64 H.g3,.int .i64 H.g4,.int .i64 H.g5]
theorem chl_geo {w:World} {b:Nat} {H:Ch} {q:Qz} {s:na.St} (h:Vr w b (chl H q s)):w.rangeAt b 0 (g6 H):=fun j v hj=>h.1 j v (by
 match j,hj with
 |0,hj=>exact hj
 |1,hj=>exact hj
 |2,hj=>exact hj
 |3,hj=>exact hj
 |4,hj=>exact hj
 |5,hj=>exact hj)
theorem pgz_pl {w:World} {g:Nat} {b p k n c l e t sd:Int} {d:Bool} (h:Vr w g (pgz b p k n c l e t sd d)):w.rangeAt g 0 [.int .i64 b,.int .i64 p]:=fun j v hj=>h.1 j v (by
 match j,hj with
 |0,hj=>exact hj
 |1,hj=>exact hj)
theorem pgz_hd {w:World} {g:Nat} {b p k n c l e t sd:Int} {d:Bool} (h:Vr w g (pgz b p k n c l e t sd d)):w.rangeAt g 2 (hv k n c l e t):=fun j u hj=>by
 have z:=h.1 (2+j) u (by
  match j,hj with
  |0,hj=>exact hj
  |1,hj=>exact hj
  |2,hj=>exact hj
  |3,hj=>exact hj
  |4,hj=>exact hj
  |5,hj=>exact hj)
 rwa [Nat.zero_add] at z
theorem kp_byt {R:World→Prop} (h:Kp R) (v:Value) (ys:List Int):Kp (fun w=>R w∧Byt w v ys):=fun a b hb q=>⟨h a b hb q.1,q.2.below hb⟩
section
variable {H:Ch} {R:World→Prop} {W0 W w w':World} {U0 E M:Nat→Bool} {s:na.St} {l:List na.Opn} {L:List (Nat × List Value)}
theorem Lw.own {f:FuncId} {args:Array Value} {ys:List Int} (h:Lw H R W0 W U0 E M w s l L) (ha:AllB ys) (hc:Calls Tryz.prog f args w fun e w'=>∃ v,e=.returned v∧Own w.heap.size w' v ys∧Below w.heap.size w w'):
  Calls Tryz.prog f args w fun e w'=>∃ v,e=.returned v∧Lw H (fun w=>R w∧Byt w v ys) W0 W U0 E M w' s l L∧Below w.heap.size w w':=by
 have hk:Kp R:=h.vs.kept
 exact h.call (P:=fun v e _=>e=.returned v) (R':=fun v w=>R w∧Byt w v ys) (fun M1 hm hr=>hc.mono (by
  rintro e w' ⟨v,rfl,ho,hb⟩
  exact ⟨v,rfl,⟨hk _ _ (na.below_hid hb) hr,na.own_hid ho ha hm⟩,hb⟩)) (fun v=>kp_byt hk v ys)
theorem Lw.tell {T:World→Prop} (h:Lw H R W0 W U0 E M w s l L) (hT:∀ U,R (na.hid U w)→T (na.hid U w)):∃ U,na.Mlt U w∧(∀ k,M k=true→U k=true)∧T (na.hid U w):=by
 obtain ⟨M1,h1,h2,h3, -⟩:=h.vs
 exact ⟨M1,h2,fun k q=>h3 k (by simp [q]),hT M1 h1⟩
theorem Lw.outR {T:World→Prop} (h:Lw H R W0 W U0 E M w s l L) (hT:∀ w,R w→T w) (hl:∀ M1,(∀ k,(E k || M k)=true→M1 k=true)→T (na.hid M1 w)→T (na.hid (fun k=>E k || M k) w)):T (na.hid (fun k=>E k || M k) w):=by
 obtain ⟨M1,h1, -,h3, -⟩:=h.vs
 exact hl M1 h3 (hT _ h1)
theorem Lw.byt {v:Value} {ys:List Int} (h:Lw H R W0 W U0 E M w s l L) (hT:∀ w,R w→Byt w v ys):Byt (na.hid M w) v ys:=by
 obtain ⟨U,h1,h2,h3⟩:=h.tell (T:=fun w=>Byt w v ys) (fun _ q=>hT _ q)
 exact na.byt_less h3 h2
theorem Lw.rprg {q:Qz} (h:Lw H R W0 W U0 E M w s l L) (hq:∀ w,R w→Rc H s q w) (hs:na.Shp H.g H.N H.P H.T) (hn:na.ops s≤1000000) (hp0:∀ n,H.pl n=none) (hC:Calm s) (b p:Int) (vb:Value) (ys:List Int) (hy:∀ w,R w→Byt w vb ys):
  Calls Tryz.prog 55 #[.agg (chl H q s).toArray,.agg (ints .i64 [b,p]),vb] w fun e w'=>∃ q',(∃ x,e=.returned (.tuple #[.agg (chl H q' (prs H s b p ys)).toArray,.int .i64 x]))∧Lw H (fun w=>R w∧Rc H (prs H s b p ys) q' w) W0 W U0 E M w' s l L∧Below w.heap.size w w':=by
 have hk:Kp R:=h.vs.kept
 have hb:=na.hid_byt (h.byt hy)
 exact h.call (P:=fun q' e _=>∃ x,e=.returned (.tuple #[.agg (chl H q' (prs H s b p ys)).toArray,.int .i64 x])) (R':=fun q' w=>R w∧Rc H (prs H s b p ys) q' w) (fun M1 hm hr=>(rprg_rc hs h.bs.2.2.1 hn hp0 hC hm (hq _ hr) b p vb ys hb).mono (by
  rintro e w' ⟨q',h1,h2,h3⟩
  exact ⟨q',h1,⟨hk _ _ (na.below_hid h3) hr,h2⟩,h3⟩)) (fun q' a b hb z=>⟨hk a b hb z.1,kp_rc _ _ _ a b hb z.2⟩)
theorem Lw.prgm (h:Lw H R W0 W U0 E M w s l L) (hn:na.ops s≤1000000) (b p:Int) (vb:Value) (ys:List Int) (hy:∀ w,R w→Byt w vb ys):
  Calls Tryz.prog 56 #[.pointer (some ⟨H.c,0,none⟩),.agg (ints .i64 [b,p]),vb] w fun e w'=>∃ x M' l',e=.returned (.int .i64 x)∧Lw H R W0 W U0 E M' w' (prs H s b p ys) l' L:=
 (prg_cs h.bs hn b p vb ys (h.byt hy)).mono (by
  rintro e w' ⟨x,M',l',h1,h2,h3,h4⟩
  exact ⟨x,M',l',h1,h.op h2 h3 h4⟩)
theorem Lw.store (h:Lw H R W0 W U0 E M w s l L) (i:Nat) (hi:i<L.length) {cs':List Value} (h0:∀ v ∈ vc L i,∀ y,v≠ .int .u8 y) (h1:∀ v ∈ cs',∀ y,v≠ .int .u8 y) (hl:(vc L i).length =cs'.length):Lw H R W0 W U0 E M (w.setCells (vk L i) 0 cs') s l (L.set i (vk L i,cs')):=by
 have hV:=h.vs.vr i rfl rfl hi
 have ht:w.there (vk L i) 0 cs'.length:=by rw [←hl];exact hV.2
 exact h.put i hi h0 ⟨World.rangeAt_setCells_same w _ 0 cs' ht,World.there_setCells ht _ 0 _⟩ (pa.NoB.set (h.nb i hi h0) hV hl h1) (grown_cells _ _ _ _)
end
section
variable {ops:Array Oper} {o:Oper} {a:Act} {Q:Exit→Act→World→Prop} {K:Act→World→Prop} {E:Prop}
theorem step_storeM (w:World) (hg:o.guard=none) (d:Option Tmp) (hd:o.dst=d) (x y:Operand) (t:TypeId) (hop:o.op=Op.store t x y) (c:Nat) (cs0 cs:List Value) (hx:a.eval x=.pointer (some ⟨c,0,none⟩)) (hy:a.eval y=.agg cs.toArray) (hV:Vr w c cs0) (hl:cs0.length=cs.length) (hs:(Tryz.prog.info? t).map (·.size)=some cs.length) (h1:∀ v ∈ cs,v.oneCell'=true)
  (hK:∀ w',Hid (w'=w.setCells c 0 cs)→K (a.put d undef) w'):if Region.wanted o (yielded ops a.tmps)=true then Oper.wp Tryz.prog o a w K Q else E:=by
 have hw:Region.wanted o (yielded ops a.tmps)=true:=by simp [Region.wanted,hg]
 rw [if_pos hw]
 subst hd
 have ht:w.there c 0 cs.length:=by rw [←hl];exact hV.2
 exact wp_store_mid t x y hop c 0 cs.toArray hx hy (by simpa using ht) (by simpa using hs) (all_oneCell_toArray h1) (hK _ rfl)
theorem box_lawM {rest:List Oper} {d:Option Tmp} {x:Operand} {t ty:TypeId} {pos:String} {af:Array Edge} (w:World) (cs:List Value) (hx:a.eval x=.agg cs.toArray)
  (hK:∀ w',Vr w' w.heap.size cs→((∀ v ∈ cs,∀ y,v≠ .int .u8 y)→NoB w' w.heap.size)→Below w.heap.size w w'→w.heap.size<w'.heap.size→wpList Tryz.prog ops Q rest (a.put d (.pointer (some ⟨w.heap.size,0,none⟩))) w'):
  wpList Tryz.prog ops Q (⟨d,Op.box t x,ty,pos,af,none⟩ :: rest) a w:=by
 refine wpList_plain rfl fun K hK'=>?_
 unfold Oper.wp
 simp [execOp,hx,Instr.box,newVar,newRow,Value.cells,Result.andThen]
 refine hK' _ _ (hK _ (Vr.new w t cs) (fun hc j y e=>?_) ((Below.refl _ _).alloc (Nat.le_refl _) _) (by simp))
 rw [cell_of_row (w.alloc (.cells cs.toArray t)) w.heap.size j _ t (0,0) (heap_alloc_last w _)] at e
 have e:cs[j]? =some (.int .u8 y):=by simpa using e
 exact hc _ (List.mem_of_getElem? e) y rfl
end
def PrgR (H:Ch) (M0 U:Nat→Bool) (w:World) (s':na.St) (e:Ending) (w':World):Prop:=
 ∃ (q':Qz) (M':Nat→Bool) (l'':List na.Opn),e=.returned (.agg (chl H q' s').toArray)∧Cs H M' w' s' l''∧(∀ k,k<w.heap.size→M' k=true→M0 k=true)∧na.Frm M0 w w'∧Rc H s' q' (na.hid (fun k=>U k || M' k) w')
theorem prg_mk {H:Ch} {M0 U:Nat→Bool} {w:World} {s':na.St} {e:Ending} {w':World} (q':Qz) (M':Nat→Bool) (l'':List na.Opn) (h1:e=.returned (.agg (chl H q' s').toArray)) (h2:Cs H M' w' s' l'') (h3:∀ k,k<w.heap.size→M' k=true→M0 k=true) (h4:na.Frm M0 w w') (h5:Rc H s' q' (na.hid (fun k=>U k || M' k) w')):PrgR H M0 U w s' e w':=⟨q',M',l'',h1,h2,h3,h4,h5⟩
def pst (H:Ch) (s:na.St) (b p k n c l e t sd o:Int) (d:Bool):na.St:=
 if 1≤k∧k≤4∧0≤n∧n≤255∧0≤c∧c≤255 then
  let s1:=prs H s b p (pys H.S (IntKind.u8.wrap (sd+o)) ++ hend (hb k n c l e t) (tgo []) (List.replicate 8 255))
  if d=true then prs H s1 b p (he.mark (H.S+88)) else s1
 else s
theorem program_not (H:Ch) (M0 U:Nat→Bool) (W0 w:World) (s:na.St) (l:List na.Opn) (q:Qz) (pb pp k n c lb e t sd o:Int) (d:Bool) (h:Cs H M0 w s l) (hUlt:na.Mlt U w) (hMU:∀ k,M0 k=true→U k=true) (hR:Rc H s q (na.hid U w)) (h0:Below W0.heap.size W0 w) (hu:∀ k,M0 k=true→W0.heap.size≤k) (hk:¬(1≤k∧k≤4∧0≤n∧n≤255∧0≤c∧c≤255)):
  Calls Tryz.prog 22 #[.pointer (some ⟨H.c,0,none⟩),.agg (chl H q s).toArray,.agg (pgz pb pp k n c lb e t sd d).toArray,.int .u8 o] w fun e9 w'=>PrgR H M0 U w (s) e9 w':=by
 have SH:Hid (∀ w0,Calls Tryz.prog 16 #[.agg (hv k n c lb e t).toArray] w0 fun x w'=>x=.returned (.bool false)∧Below w0.heap.size w0 w'):=fun w0=>right_any k n c lb e t w0 false (decide_eq_false hk).symm
 have HL:Hid (Lw H (Rc H s q) W0 w M0 U M0 w s l []):=Lw.start h h.pla hUlt hMU hR (kp_rc H s q) h0 hu
 clear h hUlt hMU hR h0 hu hk
 have t0:=tR
 go_enter Tryz.func22,Tryz.ntmps22
 go_wp2_with (first
  |(have q6:=t6;(with_reducible refine at_store ?_);refine store_lawC _ (chl H q s) w2.heap.size 0 rfl rfl (HL.out.at 2 w2.heap.size Zc).2 rowy_chipR.2 (chl_one _ _ _) ?_;intro w5 E9 _ _ _;have E9:=E9.out;subst E9;have HL:Hid (Lw H (Rc H s q) W0 w M0 U M0 (w4.setCells w2.heap.size 0 (chl H q s)) s l [(w.heap.size,chl H q s),(w1.heap.size,(pgz pb pp k n c lb e t sd d)),(w2.heap.size,chl H q s)]):=HL.out.store 2 (show 2<3 by decide) zc_nob (chl_nob _ _ _) rfl;clear t6;have t7:=tR)
  |(have q5:=t5;refine load_lawC _ rfl (chl H q s) w.heap.size 0 rfl (HL.out.at 0 w.heap.size (chl H q s)).1 rowy_chipR ?_;clear t5;have t6:=tR)
  |(have q4:=t4;go_at_call 16;refine (SH.out w3).mono ?_;rintro e9 w4 ⟨rfl,B9⟩;have HL:=hdH (HL.out.below B9);clear B9 t4;have t5:=tR)
  |(have q3:=t3;refine load_lawC _ rfl (hv k n c lb e t) w1.heap.size 2 rfl (pgz_hd (HL.out.at 1 w1.heap.size (pgz pb pp k n c lb e t sd d))) rowy_head ?_;clear t3;have t4:=tR)
  |(have q2:=t2;(with_reducible refine at_alloc ?_);refine new_lawN _ Zc zero_chipR zc_nob ?_;intro w3 X9 N9 B9;have HL:Hid (Lw H (Rc H s q) W0 w M0 U M0 w3 s l [(w.heap.size,chl H q s),(w1.heap.size,(pgz pb pp k n c lb e t sd d)),(w2.heap.size,Zc)]):=HL.out.new B9 X9 (fun _=>N9) (range_lt X9.1 (Nat.succ_pos _));clear X9 N9 B9 t2;have t3:=tR)
  |(have q1:=t1;refine box_lawM _ (pgz pb pp k n c lb e t sd d) rfl ?_;intro w2 X9 N9 B9 l9;have HL:Hid (Lw H (Rc H s q) W0 w M0 U M0 w2 s l [(w.heap.size,chl H q s),(w1.heap.size,(pgz pb pp k n c lb e t sd d))]):=HL.out.new B9 X9 N9 l9;clear X9 N9 B9 l9 t1;have t2:=tR)
  |(have q0:=t0;refine box_lawM _ (chl H q s) rfl ?_;intro w1 X9 N9 B9 l9;have HL:Hid (Lw H (Rc H s q) W0 w M0 U M0 w1 s l [(w.heap.size,chl H q s)]):=HL.out.new B9 X9 N9 l9;clear X9 N9 B9 l9 t0;have t1:=tR))
 exact bodyPost_ret (v:=.agg (chl H q s).toArray) (results_c rfl _ _ w2.heap.size _ rowy_chipR rfl (HL.out.at 2 w2.heap.size (chl H q s)).1) rfl (prg_mk q M0 l rfl HL.out.bs (fun k hk z=>HL.out.um k hk z) HL.out.fr (HL.out.outR (T:=Rc H s q) (fun _ z=>z) fun M1 hm z=>rc_less M1 _ hm z))
theorem program_un (H:Ch) (M0 U:Nat→Bool) (W0 w:World) (s:na.St) (l:List na.Opn) (q:Qz) (pb pp k n c lb e t sd o:Int) (d:Bool) (h:Cs H M0 w s l) (hsh:na.Shp H.g H.N H.P H.T) (hp0:∀ n,H.pl n=none) (hC:Calm s) (hn:na.ops s≤1000) (hUlt:na.Mlt U w) (hMU:∀ k,M0 k=true→U k=true) (hR:Rc H s q (na.hid U w)) (h0:Below W0.heap.size W0 w) (hu:∀ k,M0 k=true→W0.heap.size≤k) (hk:1≤k∧k≤4∧0≤n∧n≤255∧0≤c∧c≤255) (hH:Hb lb e t) (hd:d=false):
  Calls Tryz.prog 22 #[.pointer (some ⟨H.c,0,none⟩),.agg (chl H q s).toArray,.agg (pgz pb pp k n c lb e t sd d).toArray,.int .u8 o] w fun e9 w'=>PrgR H M0 U w (prs H s pb pp (pys H.S (IntKind.u8.wrap (sd+o)) ++ hend (hb k n c lb e t) (tgo []) (List.replicate 8 255))) e9 w':=by
 have SH:Hid (∀ w0,Calls Tryz.prog 16 #[.agg (hv k n c lb e t).toArray] w0 fun x w'=>x=.returned (.bool true)∧Below w0.heap.size w0 w'):=fun w0=>right_any k n c lb e t w0 true (decide_eq_true hk).symm
 have hS':=h.num
 have hsec:32≤H.S∧H.S≤4096:=sec_le (g0:=(H.N:Int)) (g1:=(H.P:Int)) (g3:=H.g3) (g4:=H.g4) (g5:=H.g5) hsh.2.1
 have SPY:Hid (∀ w0,Calls Tryz.prog 54 #[.int .i64 (H.S:Int),.int .u8 (IntKind.u8.wrap (sd+o))] w0 fun e w'=>∃ v,e=.returned v∧Own w0.heap.size w' v (pys H.S (IntKind.u8.wrap (sd+o)))∧Below w0.heap.size w0 w'):=fun w0=>payload_own H.S (by omega) _ w0
 have SMK:Hid (∀ w0 v1,Byt w0 v1 (pys H.S (IntKind.u8.wrap (sd+o)))→Calls Tryz.prog 53 #[.agg (g6 H).toArray,.agg (hv k n c lb e t).toArray,v1,.slice none 0 0] w0 fun x w'=>∃ v,x=.returned v∧Own w0.heap.size w' v (pys H.S (IntKind.u8.wrap (sd+o)) ++ hend (hb k n c lb e t) (tgo []) (List.replicate 8 255))∧Below w0.heap.size w0 w'):=fun w0 v1 hv1=>by
  have z:=ck.rmake_own (H.N:Int) (H.P:Int) H.g3 H.g4 H.g5 H.S k n c lb e t v1 (.slice none 0 0) (pys H.S (IntKind.u8.wrap (sd+o))) [] w0 hv1 (Byt.nil w0) hH hsec hk (pys_len _ _) (.inl rfl)
  rwa [show plo H.S (pys H.S (IntKind.u8.wrap (sd+o)))=pys H.S (IntKind.u8.wrap (sd+o)) from if_neg (by rw [pys_len];omega)] at z
 have YA:Hid (AllB (pys H.S (IntKind.u8.wrap (sd+o)))∧AllB (pys H.S (IntKind.u8.wrap (sd+o)) ++ hend (hb k n c lb e t) (tgo []) (List.replicate 8 255))):=⟨pys_all _ _,allB_app (pys_all _ _) (pa.hend_all hk (pa.tgo_all (fun j=>by simp [gb])) (allB_replicate 255 _ (by omega)))⟩
 have HH:Hid (na.Shp H.g H.N H.P H.T∧(∀ n,H.pl n=none)∧Calm s∧na.ops s≤1000):=⟨hsh,hp0,hC,hn⟩
 have HL:Hid (Lw H (Rc H s q) W0 w M0 U M0 w s l []):=Lw.start h h.pla hUlt hMU hR (kp_rc H s q) h0 hu
 generalize pys H.S (IntKind.u8.wrap (sd+o)) ++ hend (hb k n c lb e t) (tgo []) (List.replicate 8 255)=Y2 at SMK YA ⊢
 generalize pys H.S (IntKind.u8.wrap (sd+o))=Y1 at SPY SMK YA
 obtain ⟨s1,hs1⟩:∃ x,x=prs H s pb pp Y2:=⟨_,rfl⟩
 have S1E:Hid (prs H s pb pp Y2=s1):=hs1.symm
 have HC1:Hid (Calm s1∧na.ops s1≤1001):=⟨by rw [hs1];exact calm_prs hC hp0 _ _ _,by rw [hs1];have:=ops_prs H s pb pp Y2;omega⟩
 rw [←hs1]
 subst hd
 clear h hsh hp0 hC hn hUlt hMU hR h0 hu hk hH hS' hsec hs1
 have t0:=tR
 go_enter Tryz.func22,Tryz.ntmps22
 go_wp2_with (first
  |(have q4:=t4;go_at_call 16;refine (SH.out w3).mono ?_;rintro e9 w4 ⟨rfl,B9⟩;have HL:=hdH (HL.out.below B9);clear B9 t4;have t55:=tR)
  |(have q3:=t3;refine load_lawC _ rfl (hv k n c lb e t) w1.heap.size 2 rfl (pgz_hd (HL.out.at 1 w1.heap.size (pgz pb pp k n c lb e t sd false))) rowy_head ?_;clear t3;have t4:=tR)
  |(have q2:=t2;(with_reducible refine at_alloc ?_);refine new_lawN _ Zc zero_chipR zc_nob ?_;intro w3 X9 N9 B9;have HL:Hid (Lw H (Rc H s q) W0 w M0 U M0 w3 s l [(w.heap.size,chl H q s),(w1.heap.size,(pgz pb pp k n c lb e t sd false)),(w2.heap.size,Zc)]):=HL.out.new B9 X9 (fun _=>N9) (range_lt X9.1 (Nat.succ_pos _));clear X9 N9 B9 t2;have t3:=tR)
  |(have q1:=t1;refine box_lawM _ (pgz pb pp k n c lb e t sd false) rfl ?_;intro w2 X9 N9 B9 l9;have HL:Hid (Lw H (Rc H s q) W0 w M0 U M0 w2 s l [(w.heap.size,chl H q s),(w1.heap.size,(pgz pb pp k n c lb e t sd false))]):=HL.out.new B9 X9 N9 l9;clear X9 N9 B9 l9 t1;have t2:=tR)
  |(have q0:=t0;refine box_lawM _ (chl H q s) rfl ?_;intro w1 X9 N9 B9 l9;have HL:Hid (Lw H (Rc H s q) W0 w M0 U M0 w1 s l [(w.heap.size,chl H q s)]):=HL.out.new B9 X9 N9 l9;clear X9 N9 B9 l9 t0;have t1:=tR))
 have HL:Hid (Lw H (Rc H s q) W0 w M0 U M0 w4.drew s l [(w.heap.size,chl H q s),(w1.heap.size,(pgz pb pp k n c lb e t sd false)),(w2.heap.size,Zc)]):=HL.out.below (Below.refl _ _).drew
 refine wp_region_held_drew (S:=fun w'=>Vr w' w.heap.size (chl H q s)∧Vr w' w1.heap.size (pgz pb pp k n c lb e t sd false)) (by kernel_rfl) ⟨HL.out.at 0 w.heap.size (chl H q s),HL.out.at 1 w1.heap.size (pgz pb pp k n c lb e t sd false)⟩ (fun hS=>?_)
 obtain ⟨x1,hx0⟩:∃ x,x=w4.drew:=⟨_,rfl⟩
 rw [←hx0] at hS HL ⊢
 clear hx0
 refine tkH 0 (some 15) (.pointer (some ⟨w.heap.size,0,none⟩)) rfl rfl (Or.inl ⟨by rfl,fun w' hw'=>by go_simp⟩) hS ?_
 simp only [Act.put,zE1,zE2,zE3]
 refine tkH 1 (some 16) (.agg (g6 H).toArray) rfl rfl (Or.inl ⟨by rfl,fun w' hw'=>by exact exec_loadN 23 (.tmp 15) rfl _ rfl _ _ (load_cells rowy_geo6 (chl_geo hw'.1))⟩) hS ?_
 simp only [Act.put,zE1,zE2,zE3]
 refine tkH 2 (some 17) (.pointer (some ⟨w1.heap.size,2,none⟩)) rfl rfl (Or.inl ⟨by rfl,fun w' hw'=>by go_simp⟩) hS ?_
 simp only [Act.put,zE1,zE2,zE3]
 refine tkH 3 (some 18) (.agg (hv k n c lb e t).toArray) rfl rfl (Or.inl ⟨by rfl,fun w' hw'=>by exact exec_loadN 64 (.tmp 17) rfl _ rfl _ _ (load_cells rowy_head (pgz_hd hw'.2))⟩) hS ?_
 simp only [Act.put,zE1,zE2,zE3]
 refine tkH 4 (some 19) (.pointer (some ⟨w.heap.size,0,none⟩)) rfl rfl (Or.inl ⟨by rfl,fun w' hw'=>by go_simp⟩) hS ?_
 simp only [Act.put,zE1,zE2,zE3]
 refine tkH 5 (some 20) (.pointer (some ⟨w.heap.size,2,none⟩)) rfl rfl (Or.inl ⟨by rfl,fun w' hw'=>by go_simp⟩) hS ?_
 simp only [Act.put,zE1,zE2,zE3]
 refine tkH 6 (some 21) (.int .i64 (H.S:Int)) rfl rfl (Or.inl ⟨by rfl,fun w' hw'=>by exact exec_loadN 3 (.tmp 20) rfl _ rfl _ _ (ld_int (hw'.1.cell 2 _ rfl))⟩) hS ?_
 simp only [Act.put,zE1,zE2,zE3]
 refine tkH 7 (some 22) (.pointer (some ⟨w1.heap.size,8,none⟩)) rfl rfl (Or.inl ⟨by rfl,fun w' hw'=>by go_simp⟩) hS ?_
 simp only [Act.put,zE1,zE2,zE3]
 refine tkH 8 (some 23) (.int .u8 sd) rfl rfl (Or.inl ⟨by rfl,fun w' hw'=>by exact exec_loadN 5 (.tmp 22) rfl _ rfl _ _ (load_one one_u8c (hw'.2.cell 8 _ rfl))⟩) hS ?_
 simp only [Act.put,zE1,zE2,zE3]
 refine tkH 9 (some 24) (.int .u8 o) rfl rfl (Or.inl ⟨by rfl,fun w' hw'=>by rfl⟩) hS ?_
 simp only [Act.put,zE1,zE2,zE3]
 refine tkH 10 (some 25) (.int .u8 (IntKind.u8.wrap (sd+o))) rfl rfl (Or.inl ⟨by rfl,fun w' hw'=>by rfl⟩) hS ?_
 simp only [Act.put,zE1,zE2,zE3]
 refine wpAnyH_ready (rs:=[11]) (by kernel_rfl) (by simp) ?_
 refine AllReadyH.cons rfl (fun K hK=>?_) AllReadyH.nil
 refine step_callW _ (by rfl) (some 26) rfl 54 #[.tmp 21,.tmp 25] #[3,5] rfl (fun q w'=>by rfl) #[.int .i64 (H.S:Int),.int .u8 (IntKind.u8.wrap (sd+o))] (by simp only [List.map_toArray,List.map_cons,List.map_nil];rfl) (fun v w'=>Lw H (fun w=>Rc H s q w∧Byt w v Y1) W0 w M0 U M0 w' s l [(w.heap.size,chl H q s),(w1.heap.size,(pgz pb pp k n c lb e t sd false)),(w2.heap.size,Zc)]) ?_ ?_
 ·exact (HL.out.own YA.out.1 (SPY.out x1)).mono fun e w' ⟨v,h1,h2,h3⟩=>⟨v,h1,h2⟩
 rintro v1 x2 h9
 have HL:=hdH (h9)
 have hS:Vr x2 w.heap.size (chl H q s)∧Vr x2 w1.heap.size (pgz pb pp k n c lb e t sd false):=⟨HL.out.at 0 w.heap.size (chl H q s),HL.out.at 1 w1.heap.size (pgz pb pp k n c lb e t sd false)⟩
 clear h9
 refine hK.out _ _ hS (fun _=>?_)
 simp only [Act.put,zE1,zE2,zE3]
 clear hK K
 refine wpAnyH_ready (rs:=[12]) (by kernel_rfl) (by simp) ?_
 refine AllReadyH.cons rfl (fun K hK=>?_) AllReadyH.nil
 refine step_callW _ (by rfl) (some 27) rfl 53 #[.tmp 16,.tmp 18,.tmp 26,.const (.slice none 0 0)] #[23,64,26,26] rfl (fun q w'=>by rfl) #[.agg (g6 H).toArray,.agg (hv k n c lb e t).toArray,v1,.slice none 0 0] (by simp only [List.map_toArray,List.map_cons,List.map_nil];rfl) (fun v w'=>Lw H (fun w=>(Rc H s q w∧Byt w v1 Y1)∧Byt w v Y2) W0 w M0 U M0 w' s l [(w.heap.size,chl H q s),(w1.heap.size,(pgz pb pp k n c lb e t sd false)),(w2.heap.size,Zc)]) ?_ ?_
 ·exact (HL.out.own YA.out.2 (SMK.out x2 v1 (na.hid_byt (HL.out.byt (fun _ z=>z.2))))).mono fun e w' ⟨v,h1,h2,h3⟩=>⟨v,h1,h2⟩
 rintro v2 x3 h9
 have HL:=hdH (h9)
 have hS:Vr x3 w.heap.size (chl H q s)∧Vr x3 w1.heap.size (pgz pb pp k n c lb e t sd false):=⟨HL.out.at 0 w.heap.size (chl H q s),HL.out.at 1 w1.heap.size (pgz pb pp k n c lb e t sd false)⟩
 clear h9
 refine hK.out _ _ hS (fun _=>?_)
 simp only [Act.put,zE1,zE2,zE3]
 clear hK K
 refine tkH 13 (some 9) (v2) rfl rfl (Or.inl ⟨by rfl,fun w' hw'=>by rfl⟩) hS ?_
 simp only [Act.put,zE1,zE2,zE3]
 refine wpAnyH_done (by kernel_rfl) ?_ _
 obtain ⟨wp,hwp⟩:∃ x,x=x3:=⟨_,rfl⟩
 rw [←hwp] at HL ⊢
 clear hwp hS
 have c6_9:=(HL.out.at 1 w1.heap.size (pgz pb pp k n c lb e t sd false)).cell 9 _ rfl
 have t6:=tR
 go_wp2_with (first
  |(have q13:=t13;(with_reducible refine at_store ?_);refine store_lawC _ (chl H q1 s1) w2.heap.size 0 rfl rfl (HL.out.at 2 w2.heap.size Zc).2 rowy_chipR.2 (chl_one _ _ _) ?_;intro wt E9 _ _ _;have E9:=E9.out;subst E9;have HL:Hid (Lw H (fun w=>((Rc H s q w∧Byt w v1 Y1)∧Byt w v2 Y2)∧Rc H s1 q1 w) W0 w M0 U M1 (ws.setCells w2.heap.size 0 (chl H q1 s1)) s1 l1 [(w.heap.size,chl H q1 s1),(w1.heap.size,(pgz pb pp k n c lb e t sd false)),(w2.heap.size,chl H q1 s1)]):=HL.out.store 2 (show 2<3 by decide) zc_nob (chl_nob _ _ _) rfl;clear t13;have t14:=tR)
  |(have q12:=t12;refine load_lawC _ rfl (chl H q1 s1) w.heap.size 0 rfl (HL.out.at 0 w.heap.size (chl H q1 s1)).1 rowy_chipR ?_;clear t12;have t13:=tR)
  |(have q11:=t11;go_at_call 56;refine (HL.out.prgm (by have:=HH.out.2.2.2;omega) pb pp v2 Y2 (fun _ z=>z.1.2)).mono ?_;rintro e9 ws ⟨x8,M1,l1,rfl,h9⟩;rw [S1E.out] at h9;have HL:=hdH (h9);clear h9 c6_9 t11;have c6_9:=(HL.out.at 1 w1.heap.size (pgz pb pp k n c lb e t sd false)).cell 9 _ rfl;have t12:=tR)
  |(have q10:=t10;refine load_lawC _ rfl [.int .i64 pb,.int .i64 pp] w1.heap.size 0 rfl (pgz_pl (HL.out.at 1 w1.heap.size (pgz pb pp k n c lb e t sd false))) rowy_place ?_;clear t10;have t11:=tR)
  |(have q9:=t9;(with_reducible refine at_store ?_);refine store_lawC _ (chl H q1 s1) w.heap.size 0 rfl rfl (HL.out.at 0 w.heap.size (chl H q s)).2 rowy_chipR.2 (chl_one _ _ _) ?_;intro wr E9 _ _ _;have E9:=E9.out;have HL:Hid (Lw H (fun w=>((Rc H s q w∧Byt w v1 Y1)∧Byt w v2 Y2)∧Rc H s1 q1 w) W0 w M0 U M0 wr s l [(w.heap.size,chl H q1 s1),(w1.heap.size,(pgz pb pp k n c lb e t sd false)),(w2.heap.size,Zc)]):=(by rw [E9];exact HL.out.store 0 (show 0<3 by decide) (chl_nob _ _ _) (chl_nob _ _ _) rfl);clear E9 c6_9 t9;have c6_9:=(HL.out.at 1 w1.heap.size (pgz pb pp k n c lb e t sd false)).cell 9 _ rfl;have t10:=tR)
  |(have q8:=t8;go_at_call 55;refine (HL.out.rprg (q:=q) (fun _ z=>z.1.1) HH.out.1 (by have:=HH.out.2.2.2;omega) HH.out.2.1 HH.out.2.2.1 pb pp v2 Y2 (fun _ z=>z.2)).mono ?_;rintro e9 wq ⟨q1,⟨x9,rfl⟩,h9,B9⟩;rw [S1E.out] at h9 ⊢;have HL:=hdH (h9);clear h9 B9 t8;have t9:=tR)
  |(have q7:=t7;refine load_lawC _ rfl [.int .i64 pb,.int .i64 pp] w1.heap.size 0 rfl (pgz_pl (HL.out.at 1 w1.heap.size (pgz pb pp k n c lb e t sd false))) rowy_place ?_;clear t7;have t8:=tR)
  |(have q6:=t6;refine load_lawC _ rfl (chl H q s) w.heap.size 0 rfl (HL.out.at 0 w.heap.size (chl H q s)).1 rowy_chipR ?_;clear t6;have t7:=tR))
 exact bodyPost_ret (v:=.agg (chl H q1 s1).toArray) (results_c rfl _ _ w2.heap.size _ rowy_chipR rfl (HL.out.at 2 w2.heap.size (chl H q1 s1)).1) rfl (prg_mk q1 M1 l1 rfl HL.out.bs (fun k hk z=>HL.out.um k hk z) HL.out.fr (HL.out.outR (T:=Rc H s1 q1) (fun _ z=>z.2) fun M1 hm z=>rc_less M1 _ hm z))
theorem program_done (H:Ch) (M0 U:Nat→Bool) (W0 w:World) (s:na.St) (l:List na.Opn) (q:Qz) (pb pp k n c lb e t sd o:Int) (d:Bool) (h:Cs H M0 w s l) (hsh:na.Shp H.g H.N H.P H.T) (hp0:∀ n,H.pl n=none) (hC:Calm s) (hn:na.ops s≤1000) (hUlt:na.Mlt U w) (hMU:∀ k,M0 k=true→U k=true) (hR:Rc H s q (na.hid U w)) (h0:Below W0.heap.size W0 w) (hu:∀ k,M0 k=true→W0.heap.size≤k) (hk:1≤k∧k≤4∧0≤n∧n≤255∧0≤c∧c≤255) (hH:Hb lb e t) (hd:d=true):
  Calls Tryz.prog 22 #[.pointer (some ⟨H.c,0,none⟩),.agg (chl H q s).toArray,.agg (pgz pb pp k n c lb e t sd d).toArray,.int .u8 o] w fun e9 w'=>PrgR H M0 U w (prs H (prs H s pb pp (pys H.S (IntKind.u8.wrap (sd+o)) ++ hend (hb k n c lb e t) (tgo []) (List.replicate 8 255))) pb pp (he.mark (H.S+88))) e9 w':=by
 have SH:Hid (∀ w0,Calls Tryz.prog 16 #[.agg (hv k n c lb e t).toArray] w0 fun x w'=>x=.returned (.bool true)∧Below w0.heap.size w0 w'):=fun w0=>right_any k n c lb e t w0 true (decide_eq_true hk).symm
 have hS':=h.num
 have hsec:32≤H.S∧H.S≤4096:=sec_le (g0:=(H.N:Int)) (g1:=(H.P:Int)) (g3:=H.g3) (g4:=H.g4) (g5:=H.g5) hsh.2.1
 have SPY:Hid (∀ w0,Calls Tryz.prog 54 #[.int .i64 (H.S:Int),.int .u8 (IntKind.u8.wrap (sd+o))] w0 fun e w'=>∃ v,e=.returned v∧Own w0.heap.size w' v (pys H.S (IntKind.u8.wrap (sd+o)))∧Below w0.heap.size w0 w'):=fun w0=>payload_own H.S (by omega) _ w0
 have SMK:Hid (∀ w0 v1,Byt w0 v1 (pys H.S (IntKind.u8.wrap (sd+o)))→Calls Tryz.prog 53 #[.agg (g6 H).toArray,.agg (hv k n c lb e t).toArray,v1,.slice none 0 0] w0 fun x w'=>∃ v,x=.returned v∧Own w0.heap.size w' v (pys H.S (IntKind.u8.wrap (sd+o)) ++ hend (hb k n c lb e t) (tgo []) (List.replicate 8 255))∧Below w0.heap.size w0 w'):=fun w0 v1 hv1=>by
  have z:=ck.rmake_own (H.N:Int) (H.P:Int) H.g3 H.g4 H.g5 H.S k n c lb e t v1 (.slice none 0 0) (pys H.S (IntKind.u8.wrap (sd+o))) [] w0 hv1 (Byt.nil w0) hH hsec hk (pys_len _ _) (.inl rfl)
  rwa [show plo H.S (pys H.S (IntKind.u8.wrap (sd+o)))=pys H.S (IntKind.u8.wrap (sd+o)) from if_neg (by rw [pys_len];omega)] at z
 have YA:Hid (AllB (pys H.S (IntKind.u8.wrap (sd+o)))∧AllB (pys H.S (IntKind.u8.wrap (sd+o)) ++ hend (hb k n c lb e t) (tgo []) (List.replicate 8 255))):=⟨pys_all _ _,allB_app (pys_all _ _) (pa.hend_all hk (pa.tgo_all (fun j=>by simp [gb])) (allB_replicate 255 _ (by omega)))⟩
 have HH:Hid (na.Shp H.g H.N H.P H.T∧(∀ n,H.pl n=none)∧Calm s∧na.ops s≤1000):=⟨hsh,hp0,hC,hn⟩
 have HL:Hid (Lw H (Rc H s q) W0 w M0 U M0 w s l []):=Lw.start h h.pla hUlt hMU hR (kp_rc H s q) h0 hu
 generalize pys H.S (IntKind.u8.wrap (sd+o)) ++ hend (hb k n c lb e t) (tgo []) (List.replicate 8 255)=Y2 at SMK YA ⊢
 generalize pys H.S (IntKind.u8.wrap (sd+o))=Y1 at SPY SMK YA
 obtain ⟨s1,hs1⟩:∃ x,x=prs H s pb pp Y2:=⟨_,rfl⟩
 have S1E:Hid (prs H s pb pp Y2=s1):=hs1.symm
 have HC1:Hid (Calm s1∧na.ops s1≤1001):=⟨by rw [hs1];exact calm_prs hC hp0 _ _ _,by rw [hs1];have:=ops_prs H s pb pp Y2;omega⟩
 have SCM:Hid (∀ w0,Calls Tryz.prog 57 #[.agg (g6 H).toArray] w0 fun e w'=>∃ v,e=.returned v∧Own w0.heap.size w' v (he.mark (H.S+88))∧Below w0.heap.size w0 w'):=fun w0=>rcommit_own (H.N:Int) (H.P:Int) H.g3 H.g4 H.g5 H.S w0 hsec.2
 have ZA:Hid (AllB (he.mark (H.S+88))):=mark_all _
 generalize he.mark (H.S+88)=Z at SCM ZA ⊢
 obtain ⟨s2,hs2⟩:∃ x,x=prs H s1 pb pp Z:=⟨_,rfl⟩
 have S2E:Hid (prs H s1 pb pp Z=s2):=hs2.symm
 rw [←hs1,←hs2]
 subst hd
 clear h hsh hp0 hC hn hUlt hMU hR h0 hu hk hH hS' hsec hs1 hs2
 have t0:=tR
 go_enter Tryz.func22,Tryz.ntmps22
 go_wp2_with (first
  |(have q4:=t4;go_at_call 16;refine (SH.out w3).mono ?_;rintro e9 w4 ⟨rfl,B9⟩;have HL:=hdH (HL.out.below B9);clear B9 t4;have t55:=tR)
  |(have q3:=t3;refine load_lawC _ rfl (hv k n c lb e t) w1.heap.size 2 rfl (pgz_hd (HL.out.at 1 w1.heap.size (pgz pb pp k n c lb e t sd true))) rowy_head ?_;clear t3;have t4:=tR)
  |(have q2:=t2;(with_reducible refine at_alloc ?_);refine new_lawN _ Zc zero_chipR zc_nob ?_;intro w3 X9 N9 B9;have HL:Hid (Lw H (Rc H s q) W0 w M0 U M0 w3 s l [(w.heap.size,chl H q s),(w1.heap.size,(pgz pb pp k n c lb e t sd true)),(w2.heap.size,Zc)]):=HL.out.new B9 X9 (fun _=>N9) (range_lt X9.1 (Nat.succ_pos _));clear X9 N9 B9 t2;have t3:=tR)
  |(have q1:=t1;refine box_lawM _ (pgz pb pp k n c lb e t sd true) rfl ?_;intro w2 X9 N9 B9 l9;have HL:Hid (Lw H (Rc H s q) W0 w M0 U M0 w2 s l [(w.heap.size,chl H q s),(w1.heap.size,(pgz pb pp k n c lb e t sd true))]):=HL.out.new B9 X9 N9 l9;clear X9 N9 B9 l9 t1;have t2:=tR)
  |(have q0:=t0;refine box_lawM _ (chl H q s) rfl ?_;intro w1 X9 N9 B9 l9;have HL:Hid (Lw H (Rc H s q) W0 w M0 U M0 w1 s l [(w.heap.size,chl H q s)]):=HL.out.new B9 X9 N9 l9;clear X9 N9 B9 l9 t0;have t1:=tR))
 have HL:Hid (Lw H (Rc H s q) W0 w M0 U M0 w4.drew s l [(w.heap.size,chl H q s),(w1.heap.size,(pgz pb pp k n c lb e t sd true)),(w2.heap.size,Zc)]):=HL.out.below (Below.refl _ _).drew
 refine wp_region_held_drew (S:=fun w'=>Vr w' w.heap.size (chl H q s)∧Vr w' w1.heap.size (pgz pb pp k n c lb e t sd true)) (by kernel_rfl) ⟨HL.out.at 0 w.heap.size (chl H q s),HL.out.at 1 w1.heap.size (pgz pb pp k n c lb e t sd true)⟩ (fun hS=>?_)
 obtain ⟨x1,hx0⟩:∃ x,x=w4.drew:=⟨_,rfl⟩
 rw [←hx0] at hS HL ⊢
 clear hx0
 refine tkH 0 (some 15) (.pointer (some ⟨w.heap.size,0,none⟩)) rfl rfl (Or.inl ⟨by rfl,fun w' hw'=>by go_simp⟩) hS ?_
 simp only [Act.put,zE1,zE2,zE3]
 refine tkH 1 (some 16) (.agg (g6 H).toArray) rfl rfl (Or.inl ⟨by rfl,fun w' hw'=>by exact exec_loadN 23 (.tmp 15) rfl _ rfl _ _ (load_cells rowy_geo6 (chl_geo hw'.1))⟩) hS ?_
 simp only [Act.put,zE1,zE2,zE3]
 refine tkH 2 (some 17) (.pointer (some ⟨w1.heap.size,2,none⟩)) rfl rfl (Or.inl ⟨by rfl,fun w' hw'=>by go_simp⟩) hS ?_
 simp only [Act.put,zE1,zE2,zE3]
 refine tkH 3 (some 18) (.agg (hv k n c lb e t).toArray) rfl rfl (Or.inl ⟨by rfl,fun w' hw'=>by exact exec_loadN 64 (.tmp 17) rfl _ rfl _ _ (load_cells rowy_head (pgz_hd hw'.2))⟩) hS ?_
 simp only [Act.put,zE1,zE2,zE3]
 refine tkH 4 (some 19) (.pointer (some ⟨w.heap.size,0,none⟩)) rfl rfl (Or.inl ⟨by rfl,fun w' hw'=>by go_simp⟩) hS ?_
 simp only [Act.put,zE1,zE2,zE3]
 refine tkH 5 (some 20) (.pointer (some ⟨w.heap.size,2,none⟩)) rfl rfl (Or.inl ⟨by rfl,fun w' hw'=>by go_simp⟩) hS ?_
 simp only [Act.put,zE1,zE2,zE3]
 refine tkH 6 (some 21) (.int .i64 (H.S:Int)) rfl rfl (Or.inl ⟨by rfl,fun w' hw'=>by exact exec_loadN 3 (.tmp 20) rfl _ rfl _ _ (ld_int (hw'.1.cell 2 _ rfl))⟩) hS ?_
 simp only [Act.put,zE1,zE2,zE3]
 refine tkH 7 (some 22) (.pointer (some ⟨w1.heap.size,8,none⟩)) rfl rfl (Or.inl ⟨by rfl,fun w' hw'=>by go_simp⟩) hS ?_
 simp only [Act.put,zE1,zE2,zE3]
 refine tkH 8 (some 23) (.int .u8 sd) rfl rfl (Or.inl ⟨by rfl,fun w' hw'=>by exact exec_loadN 5 (.tmp 22) rfl _ rfl _ _ (load_one one_u8c (hw'.2.cell 8 _ rfl))⟩) hS ?_
 simp only [Act.put,zE1,zE2,zE3]
 refine tkH 9 (some 24) (.int .u8 o) rfl rfl (Or.inl ⟨by rfl,fun w' hw'=>by rfl⟩) hS ?_
 simp only [Act.put,zE1,zE2,zE3]
 refine tkH 10 (some 25) (.int .u8 (IntKind.u8.wrap (sd+o))) rfl rfl (Or.inl ⟨by rfl,fun w' hw'=>by rfl⟩) hS ?_
 simp only [Act.put,zE1,zE2,zE3]
 refine wpAnyH_ready (rs:=[11]) (by kernel_rfl) (by simp) ?_
 refine AllReadyH.cons rfl (fun K hK=>?_) AllReadyH.nil
 refine step_callW _ (by rfl) (some 26) rfl 54 #[.tmp 21,.tmp 25] #[3,5] rfl (fun q w'=>by rfl) #[.int .i64 (H.S:Int),.int .u8 (IntKind.u8.wrap (sd+o))] (by simp only [List.map_toArray,List.map_cons,List.map_nil];rfl) (fun v w'=>Lw H (fun w=>Rc H s q w∧Byt w v Y1) W0 w M0 U M0 w' s l [(w.heap.size,chl H q s),(w1.heap.size,(pgz pb pp k n c lb e t sd true)),(w2.heap.size,Zc)]) ?_ ?_
 ·exact (HL.out.own YA.out.1 (SPY.out x1)).mono fun e w' ⟨v,h1,h2,h3⟩=>⟨v,h1,h2⟩
 rintro v1 x2 h9
 have HL:=hdH (h9)
 have hS:Vr x2 w.heap.size (chl H q s)∧Vr x2 w1.heap.size (pgz pb pp k n c lb e t sd true):=⟨HL.out.at 0 w.heap.size (chl H q s),HL.out.at 1 w1.heap.size (pgz pb pp k n c lb e t sd true)⟩
 clear h9
 refine hK.out _ _ hS (fun _=>?_)
 simp only [Act.put,zE1,zE2,zE3]
 clear hK K
 refine wpAnyH_ready (rs:=[12]) (by kernel_rfl) (by simp) ?_
 refine AllReadyH.cons rfl (fun K hK=>?_) AllReadyH.nil
 refine step_callW _ (by rfl) (some 27) rfl 53 #[.tmp 16,.tmp 18,.tmp 26,.const (.slice none 0 0)] #[23,64,26,26] rfl (fun q w'=>by rfl) #[.agg (g6 H).toArray,.agg (hv k n c lb e t).toArray,v1,.slice none 0 0] (by simp only [List.map_toArray,List.map_cons,List.map_nil];rfl) (fun v w'=>Lw H (fun w=>(Rc H s q w∧Byt w v1 Y1)∧Byt w v Y2) W0 w M0 U M0 w' s l [(w.heap.size,chl H q s),(w1.heap.size,(pgz pb pp k n c lb e t sd true)),(w2.heap.size,Zc)]) ?_ ?_
 ·exact (HL.out.own YA.out.2 (SMK.out x2 v1 (na.hid_byt (HL.out.byt (fun _ z=>z.2))))).mono fun e w' ⟨v,h1,h2,h3⟩=>⟨v,h1,h2⟩
 rintro v2 x3 h9
 have HL:=hdH (h9)
 have hS:Vr x3 w.heap.size (chl H q s)∧Vr x3 w1.heap.size (pgz pb pp k n c lb e t sd true):=⟨HL.out.at 0 w.heap.size (chl H q s),HL.out.at 1 w1.heap.size (pgz pb pp k n c lb e t sd true)⟩
 clear h9
 refine hK.out _ _ hS (fun _=>?_)
 simp only [Act.put,zE1,zE2,zE3]
 clear hK K
 refine tkH 13 (some 9) (v2) rfl rfl (Or.inl ⟨by rfl,fun w' hw'=>by rfl⟩) hS ?_
 simp only [Act.put,zE1,zE2,zE3]
 refine wpAnyH_done (by kernel_rfl) ?_ _
 obtain ⟨wp,hwp⟩:∃ x,x=x3:=⟨_,rfl⟩
 rw [←hwp] at HL ⊢
 clear hwp hS
 have c6_9:=(HL.out.at 1 w1.heap.size (pgz pb pp k n c lb e t sd true)).cell 9 _ rfl
 have t6:=tR
 go_wp2_with (first
  |(have q11:=t11;go_at_call 56;refine (HL.out.prgm (by have:=HH.out.2.2.2;omega) pb pp v2 Y2 (fun _ z=>z.1.2)).mono ?_;rintro e9 ws ⟨x8,M1,l1,rfl,h9⟩;rw [S1E.out] at h9;have HL:=hdH (h9);clear h9 c6_9 t11;have c6_9:=(HL.out.at 1 w1.heap.size (pgz pb pp k n c lb e t sd true)).cell 9 _ rfl)
  |(have q10:=t10;refine load_lawC _ rfl [.int .i64 pb,.int .i64 pp] w1.heap.size 0 rfl (pgz_pl (HL.out.at 1 w1.heap.size (pgz pb pp k n c lb e t sd true))) rowy_place ?_;clear t10;have t11:=tR)
  |(have q9:=t9;(with_reducible refine at_store ?_);refine store_lawC _ (chl H q1 s1) w.heap.size 0 rfl rfl (HL.out.at 0 w.heap.size (chl H q s)).2 rowy_chipR.2 (chl_one _ _ _) ?_;intro wr E9 _ _ _;have E9:=E9.out;have HL:Hid (Lw H (fun w=>((Rc H s q w∧Byt w v1 Y1)∧Byt w v2 Y2)∧Rc H s1 q1 w) W0 w M0 U M0 wr s l [(w.heap.size,chl H q1 s1),(w1.heap.size,(pgz pb pp k n c lb e t sd true)),(w2.heap.size,Zc)]):=(by rw [E9];exact HL.out.store 0 (show 0<3 by decide) (chl_nob _ _ _) (chl_nob _ _ _) rfl);clear E9 c6_9 t9;have c6_9:=(HL.out.at 1 w1.heap.size (pgz pb pp k n c lb e t sd true)).cell 9 _ rfl;have t10:=tR)
  |(have q8:=t8;go_at_call 55;refine (HL.out.rprg (q:=q) (fun _ z=>z.1.1) HH.out.1 (by have:=HH.out.2.2.2;omega) HH.out.2.1 HH.out.2.2.1 pb pp v2 Y2 (fun _ z=>z.2)).mono ?_;rintro e9 wq ⟨q1,⟨x9,rfl⟩,h9,B9⟩;rw [S1E.out] at h9 ⊢;have HL:=hdH (h9);clear h9 B9 t8;have t9:=tR)
  |(have q7:=t7;refine load_lawC _ rfl [.int .i64 pb,.int .i64 pp] w1.heap.size 0 rfl (pgz_pl (HL.out.at 1 w1.heap.size (pgz pb pp k n c lb e t sd true))) rowy_place ?_;clear t7;have t8:=tR)
  |(have q6:=t6;refine load_lawC _ rfl (chl H q s) w.heap.size 0 rfl (HL.out.at 0 w.heap.size (chl H q s)).1 rowy_chipR ?_;clear t6;have t7:=tR))
 go_cut [] (fun wc=>∃ q2 v3,Lw H (fun w=>((((Rc H s q w∧Byt w v1 Y1)∧Byt w v2 Y2)∧Rc H s1 q1 w)∧Byt w v3 Z)∧Rc H s2 q2 w) W0 w M0 U M1 wc s1 l1 [(w.heap.size,chl H q2 s2),(w1.heap.size,(pgz pb pp k n c lb e t sd true)),(w2.heap.size,Zc)])
 case first=>
  have HL:Hid (Lw H (fun w=>((Rc H s q w∧Byt w v1 Y1)∧Byt w v2 Y2)∧Rc H s1 q1 w) W0 w M0 U M1 ws.drew s1 l1 [(w.heap.size,chl H q1 s1),(w1.heap.size,(pgz pb pp k n c lb e t sd true)),(w2.heap.size,Zc)]):=HL.out.below (Below.refl _ _).drew
  refine wp_region_held_drew (S:=fun w'=>w'.rangeAt w.heap.size 0 (g6 H)∧w'.rangeAt w1.heap.size 0 [.int .i64 pb,.int .i64 pp]) (by kernel_rfl) ⟨chl_geo (HL.out.at 0 w.heap.size (chl H q1 s1)),pgz_pl (HL.out.at 1 w1.heap.size (pgz pb pp k n c lb e t sd true))⟩ (fun hS=>?_)
  obtain ⟨y1,hx0⟩:∃ x,x=ws.drew:=⟨_,rfl⟩
  rw [←hx0] at hS HL ⊢
  clear hx0
  refine tkH 1 (some 45) (.pointer (some ⟨w1.heap.size,0,none⟩)) rfl rfl (Or.inl ⟨by rfl,fun w' hw'=>by go_simp⟩) hS ?_
  simp only [Act.put,zE1,zE2,zE3]
  refine tkH 2 (some 46) (.agg (ints .i64 [pb,pp])) rfl rfl (Or.inl ⟨by rfl,fun w' hw'=>by exact exec_loadN 78 (.tmp 45) rfl _ rfl _ _ (load_cells rowy_place hw'.2)⟩) hS ?_
  simp only [Act.put,zE1,zE2,zE3]
  refine tkH 3 (some 47) (.pointer (some ⟨w.heap.size,0,none⟩)) rfl rfl (Or.inl ⟨by rfl,fun w' hw'=>by go_simp⟩) hS ?_
  simp only [Act.put,zE1,zE2,zE3]
  refine tkH 4 (some 48) (.agg (g6 H).toArray) rfl rfl (Or.inl ⟨by rfl,fun w' hw'=>by exact exec_loadN 23 (.tmp 47) rfl _ rfl _ _ (load_cells rowy_geo6 hw'.1)⟩) hS ?_
  simp only [Act.put,zE1,zE2,zE3]
  refine wpAnyH_ready (rs:=[0,5]) (by kernel_rfl) (by simp) ?_
  refine AllReadyH.cons rfl (fun K hK=>?_) (AllReadyH.cons rfl (fun K hK=>?_) AllReadyH.nil)
  ·refine na.step_load _ rfl (some 44) rfl (.tmp 5) 38 rfl _ (.agg (chl H q1 s1).toArray) rfl (load_cells rowy_chipR (HL.out.at 0 w.heap.size (chl H q1 s1)).1) ?_
   refine hK.out _ _ hS (fun _=>?_)
   simp only [Act.put,zE1,zE2,zE3]
   clear hK K
   refine wpAnyH_ready (rs:=[5]) (by kernel_rfl) (by simp) ?_
   refine AllReadyH.cons rfl (fun K hK=>?_) AllReadyH.nil
   refine step_callW _ (by rfl) (some 49) rfl 57 #[.tmp 48] #[23] rfl (fun q w'=>by rfl) #[.agg (g6 H).toArray] (by simp only [List.map_toArray,List.map_cons,List.map_nil];rfl) (fun v w'=>Lw H (fun w=>(((Rc H s q w∧Byt w v1 Y1)∧Byt w v2 Y2)∧Rc H s1 q1 w)∧Byt w v Z) W0 w M0 U M1 w' s1 l1 [(w.heap.size,chl H q1 s1),(w1.heap.size,(pgz pb pp k n c lb e t sd true)),(w2.heap.size,Zc)]) ?_ ?_
   ·exact (HL.out.own ZA.out (SCM.out y1)).mono fun e w' ⟨v,h1,h2,h3⟩=>⟨v,h1,h2⟩
   rintro v3 y2 h9
   have HL:=hdH (h9)
   have hS:y2.rangeAt w.heap.size 0 (g6 H)∧y2.rangeAt w1.heap.size 0 [.int .i64 pb,.int .i64 pp]:=⟨chl_geo (HL.out.at 0 w.heap.size (chl H q1 s1)),pgz_pl (HL.out.at 1 w1.heap.size (pgz pb pp k n c lb e t sd true))⟩
   clear h9
   refine hK.out _ _ hS (fun _=>?_)
   simp only [Act.put,zE1,zE2,zE3]
   clear hK K
   refine wpAnyH_ready (rs:=[6]) (by kernel_rfl) (by simp) ?_
   refine AllReadyH.cons rfl (fun K hK=>?_) AllReadyH.nil
   refine step_callW _ (by rfl) (some 50) rfl 55 #[.tmp 44,.tmp 46,.tmp 49] #[38,78,26] rfl (fun q w'=>by rfl) #[.agg (chl H q1 s1).toArray,.agg (ints .i64 [pb,pp]),v3] (by simp only [List.map_toArray,List.map_cons,List.map_nil];rfl) (fun z w'=>∃ q2 x7,z=.tuple #[.agg (chl H q2 (prs H s1 pb pp Z)).toArray,.int .i64 x7]∧Lw H (fun w=>((((Rc H s q w∧Byt w v1 Y1)∧Byt w v2 Y2)∧Rc H s1 q1 w)∧Byt w v3 Z)∧Rc H s2 q2 w) W0 w M0 U M1 w' s1 l1 [(w.heap.size,chl H q1 s1),(w1.heap.size,(pgz pb pp k n c lb e t sd true)),(w2.heap.size,Zc)]) ?_ ?_
   ·exact (HL.out.rprg (q:=q1) (fun _ z=>z.1.2) HH.out.1 (by have:=HC1.out.2;omega) HH.out.2.1 HC1.out.1 pb pp v3 Z (fun _ z=>z.2)).mono fun e w' ⟨q2,⟨x7,h1⟩,h2,h3⟩=>⟨_,h1,q2,x7,rfl,by rw [←S2E.out];exact h2⟩
   rintro _ y3 ⟨q2,x7,rfl,h9⟩
   rw [S2E.out]
   have HL:=hdH (h9)
   have hS:y3.rangeAt w.heap.size 0 (g6 H)∧y3.rangeAt w1.heap.size 0 [.int .i64 pb,.int .i64 pp]:=⟨chl_geo (HL.out.at 0 w.heap.size (chl H q1 s1)),pgz_pl (HL.out.at 1 w1.heap.size (pgz pb pp k n c lb e t sd true))⟩
   clear h9
   refine hK.out _ _ hS (fun _=>?_)
   simp only [Act.put,zE1,zE2,zE3]
   clear hK K
   refine tkH 7 (some 43) (.tuple #[.agg (chl H q2 s2).toArray,.int .i64 x7]) rfl rfl (Or.inl ⟨by rfl,fun w' hw'=>by rfl⟩) hS ?_
   simp only [Act.put,zE1,zE2,zE3]
   refine tkH 8 (some 51) (.agg (chl H q2 s2).toArray) rfl rfl (Or.inl ⟨by rfl,fun w' hw'=>by rfl⟩) hS ?_
   simp only [Act.put,zE1,zE2,zE3]
   refine tkH 9 (some 52) (.int .i64 x7) rfl rfl (Or.inl ⟨by rfl,fun w' hw'=>by rfl⟩) hS ?_
   simp only [Act.put,zE1,zE2,zE3]
   refine wpAnyH_ready (rs:=[10]) (by kernel_rfl) (by simp) ?_
   refine AllReadyH.cons rfl (fun K hK=>?_) AllReadyH.nil
   refine step_storeM _ rfl none rfl (.tmp 5) (.tmp 51) 38 rfl w.heap.size (chl H q1 s1) (chl H q2 s2) rfl rfl (HL.out.at 0 w.heap.size (chl H q1 s1)) rfl rowy_chipR.2 (chl_one _ _ _) ?_
   intro y4 E9
   have HL:Hid (Lw H (fun w=>((((Rc H s q w∧Byt w v1 Y1)∧Byt w v2 Y2)∧Rc H s1 q1 w)∧Byt w v3 Z)∧Rc H s2 q2 w) W0 w M0 U M1 y4 s1 l1 [(w.heap.size,chl H q2 s2),(w1.heap.size,(pgz pb pp k n c lb e t sd true)),(w2.heap.size,Zc)]):=(by rw [E9.out];exact HL.out.store 0 (show 0<3 by decide) (chl_nob _ _ _) (chl_nob _ _ _) rfl)
   have hS:y4.rangeAt w.heap.size 0 (g6 H)∧y4.rangeAt w1.heap.size 0 [.int .i64 pb,.int .i64 pp]:=⟨chl_geo (HL.out.at 0 w.heap.size (chl H q2 s2)),pgz_pl (HL.out.at 1 w1.heap.size (pgz pb pp k n c lb e t sd true))⟩
   clear E9
   refine hK.out _ _ hS (fun _=>?_)
   simp only [Act.put]
   clear hK K
   refine wpAnyH_done (by kernel_rfl) ?_ _
   go_wp2_with fail
   go_meet
   exact ⟨q2,v3,HL.out⟩
  ·refine step_callW _ (by rfl) (some 49) rfl 57 #[.tmp 48] #[23] rfl (fun q w'=>by rfl) #[.agg (g6 H).toArray] (by simp only [List.map_toArray,List.map_cons,List.map_nil];rfl) (fun v w'=>Lw H (fun w=>(((Rc H s q w∧Byt w v1 Y1)∧Byt w v2 Y2)∧Rc H s1 q1 w)∧Byt w v Z) W0 w M0 U M1 w' s1 l1 [(w.heap.size,chl H q1 s1),(w1.heap.size,(pgz pb pp k n c lb e t sd true)),(w2.heap.size,Zc)]) ?_ ?_
   ·exact (HL.out.own ZA.out (SCM.out y1)).mono fun e w' ⟨v,h1,h2,h3⟩=>⟨v,h1,h2⟩
   rintro v3 y5 h9
   have HL:=hdH (h9)
   have hS:y5.rangeAt w.heap.size 0 (g6 H)∧y5.rangeAt w1.heap.size 0 [.int .i64 pb,.int .i64 pp]:=⟨chl_geo (HL.out.at 0 w.heap.size (chl H q1 s1)),pgz_pl (HL.out.at 1 w1.heap.size (pgz pb pp k n c lb e t sd true))⟩
   clear h9
   refine hK.out _ _ hS (fun _=>?_)
   simp only [Act.put,zE1,zE2,zE3]
   clear hK K
   refine wpAnyH_ready (rs:=[0]) (by kernel_rfl) (by simp) ?_
   refine AllReadyH.cons rfl (fun K hK=>?_) AllReadyH.nil
   refine na.step_load _ rfl (some 44) rfl (.tmp 5) 38 rfl _ (.agg (chl H q1 s1).toArray) rfl (load_cells rowy_chipR (HL.out.at 0 w.heap.size (chl H q1 s1)).1) ?_
   refine hK.out _ _ hS (fun _=>?_)
   simp only [Act.put,zE1,zE2,zE3]
   clear hK K
   refine wpAnyH_ready (rs:=[6]) (by kernel_rfl) (by simp) ?_
   refine AllReadyH.cons rfl (fun K hK=>?_) AllReadyH.nil
   refine step_callW _ (by rfl) (some 50) rfl 55 #[.tmp 44,.tmp 46,.tmp 49] #[38,78,26] rfl (fun q w'=>by rfl) #[.agg (chl H q1 s1).toArray,.agg (ints .i64 [pb,pp]),v3] (by simp only [List.map_toArray,List.map_cons,List.map_nil];rfl) (fun z w'=>∃ q2 x7,z=.tuple #[.agg (chl H q2 (prs H s1 pb pp Z)).toArray,.int .i64 x7]∧Lw H (fun w=>((((Rc H s q w∧Byt w v1 Y1)∧Byt w v2 Y2)∧Rc H s1 q1 w)∧Byt w v3 Z)∧Rc H s2 q2 w) W0 w M0 U M1 w' s1 l1 [(w.heap.size,chl H q1 s1),(w1.heap.size,(pgz pb pp k n c lb e t sd true)),(w2.heap.size,Zc)]) ?_ ?_
   ·exact (HL.out.rprg (q:=q1) (fun _ z=>z.1.2) HH.out.1 (by have:=HC1.out.2;omega) HH.out.2.1 HC1.out.1 pb pp v3 Z (fun _ z=>z.2)).mono fun e w' ⟨q2,⟨x7,h1⟩,h2,h3⟩=>⟨_,h1,q2,x7,rfl,by rw [←S2E.out];exact h2⟩
   rintro _ y6 ⟨q2,x7,rfl,h9⟩
   rw [S2E.out]
   have HL:=hdH (h9)
   have hS:y6.rangeAt w.heap.size 0 (g6 H)∧y6.rangeAt w1.heap.size 0 [.int .i64 pb,.int .i64 pp]:=⟨chl_geo (HL.out.at 0 w.heap.size (chl H q1 s1)),pgz_pl (HL.out.at 1 w1.heap.size (pgz pb pp k n c lb e t sd true))⟩
   clear h9
   refine hK.out _ _ hS (fun _=>?_)
   simp only [Act.put,zE1,zE2,zE3]
   clear hK K
   refine tkH 7 (some 43) (.tuple #[.agg (chl H q2 s2).toArray,.int .i64 x7]) rfl rfl (Or.inl ⟨by rfl,fun w' hw'=>by rfl⟩) hS ?_
   simp only [Act.put,zE1,zE2,zE3]
   refine tkH 8 (some 51) (.agg (chl H q2 s2).toArray) rfl rfl (Or.inl ⟨by rfl,fun w' hw'=>by rfl⟩) hS ?_
   simp only [Act.put,zE1,zE2,zE3]
   refine tkH 9 (some 52) (.int .i64 x7) rfl rfl (Or.inl ⟨by rfl,fun w' hw'=>by rfl⟩) hS ?_
   simp only [Act.put,zE1,zE2,zE3]
   refine wpAnyH_ready (rs:=[10]) (by kernel_rfl) (by simp) ?_
   refine AllReadyH.cons rfl (fun K hK=>?_) AllReadyH.nil
   refine step_storeM _ rfl none rfl (.tmp 5) (.tmp 51) 38 rfl w.heap.size (chl H q1 s1) (chl H q2 s2) rfl rfl (HL.out.at 0 w.heap.size (chl H q1 s1)) rfl rowy_chipR.2 (chl_one _ _ _) ?_
   intro y7 E9
   have HL:Hid (Lw H (fun w=>((((Rc H s q w∧Byt w v1 Y1)∧Byt w v2 Y2)∧Rc H s1 q1 w)∧Byt w v3 Z)∧Rc H s2 q2 w) W0 w M0 U M1 y7 s1 l1 [(w.heap.size,chl H q2 s2),(w1.heap.size,(pgz pb pp k n c lb e t sd true)),(w2.heap.size,Zc)]):=(by rw [E9.out];exact HL.out.store 0 (show 0<3 by decide) (chl_nob _ _ _) (chl_nob _ _ _) rfl)
   have hS:y7.rangeAt w.heap.size 0 (g6 H)∧y7.rangeAt w1.heap.size 0 [.int .i64 pb,.int .i64 pp]:=⟨chl_geo (HL.out.at 0 w.heap.size (chl H q2 s2)),pgz_pl (HL.out.at 1 w1.heap.size (pgz pb pp k n c lb e t sd true))⟩
   clear E9
   refine hK.out _ _ hS (fun _=>?_)
   simp only [Act.put]
   clear hK K
   refine wpAnyH_done (by kernel_rfl) ?_ _
   go_wp2_with fail
   go_meet
   exact ⟨q2,v3,HL.out⟩
 case rest=>
  obtain ⟨q2,v3,h9⟩:=hcut
  have HL:=hdH (h9)
  clear h9
  go_wp2_with fail
  have HL:Hid (Lw H (fun w=>((((Rc H s q w∧Byt w v1 Y1)∧Byt w v2 Y2)∧Rc H s1 q1 w)∧Byt w v3 Z)∧Rc H s2 q2 w) W0 w M0 U M1 wc.drew s1 l1 [(w.heap.size,chl H q2 s2),(w1.heap.size,(pgz pb pp k n c lb e t sd true)),(w2.heap.size,Zc)]):=HL.out.below (Below.refl _ _).drew
  refine wp_region_held_drew (S:=fun w'=>w'.rangeAt w.heap.size 0 (g6 H)∧w'.rangeAt w1.heap.size 0 [.int .i64 pb,.int .i64 pp]) (by kernel_rfl) ⟨chl_geo (HL.out.at 0 w.heap.size (chl H q2 s2)),pgz_pl (HL.out.at 1 w1.heap.size (pgz pb pp k n c lb e t sd true))⟩ (fun hS=>?_)
  obtain ⟨z1,hx0⟩:∃ x,x=wc.drew:=⟨_,rfl⟩
  rw [←hx0] at hS HL ⊢
  clear hx0
  refine tkH 0 (some 53) (.pointer (some ⟨H.c,0,none⟩)) rfl rfl (Or.inl ⟨by rfl,fun w' hw'=>by rfl⟩) hS ?_
  simp only [Act.put,zE1,zE2,zE3]
  refine tkH 1 (some 54) (.pointer (some ⟨w1.heap.size,0,none⟩)) rfl rfl (Or.inl ⟨by rfl,fun w' hw'=>by go_simp⟩) hS ?_
  simp only [Act.put,zE1,zE2,zE3]
  refine tkH 2 (some 55) (.agg (ints .i64 [pb,pp])) rfl rfl (Or.inl ⟨by rfl,fun w' hw'=>by exact exec_loadN 78 (.tmp 54) rfl _ rfl _ _ (load_cells rowy_place hw'.2)⟩) hS ?_
  simp only [Act.put,zE1,zE2,zE3]
  refine tkH 3 (some 56) (.pointer (some ⟨w.heap.size,0,none⟩)) rfl rfl (Or.inl ⟨by rfl,fun w' hw'=>by go_simp⟩) hS ?_
  simp only [Act.put,zE1,zE2,zE3]
  refine tkH 4 (some 57) (.agg (g6 H).toArray) rfl rfl (Or.inl ⟨by rfl,fun w' hw'=>by exact exec_loadN 23 (.tmp 56) rfl _ rfl _ _ (load_cells rowy_geo6 hw'.1)⟩) hS ?_
  simp only [Act.put,zE1,zE2,zE3]
  refine wpAnyH_ready (rs:=[5]) (by kernel_rfl) (by simp) ?_
  refine AllReadyH.cons rfl (fun K hK=>?_) AllReadyH.nil
  refine step_callW _ (by rfl) (some 58) rfl 57 #[.tmp 57] #[23] rfl (fun q w'=>by rfl) #[.agg (g6 H).toArray] (by simp only [List.map_toArray,List.map_cons,List.map_nil];rfl) (fun v w'=>Lw H (fun w=>(((((Rc H s q w∧Byt w v1 Y1)∧Byt w v2 Y2)∧Rc H s1 q1 w)∧Byt w v3 Z)∧Rc H s2 q2 w)∧Byt w v Z) W0 w M0 U M1 w' s1 l1 [(w.heap.size,chl H q2 s2),(w1.heap.size,(pgz pb pp k n c lb e t sd true)),(w2.heap.size,Zc)]) ?_ ?_
  ·exact (HL.out.own ZA.out (SCM.out z1)).mono fun e w' ⟨v,h1,h2,h3⟩=>⟨v,h1,h2⟩
  rintro v4 z2 h9
  have HL:=hdH (h9)
  have hS:z2.rangeAt w.heap.size 0 (g6 H)∧z2.rangeAt w1.heap.size 0 [.int .i64 pb,.int .i64 pp]:=⟨chl_geo (HL.out.at 0 w.heap.size (chl H q2 s2)),pgz_pl (HL.out.at 1 w1.heap.size (pgz pb pp k n c lb e t sd true))⟩
  clear h9
  refine hK.out _ _ hS (fun _=>?_)
  simp only [Act.put,zE1,zE2,zE3]
  clear hK K
  refine wpAnyH_ready (rs:=[6]) (by kernel_rfl) (by simp) ?_
  refine AllReadyH.cons rfl (fun K hK=>?_) AllReadyH.nil
  refine step_callW _ (by rfl) (some 59) rfl 56 #[.tmp 53,.tmp 55,.tmp 58] #[34,78,26] rfl (fun q w'=>by rfl) #[.pointer (some ⟨H.c,0,none⟩),.agg (ints .i64 [pb,pp]),v4] (by simp only [List.map_toArray,List.map_cons,List.map_nil];rfl) (fun z w'=>∃ M2 l2 x8,z=.int .i64 x8∧Lw H (fun w=>(((((Rc H s q w∧Byt w v1 Y1)∧Byt w v2 Y2)∧Rc H s1 q1 w)∧Byt w v3 Z)∧Rc H s2 q2 w)∧Byt w v4 Z) W0 w M0 U M2 w' s2 l2 [(w.heap.size,chl H q2 s2),(w1.heap.size,(pgz pb pp k n c lb e t sd true)),(w2.heap.size,Zc)]) ?_ ?_
  ·exact (HL.out.prgm (by have:=HC1.out.2;omega) pb pp v4 Z (fun _ z=>z.2)).mono fun e w' ⟨x8,M2,l2,h1,h2⟩=>⟨_,h1,M2,l2,x8,rfl,by rw [S2E.out] at h2;exact h2⟩
  rintro _ z3 ⟨M2,l2,x8,rfl,h9⟩
  have HL:=hdH (h9)
  have hS:z3.rangeAt w.heap.size 0 (g6 H)∧z3.rangeAt w1.heap.size 0 [.int .i64 pb,.int .i64 pp]:=⟨chl_geo (HL.out.at 0 w.heap.size (chl H q2 s2)),pgz_pl (HL.out.at 1 w1.heap.size (pgz pb pp k n c lb e t sd true))⟩
  clear h9
  refine hK.out _ _ hS (fun _=>?_)
  simp only [Act.put,zE1,zE2,zE3]
  clear hK K
  refine wpAnyH_done (by kernel_rfl) ?_ _
  obtain ⟨wy,hwy⟩:∃ x,x=z3:=⟨_,rfl⟩
  rw [←hwy] at HL ⊢
  clear hwy hS
  have t12:=tR
  go_wp2_with (first
   |(have q13:=t13;(with_reducible refine at_store ?_);refine store_lawC _ (chl H q2 s2) w2.heap.size 0 rfl rfl (HL.out.at 2 w2.heap.size Zc).2 rowy_chipR.2 (chl_one _ _ _) ?_;intro wt E9 _ _ _;have E9:=E9.out;subst E9;have HL:Hid (Lw H (fun w=>(((((Rc H s q w∧Byt w v1 Y1)∧Byt w v2 Y2)∧Rc H s1 q1 w)∧Byt w v3 Z)∧Rc H s2 q2 w)∧Byt w v4 Z) W0 w M0 U M2 (wy.setCells w2.heap.size 0 (chl H q2 s2)) s2 l2 [(w.heap.size,chl H q2 s2),(w1.heap.size,(pgz pb pp k n c lb e t sd true)),(w2.heap.size,chl H q2 s2)]):=HL.out.store 2 (show 2<3 by decide) zc_nob (chl_nob _ _ _) rfl;clear t13;have t14:=tR)
   |(have q12:=t12;refine load_lawC _ rfl (chl H q2 s2) w.heap.size 0 rfl (HL.out.at 0 w.heap.size (chl H q2 s2)).1 rowy_chipR ?_;clear t12;have t13:=tR))
  exact bodyPost_ret (v:=.agg (chl H q2 s2).toArray) (results_c rfl _ _ w2.heap.size _ rowy_chipR rfl (HL.out.at 2 w2.heap.size (chl H q2 s2)).1) rfl (prg_mk q2 M2 l2 rfl HL.out.bs (fun k hk z=>HL.out.um k hk z) HL.out.fr (HL.out.outR (T:=Rc H s2 q2) (fun _ z=>z.1.2) fun M1 hm z=>rc_less M1 _ hm z))
theorem program_any (H:Ch) (M0 U:Nat→Bool) (W0 w:World) (s:na.St) (l:List na.Opn) (q:Qz) (pb pp k n c lb e t sd o:Int) (d:Bool) (h:Cs H M0 w s l) (hsh:na.Shp H.g H.N H.P H.T) (hp0:∀ n,H.pl n=none) (hC:Calm s) (hn:na.ops s≤1000) (hUlt:na.Mlt U w) (hMU:∀ k,M0 k=true→U k=true) (hR:Rc H s q (na.hid U w)) (h0:Below W0.heap.size W0 w) (hu:∀ k,M0 k=true→W0.heap.size≤k) (hH:Hb lb e t):
  Calls Tryz.prog 22 #[.pointer (some ⟨H.c,0,none⟩),.agg (chl H q s).toArray,.agg (pgz pb pp k n c lb e t sd d).toArray,.int .u8 o] w fun e9 w'=>PrgR H M0 U w (pst H s pb pp k n c lb e t sd o d) e9 w':=by
 unfold pst
 by_cases hk:1≤k∧k≤4∧0≤n∧n≤255∧0≤c∧c≤255
 ·rw [if_pos hk]
  cases d with
  |false=>exact program_un H M0 U W0 w s l q pb pp k n c lb e t sd o false h hsh hp0 hC hn hUlt hMU hR h0 hu hk hH rfl
  |true=>exact program_done H M0 U W0 w s l q pb pp k n c lb e t sd o true h hsh hp0 hC hn hUlt hMU hR h0 hu hk hH rfl
 ·rw [if_neg hk]
  exact program_not H M0 U W0 w s l q pb pp k n c lb e t sd o d h hUlt hMU hR h0 hu hk
theorem pst_ok {H:Ch} {s:na.St} (hC:Calm s) (hp0:∀ n,H.pl n=none) (pb pp k n c lb e t sd o:Int) (d:Bool):Calm (pst H s pb pp k n c lb e t sd o d)∧na.ops (pst H s pb pp k n c lb e t sd o d)≤na.ops s+2:=by
 unfold pst
 split
 ·have c1:=calm_prs (H:=H) hC hp0 pb pp (pys H.S (IntKind.u8.wrap (sd+o)) ++ hend (hb k n c lb e t) (tgo []) (List.replicate 8 255))
  have o1:=ops_prs H s pb pp (pys H.S (IntKind.u8.wrap (sd+o)) ++ hend (hb k n c lb e t) (tgo []) (List.replicate 8 255))
  cases d with
  |true=>
   refine ⟨calm_prs c1 hp0 _ _ _,?_⟩
   have:=ops_prs H (prs H s pb pp (pys H.S (IntKind.u8.wrap (sd+o)) ++ hend (hb k n c lb e t) (tgo []) (List.replicate 8 255))) pb pp (he.mark (H.S+88))
   simp only [if_true]
   omega
  |false=>exact ⟨c1,by simp only [Bool.false_eq_true,if_false];omega⟩
 ·exact ⟨hC,by omega⟩
end Go.Proofs.YtmbgokmomkmgcaaGreatDoor.sc
