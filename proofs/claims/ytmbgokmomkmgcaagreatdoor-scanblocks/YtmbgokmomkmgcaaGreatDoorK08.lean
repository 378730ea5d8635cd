/- Parts of the proof: what ScanBlocks reaches. No claim of its own. -/
import Derived.WalkKit
import Derived.WalkSmall
import Derived.ProofKit
import Derived.OpenShut
import Derived.BigQuiet
import Derived.Deep.QuietTactic
import Derived.Laws.AppendOwnNone
import Derived.Deep.WholeRow
import Derived.Deep.MidRow
import Derived.Laws.StructEq
import Derived.Deep.RegionHeld3
import Derived.Lib.SliceRun
import Derived.Test.YtmbgokmomkmgcaaGreatDoorK00
set_option maxHeartbeats 8000000
namespace Go.Proofs.YtmbgokmomkmgcaaGreatDoor.fa
open Go.RowKit
set_option maxRecDepth 20000
def fl (f:Int × Bool × Value):List Value:=[.int .i64 f.1,.bool f.2.1,f.2.2]
def fv (f:Int × Bool × Value):Value:=.agg (fl f).toArray
def f0:Int × Bool × Value:=(0,false,.slice none 0 0)
def FlA (w:World) (b p:Nat) (f:Int × Bool × Value):Prop:=w.cell? ⟨b,p,none⟩=some (.int .i64 f.1)∧w.cell? ⟨b,p+1,none⟩=some (.bool f.2.1)∧w.cell? ⟨b,p+2,none⟩=some f.2.2
theorem FlA.range {w:World} {b p:Nat} {f:Int × Bool × Value} (h:FlA w b p f):w.rangeAt b p (fl f):=fun j v hv=>by
 match j,hv with
 |0,hv=>simp [fl] at hv;subst hv;exact h.1
 |1,hv=>simp [fl] at hv;subst hv;exact h.2.1
 |2,hv=>simp [fl] at hv;subst hv;exact h.2.2
 |j+3,hv=>simp [fl] at hv
theorem FlA.of {w:World} {b p:Nat} {f:Int × Bool × Value} (h:w.rangeAt b p (fl f)):FlA w b p f:=⟨h 0 _ rfl,h 1 _ rfl,h 2 _ rfl⟩
theorem FlA.lt {w:World} {b p:Nat} {f:Int × Bool × Value} (h:FlA w b p f):b<w.heap.size:=World.block_lt_of_cell? w _ h.1
theorem FlA.heap {w w':World} {b p:Nat} {f:Int × Bool × Value} (h:FlA w b p f) (e:w'.heap[b]? =w.heap[b]?):FlA w' b p f:=
 ⟨by rw [World.cell?_of_block (w:=w) (w':=w') (a:=⟨b,p,none⟩) e];exact h.1,by rw [World.cell?_of_block (w:=w) (w':=w') (a:=⟨b,p+1,none⟩) e];exact h.2.1,by rw [World.cell?_of_block (w:=w) (w':=w') (a:=⟨b,p+2,none⟩) e];exact h.2.2⟩
theorem FlA.below {w w':World} {b p B:Nat} {f:Int × Bool × Value} (h:FlA w b p f) (hb:Below B w w') (hB:b<B):FlA w' b p f:=h.heap (hb.block b hB)
def FlV (w:World) (c:Nat) (f:Int × Bool × Value):Prop:=FlA w c 0 f∧w.there c 0 3
theorem FlV.heap {w w':World} {c:Nat} {f:Int × Bool × Value} (h:FlV w c f) (e:w'.heap[c]? =w.heap[c]?):FlV w' c f:=
 ⟨h.1.heap e,fun j hj=>by
  rw [World.cell?_of_block (w:=w) (w':=w') (a:=⟨c,0+j,none⟩) e,World.frozen?_of_block (w:=w) (w':=w') (a:=⟨c,0+j,none⟩) e]
  exact h.2 j hj⟩
theorem FlV.below {w w':World} {c B:Nat} {f:Int × Bool × Value} (h:FlV w c f) (hb:Below B w w') (hc:c<B):FlV w' c f:=h.heap (hb.block c hc)
theorem flv_other {w:World} {c b o:Nat} {f:Int × Bool × Value} (h:FlV w c f) (u:Value) (hp:c≠b):FlV (w.setCell ⟨b,o,none⟩ u) c f:=h.heap (Below.heap_setCell w ⟨b,o,none⟩ u c hp)
theorem FlV.new (w:World) (f:Int × Bool × Value):FlV (w.alloc (.cells (fl f).toArray 179)) w.heap.size f:=by
 have e:=fun j=>cell_of_row (w.alloc (.cells (fl f).toArray 179)) w.heap.size j _ 179 (0,0) (heap_alloc_last w _)
 refine ⟨⟨by rw [e];rfl,by rw [e];rfl,by rw [e];rfl⟩,fun j hj=>⟨?_,World.frozen?_alloc_at _ _ _ _ rfl⟩⟩
 rw [e]
 have:j=0∨j=1∨j=2:=by omega
 rcases this with rfl | rfl | rfl <;> rfl
theorem FlV.mask {w:World} {c:Nat} {f:Int × Bool × Value} (h:FlV w c f) (m:Value):FlV (w.setCell ⟨c,2,none⟩ m) c (f.1,f.2.1,m):=by
 refine ⟨⟨?_,?_,?_⟩,fun j hj=>?_⟩
 ·rw [World.cell?_setCell_other _ _ _ _ (by intro e;injection e with _ e2;omega)];exact h.1.1
 ·rw [World.cell?_setCell_other _ _ _ _ (by intro e;injection e with _ e2;omega)];exact h.1.2.1
 ·exact World.cell?_setCell_same _ _ _ h.1.2.2
 ·refine ⟨?_,by rw [World.frozen?_setCell];exact (h.2 j hj).2⟩
  by_cases e:j=2
  ·subst e
   rw [show (0+2 :Nat)=2 from rfl,World.cell?_setCell_same _ _ _ h.1.2.2];rfl
  ·rw [World.cell?_setCell_other _ _ _ _ (by intro q;injection q with _ e2;omega)];exact (h.2 j hj).1
theorem size_fault:(Tryz.prog.info? 179).map (·.size)=some 3:=by kernel_rfl
theorem zero_fault:(Tryz.prog.info? 179).map (fun i=>(i.zero,i.size))=some (some (fv f0),3):=by kernel_rfl
theorem und_fault:∃ d,Tryz.prog.underlying 179=some d∧d.isRow=true:=⟨_,Tryz.underlying179,rfl⟩
theorem run_loadF {w:World} {b p:Nat} {f:Int × Bool × Value} (h:FlA w b p f):(loadVar 179 ⟨b,p,none⟩).run Tryz.prog w=.ok (fv f) w:=by
 obtain ⟨d,hu,hd⟩:=und_fault
 have:=run_loadVar_mid (P:=Tryz.prog) w b p 179 _ _ h.range hu hd (by rw [size_fault];rfl)
 simpa [fv] using this
theorem load_fault {w:World} {b p:Nat} {f:Int × Bool × Value} (h:FlA w b p f):(Instr.loadAt 179 (.pointer (some ⟨b,p,none⟩))).run Tryz.prog w=.ok (fv f) w:=by
 simp only [Instr.loadAt,Instr.sureAddr,Sem.run_bind,Sem.run_pure,Result.andThen_ok,run_loadF h]
theorem results_flt {fn:Func} {p:Tmp} (h:fn.results=#[.cell p 179]) (tmps:Array Value) (w:World) (b:Nat) (f:Int × Bool × Value) (hp:tmps.getD p undef=.pointer (some ⟨b,0,none⟩)) (ha:FlA w b 0 f):(results fn tmps).run Tryz.prog w=.ok (fv f) w:=by
 have hp':tmps[p]?.getD undef=.pointer (some ⟨b,0,none⟩):=by simpa using hp
 simp [results,h,hp',asAddr,run_loadF ha]
theorem results_fltB {fn:Func} {p q:Tmp} (h:fn.results=#[.cell p 179,.tmp q]) (tmps:Array Value) (w:World) (b:Nat) (f:Int × Bool × Value) (t:Bool) (hp:tmps.getD p undef=.pointer (some ⟨b,0,none⟩)) (hq:tmps.getD q undef=.bool t) (ha:FlA w b 0 f):(results fn tmps).run Tryz.prog w=.ok (.tuple #[fv f,.bool t]) w:=by
 have hp':tmps[p]?.getD undef=.pointer (some ⟨b,0,none⟩):=by simpa using hp
 have hq':tmps[q]?.getD undef=.bool t:=by simpa using hq
 simp [results,h,hp',hq',asAddr,run_loadF ha]
section
variable {ops:Array Oper} {rest:List Oper} {a:Act} {Q:Exit→Act→World→Prop}
theorem load_lawS {d:Option Tmp} {t:TypeId} {x:Operand} {ty:TypeId} {pos:String} {af:Array Edge} {gd:Option (Nat × Bool)} (w:World) (hw:Region.wanted ⟨d,Op.load t x,ty,pos,af,gd⟩ (yielded ops a.tmps)=true) (p v:Value) (hx:a.eval x=p) (h:(Instr.loadAt t p).run Tryz.prog w=.ok v w)
  (hK:wpList Tryz.prog ops Q rest (a.put d v) w):wpList Tryz.prog ops Q (⟨d,Op.load t x,ty,pos,af,gd⟩ :: rest) a w:=by
 refine wpList_step fun K hK'=>?_
 rw [if_pos hw]
 unfold Oper.wp execOp
 simp only [hx,Sem.run_bind,Result.andThen_ok,h]
 exact hK' _ _ hK
theorem box_lawV {d:Option Tmp} {x:Operand} {ty:TypeId} {pos:String} {af:Array Edge} (w:World) (f:Int × Bool × Value) (hx:a.eval x=fv f)
  (hK:∀ w',FlV w' w.heap.size f→Below w.heap.size w w'→w.heap.size<w'.heap.size→wpList Tryz.prog ops Q rest (a.put d (.pointer (some ⟨w.heap.size,0,none⟩))) w'):
  wpList Tryz.prog ops Q (⟨d,Op.box 179 x,ty,pos,af,none⟩ :: rest) a w:=by
 refine wpList_plain rfl fun K hK'=>?_
 unfold Oper.wp
 simp [execOp,hx,Instr.box,newVar,newRow,fv,Value.cells,Result.andThen]
 exact hK' _ _ (hK _ (FlV.new w f) ((Below.refl _ _).alloc (Nat.le_refl _) _) (by simp))
theorem new_lawV {d:Option Tmp} {ty:TypeId} {pos:String} {af:Array Edge} (w:World)
  (hK:∀ w',FlV w' w.heap.size f0→Below w.heap.size w w'→w.heap.size<w'.heap.size→wpList Tryz.prog ops Q rest (a.put d (.pointer (some ⟨w.heap.size,0,none⟩))) w'):
  wpList Tryz.prog ops Q (⟨d,Op.alloc 179,ty,pos,af,none⟩ :: rest) a w:=by
 refine wpList_plain rfl fun K hK'=>?_
 have hz':=(zero_of_info zero_fault).1
 unfold Oper.wp
 simp [execOp,Instr.alloc,hz',newVar,newRow,fv,Value.cells,Result.andThen]
 exact hK' _ _ (hK _ (FlV.new w f0) ((Below.refl _ _).alloc (Nat.le_refl _) _) (by simp))
theorem store_lawV {d:Option Tmp} {x y:Operand} {ty:TypeId} {pos:String} {af:Array Edge} (w:World) (f:Int × Bool × Value) (b p:Nat) (hx:a.eval x=.pointer (some ⟨b,p,none⟩)) (hy:a.eval y=fv f) (ht:w.there b p 3) (hm:f.2.2.oneCell'=true)
  (hK:∀ w',Hid (w'=w.setCells b p (fl f))→FlA w' b p f→w'.there b p 3→Below b w w'→wpList Tryz.prog ops Q rest (a.put d undef) w'):
  wpList Tryz.prog ops Q (⟨d,Op.store 179 x y,ty,pos,af,none⟩ :: rest) a w:=by
 refine wpList_store_mid rfl 179 x y rfl b p (fl f).toArray hx hy ht (by rw [size_fault];rfl) (all_oneCell_toArray fun v hv=>?_) ?_
 ·simp [fl] at hv
  rcases hv with rfl | rfl | rfl
  ·rfl
  ·rfl
  ·exact hm
 ·exact hK _ rfl (FlA.of (World.rangeAt_setCells_same w b p (fl f) ht)) (World.there_setCells ht b p _) (below_cells _ (Nat.le_refl _) _ _ (Below.refl _ _))
end
end Go.Proofs.YtmbgokmomkmgcaaGreatDoor.fa
namespace Go.Proofs.YtmbgokmomkmgcaaGreatDoor.fa
open Go.RowKit
set_option maxRecDepth 20000
def Bow (B:Nat) (w:World) (v:Value) (xs:List Int):Prop:=Byt w v xs∧(0<xs.length→∃ b off cap,v=.slice (some ⟨b,off,none⟩) xs.length cap∧B≤b∧∀ j,j<xs.length→w.frozen? ⟨b,off+j,none⟩=false)
theorem Bow.nil (B:Nat) (w:World):Bow B w (.slice none 0 0) []:=⟨Byt.nil w,fun h=>by simp at h⟩
theorem bow_own {B:Nat} {w:World} {v:Value} {xs:List Int} (h:Own B w v xs) (ha:AllB xs):Bow B w v xs:=by
 refine ⟨h.byt ha,fun hp=>?_⟩
 obtain ⟨g,cap,rfl,oc⟩:=own_row h hp
 exact ⟨g,0,cap,rfl,oc.2.1,fun j _=>by rw [Nat.zero_add];exact oc.free j⟩
theorem Bow.below {B:Nat} {w w':World} {v:Value} {xs:List Int} (h:Bow B w v xs) (hb:Below w.heap.size w w'):Bow B w' v xs:=by
 refine ⟨h.1.below hb,fun hp=>?_⟩
 obtain ⟨b,off,cap,rfl,h1,h2⟩:=h.2 hp
 obtain ⟨ao,cap',e,_,_,_,_,h5⟩:=h.1
 cases e
 obtain ⟨b',off',e',hc⟩:=h5 hp
 cases e'
 exact ⟨b,off,cap,rfl,h1,fun j hj=>by rw [hb.frozen (World.block_lt_of_cell? w _ (hc j hj))];exact h2 j hj⟩
theorem Bow.mono {B B':Nat} {w:World} {v:Value} {xs:List Int} (h:Bow B w v xs) (hb:B'≤B):Bow B' w v xs:=⟨h.1,fun hp=>by
 obtain ⟨b,off,cap,rfl,h1,h2⟩:=h.2 hp
 exact ⟨b,off,cap,rfl,by omega,h2⟩⟩
theorem Bow.other {B:Nat} {w:World} {v u old:Value} {xs:List Int} {p:Addr} (h:Bow B w v xs) (hc:w.cell? p=some old) (ho:∀ x,old≠ .int .u8 x):Bow B (w.setCell p u) v xs:=by
 refine ⟨byt_other h.1 hc ho,fun hp=>?_⟩
 obtain ⟨b,off,cap,rfl,h1,h2⟩:=h.2 hp
 exact ⟨b,off,cap,rfl,h1,fun j hj=>by rw [World.frozen?_setCell];exact h2 j hj⟩
theorem byt_one_cell {w:World} {v:Value} {xs:List Int} (h:Byt w v xs):v.oneCell'=true:=by
 obtain ⟨ao,cap,rfl,_⟩:=h
 rfl
theorem byt_no_u8 {w:World} {v:Value} {xs:List Int} (h:Byt w v xs):∀ x,v≠ .int .u8 x:=by
 obtain ⟨ao,cap,rfl,_⟩:=h
 intro x e
 cases e
theorem bow_cells {B:Nat} {w:World} {v:Value} {xs:List Int} {b p:Nat} {f f':Int × Bool × Value} (hf:FlA w b p f) (hm:∀ x,f.2.2≠ .int .u8 x) (h:Bow B w v xs):Bow B (w.setCells b p (fl f')) v xs:=by
 have h1:=h.other (u:=.int .i64 f'.1) hf.1 (by intro x e;cases e)
 have c1:(w.setCell ⟨b,p,none⟩ (.int .i64 f'.1)).cell? ⟨b,p+1,none⟩=some (.bool f.2.1):=by
  rw [World.cell?_setCell_other _ _ _ _ (by intro e;injection e with _ e2;omega)];exact hf.2.1
 have h2:=h1.other (u:=.bool f'.2.1) c1 (by intro x e;cases e)
 have c2:((w.setCell ⟨b,p,none⟩ (.int .i64 f'.1)).setCell ⟨b,p+1,none⟩ (.bool f'.2.1)).cell? ⟨b,p+2,none⟩=some f.2.2:=by
  rw [World.cell?_setCell_other _ _ _ _ (by intro e;injection e with _ e2;omega),World.cell?_setCell_other _ _ _ _ (by intro e;injection e with _ e2;omega)];exact hf.2.2
 exact h2.other (u:=f'.2.2) c2 hm
theorem bclone_any (v:Value) (xs:List Int) (w:World) (h:Byt w v xs) (hl:xs.length≤140737488355328):
  Calls Tryz.prog 81 #[v] w fun e w'=>∃ v',e=.returned v'∧Bow w.heap.size w' v' xs∧Below w.heap.size w w':=by
 have hall:=h.all
 have HA:Hid (AllB xs):=hall
 have HV:Hid (Byt (w.alloc (.cells #[] 5)) v xs):=h.below ((Below.refl _ _).alloc (Nat.le_refl _) _)
 obtain ⟨ao,cap,rfl,h1,h2,h3,h4,h5⟩:=h
 cases ao with
 |none=>
  have hc:=h4 rfl
  subst hc
  have e:xs= []:=List.eq_nil_of_length_eq_zero (by omega)
  subst e
  have qn:∀ w:World,(binOp .eql 26 (.slice none 0 0) (.slice none 0 0)).run Tryz.prog w=.ok (.bool true) w:=fun w=>Lib.run_eql_slice_nil w _ _ none 0 0 0 0 Tryz.underlying26
  clear h1 h2 h3 h4 h5 hall HV
  go_enter Tryz.func81,Tryz.ntmps81
  go_wp2
  go_ret
  exact ⟨_,rfl,Bow.nil _ _,Below.refl _ _⟩
 |some ad=>
  have HO:Hid (Own w.heap.size (w.alloc (.cells #[] 5)) (.slice (some ⟨w.heap.size,0,none⟩) 0 0) []):=Own.empty w (Nat.le_refl _)
  have B0:Below w.heap.size w (w.alloc (.cells #[] 5)):=(Below.refl _ _).alloc (Nat.le_refl _) _
  have z0:=B0.size
  have qn:∀ w:World,(binOp .eql 26 (.slice (some ad) xs.length cap) (.slice none 0 0)).run Tryz.prog w=.ok (.bool false) w:=fun w=>Lib.run_eql_slice_nil w _ _ (some ad) xs.length cap 0 0 Tryz.underlying26
  clear h3 h4 h5 hall
  go_enter Tryz.func81,Tryz.ntmps81
  go_wp2_with (refine pushs_law _ rfl (.tmp 5) (.tmp 6) rfl w.heap.size z0 _ _ [] xs rfl rfl HO.out HV.out (by simp only [List.length_nil];omega) ?_;intro v1 w1 O1 b1;rw [List.nil_append] at O1;have HO1:=hdH (O1);clear O1;have c1:Below w.heap.size w w1:=B0.trans b1)
  go_ret
  exact ⟨_,rfl,bow_own HO1.out HA.out,c1⟩
theorem copyOf_any (f:Int × Bool × Value) (xs:List Int) (w:World) (h:Byt w f.2.2 xs) (hl:xs.length≤140737488355328):
  Calls Tryz.prog 86 #[fv f] w fun e w'=>∃ m',e=.returned (fv (f.1,f.2.1,m'))∧Bow w.heap.size w' m' xs∧Below w.heap.size w w':=by
 have H:=hdH (h)
 have S:Hid (∀ w0,Below w.heap.size w w0→Calls Tryz.prog 81 #[f.2.2] w0 fun e w'=>∃ v',e=.returned v'∧Bow w0.heap.size w' v' xs∧Below w0.heap.size w0 w'):=fun w0 hb=>bclone_any f.2.2 xs w0 (h.below hb) hl
 clear h hl
 have t0:=tR
 go_enter Tryz.func86,Tryz.ntmps86
 go_wp2_with (first
  |(have q0:=t0;refine box_lawV _ f rfl ?_;intro w1 V1 B1 l1;have HV1:=hdH (V1);clear V1 t0;have t1:=tR)
  |(have q1:=t1;refine new_lawV _ ?_;intro w2 V2 B2 l2;have HV2:=hdH (V2);have HV1:=hdH (HV1.out.below B2 l1);have c2:=HV1.out.1.2.2;clear V2 t1;have t2:=tR)
  |(have q4:=t4;refine store_lawV _ (f.1,f.2.1,.slice ao3 xs.length cap3) w1.heap.size 0 rfl rfl HV2.out.2 rfl ?_;intro w5 E5 A5 T5 B5;have HA5:=hdH (A5);clear A5 T5 t4)
  |(have q3:=t3;refine load_lawS _ (by rfl) _ _ rfl (load_fault HV4.out.1) ?_;clear t3;have t4:=tR)
  |(have q2:=t2;go_at_call 81;refine (S.out _ (B1.trans (B2.mono (by omega)))).mono ?_;rintro e w3 ⟨m3,rfl,y3,B3⟩;obtain ⟨ao3,cap3,rfl⟩:=byt_form y3.1;have Y3:=hdH (y3);have HV1:=hdH (HV1.out.below B3 (by omega));have HV2:=hdH (HV2.out.below B3 (by omega));have d2:=HV1.out.1.2.2;have e2:w3.frozen? ⟨w.heap.size,2,none⟩=false:=(HV1.out.2 2 (by omega)).2;have HV4:Hid (FlV (w3.setCell ⟨w.heap.size,2,none⟩ (.slice ao3 xs.length cap3)) w.heap.size (f.1,f.2.1,.slice ao3 xs.length cap3)):=HV1.out.mask _;have HV2:Hid (FlV (w3.setCell ⟨w.heap.size,2,none⟩ (.slice ao3 xs.length cap3)) w1.heap.size f0):=flv_other HV2.out _ (by omega);clear y3 t2;have t3:=tR))
 have C3:Below w.heap.size w w3:=B1.trans ((B2.mono (by omega)).trans (B3.mono (by omega)))
 refine bodyPost_ret (v:=fv (f.1,f.2.1,.slice ao3 xs.length cap3)) (results_flt rfl _ _ w1.heap.size _ rfl HA5.out) rfl ⟨_,rfl,?_,?_⟩
 ·have Z3:=(Y3.out.mono (show w.heap.size≤w2.heap.size by omega)).other (u:=.slice ao3 xs.length cap3) d2 (byt_no_u8 H.out)
  rw [E5.out]
  exact bow_cells HV2.out.1 (by intro x e;cases e) Z3
 ·exact (C3.setCell (Nat.le_refl _) _).trans (B5.mono (by omega))
end Go.Proofs.YtmbgokmomkmgcaaGreatDoor.fa
namespace Go.Proofs.YtmbgokmomkmgcaaGreatDoor.fa
open Go.RowKit
set_option maxRecDepth 20000
def gf (fs:List (Int × Bool × Value)) (k:Nat):Int × Bool × Value:=fs.getD k f0
def Fls (w:World) (v:Value) (fs:List (Int × Bool × Value)):Prop:=∃ ao cap,v=.slice ao fs.length cap∧fs.length≤cap∧cap≤9223372036854775807∧(ao=none→cap=0)∧(0<fs.length→∃ b off,ao=some ⟨b,off,none⟩∧∀ t,t<fs.length→FlA w b (off+t*3) (gf fs t))
theorem Fls.below {w w':World} {v:Value} {fs:List (Int × Bool × Value)} (h:Fls w v fs) (hb:Below w.heap.size w w'):Fls w' v fs:=by
 obtain ⟨ao,cap,rfl,h1,h2,h3,h4⟩:=h
 refine ⟨ao,cap,rfl,h1,h2,h3,fun hp=>?_⟩
 obtain ⟨b,off,rfl,hc⟩:=h4 hp
 exact ⟨b,off,rfl,fun t ht=>(hc t ht).below hb (hc t ht).lt⟩
def Mks (w:World) (fs:List (Int × Bool × Value)) (ms:Nat→List Int):Prop:=∀ t,t<fs.length→Byt w (gf fs t).2.2 (ms t)∧(ms t).length ≤140737488355328
theorem Mks.below {w w':World} {fs:List (Int × Bool × Value)} {ms:Nat→List Int} (h:Mks w fs ms) (hb:Below w.heap.size w w'):Mks w' fs ms:=fun t ht=>⟨(h t ht).1.below hb,(h t ht).2⟩
def Okp (fs:List (Int × Bool × Value)) (ms:Nat→List Int) (n:Nat):Prop:=∀ t,t<n→0≤(gf fs t).1∧(ms t).length ≤64
theorem okp_more {fs:List (Int × Bool × Value)} {ms:Nat→List Int} {k:Nat} (h:Okp fs ms k) (h0:0≤(gf fs k).1) (h1:(ms k).length ≤64):Okp fs ms (k+1):=fun t ht=>by
 by_cases e:t<k
 ·exact h t e
 ·have:t=k:=by omega
  subst this;exact ⟨h0,h1⟩
theorem split_flt {w:World} {fs:List (Int × Bool × Value)} {ms:Nat→List Int} (h:Mks w fs ms) {k:Nat} (hk:k<fs.length):∃ x cr mo mc,gf fs k=(x,cr,.slice mo (ms k).length mc):=by
 obtain ⟨mo,mc,e⟩:=byt_form (h k hk).1
 exact ⟨(gf fs k).1,(gf fs k).2.1,mo,mc,by rw [←e]⟩
theorem check_any (v:Value) (fs:List (Int × Bool × Value)) (ms:Nat→List Int) (w:World) (h:Fls w v fs) (hm:Mks w fs ms) (c:Int) (h0:fs.length≤64→Okp fs ms fs.length→c=0) (h2:¬(fs.length≤64∧Okp fs ms fs.length)→c=2):
  Calls Tryz.prog 47 #[v] w fun e w'=>e=.returned (.int .i64 c)∧Below w.heap.size w w':=by
 obtain ⟨ao,cap,rfl,a1,a2,a3,a4⟩:=h
 have HM:=hdH (hm)
 have H0:=hdH (h0)
 have H2:=hdH (h2)
 have H4:=hdH (a4)
 clear hm h0 h2 a3 a4
 by_cases hl:fs.length≤64
 ·have l1:(fs.length:Int)≤64:=by omega
  go_enter Tryz.func47,Tryz.ntmps47
  go_wp2
  go_loopw [10] (fun i wr=>∃ k:Nat,k≤fs.length∧i=.int .i64 k∧Hid (Okp fs ms k)∧Hid (Below w.heap.size w wr)) (fun i _=>fs.length-(intOf i).toNat)
  case atStart=>exact ⟨0,Nat.zero_le _,rfl,fun t ht=>by omega,Below.refl _ _⟩
  case round=>
   obtain ⟨k,hk,rfl,HK,HB⟩:=hrel
   obtain ⟨wa,rfl⟩:∃ wx,wx=wr:=⟨_,rfl⟩
   have k0:(0 :Int)≤(k:Int):=by omega
   by_cases hlt:k<fs.length
   ·have k1:(k:Int)<(fs.length:Int):=by omega
    obtain ⟨b,off,rfl,hc⟩:=H4.out (by omega)
    obtain ⟨x,cr,mo,mc,hf⟩:=split_flt HM.out hlt
    have hfa:FlA w b (off+k*3) (gf fs k):=hc k hlt
    have HX:Hid ((gf fs k).1=x):=by show _=_;rw [hf]
    rw [hf] at hfa
    have HF:Hid (FlA wa b (off+k*3) (x,cr,.slice mo (ms k).length mc)):=hfa.below HB.out hfa.lt
    have HL:Hid ((ms k).length ≤9223372036854775807):=(HM.out k hlt).1.len
    have LL:((ms k).length :Int)≤9223372036854775807:=by have:=HL.out;omega
    have HK1:Hid (0≤x→(ms k).length ≤64→Okp fs ms (k+1)):=fun q1 q2=>okp_more HK.out (by rw [HX.out];exact q1) q2
    have HN:Hid (¬(0≤x∧(ms k).length ≤64)→c=2):=fun q=>H2.out fun ⟨_,q2⟩=>q (by have:=q2 k hlt;rw [HX.out] at this;exact this)
    clear hc hf hfa
    generalize (ms k).length =L at*
    have t0:=tR
    by_cases hx:x<0
    ·have e:=HN.out (by omega)
     subst e
     go_wp2_with (first
      |(have q2:=t2;refine store_lawV _ (x,cr,.slice mo L mc) wa.heap.size 0 rfl rfl HV2.out.2 rfl ?_;intro w3 E3 A3 T3 B3;have c0:=A3.1;have c2:=A3.2.2;have BB:=hdH (HB.out.trans ((B2.trans B3).mono HB.out.size));clear A3 T3 E3 t2)
      |(have q1:=t1;refine new_lawV _ ?_;intro w2 V2 B2 l2;have HV2:=hdH (V2);clear V2 t1;have t2:=tR)
      |(have q0:=t0;refine load_lawS _ (by rfl) _ _ rfl (load_fault HF.out) ?_;clear t0;have t1:=tR))
     go_ret
     exact ⟨rfl,BB.out⟩
    ·by_cases hL:64<L
     ·have e:=HN.out (by omega)
      subst e
      have L1:(64 :Int)<(L:Int):=by omega
      go_wp2_with (first
       |(have q2:=t2;refine store_lawV _ (x,cr,.slice mo L mc) wa.heap.size 0 rfl rfl HV2.out.2 rfl ?_;intro w3 E3 A3 T3 B3;have c0:=A3.1;have c2:=A3.2.2;have BB:=hdH (HB.out.trans ((B2.trans B3).mono HB.out.size));clear A3 T3 E3 t2)
       |(have q1:=t1;refine new_lawV _ ?_;intro w2 V2 B2 l2;have HV2:=hdH (V2);clear V2 t1;have t2:=tR)
       |(have q0:=t0;refine load_lawS _ (by rfl) _ _ rfl (load_fault HF.out) ?_;clear t0;have t1:=tR))
      go_ret
      exact ⟨rfl,BB.out⟩
     ·have HK2:Hid (Okp fs ms (k+1)):=HK1.out (by omega) (by omega)
      have L1:(L:Int)≤64:=by omega
      go_wp2_with (first
       |(have q2:=t2;refine store_lawV _ (x,cr,.slice mo L mc) wa.heap.size 0 rfl rfl HV2.out.2 rfl ?_;intro w3 E3 A3 T3 B3;have c0:=A3.1;have c2:=A3.2.2;have BB:=hdH (HB.out.trans ((B2.trans B3).mono HB.out.size));clear A3 T3 E3 t2)
       |(have q1:=t1;refine new_lawV _ ?_;intro w2 V2 B2 l2;have HV2:=hdH (V2);clear V2 t1;have t2:=tR)
       |(have q0:=t0;refine load_lawS _ (by rfl) _ _ rfl (load_fault HF.out) ?_;clear t0;have t1:=tR))
      go_roundw
      case rel=>exact ⟨k+1,by omega,by go_num,HK2,BB⟩
      case measure=>simp [intOf];omega
   ·have e:k=fs.length:=by omega
    have e2:=H0.out hl (by rw [←e];exact HK.out)
    subst e2
    go_wp2
    go_ret
    exact ⟨rfl,HB.out⟩
 ·have e:=H2.out (fun q=>hl q.1)
  subst e
  have l1:(64 :Int)<(fs.length:Int):=by omega
  go_enter Tryz.func47,Tryz.ntmps47
  go_wp2
  go_ret
  exact ⟨rfl,Below.refl _ _⟩
end Go.Proofs.YtmbgokmomkmgcaaGreatDoor.fa
namespace Go.Proofs.YtmbgokmomkmgcaaGreatDoor.fa
open Go.RowKit
set_option maxRecDepth 20000
def Fst (fs:List (Int × Bool × Value)) (n:Int) (t:Nat):Prop:=t<fs.length∧(gf fs t).1=n∧∀ s,s<t→(gf fs s).1≠n
theorem fst_or (fs:List (Int × Bool × Value)) (n:Int):(∃ t,Fst fs n t)∨∀ s,s<fs.length→(gf fs s).1≠n:=by
 have key:∀ k,k≤fs.length→(∃ t,Fst fs n t)∨∀ s,s<k→(gf fs s).1≠n:=fun k=>by
  induction k with
  |zero=>exact fun _=>Or.inr fun s hs=>by omega
  |succ k ih=>
   intro hk
   rcases ih (by omega) with h | h
   ·exact Or.inl h
   ·by_cases e:(gf fs k).1=n
    ·exact Or.inl ⟨k,hk,e,h⟩
    ·refine Or.inr fun s hs=>?_
     by_cases q:s<k
     ·exact h s q
     ·have:s=k:=by omega
      subst this;exact e
 exact key _ (Nat.le_refl _)
theorem rat_any (v:Value) (fs:List (Int × Bool × Value)) (n:Int) (w:World) (h:Fls w v fs) (c:Int) (h0:∀ t,Fst fs n t→c=t) (h1:(∀ s,s<fs.length→(gf fs s).1≠n)→c= -1):
  Calls Tryz.prog 130 #[v,.int .i64 n] w fun e w'=>e=.returned (.int .i64 c)∧∃ n,w'=w.drewN n:=by
 obtain ⟨ao,cap,rfl,a1,a2,a3,a4⟩:=h
 have H0:=hdH (h0)
 have H1:=hdH (h1)
 have H4:=hdH (a4)
 clear h0 h1 a3 a4
 go_enter Tryz.func130,Tryz.ntmps130
 go_wp2
 go_loopw [5] (fun i wr=>∃ k m:Nat,k≤fs.length∧i=.int .i64 k∧Hid (∀ s,s<k→(gf fs s).1≠n)∧wr=w.drewN m) (fun i _=>fs.length-(intOf i).toNat)
 case atStart=>exact ⟨0,0,Nat.zero_le _,rfl,fun t ht=>by omega,rfl⟩
 case round=>
  obtain ⟨k,m,hk,rfl,HK,rfl⟩:=hrel
  have k0:(0 :Int)≤(k:Int):=by omega
  by_cases hlt:k<fs.length
  ·have k1:(k:Int)<(fs.length:Int):=by omega
   obtain ⟨b,off,rfl,hc⟩:=H4.out (by omega)
   obtain ⟨x,hx⟩:∃ x,(gf fs k).1=x:=⟨_,rfl⟩
   have c0:=(hc k hlt).1
   rw [hx] at c0
   have HX:=hdH (hx)
   clear hc hx
   by_cases e:x=n
   ·subst e
    have e2:=H0.out k ⟨hlt,HX.out,HK.out⟩
    subst e2
    go_wp2
    go_ret
    exact ⟨rfl,m,rfl⟩
   ·have e2:(x == n)=false:=by simpa using e
    have HK2:Hid (∀ s,s<k+1→(gf fs s).1≠n):=fun s hs=>by
     by_cases q:s<k
     ·exact HK.out s q
     ·have:s=k:=by omega
      subst this;rw [HX.out];exact e
    go_wp2
    go_roundw
    case rel=>exact ⟨k+1,m,by omega,by go_num,HK2,rfl⟩
    case measure=>simp [intOf];omega
  ·have e:k=fs.length:=by omega
   have e2:=H1.out (by rw [←e];exact HK.out)
   subst e2
   go_wp2
   go_ret
   exact ⟨rfl,m,rfl⟩
def AtIs (fs:List (Int × Bool × Value)) (ms:Nat→List Int) (n:Int) (w:World) (e:Ending) (w':World):Prop:=∃ f ok,e=.returned (.tuple #[fv f,.bool ok])∧Below w.heap.size w w'∧(∀ t,Fst fs n t→ok=true∧f.1=n∧f.2.1=(gf fs t).2.1∧Byt w' f.2.2 (ms t))∧((∀ s,s<fs.length→(gf fs s).1≠n)→ok=false∧f=f0)
theorem at_any (v:Value) (fs:List (Int × Bool × Value)) (ms:Nat→List Int) (n:Int) (w:World) (h:Fls w v fs) (hm:Mks w fs ms):
  Calls Tryz.prog 137 #[v,.int .i64 n] w fun e w'=>AtIs fs ms n w e w':=by
 obtain ⟨ao,cap,rfl,a1,a2,a3,a4⟩:=h
 have HM:=hdH (hm)
 have H4:=hdH (a4)
 clear a3 a4 hm
 have t0:=tR
 go_enter Tryz.func137,Tryz.ntmps137
 go_wp2_with (have q0:=t0;refine new_lawV _ ?_;intro w1 V1 B1 l1;have HV1:=hdH (V1);clear V1 t0)
 go_loopw [10] (fun i wr=>∃ k:Nat,k≤fs.length∧i=.int .i64 k∧Hid (∀ s,s<k→(gf fs s).1≠n)∧Hid (Below w1.heap.size w1 wr)) (fun i _=>fs.length-(intOf i).toNat)
 case atStart=>exact ⟨0,Nat.zero_le _,rfl,fun t ht=>by omega,Below.refl _ _⟩
 case round=>
  obtain ⟨k,hk,rfl,HK,HB⟩:=hrel
  obtain ⟨wa,rfl⟩:∃ wx,wx=wr:=⟨_,rfl⟩
  have k0:(0 :Int)≤(k:Int):=by omega
  have BW:Hid (Below w.heap.size w wa):=B1.trans (HB.out.mono (by omega))
  have HVa:=hdH (HV1.out.below HB.out l1)
  have la:w.heap.size<wa.heap.size:=by have:=HB.out.size;omega
  by_cases hlt:k<fs.length
  ·have k1:(k:Int)<(fs.length:Int):=by omega
   obtain ⟨b,off,rfl,hc⟩:=H4.out (by omega)
   obtain ⟨x,cr,mo,mc,hf⟩:=split_flt HM.out hlt
   have hfa:FlA w b (off+k*3) (gf fs k):=hc k hlt
   have HG:=hdH (hf)
   rw [hf] at hfa
   have HF:Hid (FlA wa b (off+k*3) (x,cr,.slice mo (ms k).length mc)):=hfa.below BW.out hfa.lt
   have HY:Hid (Byt w (.slice mo (ms k).length mc) (ms k)∧(ms k).length ≤140737488355328):=by have:=HM.out k hlt;rw [hf] at this;exact this
   clear hc hf hfa
   have t1:=tR
   by_cases e:x=n
   ·subst e
    have S:Hid (∀ w0,Below w.heap.size w w0→Calls Tryz.prog 86 #[fv (x,cr,.slice mo (ms k).length mc)] w0 fun e w'=>∃ m',e=.returned (fv (x,cr,m'))∧Bow w0.heap.size w' m' (ms k)∧Below w0.heap.size w0 w'):=fun w0 hb=>copyOf_any (x,cr,.slice mo (ms k).length mc) (ms k) w0 (HY.out.1.below hb) HY.out.2
    go_wp2_with (first
     |(have q5:=t5;refine store_lawV _ (x,cr,.slice ao6 (ms k).length cap6) w.heap.size 0 rfl rfl HV6.out.2 rfl ?_;intro w7 E7 A7 T7 B7;have HA7:=hdH (A7);clear A7 T7 t5)
     |(have q4:=t4;go_at_call 86;refine (S.out _ BB.out).mono ?_;rintro e w6 ⟨m6,rfl,y6,B6⟩;obtain ⟨ao6,cap6,rfl⟩:=byt_form y6.1;have Y6:=hdH (y6);have HV6:=hdH (HV3.out.below B6 (by omega));have B6':=hdH (BB.out.trans (B6.mono BB.out.size));clear y6 t4;have t5:=tR)
     |(have q4:=t3;refine load_lawS _ (by rfl) _ _ rfl (load_fault HA3.out) ?_;clear t3;have t4:=tR)
     |(have q2:=t2';refine store_lawV _ (x,cr,.slice mo (ms k).length mc) wa.heap.size 0 rfl rfl HV2.out.2 rfl ?_;intro w3 E3 A3 T3 B3;have c0:=A3.1;have HA3:=hdH (A3);have BA:Below wa.heap.size wa w3:=B2.trans B3;have lb:=BA.size;have HV3:=hdH (HVa.out.below BA la);have BB:=hdH (BW.out.trans (BA.mono BW.out.size));clear A3 T3 E3 t2';have t3:=tR)
     |(have q1:=t2;refine new_lawV _ ?_;intro w2 V2 B2 l2;have HV2:=hdH (V2);clear V2 t2;have t2':(2 :Nat)=2:=rfl)
     |(have q0:=t1;refine load_lawS _ (by rfl) _ _ rfl (load_fault HF.out) ?_;clear t1;have t2:=tR))
    (try simp only [Exit.inBlock,Exit.then])
    refine bodyPost_ret (v:=.tuple #[fv (x,cr,.slice ao6 (ms k).length cap6),.bool true]) (results_fltB rfl _ _ w.heap.size _ true rfl rfl HA7.out) rfl ⟨_,true,rfl,?_,?_,?_⟩
    ·exact B6'.out.trans (B7.mono (Nat.le_refl _))
    ·rintro t ⟨ht1,ht2,ht3⟩
     have e:t=k:=by
      rcases Nat.lt_trichotomy t k with q | q | q
      ·exact absurd ht2 (HK.out t q)
      ·exact q
      ·exact absurd (by rw [HG.out]) (ht3 k q)
     subst e
     refine ⟨rfl,rfl,by rw [HG.out],?_⟩
     have Z:=bow_cells (f':=(x,cr,.slice ao6 (ms t).length cap6)) HV6.out.1 (by intro x e;cases e) Y6.out
     rw [←E7.out] at Z
     exact Z.1
    ·intro q
     exact absurd (by rw [HG.out]) (q k hlt)
   ·have e2:(x == n)=false:=by simpa using e
    have HK2:Hid (∀ s,s<k+1→(gf fs s).1≠n):=fun s hs=>by
     by_cases q:s<k
     ·exact HK.out s q
     ·have:s=k:=by omega
      subst this;rw [HG.out];exact e
    go_wp2_with (first
     |(have q2:=t2';refine store_lawV _ (x,cr,.slice mo (ms k).length mc) wa.heap.size 0 rfl rfl HV2.out.2 rfl ?_;intro w3 E3 A3 T3 B3;have c0:=A3.1;have BB:=hdH (HB.out.trans ((B2.trans B3).mono HB.out.size));clear A3 T3 E3 t2')
     |(have q1:=t2;refine new_lawV _ ?_;intro w2 V2 B2 l2;have HV2:=hdH (V2);clear V2 t2;have t2':(2 :Nat)=2:=rfl)
     |(have q0:=t1;refine load_lawS _ (by rfl) _ _ rfl (load_fault HF.out) ?_;clear t1;have t2:=tR))
    go_roundw
    case rel=>exact ⟨k+1,by omega,by go_num,HK2,BB⟩
    case measure=>simp [intOf];omega
  ·have e:k=fs.length:=by omega
   have HKK:Hid (∀ s,s<fs.length→(gf fs s).1≠n):=by rw [←e];exact HK
   have t1:=tR
   go_wp2_with (have q1:=t1;refine store_lawV _ f0 w.heap.size 0 rfl rfl HVa.out.2 rfl ?_;intro w3 E3 A3 T3 B3;have HA3:=hdH (A3);clear A3 T3 E3 t1)
   (try simp only [Exit.inBlock,Exit.then])
   refine bodyPost_ret (v:=.tuple #[fv f0,.bool false]) (results_fltB rfl _ _ w.heap.size _ false rfl rfl HA3.out) rfl ⟨_,false,rfl,?_,?_,?_⟩
   ·exact BW.out.trans B3
   ·rintro t ⟨ht1,ht2,ht3⟩
    exact absurd ht2 (HKK.out t ht1)
   ·exact fun _=>⟨rfl,rfl⟩
end Go.Proofs.YtmbgokmomkmgcaaGreatDoor.fa
namespace Go.Proofs.YtmbgokmomkmgcaaGreatDoor.fa
open Go.RowKit
set_option maxRecDepth 20000
theorem info_fault:(Tryz.prog.info? 179).map (fun i=>(i.zero,i.size,i.bytes))=some (some (fv f0),3,40):=by kernel_rfl
def fls (fs:List (Int × Bool × Value)):List Value:=fs.flatMap fl
theorem fls_len (fs:List (Int × Bool × Value)):(fls fs).length =fs.length*3:=by
 induction fs with
 |nil=>rfl
 |cons f fs ih=>simp only [fls,List.flatMap_cons,List.length_append] at ih ⊢;rw [ih,List.length_cons];simp [fl];omega
theorem fls_get (fs:List (Int × Bool × Value)):∀ (t i:Nat),t<fs.length→i<3→(fls fs)[t*3+i]? =(fl (gf fs t))[i]? :=by
 induction fs with
 |nil=>intro t i h;simp at h
 |cons f fs ih=>
  intro t i ht hi
  have hl:(fl f).length =3:=rfl
  simp only [fls,List.flatMap_cons]
  match t,ht with
  |0,_=>rw [List.getElem?_append_left (by omega),Nat.zero_mul,Nat.zero_add];rfl
  |t+1,ht=>
   rw [List.getElem?_append_right (by omega),hl,show (t+1)*3+i-3=t*3+i by omega]
   have:=ih t i (by simpa using ht) hi
   simpa [fls,gf] using this
theorem fls_one (fs:List (Int × Bool × Value)) (h:∀ t,t<fs.length→(gf fs t).2.2.oneCell' =true):∀ u ∈ fls fs,u.oneCell'=true:=by
 intro u hu
 obtain ⟨f,hf,hu⟩:=List.mem_flatMap.1 hu
 obtain ⟨t,ht,rfl⟩:=List.getElem_of_mem hf
 have:=h t ht
 have e:gf fs t=fs[t]:=by simp [gf,List.getD,ht]
 rw [e] at this
 simp [fl] at hu
 rcases hu with rfl | rfl | rfl
 ·rfl
 ·rfl
 ·exact this
def OwnF (B:Nat) (w:World) (v:Value) (fs:List (Int × Bool × Value)):Prop:=w.ownsRow B 179 3 v fs.length (fls fs)
theorem pushF_law {ops:Array Oper} {rest:List Oper} {o:Oper} {a:Act} {Q:Exit→Act→World→Prop} (w:World) (hg:o.guard=none) (s x:Operand) (hop:o.op=.call {callee:=.builtin .append,args:=#[s,x],argTypes:=#[36,36]})
  (B:Nat) (hB:B≤w.heap.size) (v vy:Value) (fs:List (Int × Bool × Value)) (ad:Addr) (cap:Nat) (hs:a.eval s=v) (hx:a.eval x=vy) (hown:w.ownsRow B 179 3 v 0 []) (hy:vy=.slice (some ad) fs.length cap)
  (h6:∀ j u,(fls fs)[j]? =some u→w.cell? (ad.add j)=some u) (h1:∀ u ∈ fls fs,u.oneCell'=true) (hn:fs.length≤100)
  (hK:∀ v' w',OwnF B w' v' fs→Below B w w'→wpList Tryz.prog ops Q rest (a.put o.dst v') w'):
  wpList Tryz.prog ops Q (o :: rest) a w:=by
 obtain ⟨i0,hi,hz0,hz1,hz2⟩:=info_parts info_fault
 subst hy
 refine wpList_append_own _ hg s x 36 hop B 179 i0 (fv f0) 3 40 Tryz.underlying36 hi hz0 hz1 hz2 rfl (by decide) v 0 [] hs hown ad fs.length cap (fls fs) hx (fls_len fs) h6 h1 (by simp only [maxLen];omega) (by omega) hB fun v' w' O1 G1 _=>?_
 rw [List.nil_append,Nat.zero_add] at O1
 exact hK v' w' O1 ((Below.refl B w).grown G1 hB fun k hk=>(World.ownsRow.lt hown k hk).1)
theorem cloneF_any (v:Value) (fs:List (Int × Bool × Value)) (w:World) (h:Fls w v fs) (ho:∀ t,t<fs.length→(gf fs t).2.2.oneCell' =true) (hl:fs.length≤100):
  Calls Tryz.prog 85 #[v] w fun e w'=>∃ v',e=.returned v'∧OwnF w.heap.size w' v' fs∧Below w.heap.size w w':=by
 have H1:Hid (∀ u ∈ fls fs,u.oneCell'=true):=fls_one fs ho
 obtain ⟨ao,cap,rfl,h1,h2,h4,h5⟩:=h
 clear ho
 cases ao with
 |none=>
  have hc:=h4 rfl
  subst hc
  have e:fs= []:=List.eq_nil_of_length_eq_zero (by omega)
  subst e
  have qn:∀ w:World,(binOp .eql 36 (.slice none 0 0) (.slice none 0 0)).run Tryz.prog w=.ok (.bool true) w:=fun w=>Lib.run_eql_slice_nil w _ _ none 0 0 0 0 Tryz.underlying36
  clear h1 h2 h4 h5 H1
  go_enter Tryz.func85,Tryz.ntmps85
  go_wp2
  go_ret
  exact ⟨_,rfl,⟨rfl,Or.inl ⟨rfl,rfl⟩⟩,Below.refl _ _⟩
 |some ad=>
  have H5:Hid (∀ j u,(fls fs)[j]? =some u→w.cell? (ad.add j)=some u):=fun j u hj=>by
   have hjl:j<fs.length*3:=by rw [←fls_len];exact (List.getElem?_eq_some_iff.1 hj).1
   obtain ⟨b,off,e,hc⟩:=h5 (by omega)
   cases e
   have e2:j=j/3*3+j%3:=by omega
   rw [e2,fls_get fs (j/3) (j%3) (by omega) (by omega)] at hj
   have:=(hc (j/3) (by omega)).range (j%3) u hj
   rw [Addr.add_mid,show off+j=off+j/3*3+j%3 by omega]
   exact this
  have HO:Hid ((w.alloc (.cells #[] 179)).ownsRow w.heap.size 179 3 (.slice (some ⟨w.heap.size,0,none⟩) 0 0) 0 []):=World.ownsRow_made w #[] 0 (Nat.le_refl _) (by simp [maxLen]) (by simp)
  have B0:Below w.heap.size w (w.alloc (.cells #[] 179)):=(Below.refl _ _).alloc (Nat.le_refl _) _
  have H6:Hid (∀ j u,(fls fs)[j]? =some u→(w.alloc (.cells #[] 179)).cell? (ad.add j)=some u):=fun j u hj=>by
   have:=H5.out j u hj
   rw [B0.cell (World.block_lt_of_cell? w _ this)]
   exact this
  have z0:=B0.size
  have qn:∀ w:World,(binOp .eql 36 (.slice (some ad) fs.length cap) (.slice none 0 0)).run Tryz.prog w=.ok (.bool false) w:=fun w=>Lib.run_eql_slice_nil w _ _ (some ad) fs.length cap 0 0 Tryz.underlying36
  clear h4 h5
  go_enter Tryz.func85,Tryz.ntmps85
  go_wp2_with (refine pushF_law _ rfl (.tmp 5) (.tmp 6) rfl w.heap.size z0 _ _ fs ad cap rfl rfl HO.out rfl H6.out H1.out hl ?_;intro v1 w1 O1 b1;have HO1:=hdH (O1);have C1:Below w.heap.size w w1:=B0.trans b1;clear O1 b1)
  go_ret
  exact ⟨_,rfl,HO1.out,C1⟩
def Cop (B:Nat) (w:World) (g n k:Nat) (fs gs:List (Int × Bool × Value)) (ms:Nat→List Int):Prop:=
 gs.length=n∧(∀ t,t<n→FlA w g (t*3) (gf gs t))∧(∀ t,t<n→w.there g (t*3) 3)∧
  (∀ t,t<k→t<n→(gf gs t).1=(gf fs t).1∧(gf gs t).2.1=(gf fs t).2.1∧Bow B w (gf gs t).2.2 (ms t))∧(∀ t,k≤t→t<n→gf gs t=gf fs t)
theorem there_heap {w w':World} {b p n:Nat} (h:w.there b p n) (e:w'.heap[b]? =w.heap[b]?):w'.there b p n:=fun j hj=>by
 rw [World.cell?_of_block (w:=w) (w':=w') (a:=⟨b,p+j,none⟩) e,World.frozen?_of_block (w:=w) (w':=w') (a:=⟨b,p+j,none⟩) e]
 exact h j hj
theorem Cop.below {B:Nat} {w w':World} {g n k:Nat} {fs gs:List (Int × Bool × Value)} {ms:Nat→List Int} (h:Cop B w g n k fs gs ms) (hb:Below w.heap.size w w'):Cop B w' g n k fs gs ms:=by
 obtain ⟨h1,h2,h3,h4,h5⟩:=h
 exact ⟨h1,fun t ht=>(h2 t ht).below hb (h2 t ht).lt,fun t ht=>there_heap (h3 t ht) (hb.block g (h2 t ht).lt),fun t a b=>⟨(h4 t a b).1,(h4 t a b).2.1,(h4 t a b).2.2.below hb⟩,h5⟩
theorem gf_set (gs:List (Int × Bool × Value)) (k t:Nat) (f:Int × Bool × Value) (hk:k<gs.length):gf (gs.set k f) t=if t=k then f else gf gs t:=by
 unfold gf
 rw [List.getD_eq_getElem?_getD,List.getD_eq_getElem?_getD,List.getElem?_set]
 by_cases e:k=t
 ·subst e;simp [hk]
 ·rw [if_neg e,if_neg (Ne.symm e)]
theorem Cop.step {B:Nat} {w:World} {g n k:Nat} {fs gs:List (Int × Bool × Value)} {ms:Nat→List Int} (h:Cop B w g n k fs gs ms) (hk:k<n) (hu:∀ t,t<n→∀ x,(gf fs t).2.2≠ .int .u8 x) (m:Value) (hm:Bow B w m (ms k)):
  Cop B (w.setCells g (k*3) (fl ((gf fs k).1,(gf fs k).2.1,m))) g n (k+1) fs (gs.set k ((gf fs k).1,(gf fs k).2.1,m)) ms:=by
 obtain ⟨h1,h2,h3,h4,h5⟩:=h
 have hs:=h5 k (Nat.le_refl _) hk
 have hf:=h2 k hk
 rw [hs] at hf
 have hnu:=hu k hk
 refine ⟨by rw [List.length_set];exact h1,fun t ht=>?_,fun t ht=>World.there_setCells (h3 t ht) _ _ _,fun t ht htn=>?_,fun t ht htn=>?_⟩
 ·rw [gf_set gs k t _ (by omega)]
  by_cases e:t=k
  ·subst e
   rw [if_pos rfl]
   exact FlA.of (World.rangeAt_setCells_same w g (t*3) _ (h3 t ht))
  ·rw [if_neg e]
   exact FlA.of (World.rangeAt_setCells_apart (h2 t ht).range g (k*3) _ (by right;simp only [fl,List.length_cons,List.length_nil];omega))
 ·rw [gf_set gs k t _ (by omega)]
  by_cases e:t=k
  ·subst e
   rw [if_pos rfl]
   exact ⟨rfl,rfl,bow_cells hf hnu hm⟩
  ·rw [if_neg e]
   have:=h4 t (by omega) htn
   exact ⟨this.1,this.2.1,bow_cells hf hnu this.2.2⟩
 ·rw [gf_set gs k t _ (by omega),if_neg (by omega)]
  exact h5 t (by omega) htn
theorem own_cop {B:Nat} {w:World} {v:Value} {fs:List (Int × Bool × Value)} (h:OwnF B w v fs) (ms:Nat→List Int):∃ ao cap g,v=.slice ao fs.length cap∧fs.length≤cap∧cap≤9223372036854775807∧(ao=none→cap=0)∧(0<fs.length→ao=some ⟨g,0,none⟩∧B≤g)∧Cop B w g fs.length 0 fs fs ms:=by
 have hx:=h
 rcases h.2 with ⟨rfl,hn⟩ | ⟨g,cap,cur,rfl,hg,hh,hc,hm,hs,ht⟩
 ·refine ⟨none,0,0,by rw [hn],by omega,by omega,fun _=>rfl,fun hp=>by omega,rfl,fun t ht=>by omega,fun t ht=>by omega,fun t ht=>by omega,fun t _ ht=>by omega⟩
 ·refine ⟨some ⟨g,0,none⟩,cap,g,rfl,hc,by simpa [maxLen] using hm,(by intro e;cases e),fun _=>⟨rfl,hg⟩,rfl,fun t ht=>?_,fun t ht j hj=>?_,fun t ht=>by omega,fun t _ ht=>rfl⟩
  ·refine FlA.of fun j u hj=>?_
   have hj3:j<3:=(List.getElem?_eq_some_iff.1 hj).1
   rw [hx.cellAt (t*3+j) (by omega),fls_get fs t j ht hj3]
   exact hj
  ·refine ⟨?_,hx.frozenAt _⟩
   rw [hx.cellAt (t*3+j) (by omega),fls_get fs t j ht hj]
   have:j=0∨j=1∨j=2:=by omega
   rcases this with rfl | rfl | rfl <;> rfl
def CopyIs (B:Nat) (fs:List (Int × Bool × Value)) (ms:Nat→List Int) (v:Value) (w:World):Prop:=∃ gs cap g ao,v=.slice ao fs.length cap∧fs.length≤cap∧cap≤9223372036854775807∧(ao=none→cap=0)∧(0<fs.length→ao=some ⟨g,0,none⟩∧B≤g)∧Cop B w g fs.length fs.length fs gs ms
theorem copy_any (v:Value) (fs:List (Int × Bool × Value)) (ms:Nat→List Int) (w:World) (h:Fls w v fs) (hm:Mks w fs ms) (hl:fs.length≤100):
  Calls Tryz.prog 48 #[v] w fun e w'=>∃ v',e=.returned v'∧CopyIs w.heap.size fs ms v' w'∧Below w.heap.size w w':=by
 have HM:=hdH (hm)
 have HU:Hid (∀ t,t<fs.length→∀ x,(gf fs t).2.2≠ .int .u8 x):=fun t ht=>byt_no_u8 (hm t ht).1
 have SC:Hid (Calls Tryz.prog 85 #[v] w fun e w'=>∃ v',e=.returned v'∧OwnF w.heap.size w' v' fs∧Below w.heap.size w w'):=cloneF_any v fs w h (fun t ht=>byt_one_cell (hm t ht).1) hl
 clear h hm
 go_enter Tryz.func48,Tryz.ntmps48
 go_wp2_with (go_at_call 85;refine SC.out.mono ?_;rintro e w1 ⟨v1,rfl,y1,B1⟩;obtain ⟨ao,cap,g,rfl,a1,a2,a3,a4,a5⟩:=own_cop y1 ms;have HA:Hid ((ao=none→cap=0)∧(0<fs.length→ao=some ⟨g,0,none⟩∧w.heap.size≤g)):=⟨a3,a4⟩;have HC1:=hdH (a5);have HB1:=hdH (B1);clear y1 a3 a4 a5 B1)
 go_loopw [10] (fun i wr=>∃ k:Nat,k≤fs.length∧i=.int .i64 k∧Hid (∃ gs,Cop w.heap.size wr g fs.length k fs gs ms)∧Hid (Below w.heap.size w wr)) (fun i _=>fs.length-(intOf i).toNat)
 case atStart=>exact ⟨0,Nat.zero_le _,rfl,⟨fs,HC1.out⟩,HB1⟩
 case round=>
  obtain ⟨k,hk,rfl,HC,HB⟩:=hrel
  obtain ⟨wa,rfl⟩:∃ wx,wx=wr:=⟨_,rfl⟩
  obtain ⟨gs,hcop⟩:=HC.out
  have HCa:Hid (Cop w.heap.size wa g fs.length k fs gs ms):=hcop
  clear HC hcop
  have k0:(0 :Int)≤(k:Int):=by omega
  by_cases hlt:k<fs.length
  ·have k1:(k:Int)<(fs.length:Int):=by omega
   obtain ⟨hao,hgB⟩:=HA.out.2 (by omega)
   have HG:Hid (w.heap.size≤g):=hgB
   have HAO:Hid (ao=some ⟨g,0,none⟩):=hao
   subst hao
   obtain ⟨x,cr,mo,mc,hf⟩:=split_flt HM.out hlt
   have hfa:=HCa.out.2.1 k hlt
   rw [HCa.out.2.2.2.2 k (Nat.le_refl _) hlt,hf] at hfa
   have HF:Hid (FlA wa g (k*3) (x,cr,.slice mo (ms k).length mc)):=hfa
   have lg:g<wa.heap.size:=hfa.lt
   have HE:Hid (((gf fs k).1,(gf fs k).2.1)=(x,cr)):=by show _=_;rw [hf]
   have HY:Hid (Byt w (.slice mo (ms k).length mc) (ms k)∧(ms k).length ≤140737488355328):=by have:=HM.out k hlt;rw [hf] at this;exact this
   have S:Hid (∀ w0,Below w.heap.size w w0→Calls Tryz.prog 86 #[fv (x,cr,.slice mo (ms k).length mc)] w0 fun e w'=>∃ m',e=.returned (fv (x,cr,m'))∧Bow w0.heap.size w' m' (ms k)∧Below w0.heap.size w0 w'):=fun w0 hb=>copyOf_any (x,cr,.slice mo (ms k).length mc) (ms k) w0 (HY.out.1.below hb) HY.out.2
   clear hf hfa hgB
   have t1:=tR
   go_wp2_with (first
    |(have q5:=t5;refine store_lawV _ (x,cr,.slice ao6 (ms k).length cap6) g (k*3) rfl rfl T6.out rfl ?_;intro w7 E7 A7 T7 B7;have HE7:=hdH (E7);have HB7:=hdH (B6'.out.trans (B7.mono HG.out));clear E7 A7 T7 B7 t5)
    |(have q4:=t4;go_at_call 86;refine (S.out _ BB.out).mono ?_;rintro e w6 ⟨m6,rfl,y6,B6⟩;obtain ⟨ao6,cap6,rfl⟩:=byt_form y6.1;have Y6:Hid (Bow w.heap.size w6 (.slice ao6 (ms k).length cap6) (ms k)):=y6.mono BB.out.size;have HC6:=hdH (HC3.out.below B6);have T6:Hid (w6.there g (k*3) 3):=HC6.out.2.2.1 k hlt;have B6':=hdH (BB.out.trans (B6.mono BB.out.size));clear y6 t4 B6;have t5:=tR)
    |(have q4:=t3;refine load_lawS _ (by rfl) _ _ rfl (load_fault HA3.out) ?_;clear t3;have t4:=tR)
    |(have q2:=t2';refine store_lawV _ (x,cr,.slice mo (ms k).length mc) wa.heap.size 0 rfl rfl HV2.out.2 rfl ?_;intro w3 E3 A3 T3 B3;have HA3:=hdH (A3);have BA:Below wa.heap.size wa w3:=B2.trans B3;have HC3:=hdH (HCa.out.below BA);have BB:=hdH (HB.out.trans (BA.mono HB.out.size));clear A3 T3 E3 BA B2 B3 t2';have t3:=tR)
    |(have q1:=t2;refine new_lawV _ ?_;intro w2 V2 B2 l2;have HV2:=hdH (V2);clear V2 t2;have t2':(2 :Nat)=2:=rfl)
    |(have q0:=t1;refine load_lawS _ (by rfl) _ _ rfl (load_fault HF.out) ?_;clear t1;have t2:=tR))
   have HC7:Hid (∃ gs,Cop w.heap.size w7 g fs.length (k+1) fs gs ms):=by
    have st:=HC6.out.step hlt HU.out (.slice ao6 (ms k).length cap6) Y6.out
    have e1:(gf fs k).1=x:=congrArg Prod.fst HE.out
    have e2:(gf fs k).2.1=cr:=congrArg Prod.snd HE.out
    rw [e1,e2,←HE7.out] at st
    exact ⟨_,st⟩
   go_roundw
   case rel=>exact ⟨k+1,by omega,by go_num,HC7,HB7⟩
   case measure=>simp [intOf];omega
  ·have e:k=fs.length:=by omega
   have HR:Hid (CopyIs w.heap.size fs ms (.slice ao fs.length cap) wa):=⟨gs,cap,g,ao,rfl,a1,a2,HA.out.1,HA.out.2,by have:=HCa.out;rw [e] at this;exact this⟩
   go_wp2
   go_ret
   exact ⟨_,rfl,HR.out,HB.out⟩
end Go.Proofs.YtmbgokmomkmgcaaGreatDoor.fa
