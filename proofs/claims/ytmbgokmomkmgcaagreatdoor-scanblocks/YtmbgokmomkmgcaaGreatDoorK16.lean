/- Parts of the proof: what ScanBlocks reaches. No claim of its own. -/
import Derived.Laws.AppendOwnNone
import Derived.WalkKit
import Derived.WalkSmall
import Derived.ProofKit
import Derived.OpenShut
import Derived.BigQuiet
import Derived.Deep.QuietTactic
import Derived.Deep.RegionHeld3
import Derived.Laws.StructEq
import Derived.Lib.AppendZeros
import Derived.Lib.SliceRun
import Derived.Deep.DeepHandedRow
import Derived.Lib.LaidTab
import Derived.Deep.Matrix
import Derived.Deep.WholeRow
import Derived.Deep.MidRow
import Derived.Deep.DeepCutAuto
import Derived.Test.YtmbgokmomkmgcaaGreatDoorK00
import Derived.Test.YtmbgokmomkmgcaaGreatDoorK01
import Derived.Test.YtmbgokmomkmgcaaGreatDoorK02
import Derived.Test.YtmbgokmomkmgcaaGreatDoorK03
import Derived.Test.YtmbgokmomkmgcaaGreatDoorK04
import Derived.Test.YtmbgokmomkmgcaaGreatDoorK05
import Derived.Test.YtmbgokmomkmgcaaGreatDoorK06
import Derived.Test.YtmbgokmomkmgcaaGreatDoorK07
import Derived.Test.YtmbgokmomkmgcaaGreatDoorK12
import Derived.Test.YtmbgokmomkmgcaaGreatDoorK15
set_option maxHeartbeats 8000000
namespace Go.Proofs.YtmbgokmomkmgcaaGreatDoor.pa
open Go.RowKit Go.Proofs.YtmbgokmomkmgcaaGreatDoor.fa Go.Proofs.YtmbgokmomkmgcaaGreatDoor.he
set_option maxRecDepth 20000
def NoB (w:World) (g:Nat):Prop:=∀ j y,w.cell? ⟨g,j,none⟩≠some (.int .u8 y)
theorem NoB.heap {w w':World} {g:Nat} (h:NoB w g) (e:w'.heap[g]? =w.heap[g]?):NoB w' g:=fun j y=>by
 rw [World.cell?_of_block (w:=w) (w':=w') (a:=⟨g,j,none⟩) e]
 exact h j y
theorem vr_there1 {w:World} {c:Nat} {cs:List Value} (h:Vr w c cs) (j:Nat) (hj:j<cs.length):(w.cell? ⟨c,j,none⟩).isSome =true:=by
 rw [h.cell j _ (List.getElem?_eq_getElem hj)];rfl
theorem NoB.set {w:World} {g:Nat} {cs0 cs:List Value} (h:NoB w g) (hV:Vr w g cs0) (hl:cs0.length=cs.length) (hc:∀ v ∈ cs,∀ y,v≠ .int .u8 y):NoB (w.setCells g 0 cs) g:=fun j y e=>by
 by_cases hj:j<cs.length
 ·have:=World.cell?_setCells_in g cs 0 w (fun i hi=>by rw [Nat.zero_add];exact vr_there1 hV i (by omega)) j hj
  rw [Nat.zero_add] at this
  rw [this] at e
  exact hc _ (List.getElem_mem hj) y (Option.some.inj e)
 ·rw [World.cell?_setCells_out g cs 0 w ⟨g,j,none⟩ (fun _ _=>Or.inr (by simp;omega))] at e
  exact h j y e
theorem byt_nob {w w':World} {c:Nat} {v:Value} {xs:List Int} (h:Byt w v xs) (hn:NoB w c) (hk:∀ k,k≠c→w'.heap[k]? =w.heap[k]?):Byt w' v xs:=by
 obtain ⟨ao,cap,rfl,h1,h2,h3,h4,h5⟩:=h
 refine ⟨ao,cap,rfl,h1,h2,h3,h4,fun hp=>?_⟩
 obtain ⟨b,off,rfl,hc⟩:=h5 hp
 refine ⟨b,off,rfl,fun t ht=>?_⟩
 have hb:b≠c:=fun e=>by subst e;exact hn _ _ (hc t ht)
 rw [World.cell?_of_block (w:=w) (w':=w') (a:=⟨b,off+t,none⟩) (hk b hb)]
 exact hc t ht
theorem new_lawN {ops:Array Oper} {rest:List Oper} {a:Act} {Q:Exit→Act→World→Prop} {d:Option Tmp} {t ty:TypeId} {pos:String} {af:Array Edge} (w:World) (cs:List Value) (hz:(Tryz.prog.info? t).map (fun i=>(i.zero,i.size))=some (some (.agg cs.toArray),cs.length)) (hc:∀ v ∈ cs,∀ y,v≠ .int .u8 y)
  (hK:∀ w',Vr w' w.heap.size cs→NoB w' w.heap.size→Below w.heap.size w w'→wpList Tryz.prog ops Q rest (a.put d (.pointer (some ⟨w.heap.size,0,none⟩))) w'):
  wpList Tryz.prog ops Q (⟨d,Op.alloc t,ty,pos,af,none⟩ :: rest) a w:=by
 refine wpList_plain rfl fun K hK'=>?_
 have hz':=(zero_of_info hz).1
 unfold Oper.wp
 simp [execOp,Instr.alloc,hz',newVar,newRow,Value.cells,Result.andThen]
 refine hK' _ _ (hK _ (Vr.new w t cs) (fun j y e=>?_) ((Below.refl _ _).alloc (Nat.le_refl _) _))
 rw [cell_of_row (w.alloc (.cells cs.toArray t)) w.heap.size j _ t (0,0) (heap_alloc_last w _)] at e
 have e:cs[j]? =some (.int .u8 y):=by simpa using e
 exact hc _ (List.mem_of_getElem? e) y rfl
def pg9 (k n c l e t:Int) (pv tv:Value) (d:Bool):List Value:=[.int .i64 k,.int .i64 n,.int .i64 c,.int .u32 l,.int .u64 e,.int .u64 t,pv,tv,.bool d]
def pg10 (k n c l e t:Int) (pv tv:Value) (d o:Bool):List Value:=[.int .i64 k,.int .i64 n,.int .i64 c,.int .u32 l,.int .u64 e,.int .u64 t,pv,tv,.bool d,.bool o]
def Z9:List Value:=pg9 0 0 0 0 0 0 (.slice none 0 0) (.slice none 0 0) false
def Z10:List Value:=pg10 0 0 0 0 0 0 (.slice none 0 0) (.slice none 0 0) false false
def Z2:List Value:=[.slice none 0 0,.slice none 0 0]
theorem hv_nob (k n c l e t:Int):∀ v ∈ hv k n c l e t,∀ y,v≠ .int .u8 y:=by
 intro v h y q
 subst q
 simp [hv] at h
theorem pg9_nob (k n c l e t:Int) (ao bo:Option Addr) (n1 n2 c1 c2:Nat) (d:Bool):∀ v ∈ pg9 k n c l e t (.slice ao n1 c1) (.slice bo n2 c2) d,∀ y,v≠ .int .u8 y:=by
 intro v h y q
 subst q
 simp [pg9] at h
theorem pg10_nob (k n c l e t:Int) (ao bo:Option Addr) (n1 n2 c1 c2:Nat) (d o:Bool):∀ v ∈ pg10 k n c l e t (.slice ao n1 c1) (.slice bo n2 c2) d o,∀ y,v≠ .int .u8 y:=by
 intro v h y q
 subst q
 simp [pg10] at h
theorem z2_nob (ao bo:Option Addr) (n1 n2 c1 c2:Nat):∀ v ∈ ([.slice ao n1 c1,.slice bo n2 c2]:List Value),∀ y,v≠ .int .u8 y:=by
 intro v h y q
 subst q
 simp at h
theorem pg9_one (k n c l e t:Int) (ao bo:Option Addr) (n1 n2 c1 c2:Nat) (d:Bool):∀ v ∈ pg9 k n c l e t (.slice ao n1 c1) (.slice bo n2 c2) d,v.oneCell'=true:=by
 intro v h
 simp only [pg9,List.mem_cons,List.not_mem_nil,or_false] at h
 rcases h with rfl | rfl | rfl | rfl | rfl | rfl | rfl | rfl | rfl <;> rfl
theorem pg10_one (k n c l e t:Int) (ao bo:Option Addr) (n1 n2 c1 c2:Nat) (d o:Bool):∀ v ∈ pg10 k n c l e t (.slice ao n1 c1) (.slice bo n2 c2) d o,v.oneCell'=true:=by
 intro v h
 simp only [pg10,List.mem_cons,List.not_mem_nil,or_false] at h
 rcases h with rfl | rfl | rfl | rfl | rfl | rfl | rfl | rfl | rfl | rfl <;> rfl
theorem z2_one (ao bo:Option Addr) (n1 n2 c1 c2:Nat):∀ v ∈ ([.slice ao n1 c1,.slice bo n2 c2]:List Value),v.oneCell'=true:=by
 intro v h
 simp only [List.mem_cons,List.not_mem_nil,or_false] at h
 rcases h with rfl | rfl <;> rfl
theorem rowy_page:Rowy 124 9:=⟨⟨_,Tryz.underlying124,rfl⟩,by kernel_rfl⟩
theorem rowy_rpage:Rowy 131 10:=⟨⟨_,Tryz.underlying131,rfl⟩,by kernel_rfl⟩
theorem rowy_parts:Rowy 171 2:=⟨⟨_,Tryz.underlying171,rfl⟩,by kernel_rfl⟩
theorem zero_page:(Tryz.prog.info? 124).map (fun i=>(i.zero,i.size))=some (some (.agg Z9.toArray),9):=by kernel_rfl
theorem zero_rpage:(Tryz.prog.info? 131).map (fun i=>(i.zero,i.size))=some (some (.agg Z10.toArray),10):=by kernel_rfl
theorem zero_parts:(Tryz.prog.info? 171).map (fun i=>(i.zero,i.size))=some (some (.agg Z2.toArray),2):=by kernel_rfl
def One (t:TypeId):Prop:=(∃ d,Tryz.prog.underlying t=some d∧d.isRow=false)∧(Tryz.prog.info? t).map (·.size)=some 1
theorem one_bytes:One 26:=⟨⟨_,Tryz.underlying26,rfl⟩,by kernel_rfl⟩
theorem one_bool:One 4:=⟨⟨_,Tryz.underlying4,rfl⟩,by kernel_rfl⟩
theorem load_one {t:TypeId} (ht:One t) {w:World} {b p:Nat} {v:Value} (h:w.cell? ⟨b,p,none⟩=some v):(Instr.loadAt t (.pointer (some ⟨b,p,none⟩))).run Tryz.prog w=.ok v w:=by
 obtain ⟨⟨d,hd,hr⟩, -⟩:=ht
 have:(loadVar t ⟨b,p,none⟩).run Tryz.prog w=.ok v w:=by
  cases d <;> first | (simp [TypeDesc.isRow] at hr;done) | simp [loadVar,isAgg,run_underlying hd,h]
 simp only [Instr.loadAt,Instr.sureAddr,Sem.run_bind,Sem.run_pure,Result.andThen_ok,this]
theorem exec_build {ev:Operand→Value} {o:Oper} (t:TypeId) (parts:Array (Nat × Operand)) (hop:o.op=Op.build t parts) (v:Value) (w:World) (hrun:(Instr.build t (parts.map fun (i,x)=>(i,ev x))).run Tryz.prog w=.ok v w):(execOp ev o).run Tryz.prog w=.ok (.value v) w:=by
 unfold execOp
 simp only [hop,Sem.run_bind,Sem.run_pure,Result.andThen_ok,hrun]
theorem cut_two {w:World} {v:Value} {xs:List Int} {S:Nat} (hb:Byt w v xs) (hl:xs.length=S+88):∃ s0 c0 s1 c1,sl v 0 S=.slice s0 S c0∧sl v S (S+88)=.slice s1 88 c1∧Byt w (.slice s0 S c0) (xs.take S)∧Byt w (.slice s1 88 c1) (xs.drop S):=by
 have h1:=sl_to hb S (by omega)
 have h2:=sl_from hb S (by omega)
 rw [hl] at h2
 obtain ⟨s0,c0,e0⟩:=byt_form h1 (n:=S) (by simp;omega)
 obtain ⟨s1,c1,e1⟩:=byt_form h2 (n:=88) (by simp;omega)
 rw [e0] at h1
 rw [e1] at h2
 exact ⟨s0,c0,s1,c1,e0,e1,h1,h2⟩
theorem split_any (g0 g1 g3 g4 g5:Int) (S:Nat) (v:Value) (xs:List Int) (w:World) (hb:Byt w v xs) (hl:xs.length=S+88) (s0 s1:Option Addr) (c0 c1:Nat) (e0:sl v 0 S=.slice s0 S c0) (e1:sl v S (S+88)=.slice s1 88 c1):
  Calls Tryz.prog 79 #[.agg (ints .i64 [g0,g1,(S:Int),g3,g4,g5]),v] w fun x w'=>x=.returned (.agg ([.slice s0 S c0,.slice s1 88 c1]:List Value).toArray)∧Below w.heap.size w w':=by
 have HE:Hid (sl v 0 S=.slice s0 S c0∧sl v S (S+88)=.slice s1 88 c1):=⟨e0,e1⟩
 have HB:=hdH (hb)
 have HL:=hdH (hl)
 clear hb hl e0 e1
 have t0:=tR
 go_enter Tryz.func79,Tryz.ntmps79
 go_wp2_with (first
  |(have q1:=t1;(with_reducible refine at_alloc ?_);refine new_lawN _ Z2 zero_parts (z2_nob _ _ _ _ _ _) ?_;intro w2 X9 N9 B9;have LT_HB0_HV4:Hid (w.heap.size<w1.heap.size):=range_lt HB0.out.1 (Nat.succ_pos _);have LE_HV4:Hid (w.heap.size≤w1.heap.size):=BB.out.size;have HB0:=hdH (HB0.out.below B9 (range_lt HB0.out.1 (Nat.succ_pos _)));have HV4:=hdH (X9);have NB_HV4:=hdH (N9);have BB:=hdH (BB.out.trans (B9.mono BB.out.size));clear hb0_0 hb0_1 hb0_2 hb0_3 hb0_4 hb0_5;have hb0_0:=HB0.out.cell 0 _ rfl;have hb0_1:=HB0.out.cell 1 _ rfl;have hb0_2:=HB0.out.cell 2 _ rfl;have hb0_3:=HB0.out.cell 3 _ rfl;have hb0_4:=HB0.out.cell 4 _ rfl;have hb0_5:=HB0.out.cell 5 _ rfl;clear X9 N9 B9;clear t1;have t2:=tR)
  |(have q0:=t0;refine box_lawC _ [.int .i64 g0,.int .i64 g1,.int .i64 (S:Int),.int .i64 g3,.int .i64 g4,.int .i64 g5] rfl ?_;intro w1 X9 B9 l9;have HB0:=hdH (X9);have BB:=hdH (B9);have hb0_0:=HB0.out.cell 0 _ rfl;have hb0_1:=HB0.out.cell 1 _ rfl;have hb0_2:=HB0.out.cell 2 _ rfl;have hb0_3:=HB0.out.cell 3 _ rfl;have hb0_4:=HB0.out.cell 4 _ rfl;have hb0_5:=HB0.out.cell 5 _ rfl;clear X9 B9 l9;clear t0;have t1:=tR))
 have HV4:Hid (Vr w2.drew w1.heap.size Z2):=HV4.out.drewN 1
 have BB:Hid (Below w.heap.size w w2.drew):=BB.out.drew
 refine wp_region_held_drew (S:=fun w'=>Below w1.heap.size w2 w') (by kernel_rfl) (Below.refl _ _).drew (fun hS=>?_)
 obtain ⟨x1,hx0⟩:∃ x,x=w2.drew:=⟨_,rfl⟩
 rw [←hx0] at hS HV4 BB ⊢
 clear hx0
 refine tkH 0 (some 5) (v) rfl rfl (Or.inl ⟨by rfl,fun w' hw'=>by rfl⟩) hS ?_
 simp only [Act.put,zE1,zE2,zE3]
 refine tkH 1 (some 6) (.pointer (some ⟨w.heap.size,2,none⟩)) rfl rfl (Or.inl ⟨by rfl,fun w' hw'=>by go_simp⟩) hS ?_
 simp only [Act.put,zE1,zE2,zE3]
 refine tkH 2 (some 7) (.int .i64 (S:Int)) rfl rfl (Or.inl ⟨by rfl,fun w' hw'=>by exact exec_loadN 3 (.tmp 6) rfl _ rfl _ _ (ld_int ((HB0.out.below hw' LT_HB0_HV4.out).cell 2 _ rfl))⟩) hS ?_
 simp only [Act.put,zE1,zE2,zE3]
 refine tkH 3 (some 8) (.slice s0 S c0) rfl rfl (Or.inl ⟨by rfl,fun w' hw'=>by rw [←HE.out.1];exact exec_to (.tmp 5) (.tmp 7) rfl v xs _ HB.out S rfl rfl (by have:=HL.out;omega) _⟩) hS ?_
 simp only [Act.put,zE1,zE2,zE3]
 refine tkH 4 (some 9) (v) rfl rfl (Or.inl ⟨by rfl,fun w' hw'=>by rfl⟩) hS ?_
 simp only [Act.put,zE1,zE2,zE3]
 refine tkH 5 (some 10) (.pointer (some ⟨w.heap.size,2,none⟩)) rfl rfl (Or.inl ⟨by rfl,fun w' hw'=>by go_simp⟩) hS ?_
 simp only [Act.put,zE1,zE2,zE3]
 refine tkH 6 (some 11) (.int .i64 (S:Int)) rfl rfl (Or.inl ⟨by rfl,fun w' hw'=>by exact exec_loadN 3 (.tmp 10) rfl _ rfl _ _ (ld_int ((HB0.out.below hw' LT_HB0_HV4.out).cell 2 _ rfl))⟩) hS ?_
 simp only [Act.put,zE1,zE2,zE3]
 refine tkH 7 (some 12) (.slice s1 88 c1) rfl rfl (Or.inl ⟨by rfl,fun w' hw'=>by rw [←HE.out.2];exact exec_from (.tmp 9) (.tmp 11) rfl v xs _ HB.out S (S+88) rfl rfl HL.out (by omega) _⟩) hS ?_
 simp only [Act.put,zE1,zE2,zE3]
 refine tkH 8 (some 13) (.agg ([.slice s0 S c0,.slice s1 88 c1]:List Value).toArray) rfl rfl (Or.inl ⟨by rfl,fun w' hw'=>by exact exec_build 171 _ rfl _ _ (by kernel_rfl)⟩) hS ?_
 simp only [Act.put,zE1,zE2,zE3]
 refine wpAnyH_ready (rs:=[9]) (by kernel_rfl) (by simp) ?_
 refine AllReadyH.cons rfl (fun K hK=>?_) AllReadyH.nil
 refine step_storeC _ rfl none rfl (.tmp 4) (.tmp 13) 171 rfl w1.heap.size Z2 ([.slice s0 S c0,.slice s1 88 c1]:List Value) rfl rfl HV4.out rfl rowy_parts.2 (z2_one _ _ _ _ _ _) ?_
 intro x2 v9 B9
 have HQ:=hdH (v9)
 have BB:=hdH (BB.out.trans (B9.mono LE_HV4.out))
 have hS:Below w1.heap.size w2 x2:=hS.trans B9
 clear v9 B9
 refine hK.out _ _ hS (fun _=>?_)
 simp only [Act.put]
 clear hK K
 refine wpAnyH_done (by kernel_rfl) ?_ _
 go_wp2
 exact bodyPost_ret (v:=.agg ([.slice s0 S c0,.slice s1 88 c1]:List Value).toArray) (results_c rfl _ _ w1.heap.size _ rowy_parts rfl HQ.out.1) rfl ⟨rfl,BB.out⟩
theorem read_none (g0 g1 g3 g4 g5:Int) (S:Nat) (v:Value) (xs:List Int) (w:World) (hb:Byt w v xs) (hr:ge.Rt [g0,g1,(S:Int),g3,g4,g5]) (hl:xs.length=S+88) (hT:Tab w) (h:¬Tl (xs.drop S)):
  Calls Tryz.prog 41 #[.agg (ints .i64 [g0,g1,(S:Int),g3,g4,g5]),v] w fun x w'=>x=.returned (.tuple #[.agg Z9.toArray,.int .i64 1])∧Below w.heap.size w w':=by
 have SK:Hid (∀ w0,Calls Tryz.prog 24 #[.agg (ints .i64 [g0,g1,(S:Int),g3,g4,g5])] w0 fun x w'=>x=.returned (.int .i64 0)∧Below w0.heap.size w0 w'):=ge.check_yes [g0,g1,(S:Int),g3,g4,g5] rfl hr
 have SZ:Hid (∀ w0,Calls Tryz.prog 50 #[.agg (ints .i64 [g0,g1,(S:Int),g3,g4,g5])] w0 fun x w'=>x=.returned (.int .i64 ((S+88 :Nat):Int))∧Below w0.heap.size w0 w'):=fun w0=>ge.psize_yes [g0,g1,(S:Int),g3,g4,g5] rfl hr w0
 obtain ⟨s0,c0,s1,c1,e0,e1,y0,y1⟩:=cut_two hb hl
 have SS:Hid (∀ w0,Below w.heap.size w w0→Calls Tryz.prog 79 #[.agg (ints .i64 [g0,g1,(S:Int),g3,g4,g5]),v] w0 fun x w'=>x=.returned (.agg ([.slice s0 S c0,.slice s1 88 c1]:List Value).toArray)∧Below w0.heap.size w0 w'):=fun w0 hw=>split_any g0 g1 g3 g4 g5 S v xs w0 (hb.below hw) hl s0 s1 c0 c1 e0 e1
 obtain ⟨vo,vn,vc,hvf,hvn⟩:∃ vo vn vc,v=.slice vo vn vc∧xs.length=vn:=(by obtain ⟨ao,cap,e,_⟩:=hb;exact ⟨ao,_,cap,e,rfl⟩)
 subst hvf
 have hvn:vn=S+88:=by omega
 subst hvn
 have SH:Hid (∀ w0,Below w.heap.size w w0→Calls Tryz.prog 80 #[.slice s1 88 c1] w0 fun x w'=>x=.returned (.tuple #[.agg (hv 0 0 0 0 0 0).toArray,.slice none 0 0,.int .i64 1])∧Below w0.heap.size w0 w'):=fun w0 hw=>he.read_no _ _ w0 (y1.below hw) (by simp;omega) (hT.below hw) h
 generalize S+88=T at SZ SS ⊢
 clear hr hb hl e0 e1 y0 y1 hT h
 have t0:=tR
 go_enter Tryz.func41,Tryz.ntmps41
 go_wp2_with (first
  |(have q11:=t11;(with_reducible refine at_store ?_);refine store_lawC _ Z9 w1.heap.size 0 rfl rfl HV4.out.2 rowy_page.2 (pg9_one _ _ _ _ _ _ _ _ _ _ _ _ _) ?_;intro w11 E9 R9 T9 B9;have K9:∀ k,k≠w1.heap.size→w11.heap[k]? =w10.heap[k]? :=(by rw [E9.out];exact fun k hk=>heap_cells _ _ _ _ k hk);have HB0:=hdH (HB0.out.heap (K9 _ (Nat.ne_of_lt LT_HB0_HV4.out)));have NB_HV6:=hdH (NB_HV6.out.heap (K9 _ (Nat.ne_of_gt LT_HV4_HV6.out)));have HV6:=hdH (HV6.out.heap (K9 _ (Nat.ne_of_gt LT_HV4_HV6.out)));have NB_HV7:=hdH (NB_HV7.out.heap (K9 _ (Nat.ne_of_gt LT_HV4_HV7.out)));have HV7:=hdH (HV7.out.heap (K9 _ (Nat.ne_of_gt LT_HV4_HV7.out)));have NB_HV4:Hid (NoB w11 w1.heap.size):=(by rw [E9.out];exact NB_HV4.out.set HV4.out rfl (pg9_nob _ _ _ _ _ _ _ _ _ _ _ _ _));have HV4:Hid (Vr w11 w1.heap.size Z9):=⟨R9,T9⟩;have BB:=hdH (BB.out.trans (B9.mono LE_HV4.out));clear hb0_0 hb0_1 hb0_2 hb0_3 hb0_4 hb0_5 hv6_0 hv6_1;have hb0_0:=HB0.out.cell 0 _ rfl;have hb0_1:=HB0.out.cell 1 _ rfl;have hb0_2:=HB0.out.cell 2 _ rfl;have hb0_3:=HB0.out.cell 3 _ rfl;have hb0_4:=HB0.out.cell 4 _ rfl;have hb0_5:=HB0.out.cell 5 _ rfl;have hv6_0:=HV6.out.cell 0 _ rfl;have hv6_1:=HV6.out.cell 1 _ rfl;clear E9 R9 T9 B9 K9;clear t11;have t12:=tR)
  |(have q10:=t10;refine build_law _ rfl 124 _ rfl (.agg Z9.toArray) (by kernel_rfl) ?_;clear t10;have t11:=tR)
  |(have q9:=t9;(with_reducible refine at_store ?_);refine store_lawC _ (hv 0 0 0 0 0 0) w8.heap.size 0 rfl rfl HV7.out.2 rowy_head.2 (hv_one _ _ _ _ _ _) ?_;intro w10 E9 R9 T9 B9;have K9:∀ k,k≠w8.heap.size→w10.heap[k]? =w9.heap[k]? :=(by rw [E9.out];exact fun k hk=>heap_cells _ _ _ _ k hk);have HB0:=hdH (HB0.out.heap (K9 _ (Nat.ne_of_lt LT_HB0_HV7.out)));have NB_HV4:=hdH (NB_HV4.out.heap (K9 _ (Nat.ne_of_lt LT_HV4_HV7.out)));have HV4:=hdH (HV4.out.heap (K9 _ (Nat.ne_of_lt LT_HV4_HV7.out)));have NB_HV6:=hdH (NB_HV6.out.heap (K9 _ (Nat.ne_of_lt LT_HV6_HV7.out)));have HV6:=hdH (HV6.out.heap (K9 _ (Nat.ne_of_lt LT_HV6_HV7.out)));have NB_HV7:Hid (NoB w10 w8.heap.size):=(by rw [E9.out];exact NB_HV7.out.set HV7.out rfl (hv_nob _ _ _ _ _ _));have HV7:Hid (Vr w10 w8.heap.size (hv 0 0 0 0 0 0)):=⟨R9,T9⟩;have BB:=hdH (BB.out.trans (B9.mono LE_HV7.out));clear hb0_0 hb0_1 hb0_2 hb0_3 hb0_4 hb0_5 hv6_0 hv6_1;have hb0_0:=HB0.out.cell 0 _ rfl;have hb0_1:=HB0.out.cell 1 _ rfl;have hb0_2:=HB0.out.cell 2 _ rfl;have hb0_3:=HB0.out.cell 3 _ rfl;have hb0_4:=HB0.out.cell 4 _ rfl;have hb0_5:=HB0.out.cell 5 _ rfl;have hv6_0:=HV6.out.cell 0 _ rfl;have hv6_1:=HV6.out.cell 1 _ rfl;clear E9 R9 T9 B9 K9;clear t9;have t10:=tR)
  |(have q8:=t8;(with_reducible refine at_alloc ?_);refine new_lawN _ (hv 0 0 0 0 0 0) zero_head (hv_nob _ _ _ _ _ _) ?_;intro w9 X9 N9 B9;have LT_HB0_HV7:Hid (w.heap.size<w8.heap.size):=range_lt HB0.out.1 (Nat.succ_pos _);have LT_HV4_HV7:Hid (w1.heap.size<w8.heap.size):=range_lt HV4.out.1 (Nat.succ_pos _);have LT_HV6_HV7:Hid (w5.heap.size<w8.heap.size):=range_lt HV6.out.1 (Nat.succ_pos _);have LE_HV7:Hid (w.heap.size≤w8.heap.size):=BB.out.size;have HB0:=hdH (HB0.out.below B9 (range_lt HB0.out.1 (Nat.succ_pos _)));have NB_HV4:=hdH (NB_HV4.out.heap (B9.block _ (range_lt HV4.out.1 (Nat.succ_pos _))));have HV4:=hdH (HV4.out.below B9 (range_lt HV4.out.1 (Nat.succ_pos _)));have NB_HV6:=hdH (NB_HV6.out.heap (B9.block _ (range_lt HV6.out.1 (Nat.succ_pos _))));have HV6:=hdH (HV6.out.below B9 (range_lt HV6.out.1 (Nat.succ_pos _)));have HV7:=hdH (X9);have NB_HV7:=hdH (N9);have BB:=hdH (BB.out.trans (B9.mono BB.out.size));clear hb0_0 hb0_1 hb0_2 hb0_3 hb0_4 hb0_5 hv6_0 hv6_1;have hb0_0:=HB0.out.cell 0 _ rfl;have hb0_1:=HB0.out.cell 1 _ rfl;have hb0_2:=HB0.out.cell 2 _ rfl;have hb0_3:=HB0.out.cell 3 _ rfl;have hb0_4:=HB0.out.cell 4 _ rfl;have hb0_5:=HB0.out.cell 5 _ rfl;have hv6_0:=HV6.out.cell 0 _ rfl;have hv6_1:=HV6.out.cell 1 _ rfl;clear X9 N9 B9;clear t8;have t9:=tR)
  |(have q7:=t7;go_at_call 80;refine (SH.out w7 BB.out).mono ?_;rintro e9 w8 ⟨rfl,B9⟩;have HB0:=hdH (HB0.out.below B9 (range_lt HB0.out.1 (Nat.succ_pos _)));have NB_HV4:=hdH (NB_HV4.out.heap (B9.block _ (range_lt HV4.out.1 (Nat.succ_pos _))));have HV4:=hdH (HV4.out.below B9 (range_lt HV4.out.1 (Nat.succ_pos _)));have NB_HV6:=hdH (NB_HV6.out.heap (B9.block _ (range_lt HV6.out.1 (Nat.succ_pos _))));have HV6:=hdH (HV6.out.below B9 (range_lt HV6.out.1 (Nat.succ_pos _)));have BB:=hdH (BB.out.trans (B9.mono BB.out.size));clear hb0_0 hb0_1 hb0_2 hb0_3 hb0_4 hb0_5 hv6_0 hv6_1;have hb0_0:=HB0.out.cell 0 _ rfl;have hb0_1:=HB0.out.cell 1 _ rfl;have hb0_2:=HB0.out.cell 2 _ rfl;have hb0_3:=HB0.out.cell 3 _ rfl;have hb0_4:=HB0.out.cell 4 _ rfl;have hb0_5:=HB0.out.cell 5 _ rfl;have hv6_0:=HV6.out.cell 0 _ rfl;have hv6_1:=HV6.out.cell 1 _ rfl;clear B9;clear t7;have t8:=tR)
  |(have q6:=t6;(with_reducible refine at_store ?_);refine store_lawC _ ([.slice s0 S c0,.slice s1 88 c1]:List Value) w5.heap.size 0 rfl rfl HV6.out.2 rowy_parts.2 (z2_one _ _ _ _ _ _) ?_;intro w7 E9 R9 T9 B9;have K9:∀ k,k≠w5.heap.size→w7.heap[k]? =w6.heap[k]? :=(by rw [E9.out];exact fun k hk=>heap_cells _ _ _ _ k hk);have HB0:=hdH (HB0.out.heap (K9 _ (Nat.ne_of_lt LT_HB0_HV6.out)));have NB_HV4:=hdH (NB_HV4.out.heap (K9 _ (Nat.ne_of_lt LT_HV4_HV6.out)));have HV4:=hdH (HV4.out.heap (K9 _ (Nat.ne_of_lt LT_HV4_HV6.out)));have NB_HV6:Hid (NoB w7 w5.heap.size):=(by rw [E9.out];exact NB_HV6.out.set HV6.out rfl (z2_nob _ _ _ _ _ _));have HV6:Hid (Vr w7 w5.heap.size ([.slice s0 S c0,.slice s1 88 c1]:List Value)):=⟨R9,T9⟩;have BB:=hdH (BB.out.trans (B9.mono LE_HV6.out));clear hb0_0 hb0_1 hb0_2 hb0_3 hb0_4 hb0_5;have hb0_0:=HB0.out.cell 0 _ rfl;have hb0_1:=HB0.out.cell 1 _ rfl;have hb0_2:=HB0.out.cell 2 _ rfl;have hb0_3:=HB0.out.cell 3 _ rfl;have hb0_4:=HB0.out.cell 4 _ rfl;have hb0_5:=HB0.out.cell 5 _ rfl;have hv6_0:=HV6.out.cell 0 _ rfl;have hv6_1:=HV6.out.cell 1 _ rfl;clear E9 R9 T9 B9 K9;clear t6;have t7:=tR)
  |(have q5:=t5;(with_reducible refine at_alloc ?_);refine new_lawN _ Z2 zero_parts (z2_nob _ _ _ _ _ _) ?_;intro w6 X9 N9 B9;have LT_HB0_HV6:Hid (w.heap.size<w5.heap.size):=range_lt HB0.out.1 (Nat.succ_pos _);have LT_HV4_HV6:Hid (w1.heap.size<w5.heap.size):=range_lt HV4.out.1 (Nat.succ_pos _);have LE_HV6:Hid (w.heap.size≤w5.heap.size):=BB.out.size;have HB0:=hdH (HB0.out.below B9 (range_lt HB0.out.1 (Nat.succ_pos _)));have NB_HV4:=hdH (NB_HV4.out.heap (B9.block _ (range_lt HV4.out.1 (Nat.succ_pos _))));have HV4:=hdH (HV4.out.below B9 (range_lt HV4.out.1 (Nat.succ_pos _)));have HV6:=hdH (X9);have NB_HV6:=hdH (N9);have BB:=hdH (BB.out.trans (B9.mono BB.out.size));clear hb0_0 hb0_1 hb0_2 hb0_3 hb0_4 hb0_5;have hb0_0:=HB0.out.cell 0 _ rfl;have hb0_1:=HB0.out.cell 1 _ rfl;have hb0_2:=HB0.out.cell 2 _ rfl;have hb0_3:=HB0.out.cell 3 _ rfl;have hb0_4:=HB0.out.cell 4 _ rfl;have hb0_5:=HB0.out.cell 5 _ rfl;clear X9 N9 B9;clear t5;have t6:=tR)
  |(have q4:=t4;go_at_call 79;refine (SS.out w4 BB.out).mono ?_;rintro e9 w5 ⟨rfl,B9⟩;have HB0:=hdH (HB0.out.below B9 (range_lt HB0.out.1 (Nat.succ_pos _)));have NB_HV4:=hdH (NB_HV4.out.heap (B9.block _ (range_lt HV4.out.1 (Nat.succ_pos _))));have HV4:=hdH (HV4.out.below B9 (range_lt HV4.out.1 (Nat.succ_pos _)));have BB:=hdH (BB.out.trans (B9.mono BB.out.size));clear hb0_0 hb0_1 hb0_2 hb0_3 hb0_4 hb0_5;have hb0_0:=HB0.out.cell 0 _ rfl;have hb0_1:=HB0.out.cell 1 _ rfl;have hb0_2:=HB0.out.cell 2 _ rfl;have hb0_3:=HB0.out.cell 3 _ rfl;have hb0_4:=HB0.out.cell 4 _ rfl;have hb0_5:=HB0.out.cell 5 _ rfl;clear B9;clear t4;have t5:=tR)
  |(have q3:=t3;go_at_call 50;refine (SZ.out w3).mono ?_;rintro e9 w4 ⟨rfl,B9⟩;have HB0:=hdH (HB0.out.below B9 (range_lt HB0.out.1 (Nat.succ_pos _)));have NB_HV4:=hdH (NB_HV4.out.heap (B9.block _ (range_lt HV4.out.1 (Nat.succ_pos _))));have HV4:=hdH (HV4.out.below B9 (range_lt HV4.out.1 (Nat.succ_pos _)));have BB:=hdH (BB.out.trans (B9.mono BB.out.size));clear hb0_0 hb0_1 hb0_2 hb0_3 hb0_4 hb0_5;have hb0_0:=HB0.out.cell 0 _ rfl;have hb0_1:=HB0.out.cell 1 _ rfl;have hb0_2:=HB0.out.cell 2 _ rfl;have hb0_3:=HB0.out.cell 3 _ rfl;have hb0_4:=HB0.out.cell 4 _ rfl;have hb0_5:=HB0.out.cell 5 _ rfl;clear B9;clear t3;have t4:=tR)
  |(have q2:=t2;go_at_call 24;refine (SK.out w2).mono ?_;rintro e9 w3 ⟨rfl,B9⟩;have HB0:=hdH (HB0.out.below B9 (range_lt HB0.out.1 (Nat.succ_pos _)));have NB_HV4:=hdH (NB_HV4.out.heap (B9.block _ (range_lt HV4.out.1 (Nat.succ_pos _))));have HV4:=hdH (HV4.out.below B9 (range_lt HV4.out.1 (Nat.succ_pos _)));have BB:=hdH (BB.out.trans (B9.mono BB.out.size));clear hb0_0 hb0_1 hb0_2 hb0_3 hb0_4 hb0_5;have hb0_0:=HB0.out.cell 0 _ rfl;have hb0_1:=HB0.out.cell 1 _ rfl;have hb0_2:=HB0.out.cell 2 _ rfl;have hb0_3:=HB0.out.cell 3 _ rfl;have hb0_4:=HB0.out.cell 4 _ rfl;have hb0_5:=HB0.out.cell 5 _ rfl;clear B9;clear t2;have t3:=tR)
  |(have q1:=t1;(with_reducible refine at_alloc ?_);refine new_lawN _ Z9 zero_page (pg9_nob _ _ _ _ _ _ _ _ _ _ _ _ _) ?_;intro w2 X9 N9 B9;have LT_HB0_HV4:Hid (w.heap.size<w1.heap.size):=range_lt HB0.out.1 (Nat.succ_pos _);have LE_HV4:Hid (w.heap.size≤w1.heap.size):=BB.out.size;have HB0:=hdH (HB0.out.below B9 (range_lt HB0.out.1 (Nat.succ_pos _)));have HV4:=hdH (X9);have NB_HV4:=hdH (N9);have BB:=hdH (BB.out.trans (B9.mono BB.out.size));clear hb0_0 hb0_1 hb0_2 hb0_3 hb0_4 hb0_5;have hb0_0:=HB0.out.cell 0 _ rfl;have hb0_1:=HB0.out.cell 1 _ rfl;have hb0_2:=HB0.out.cell 2 _ rfl;have hb0_3:=HB0.out.cell 3 _ rfl;have hb0_4:=HB0.out.cell 4 _ rfl;have hb0_5:=HB0.out.cell 5 _ rfl;clear X9 N9 B9;clear t1;have t2:=tR)
  |(have q0:=t0;refine box_lawC _ [.int .i64 g0,.int .i64 g1,.int .i64 (S:Int),.int .i64 g3,.int .i64 g4,.int .i64 g5] rfl ?_;intro w1 X9 B9 l9;have HB0:=hdH (X9);have BB:=hdH (B9);have hb0_0:=HB0.out.cell 0 _ rfl;have hb0_1:=HB0.out.cell 1 _ rfl;have hb0_2:=HB0.out.cell 2 _ rfl;have hb0_3:=HB0.out.cell 3 _ rfl;have hb0_4:=HB0.out.cell 4 _ rfl;have hb0_5:=HB0.out.cell 5 _ rfl;clear X9 B9 l9;clear t0;have t1:=tR))
 exact bodyPost_ret (v:=.tuple #[.agg Z9.toArray,.int .i64 1]) (results_cv rfl _ _ w1.heap.size _ _ rowy_page rfl rfl HV4.out.1) rfl ⟨rfl,BB.out⟩
theorem read_page (g0 g1 g3 g4 g5:Int) (S:Nat) (v:Value) (xs:List Int) (w:World) (hb:Byt w v xs) (hr:ge.Rt [g0,g1,(S:Int),g3,g4,g5]) (hl:xs.length=S+88) (hT:Tab w) (h:Tl (xs.drop S)):
  Calls Tryz.prog 41 #[.agg (ints .i64 [g0,g1,(S:Int),g3,g4,g5]),v] w fun x w'=>∃ po pc uo uc,x=.returned (.tuple #[.agg (pg9 (qk (xs.drop S)) (qn (xs.drop S)) (qc (xs.drop S)) (ql (xs.drop S)) (qe (xs.drop S)) (qt (xs.drop S)) (.slice po S pc) (.slice uo 32 uc) (decide ((xs.drop S).drop 80=List.replicate 8 0))).toArray,.int .i64 0])∧Byt w' (.slice po S pc) (xs.take S)∧Byt w' (.slice uo 32 uc) (sub (xs.drop S) 48 80)∧Below w.heap.size w w':=by
 have ⟨s8,s9⟩:=sec_le hr
 have SK:Hid (∀ w0,Calls Tryz.prog 24 #[.agg (ints .i64 [g0,g1,(S:Int),g3,g4,g5])] w0 fun x w'=>x=.returned (.int .i64 0)∧Below w0.heap.size w0 w'):=ge.check_yes [g0,g1,(S:Int),g3,g4,g5] rfl hr
 have SZ:Hid (∀ w0,Calls Tryz.prog 50 #[.agg (ints .i64 [g0,g1,(S:Int),g3,g4,g5])] w0 fun x w'=>x=.returned (.int .i64 ((S+88 :Nat):Int))∧Below w0.heap.size w0 w'):=fun w0=>ge.psize_yes [g0,g1,(S:Int),g3,g4,g5] rfl hr w0
 obtain ⟨s0,c0,s1,c1,e0,e1,y0,y1⟩:=cut_two hb hl
 have SS:Hid (∀ w0,Below w.heap.size w w0→Calls Tryz.prog 79 #[.agg (ints .i64 [g0,g1,(S:Int),g3,g4,g5]),v] w0 fun x w'=>x=.returned (.agg ([.slice s0 S c0,.slice s1 88 c1]:List Value).toArray)∧Below w0.heap.size w0 w'):=fun w0 hw=>split_any g0 g1 g3 g4 g5 S v xs w0 (hb.below hw) hl s0 s1 c0 c1 e0 e1
 obtain ⟨vo,vn,vc,hvf,hvn⟩:∃ vo vn vc,v=.slice vo vn vc∧xs.length=vn:=(by obtain ⟨ao,cap,e,_⟩:=hb;exact ⟨ao,_,cap,e,rfl⟩)
 subst hvf
 have hvn:vn=S+88:=by omega
 subst hvn
 have SH:Hid (∀ w0,Below w.heap.size w w0→Calls Tryz.prog 80 #[.slice s1 88 c1] w0 fun x w'=>∃ uo uc,x=.returned (.tuple #[.agg (hv (qk (xs.drop S)) (qn (xs.drop S)) (qc (xs.drop S)) (ql (xs.drop S)) (qe (xs.drop S)) (qt (xs.drop S))).toArray,.slice uo 32 uc,.int .i64 0])∧Byt w' (.slice uo 32 uc) (sub (xs.drop S) 48 80)∧Below w0.heap.size w0 w'):=fun w0 hw=>(he.read_yes _ _ w0 (y1.below hw) (by simp;omega) (hT.below hw) h).mono (by rintro _ _ ⟨u,rfl,h1,h2⟩;obtain ⟨ao,cap,rfl⟩:=byt_form h1 (n:=32) (sub_len _ _ _ (by simp;omega));exact ⟨ao,cap,rfl,h1,h2⟩)
 have SC:Hid (∀ w0,Below w.heap.size w w0→Calls Tryz.prog 81 #[.slice s0 S c0] w0 fun x w'=>∃ v',x=.returned v'∧(∃ po pc,v'=.slice po S pc∧Byt w' (.slice po S pc) (xs.take S))∧Below w0.heap.size w0 w'):=fun w0 hw=>(clone_byt w0 _ _ (y0.below hw) (by simp;omega) (by simp;omega)).mono (by rintro _ _ ⟨u,rfl,h1,h2⟩;have h1:=h1.byt y0.all;obtain ⟨ao,cap,rfl⟩:=byt_form h1 (n:=S) (by simp;omega);exact ⟨_,rfl,⟨ao,cap,rfl,h1⟩,h2⟩)
 have SD:Hid (∀ w0,Below w.heap.size w w0→Calls Tryz.prog 82 #[.slice s1 88 c1] w0 fun x w'=>x=.returned (.bool (decide ((xs.drop S).drop 80=List.replicate 8 0)))∧Below w0.heap.size w0 w'):=fun w0 hw=>comm_yes _ _ w0 (y1.below hw) (by simp;omega)
 generalize S+88=T at SZ SS ⊢
 generalize decide ((xs.drop S).drop 80=List.replicate 8 0)=D at SD ⊢
 generalize sub (xs.drop S) 48 80=U at SH ⊢
 generalize qk (xs.drop S)=k at SH ⊢
 generalize qn (xs.drop S)=n at SH ⊢
 generalize qc (xs.drop S)=c at SH ⊢
 generalize ql (xs.drop S)=l at SH ⊢
 generalize qe (xs.drop S)=e at SH ⊢
 generalize qt (xs.drop S)=t at SH ⊢
 generalize xs.take S=Q at SC ⊢
 clear hr hb hl e0 e1 y0 y1 hT h s8 s9
 have t0:=tR
 go_enter Tryz.func41,Tryz.ntmps41
 go_wp2_with (first
  |(have q9:=t9;(with_reducible refine at_store ?_);refine store_lawC _ (hv k n c l e t) w8.heap.size 0 rfl rfl HV7.out.2 rowy_head.2 (hv_one _ _ _ _ _ _) ?_;intro w10 E9 R9 T9 B9;have K9:∀ k,k≠w8.heap.size→w10.heap[k]? =w9.heap[k]? :=(by rw [E9.out];exact fun k hk=>heap_cells _ _ _ _ k hk);have HB0:=hdH (HB0.out.heap (K9 _ (Nat.ne_of_lt LT_HB0_HV7.out)));have NB_HV4:=hdH (NB_HV4.out.heap (K9 _ (Nat.ne_of_lt LT_HV4_HV7.out)));have HV4:=hdH (HV4.out.heap (K9 _ (Nat.ne_of_lt LT_HV4_HV7.out)));have NB_HV6:=hdH (NB_HV6.out.heap (K9 _ (Nat.ne_of_lt LT_HV6_HV7.out)));have HV6:=hdH (HV6.out.heap (K9 _ (Nat.ne_of_lt LT_HV6_HV7.out)));have HY:Hid (Byt w10 (.slice uo 32 uc) U):=byt_nob HY.out NB_HV7.out K9;have NB_HV7:Hid (NoB w10 w8.heap.size):=(by rw [E9.out];exact NB_HV7.out.set HV7.out rfl (hv_nob _ _ _ _ _ _));have HV7:Hid (Vr w10 w8.heap.size (hv k n c l e t)):=⟨R9,T9⟩;have BB:=hdH (BB.out.trans (B9.mono LE_HV7.out));clear hb0_0 hb0_1 hb0_2 hb0_3 hb0_4 hb0_5 hv6_0 hv6_1;have hb0_0:=HB0.out.cell 0 _ rfl;have hb0_1:=HB0.out.cell 1 _ rfl;have hb0_2:=HB0.out.cell 2 _ rfl;have hb0_3:=HB0.out.cell 3 _ rfl;have hb0_4:=HB0.out.cell 4 _ rfl;have hb0_5:=HB0.out.cell 5 _ rfl;have hv6_0:=HV6.out.cell 0 _ rfl;have hv6_1:=HV6.out.cell 1 _ rfl;clear E9 R9 T9 B9 K9;clear t9;have t10:=tR)
  |(have q8:=t8;(with_reducible refine at_alloc ?_);refine new_lawN _ (hv 0 0 0 0 0 0) zero_head (hv_nob _ _ _ _ _ _) ?_;intro w9 X9 N9 B9;have LT_HB0_HV7:Hid (w.heap.size<w8.heap.size):=range_lt HB0.out.1 (Nat.succ_pos _);have LT_HV4_HV7:Hid (w1.heap.size<w8.heap.size):=range_lt HV4.out.1 (Nat.succ_pos _);have LT_HV6_HV7:Hid (w5.heap.size<w8.heap.size):=range_lt HV6.out.1 (Nat.succ_pos _);have LE_HV7:Hid (w.heap.size≤w8.heap.size):=BB.out.size;have HB0:=hdH (HB0.out.below B9 (range_lt HB0.out.1 (Nat.succ_pos _)));have NB_HV4:=hdH (NB_HV4.out.heap (B9.block _ (range_lt HV4.out.1 (Nat.succ_pos _))));have HV4:=hdH (HV4.out.below B9 (range_lt HV4.out.1 (Nat.succ_pos _)));have NB_HV6:=hdH (NB_HV6.out.heap (B9.block _ (range_lt HV6.out.1 (Nat.succ_pos _))));have HV6:=hdH (HV6.out.below B9 (range_lt HV6.out.1 (Nat.succ_pos _)));have HY:=hdH (HY.out.below B9);have HV7:=hdH (X9);have NB_HV7:=hdH (N9);have BB:=hdH (BB.out.trans (B9.mono BB.out.size));clear hb0_0 hb0_1 hb0_2 hb0_3 hb0_4 hb0_5 hv6_0 hv6_1;have hb0_0:=HB0.out.cell 0 _ rfl;have hb0_1:=HB0.out.cell 1 _ rfl;have hb0_2:=HB0.out.cell 2 _ rfl;have hb0_3:=HB0.out.cell 3 _ rfl;have hb0_4:=HB0.out.cell 4 _ rfl;have hb0_5:=HB0.out.cell 5 _ rfl;have hv6_0:=HV6.out.cell 0 _ rfl;have hv6_1:=HV6.out.cell 1 _ rfl;clear X9 N9 B9;clear t8;have t9:=tR)
  |(have q7:=t7;go_at_call 80;refine (SH.out w7 BB.out).mono ?_;rintro e9 w8 ⟨uo,uc,rfl,Y9,B9⟩;have HB0:=hdH (HB0.out.below B9 (range_lt HB0.out.1 (Nat.succ_pos _)));have NB_HV4:=hdH (NB_HV4.out.heap (B9.block _ (range_lt HV4.out.1 (Nat.succ_pos _))));have HV4:=hdH (HV4.out.below B9 (range_lt HV4.out.1 (Nat.succ_pos _)));have NB_HV6:=hdH (NB_HV6.out.heap (B9.block _ (range_lt HV6.out.1 (Nat.succ_pos _))));have HV6:=hdH (HV6.out.below B9 (range_lt HV6.out.1 (Nat.succ_pos _)));have HY:=hdH (Y9);have BB:=hdH (BB.out.trans (B9.mono BB.out.size));clear hb0_0 hb0_1 hb0_2 hb0_3 hb0_4 hb0_5 hv6_0 hv6_1;have hb0_0:=HB0.out.cell 0 _ rfl;have hb0_1:=HB0.out.cell 1 _ rfl;have hb0_2:=HB0.out.cell 2 _ rfl;have hb0_3:=HB0.out.cell 3 _ rfl;have hb0_4:=HB0.out.cell 4 _ rfl;have hb0_5:=HB0.out.cell 5 _ rfl;have hv6_0:=HV6.out.cell 0 _ rfl;have hv6_1:=HV6.out.cell 1 _ rfl;clear B9 Y9;clear t7;have t8:=tR)
  |(have q6:=t6;(with_reducible refine at_store ?_);refine store_lawC _ ([.slice s0 S c0,.slice s1 88 c1]:List Value) w5.heap.size 0 rfl rfl HV6.out.2 rowy_parts.2 (z2_one _ _ _ _ _ _) ?_;intro w7 E9 R9 T9 B9;have K9:∀ k,k≠w5.heap.size→w7.heap[k]? =w6.heap[k]? :=(by rw [E9.out];exact fun k hk=>heap_cells _ _ _ _ k hk);have HB0:=hdH (HB0.out.heap (K9 _ (Nat.ne_of_lt LT_HB0_HV6.out)));have NB_HV4:=hdH (NB_HV4.out.heap (K9 _ (Nat.ne_of_lt LT_HV4_HV6.out)));have HV4:=hdH (HV4.out.heap (K9 _ (Nat.ne_of_lt LT_HV4_HV6.out)));have NB_HV6:Hid (NoB w7 w5.heap.size):=(by rw [E9.out];exact NB_HV6.out.set HV6.out rfl (z2_nob _ _ _ _ _ _));have HV6:Hid (Vr w7 w5.heap.size ([.slice s0 S c0,.slice s1 88 c1]:List Value)):=⟨R9,T9⟩;have BB:=hdH (BB.out.trans (B9.mono LE_HV6.out));clear hb0_0 hb0_1 hb0_2 hb0_3 hb0_4 hb0_5;have hb0_0:=HB0.out.cell 0 _ rfl;have hb0_1:=HB0.out.cell 1 _ rfl;have hb0_2:=HB0.out.cell 2 _ rfl;have hb0_3:=HB0.out.cell 3 _ rfl;have hb0_4:=HB0.out.cell 4 _ rfl;have hb0_5:=HB0.out.cell 5 _ rfl;have hv6_0:=HV6.out.cell 0 _ rfl;have hv6_1:=HV6.out.cell 1 _ rfl;clear E9 R9 T9 B9 K9;clear t6;have t7:=tR)
  |(have q5:=t5;(with_reducible refine at_alloc ?_);refine new_lawN _ Z2 zero_parts (z2_nob _ _ _ _ _ _) ?_;intro w6 X9 N9 B9;have LT_HB0_HV6:Hid (w.heap.size<w5.heap.size):=range_lt HB0.out.1 (Nat.succ_pos _);have LT_HV4_HV6:Hid (w1.heap.size<w5.heap.size):=range_lt HV4.out.1 (Nat.succ_pos _);have LE_HV6:Hid (w.heap.size≤w5.heap.size):=BB.out.size;have HB0:=hdH (HB0.out.below B9 (range_lt HB0.out.1 (Nat.succ_pos _)));have NB_HV4:=hdH (NB_HV4.out.heap (B9.block _ (range_lt HV4.out.1 (Nat.succ_pos _))));have HV4:=hdH (HV4.out.below B9 (range_lt HV4.out.1 (Nat.succ_pos _)));have HV6:=hdH (X9);have NB_HV6:=hdH (N9);have BB:=hdH (BB.out.trans (B9.mono BB.out.size));clear hb0_0 hb0_1 hb0_2 hb0_3 hb0_4 hb0_5;have hb0_0:=HB0.out.cell 0 _ rfl;have hb0_1:=HB0.out.cell 1 _ rfl;have hb0_2:=HB0.out.cell 2 _ rfl;have hb0_3:=HB0.out.cell 3 _ rfl;have hb0_4:=HB0.out.cell 4 _ rfl;have hb0_5:=HB0.out.cell 5 _ rfl;clear X9 N9 B9;clear t5;have t6:=tR)
  |(have q4:=t4;go_at_call 79;refine (SS.out w4 BB.out).mono ?_;rintro e9 w5 ⟨rfl,B9⟩;have HB0:=hdH (HB0.out.below B9 (range_lt HB0.out.1 (Nat.succ_pos _)));have NB_HV4:=hdH (NB_HV4.out.heap (B9.block _ (range_lt HV4.out.1 (Nat.succ_pos _))));have HV4:=hdH (HV4.out.below B9 (range_lt HV4.out.1 (Nat.succ_pos _)));have BB:=hdH (BB.out.trans (B9.mono BB.out.size));clear hb0_0 hb0_1 hb0_2 hb0_3 hb0_4 hb0_5;have hb0_0:=HB0.out.cell 0 _ rfl;have hb0_1:=HB0.out.cell 1 _ rfl;have hb0_2:=HB0.out.cell 2 _ rfl;have hb0_3:=HB0.out.cell 3 _ rfl;have hb0_4:=HB0.out.cell 4 _ rfl;have hb0_5:=HB0.out.cell 5 _ rfl;clear B9;clear t4;have t5:=tR)
  |(have q3:=t3;go_at_call 50;refine (SZ.out w3).mono ?_;rintro e9 w4 ⟨rfl,B9⟩;have HB0:=hdH (HB0.out.below B9 (range_lt HB0.out.1 (Nat.succ_pos _)));have NB_HV4:=hdH (NB_HV4.out.heap (B9.block _ (range_lt HV4.out.1 (Nat.succ_pos _))));have HV4:=hdH (HV4.out.below B9 (range_lt HV4.out.1 (Nat.succ_pos _)));have BB:=hdH (BB.out.trans (B9.mono BB.out.size));clear hb0_0 hb0_1 hb0_2 hb0_3 hb0_4 hb0_5;have hb0_0:=HB0.out.cell 0 _ rfl;have hb0_1:=HB0.out.cell 1 _ rfl;have hb0_2:=HB0.out.cell 2 _ rfl;have hb0_3:=HB0.out.cell 3 _ rfl;have hb0_4:=HB0.out.cell 4 _ rfl;have hb0_5:=HB0.out.cell 5 _ rfl;clear B9;clear t3;have t4:=tR)
  |(have q2:=t2;go_at_call 24;refine (SK.out w2).mono ?_;rintro e9 w3 ⟨rfl,B9⟩;have HB0:=hdH (HB0.out.below B9 (range_lt HB0.out.1 (Nat.succ_pos _)));have NB_HV4:=hdH (NB_HV4.out.heap (B9.block _ (range_lt HV4.out.1 (Nat.succ_pos _))));have HV4:=hdH (HV4.out.below B9 (range_lt HV4.out.1 (Nat.succ_pos _)));have BB:=hdH (BB.out.trans (B9.mono BB.out.size));clear hb0_0 hb0_1 hb0_2 hb0_3 hb0_4 hb0_5;have hb0_0:=HB0.out.cell 0 _ rfl;have hb0_1:=HB0.out.cell 1 _ rfl;have hb0_2:=HB0.out.cell 2 _ rfl;have hb0_3:=HB0.out.cell 3 _ rfl;have hb0_4:=HB0.out.cell 4 _ rfl;have hb0_5:=HB0.out.cell 5 _ rfl;clear B9;clear t2;have t3:=tR)
  |(have q1:=t1;(with_reducible refine at_alloc ?_);refine new_lawN _ Z9 zero_page (pg9_nob _ _ _ _ _ _ _ _ _ _ _ _ _) ?_;intro w2 X9 N9 B9;have LT_HB0_HV4:Hid (w.heap.size<w1.heap.size):=range_lt HB0.out.1 (Nat.succ_pos _);have LE_HV4:Hid (w.heap.size≤w1.heap.size):=BB.out.size;have HB0:=hdH (HB0.out.below B9 (range_lt HB0.out.1 (Nat.succ_pos _)));have HV4:=hdH (X9);have NB_HV4:=hdH (N9);have BB:=hdH (BB.out.trans (B9.mono BB.out.size));clear hb0_0 hb0_1 hb0_2 hb0_3 hb0_4 hb0_5;have hb0_0:=HB0.out.cell 0 _ rfl;have hb0_1:=HB0.out.cell 1 _ rfl;have hb0_2:=HB0.out.cell 2 _ rfl;have hb0_3:=HB0.out.cell 3 _ rfl;have hb0_4:=HB0.out.cell 4 _ rfl;have hb0_5:=HB0.out.cell 5 _ rfl;clear X9 N9 B9;clear t1;have t2:=tR)
  |(have q0:=t0;refine box_lawC _ [.int .i64 g0,.int .i64 g1,.int .i64 (S:Int),.int .i64 g3,.int .i64 g4,.int .i64 g5] rfl ?_;intro w1 X9 B9 l9;have HB0:=hdH (X9);have BB:=hdH (B9);have hb0_0:=HB0.out.cell 0 _ rfl;have hb0_1:=HB0.out.cell 1 _ rfl;have hb0_2:=HB0.out.cell 2 _ rfl;have hb0_3:=HB0.out.cell 3 _ rfl;have hb0_4:=HB0.out.cell 4 _ rfl;have hb0_5:=HB0.out.cell 5 _ rfl;clear X9 B9 l9;clear t0;have t1:=tR))
 have HY:Hid (Byt w10.drew (.slice uo 32 uc) U):=he.byt_drawn HY.out 1
 have HV4:Hid (Vr w10.drew w1.heap.size Z9):=HV4.out.drewN 1
 have NB_HV4:Hid (NoB w10.drew w1.heap.size):=NB_HV4.out
 have BB:Hid (Below w.heap.size w w10.drew):=BB.out.drew
 refine wp_region_held_drew (S:=fun w'=>w'.rangeAt w8.heap.size 0 (hv k n c l e t)∧w'.rangeAt w5.heap.size 0 ([.slice s0 S c0,.slice s1 88 c1]:List Value)) (by kernel_rfl) ⟨HV7.out.1,HV6.out.1⟩ (fun hS=>?_)
 obtain ⟨x1,hx0⟩:∃ x,x=w10.drew:=⟨_,rfl⟩
 rw [←hx0] at hS HY HV4 NB_HV4 BB ⊢
 clear hx0
 refine tkH 0 (some 35) (.agg (hv k n c l e t).toArray) rfl rfl (Or.inl ⟨by rfl,fun w' hw'=>by exact exec_loadN 64 (.tmp 7) rfl _ rfl _ _ (load_cells rowy_head hw'.1)⟩) hS ?_
 simp only [Act.put,zE1,zE2,zE3]
 refine tkH 1 (some 36) (.pointer (some ⟨w5.heap.size,0,none⟩)) rfl rfl (Or.inl ⟨by rfl,fun w' hw'=>by go_simp⟩) hS ?_
 simp only [Act.put,zE1,zE2,zE3]
 refine tkH 2 (some 37) (.slice s0 S c0) rfl rfl (Or.inl ⟨by rfl,fun w' hw'=>by exact exec_loadN 26 (.tmp 36) rfl _ rfl _ _ (load_one one_bytes (hw'.2 0 _ rfl))⟩) hS ?_
 simp only [Act.put,zE1,zE2,zE3]
 refine tkH 4 (some 39) (.slice uo 32 uc) rfl rfl (Or.inl ⟨by rfl,fun w' hw'=>by rfl⟩) hS ?_
 simp only [Act.put,zE1,zE2,zE3]
 refine tkH 5 (some 40) (.pointer (some ⟨w5.heap.size,1,none⟩)) rfl rfl (Or.inl ⟨by rfl,fun w' hw'=>by go_simp⟩) hS ?_
 simp only [Act.put,zE1,zE2,zE3]
 refine tkH 6 (some 41) (.slice s1 88 c1) rfl rfl (Or.inl ⟨by rfl,fun w' hw'=>by exact exec_loadN 26 (.tmp 40) rfl _ rfl _ _ (load_one one_bytes (hw'.2 1 _ rfl))⟩) hS ?_
 simp only [Act.put,zE1,zE2,zE3]
 refine wpAnyH_ready (rs:=[3]) (by kernel_rfl) (by simp) ?_
 refine AllReadyH.cons rfl (fun K hK=>?_) AllReadyH.nil
 refine step_callW _ (by rfl) (some 38) rfl 81 #[.tmp 37] #[26] rfl (fun q w'=>by rfl) #[.slice s0 S c0] (by simp only [List.map_toArray,List.map_cons,List.map_nil];rfl) (fun u w'=>(∃ po pc,u=.slice po S pc∧Byt w' (.slice po S pc) Q)∧Below x1.heap.size x1 w') ?_ ?_
 ·exact SC.out _ BB.out
 rintro _ x2 ⟨⟨po,pc,rfl,y9⟩,hb⟩
 have HP:=hdH (y9)
 have HY:=hdH (HY.out.below hb)
 have NB_HV4:=hdH (NB_HV4.out.heap (hb.block _ (range_lt HV4.out.1 (Nat.succ_pos _))))
 have HV4:=hdH (HV4.out.below hb (range_lt HV4.out.1 (Nat.succ_pos _)))
 have BB:=hdH (BB.out.trans (hb.mono BB.out.size))
 have hS:x2.rangeAt w8.heap.size 0 (hv k n c l e t)∧x2.rangeAt w5.heap.size 0 ([.slice s0 S c0,.slice s1 88 c1]:List Value):=⟨range_heap hS.1 (hb.block _ (range_lt hS.1 (Nat.succ_pos _))),range_heap hS.2 (hb.block _ (range_lt hS.2 (Nat.succ_pos _)))⟩
 clear hb y9
 refine hK.out _ _ hS (fun _=>?_)
 simp only [Act.put,zE1,zE2,zE3]
 clear hK K
 refine wpAnyH_ready (rs:=[7]) (by kernel_rfl) (by simp) ?_
 refine AllReadyH.cons rfl (fun K hK=>?_) AllReadyH.nil
 refine step_callW _ (by rfl) (some 42) rfl 82 #[.tmp 41] #[26] rfl (fun q w'=>by rfl) #[.slice s1 88 c1] (by simp only [List.map_toArray,List.map_cons,List.map_nil];rfl) (fun u w'=>u=.bool D∧Below x2.heap.size x2 w') ?_ ?_
 ·exact (SD.out _ BB.out).mono fun _ _ ⟨h1,h2⟩=>⟨_,h1,rfl,h2⟩
 rintro _ x3 ⟨rfl,hb⟩
 have HP:=hdH (HP.out.below hb)
 have HY:=hdH (HY.out.below hb)
 have NB_HV4:=hdH (NB_HV4.out.heap (hb.block _ (range_lt HV4.out.1 (Nat.succ_pos _))))
 have HV4:=hdH (HV4.out.below hb (range_lt HV4.out.1 (Nat.succ_pos _)))
 have BB:=hdH (BB.out.trans (hb.mono BB.out.size))
 have hS:x3.rangeAt w8.heap.size 0 (hv k n c l e t)∧x3.rangeAt w5.heap.size 0 ([.slice s0 S c0,.slice s1 88 c1]:List Value):=⟨range_heap hS.1 (hb.block _ (range_lt hS.1 (Nat.succ_pos _))),range_heap hS.2 (hb.block _ (range_lt hS.2 (Nat.succ_pos _)))⟩
 clear hb
 refine hK.out _ _ hS (fun _=>?_)
 simp only [Act.put,zE1,zE2,zE3]
 clear hK K
 refine tkH 8 (some 43) (.agg (pg9 k n c l e t (.slice po S pc) (.slice uo 32 uc) D).toArray) rfl rfl (Or.inl ⟨by rfl,fun w' hw'=>by exact exec_build 124 _ rfl _ _ (by kernel_rfl)⟩) hS ?_
 simp only [Act.put,zE1,zE2,zE3]
 refine wpAnyH_ready (rs:=[9]) (by kernel_rfl) (by simp) ?_
 refine AllReadyH.cons rfl (fun K hK=>?_) AllReadyH.nil
 refine step_storeK _ rfl none rfl (.tmp 4) (.tmp 43) 124 rfl w1.heap.size Z9 (pg9 k n c l e t (.slice po S pc) (.slice uo 32 uc) D) rfl rfl HV4.out rfl rowy_page.2 (pg9_one _ _ _ _ _ _ _ _ _ _ _ _ _) ?_
 intro x4 v9 B9 K9
 have HP:Hid (Byt x4 (.slice po S pc) Q):=byt_nob HP.out NB_HV4.out K9
 have HY:Hid (Byt x4 (.slice uo 32 uc) U):=byt_nob HY.out NB_HV4.out K9
 have HQ:=hdH (v9)
 have BB:=hdH (BB.out.trans (B9.mono LE_HV4.out))
 have hS:x4.rangeAt w8.heap.size 0 (hv k n c l e t)∧x4.rangeAt w5.heap.size 0 ([.slice s0 S c0,.slice s1 88 c1]:List Value):=⟨range_heap hS.1 (K9 _ (Nat.ne_of_gt LT_HV4_HV7.out)),range_heap hS.2 (K9 _ (Nat.ne_of_gt LT_HV4_HV6.out))⟩
 clear v9 B9 K9
 refine hK.out _ _ hS (fun _=>?_)
 simp only [Act.put]
 clear hK K
 refine tkH 10 (some 5) (.int .i64 0) rfl rfl (Or.inl ⟨by rfl,fun w' hw'=>by rfl⟩) hS ?_
 simp only [Act.put,zE1,zE2,zE3]
 refine wpAnyH_done (by kernel_rfl) ?_ _
 go_wp2
 exact bodyPost_ret (v:=.tuple #[.agg (pg9 k n c l e t (.slice po S pc) (.slice uo 32 uc) D).toArray,.int .i64 0]) (results_cv rfl _ _ w1.heap.size _ _ rowy_page rfl rfl HQ.out.1) rfl ⟨_,_,_,_,rfl,HP.out,HY.out,BB.out⟩
end Go.Proofs.YtmbgokmomkmgcaaGreatDoor.pa
namespace Go.Proofs.YtmbgokmomkmgcaaGreatDoor.ck
open Go.RowKit Go.Proofs.YtmbgokmomkmgcaaGreatDoor.fa Go.Proofs.YtmbgokmomkmgcaaGreatDoor.he Go.Proofs.YtmbgokmomkmgcaaGreatDoor.pa
set_option maxRecDepth 20000
section
variable {ops:Array Oper} {rest:List Oper} {a:Act} {Q:Exit→Act→World→Prop}
theorem make_lawR {o:Oper} (w:World) (hg:o.guard=none) (l c:Operand) (hop:o.op=Op.makeSlice 69 l c)
  (L:Int) (n:Nat) (hl:a.eval l=.int .i64 L) (hc:a.eval c=.int .i64 L) (hL:L=(n:Int)) (hn:n≤1000000)
  (hK:∀ w',Vr w' w.heap.size (List.replicate n (.slice none 0 0))→NoB w' w.heap.size→Below w.heap.size w w'→wpList Tryz.prog ops Q rest (a.put o.dst (.slice (some ⟨w.heap.size,0,none⟩) n n)) w'):
  wpList Tryz.prog ops Q (o :: rest) a w:=by
 obtain ⟨i0,hi,hz0,hz1,hz2⟩:=info_parts info_row
 refine wpList_make_full w hg l c 69 hop w.heap.size 26 i0 (.slice none 0 0) 1 Tryz.underlying69 hi hz0 hz1 .i64 .i64 L L n hl hc hL hL (by rw [hz2];omega) (by simp only [maxLen];omega) (Nat.le_refl _) fun w' h1 h2=>?_
 have e:(madeCells (Value.slice none 0 0).cells (n*1)).toList =List.replicate n (Value.slice none 0 0):=by
  rw [Nat.mul_one]
  show (madeCells #[Value.slice none 0 0] n).toList =_
  rw [toList_madeCells_one]
 have hcell:∀ i,i<n→w'.cell? ⟨w.heap.size,i,none⟩=some (.slice none 0 0):=fun i hi=>by
  rw [h1.cellAt i (by omega),e]
  simp [hi]
 refine hK w' ⟨fun i v hv=>?_,fun i hi=>⟨?_,?_⟩⟩ ?_ ((Below.refl _ w).grown h2 (Nat.le_refl _) (fun k hk=>by cases hk))
 ·rw [List.getElem?_replicate] at hv
  split at hv
  ·rw [Nat.zero_add,hcell i (by assumption)]
   exact hv
  ·cases hv
 ·rw [List.length_replicate] at hi
  rw [Nat.zero_add,hcell i hi];rfl
 ·rw [Nat.zero_add];exact h1.frozenAt i
 ·intro j y hj
  rcases h1.2 with ⟨h',_⟩ | ⟨g',cap',cur,h',_,hg',hle,_,hsz,htake⟩
  ·cases h'
  ·cases h'
   rw [cell_of_row w' w.heap.size j cur 26 (0,0) hg'] at hj
   have hcur:cur.toList=List.replicate n (Value.slice none 0 0):=by
    have z:=htake
    rw [e] at z
    have q:cur.toList.length≤n*1:=by simpa using Nat.le_of_eq hsz
    rwa [List.take_of_length_le q] at z
   have:cur.toList[j]? =some (.int .u8 y):=by simpa using hj
   rw [hcur,List.getElem?_replicate] at this
   split at this
   ·cases this
   ·cases this
theorem heap_one (w:World) (b o:Nat) (v:Value) (k:Nat) (h:k≠b):(w.setCell ⟨b,o,none⟩ v).heap[k]? =w.heap[k]? :=Below.heap_setCell w ⟨b,o,none⟩ v k h
theorem nob_one {w:World} {g j:Nat} {v old:Value} (h:NoB w g) (ho:w.cell? ⟨g,j,none⟩=some old) (hv:∀ y,v≠ .int .u8 y):NoB (w.setCell ⟨g,j,none⟩ v) g:=fun i y e=>by
 by_cases q:i=j
 ·subst q
  rw [World.cell?_setCell_same _ _ _ ho] at e
  exact hv y (Option.some.inj e)
 ·rw [World.cell?_setCell_other _ _ _ _ (by intro z;injection z with _ z2;omega)] at e
  exact h i y e
theorem set_lawK {d:Option Tmp} {x y:Operand} {t ty:TypeId} {pos:String} {af:Array Edge} (w:World) (cs:List Value) (c j:Nat) (v:Value) (hx:a.eval x=.pointer (some ⟨c,j,none⟩)) (hy:a.eval y=v) (hV:Vr w c cs) (hN:NoB w c) (hj:j<cs.length) (h1:v.oneCell'=true) (hc:v.cells=#[v]) (hv:∀ y,v≠ .int .u8 y) (hi:(Tryz.prog.info? t).map (·.size)=some 1)
  (hK:∀ w',Vr w' c (cs.set j v)→NoB w' c→Below c w w'→(∀ k,k≠c→w'.heap[k]? =w.heap[k]?)→wpList Tryz.prog ops Q rest (a.put d undef) w'):
  wpList Tryz.prog ops Q (⟨d,Op.store t x y,ty,pos,af,none⟩ :: rest) a w:=by
 refine wpList_plain rfl fun K hK'=>?_
 have hcell:=hV.cell j _ (List.getElem?_eq_getElem hj)
 have hf:=hV.free j hj
 have hr:(storeVar t ⟨c,j,none⟩ v).run Tryz.prog w=.ok () (w.setCell ⟨c,j,none⟩ v):=by
  have e0:∀ i,i< [v].length →i=0:=fun i hi=>by simpa using hi
  have:=run_storeCells_cells (P:=Tryz.prog) c j [v] 0 w (fun i hi=>by rw [e0 i hi];simp [hcell]) (fun i hi=>by rw [e0 i hi];simpa using hf) (fun z hz=>by simp at hz;subst hz;exact h1)
  cases hq:Tryz.prog.info? t with
  |none=>simp [hq] at hi
  |some i=>
   have hs:i.size=1:=by simpa [hq] using hi
   simp only [Nat.add_zero] at this
   simp [storeVar,sizeOf,typeInfo,hq,hc,hs]
   simpa [World.setCells] using this
 unfold Oper.wp execOp
 simp only [hx,hy,Instr.storeAt,Instr.sureAddr,Sem.run_bind,Sem.run_pure,Result.andThen_ok,hr]
 exact hK' _ _ (hK _ (hV.set j hj v) (nob_one hN hcell hv) ((Below.refl c w).setCell (p:=⟨c,j,none⟩) (Nat.le_refl _) _) (fun k hk=>heap_one w c j v k hk))
end
end Go.Proofs.YtmbgokmomkmgcaaGreatDoor.ck
