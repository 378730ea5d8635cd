/- Parts of the proof: what ScanBlocks reaches. No claim of its own. -/
import Derived.Lib.MakeNoZero
import Derived.Deep.DeepCutAuto
import Derived.Deep.RegionHeld3
import Derived.Laws.AppendOwnNone
import Derived.Lib.AppendZeros
import Derived.Lib.SliceRun
import Derived.Laws.StructEq
import Derived.ArgAppend
import Derived.WalkKit
import Derived.WalkSmall
import Derived.ProofKit
import Derived.OpenShut
import Derived.BigQuiet
import Derived.Deep.QuietTactic
import Derived.Deep.WholeRow
import Derived.Deep.MidRow
import Derived.Deep.DeepHandedRow
import Derived.Lib.LaidTab
import Derived.Deep.Matrix
import Derived.Test.YtmbgokmomkmgcaaGreatDoorK00
import Derived.Test.YtmbgokmomkmgcaaGreatDoorK01
import Derived.Test.YtmbgokmomkmgcaaGreatDoorK02
import Derived.Test.YtmbgokmomkmgcaaGreatDoorK03
import Derived.Test.YtmbgokmomkmgcaaGreatDoorK04
import Derived.Test.YtmbgokmomkmgcaaGreatDoorK05
import Derived.Test.YtmbgokmomkmgcaaGreatDoorK06
import Derived.Test.YtmbgokmomkmgcaaGreatDoorK07
import Derived.Test.YtmbgokmomkmgcaaGreatDoorK08
import Derived.Test.YtmbgokmomkmgcaaGreatDoorK09
import Derived.Test.YtmbgokmomkmgcaaGreatDoorK10
import Derived.Test.YtmbgokmomkmgcaaGreatDoorK11
import Derived.Test.YtmbgokmomkmgcaaGreatDoorK12
import Derived.Test.YtmbgokmomkmgcaaGreatDoorK13
import Derived.Test.YtmbgokmomkmgcaaGreatDoorK14
import Derived.Test.YtmbgokmomkmgcaaGreatDoorK15
import Derived.Test.YtmbgokmomkmgcaaGreatDoorK16
import Derived.Test.YtmbgokmomkmgcaaGreatDoorK17
import Derived.Test.YtmbgokmomkmgcaaGreatDoorK18
import Derived.Test.YtmbgokmomkmgcaaGreatDoorK19
import Derived.Test.YtmbgokmomkmgcaaGreatDoorK20
import Derived.Test.YtmbgokmomkmgcaaGreatDoorK21
set_option maxHeartbeats 8000000
namespace Go.Proofs.YtmbgokmomkmgcaaGreatDoor.sc
open Go.RowKit Go.Proofs.YtmbgokmomkmgcaaGreatDoor.fa Go.Proofs.YtmbgokmomkmgcaaGreatDoor.he Go.Proofs.YtmbgokmomkmgcaaGreatDoor.pa
set_option maxRecDepth 20000
theorem pg_head {w:World} {g:Nat} {k n c l e t:Int} {pv tv:Value} {d:Bool} (h:w.rangeAt g 0 (pg9 k n c l e t pv tv d)):w.rangeAt g 0 (hv k n c l e t):=fun j v hj=>h j v (by
 match j,hj with
 |0,hj=>exact hj
 |1,hj=>exact hj
 |2,hj=>exact hj
 |3,hj=>exact hj
 |4,hj=>exact hj
 |5,hj=>exact hj)
theorem pg_done {w:World} {g:Nat} {k n c l e t:Int} {pv tv:Value} {d:Bool} (h:w.rangeAt g 0 (pg9 k n c l e t pv tv d)):w.cell? ⟨g,8,none⟩=some (.bool d):=by
 have z:=h 8 (.bool d) rfl
 rwa [Nat.zero_add] at z
theorem clo_un (g0 g1 g3 g4 g5:Int) (S:Nat) (b off n cap i c3 c5:Nat) (z:Value) (xs:List Int) (w:World) (hr:ge.Rt [g0,g1,(S:Int),g3,g4,g5]) (hT:Tab w) (h3:Vr w c3 [.int .i64 g0,.int .i64 g1,.int .i64 (S:Int),.int .i64 g3,.int .i64 g4,.int .i64 g5]) (h5:Vr w c5 [.slice (some ⟨b,off,none⟩) n cap]) (hi:i<n) (hz:w.cell? ⟨b,off+i,none⟩=some z) (hb:Byt w z xs) (hl:xs.length=S+88) (hc:¬Tl (xs.drop S)):
  Calls Tryz.prog 40 #[.int .i64 (i:Int),.pointer (some ⟨c3,0,none⟩),.pointer (some ⟨c5,0,none⟩)] w fun x w'=>x=.returned (.tuple #[.agg (hv 0 0 0 0 0 0).toArray,.bool false])∧Below w.heap.size w w':=by
 have SR:Hid (∀ w0,Below w.heap.size w w0→Calls Tryz.prog 41 #[.agg (ints .i64 [g0,g1,(S:Int),g3,g4,g5]),z] w0 fun x w'=>x=.returned (.tuple #[.agg Z9.toArray,.int .i64 1])∧Below w0.heap.size w0 w'):=fun w0 q=>read_none g0 g1 g3 g4 g5 S z xs w0 (hb.below q) hr hl (hT.below q) hc
 have H3:Hid (Vr w c3 [.int .i64 g0,.int .i64 g1,.int .i64 (S:Int),.int .i64 g3,.int .i64 g4,.int .i64 g5]∧Vr w c5 [.slice (some ⟨b,off,none⟩) n cap]∧c3<w.heap.size∧c5<w.heap.size):=⟨h3,h5,range_lt h3.1 (Nat.succ_pos _),range_lt h5.1 (Nat.succ_pos _)⟩
 have HZ:Hid (w.cell? ⟨b,off+i,none⟩=some z∧b<w.heap.size):=⟨hz,World.block_lt_of_cell? _ _ hz⟩
 have HI:=hdH (hi)
 obtain ⟨zo,zc,rfl⟩:=byt_form hb hl
 clear hr hT h3 h5 hi hz hb hl hc
 have t0:=tR
 go_enter Tryz.func40,Tryz.ntmps40
 go_wp2_with (have q0:=t0;(with_reducible refine at_alloc ?_);refine new_lawC _ (hv 0 0 0 0 0 0) zero_head ?_;intro w1 X9 B9 l9;have HV4:=hdH (X9);have BB:=hdH (B9);clear X9 B9 l9 t0;have t1:=tR)
 have L4:Hid (w.heap.size<w1.heap.size):=range_lt HV4.out.1 (Nat.succ_pos _)
 go_cut [6,7] (fun r6 r7 wc=>∃ (gv:Nat),r6=.pointer (some ⟨gv,0,none⟩)∧r7=.int .i64 1∧Vr wc gv Z9∧Vr wc w.heap.size (hv 0 0 0 0 0 0)∧gv≠w.heap.size∧Below w.heap.size w wc)
 case first=>
  have HV4:Hid (Vr w1.drew w.heap.size (hv 0 0 0 0 0 0)):=HV4.out.drewN 1
  refine wp_region_held_drew (S:=fun w'=>Below w1.heap.size w1 w') (by kernel_rfl) (Below.refl _ _).drew (fun hS=>?_)
  obtain ⟨x1,hx0⟩:∃ x,x=w1.drew:=⟨_,rfl⟩
  rw [←hx0] at hS HV4 ⊢
  clear hx0
  refine tkH 0 (some 9) (.agg ([.int .i64 g0,.int .i64 g1,.int .i64 (S:Int),.int .i64 g3,.int .i64 g4,.int .i64 g5]:List Value).toArray) rfl rfl (Or.inl ⟨by rfl,fun w' hw'=>by exact exec_loadN 23 (.tmp 1) rfl _ rfl _ _ (load_cells rowy_geo6 (H3.out.1.below (BB.out.trans (hw'.mono BB.out.size)) H3.out.2.2.1).1)⟩) hS ?_
  simp only [Act.put,zE1,zE2,zE3]
  refine tkH 1 (some 10) (.slice (some ⟨b,off,none⟩) n cap) rfl rfl (Or.inl ⟨by rfl,fun w' hw'=>by exact exec_loadN 69 (.tmp 2) rfl _ rfl _ _ (load_one one_bytess ((H3.out.2.1.below (BB.out.trans (hw'.mono BB.out.size)) H3.out.2.2.2).cell 0 _ rfl))⟩) hS ?_
  simp only [Act.put,zE1,zE2,zE3]
  refine tkH 2 (some 11) (.int .i64 (i:Int)) rfl rfl (Or.inl ⟨by rfl,fun w' hw'=>by rfl⟩) hS ?_
  simp only [Act.put,zE1,zE2,zE3]
  refine tkH 3 (some 12) (.pointer (some ⟨b,off+i,none⟩)) rfl rfl (Or.inl ⟨by rfl,fun w' hw'=>by exact exec_idxR (.tmp 10) (.tmp 11) rfl b off n cap i rfl rfl HI.out _⟩) hS ?_
  simp only [Act.put,zE1,zE2,zE3]
  refine tkH 4 (some 13) (.slice zo (S+88) zc) rfl rfl (Or.inl ⟨by rfl,fun w' hw'=>by exact exec_loadN 26 (.tmp 12) rfl _ rfl _ _ (load_one one_bytes (by rw [(BB.out.trans (hw'.mono BB.out.size)).cell HZ.out.2];exact HZ.out.1))⟩) hS ?_
  simp only [Act.put,zE1,zE2,zE3]
  refine wpAnyH_ready (rs:=[5,9]) (by kernel_rfl) (by simp) ?_
  refine AllReadyH.cons rfl (fun K hK=>?_) (AllReadyH.cons rfl (fun K hK=>?_) AllReadyH.nil)
  ·refine step_callW _ (by rfl) (some 14) rfl 41 #[.tmp 9,.tmp 13] #[23,26] rfl (fun q w'=>by rfl) #[.agg ([.int .i64 g0,.int .i64 g1,.int .i64 (S:Int),.int .i64 g3,.int .i64 g4,.int .i64 g5]:List Value).toArray,.slice zo (S+88) zc] (by simp only [List.map_toArray,List.map_cons,List.map_nil];rfl) (fun z w'=>z=.tuple #[.agg Z9.toArray,.int .i64 1]∧Below x1.heap.size x1 w') ?_ ?_
   ·exact (SR.out x1 (BB.out.trans (hS.mono BB.out.size))).mono fun e w' ⟨h1,h3⟩=>⟨_,h1,rfl,h3⟩
   rintro _ x2 ⟨rfl,hb⟩
   have HV4:=hdH (HV4.out.below hb (range_lt HV4.out.1 (Nat.succ_pos _)))
   have hS:Below w1.heap.size w1 x2:=hS.trans (hb.mono hS.size)
   clear hb
   refine hK.out _ _ hS (fun _=>?_)
   simp only [Act.put,zE1,zE2,zE3]
   clear hK K
   refine tkH 6 (some 8) (.tuple #[.agg Z9.toArray,.int .i64 1]) rfl rfl (Or.inl ⟨by rfl,fun w' hw'=>by rfl⟩) hS ?_
   simp only [Act.put,zE1,zE2,zE3]
   refine tkH 7 (some 15) (.agg Z9.toArray) rfl rfl (Or.inl ⟨by rfl,fun w' hw'=>by rfl⟩) hS ?_
   simp only [Act.put,zE1,zE2,zE3]
   refine tkH 8 (some 16) (.int .i64 1) rfl rfl (Or.inl ⟨by rfl,fun w' hw'=>by rfl⟩) hS ?_
   simp only [Act.put,zE1,zE2,zE3]
   refine wpAnyH_ready (rs:=[9]) (by kernel_rfl) (by simp) ?_
   refine AllReadyH.cons rfl (fun K hK=>?_) AllReadyH.nil
   refine step_newC _ rfl (some 6) rfl 124 rfl Z9 zero_page ?_
   intro x3 v9 hb l9
   have HV:=hdH (v9)
   have LV:Hid (w1.heap.size≤x2.heap.size):=hS.size
   have HV4:=hdH (HV4.out.below hb (range_lt HV4.out.1 (Nat.succ_pos _)))
   have hS:Below w1.heap.size w1 x3:=hS.trans (hb.mono hS.size)
   clear v9 hb l9
   obtain ⟨gv,hg9⟩:∃ g,g=x2.heap.size:=⟨_,rfl⟩
   rw [←hg9] at HV LV ⊢
   clear hg9
   refine hK.out _ _ hS (fun _=>?_)
   simp only [Act.put,zE1,zE2,zE3]
   clear hK K
   refine wpAnyH_ready (rs:=[10]) (by kernel_rfl) (by simp) ?_
   refine AllReadyH.cons rfl (fun K hK=>?_) AllReadyH.nil
   refine step_storeC _ rfl none rfl (.tmp 6) (.tmp 15) 124 rfl gv Z9 Z9 rfl rfl HV.out rfl rowy_page.2 (pg9_one _ _ _ _ _ _ _ _ _ _ _ _ _) ?_
   intro x4 v9 B9
   have HP:=hdH (v9)
   have HV4:=hdH (HV4.out.below B9 (Nat.lt_of_lt_of_le L4.out LV.out))
   have hS:Below w1.heap.size w1 x4:=hS.trans (B9.mono LV.out)
   clear v9 B9
   refine hK.out _ _ hS (fun _=>?_)
   simp only [Act.put]
   clear hK K
   refine tkH 11 (some 7) (.int .i64 1) rfl rfl (Or.inl ⟨by rfl,fun w' hw'=>by rfl⟩) hS ?_
   simp only [Act.put,zE1,zE2,zE3]
   refine wpAnyH_done (by kernel_rfl) ?_ _
   go_wp2_with fail
   go_meet
   exact ⟨gv,rfl,rfl,HP.out,HV4.out,Nat.ne_of_gt (Nat.lt_of_lt_of_le L4.out LV.out),BB.out.trans (hS.mono BB.out.size)⟩
  ·refine step_newC _ rfl (some 6) rfl 124 rfl Z9 zero_page ?_
   intro x5 v9 hb l9
   have HV:=hdH (v9)
   have LV:Hid (w1.heap.size≤x1.heap.size):=hS.size
   have HV4:=hdH (HV4.out.below hb (range_lt HV4.out.1 (Nat.succ_pos _)))
   have hS:Below w1.heap.size w1 x5:=hS.trans (hb.mono hS.size)
   clear v9 hb l9
   obtain ⟨gv,hg9⟩:∃ g,g=x1.heap.size:=⟨_,rfl⟩
   rw [←hg9] at HV LV ⊢
   clear hg9
   refine hK.out _ _ hS (fun _=>?_)
   simp only [Act.put,zE1,zE2,zE3]
   clear hK K
   refine wpAnyH_ready (rs:=[5]) (by kernel_rfl) (by simp) ?_
   refine AllReadyH.cons rfl (fun K hK=>?_) AllReadyH.nil
   refine step_callW _ (by rfl) (some 14) rfl 41 #[.tmp 9,.tmp 13] #[23,26] rfl (fun q w'=>by rfl) #[.agg ([.int .i64 g0,.int .i64 g1,.int .i64 (S:Int),.int .i64 g3,.int .i64 g4,.int .i64 g5]:List Value).toArray,.slice zo (S+88) zc] (by simp only [List.map_toArray,List.map_cons,List.map_nil];rfl) (fun z w'=>z=.tuple #[.agg Z9.toArray,.int .i64 1]∧Below x5.heap.size x5 w') ?_ ?_
   ·exact (SR.out x5 (BB.out.trans (hS.mono BB.out.size))).mono fun e w' ⟨h1,h3⟩=>⟨_,h1,rfl,h3⟩
   rintro _ x6 ⟨rfl,hb⟩
   have HV4:=hdH (HV4.out.below hb (range_lt HV4.out.1 (Nat.succ_pos _)))
   have HV:=hdH (HV.out.below hb (range_lt HV.out.1 (Nat.succ_pos _)))
   have hS:Below w1.heap.size w1 x6:=hS.trans (hb.mono hS.size)
   clear hb
   refine hK.out _ _ hS (fun _=>?_)
   simp only [Act.put,zE1,zE2,zE3]
   clear hK K
   refine tkH 6 (some 8) (.tuple #[.agg Z9.toArray,.int .i64 1]) rfl rfl (Or.inl ⟨by rfl,fun w' hw'=>by rfl⟩) hS ?_
   simp only [Act.put,zE1,zE2,zE3]
   refine tkH 7 (some 15) (.agg Z9.toArray) rfl rfl (Or.inl ⟨by rfl,fun w' hw'=>by rfl⟩) hS ?_
   simp only [Act.put,zE1,zE2,zE3]
   refine tkH 8 (some 16) (.int .i64 1) rfl rfl (Or.inl ⟨by rfl,fun w' hw'=>by rfl⟩) hS ?_
   simp only [Act.put,zE1,zE2,zE3]
   refine wpAnyH_ready (rs:=[10]) (by kernel_rfl) (by simp) ?_
   refine AllReadyH.cons rfl (fun K hK=>?_) AllReadyH.nil
   refine step_storeC _ rfl none rfl (.tmp 6) (.tmp 15) 124 rfl gv Z9 Z9 rfl rfl HV.out rfl rowy_page.2 (pg9_one _ _ _ _ _ _ _ _ _ _ _ _ _) ?_
   intro x7 v9 B9
   have HP:=hdH (v9)
   have HV4:=hdH (HV4.out.below B9 (Nat.lt_of_lt_of_le L4.out LV.out))
   have hS:Below w1.heap.size w1 x7:=hS.trans (B9.mono LV.out)
   clear v9 B9
   refine hK.out _ _ hS (fun _=>?_)
   simp only [Act.put]
   clear hK K
   refine tkH 11 (some 7) (.int .i64 1) rfl rfl (Or.inl ⟨by rfl,fun w' hw'=>by rfl⟩) hS ?_
   simp only [Act.put,zE1,zE2,zE3]
   refine wpAnyH_done (by kernel_rfl) ?_ _
   go_wp2_with fail
   go_meet
   exact ⟨gv,rfl,rfl,HP.out,HV4.out,Nat.ne_of_gt (Nat.lt_of_lt_of_le L4.out LV.out),BB.out.trans (hS.mono BB.out.size)⟩
 case rest=>
  obtain ⟨gv,rfl,rfl,h1,h2,h3,h4⟩:=hcut
  have HP:=hdH (h1)
  have HV4:=hdH (h2)
  have NE:=hdH (h3)
  have BB:=hdH (h4)
  clear h1 h2 h3 h4
  go_wp2_with fail
  have HV4:Hid (Vr wc.drew w.heap.size (hv 0 0 0 0 0 0)):=HV4.out.drewN 1
  have BB:Hid (Below w.heap.size w wc.drew):=BB.out.drew
  refine wp_region_held_drew (S:=fun w'=>w'.rangeAt gv 0 Z9) (by kernel_rfl) HP.out.1 (fun hS=>?_)
  obtain ⟨y1,hx0⟩:∃ x,x=wc.drew:=⟨_,rfl⟩
  rw [←hx0] at hS HV4 BB ⊢
  clear hx0
  refine tkH 0 (some 17) (.pointer (some ⟨gv,0,none⟩)) rfl rfl (Or.inl ⟨by rfl,fun w' hw'=>by go_simp⟩) hS ?_
  simp only [Act.put,zE1,zE2,zE3]
  refine tkH 1 (some 18) (.agg (hv 0 0 0 0 0 0).toArray) rfl rfl (Or.inl ⟨by rfl,fun w' hw'=>by exact exec_loadN 64 (.tmp 17) rfl _ rfl _ _ (load_cells rowy_head (pg_head hw'))⟩) hS ?_
  simp only [Act.put,zE1,zE2,zE3]
  refine tkH 2 (some 19) (.int .i64 1) rfl rfl (Or.inl ⟨by rfl,fun w' hw'=>by rfl⟩) hS ?_
  simp only [Act.put,zE1,zE2,zE3]
  refine tkH 3 (some 20) (.bool false) rfl rfl (Or.inl ⟨by rfl,fun w' hw'=>by go_simp⟩) hS ?_
  simp only [Act.put,zE1,zE2,zE3]
  refine tkH 4 (some 21) (.bool false) rfl rfl (Or.inl ⟨by rfl,fun w' hw'=>by rfl⟩) hS ?_
  simp only [Act.put,zE1,zE2,zE3]
  refine tkH 5 (some 22) (undef) rfl rfl (Or.inr ⟨by rfl,rfl⟩) hS ?_
  simp only [Act.put,zE1,zE2,zE3]
  refine tkH 6 (some 23) (undef) rfl rfl (Or.inr ⟨by rfl,rfl⟩) hS ?_
  simp only [Act.put,zE1,zE2,zE3]
  refine tkH 7 (some 24) (.bool false) rfl rfl (Or.inl ⟨by rfl,fun w' hw'=>by rfl⟩) hS ?_
  simp only [Act.put,zE1,zE2,zE3]
  refine wpAnyH_ready (rs:=[8]) (by kernel_rfl) (by simp) ?_
  refine AllReadyH.cons rfl (fun K hK=>?_) AllReadyH.nil
  refine step_storeK _ rfl none rfl (.tmp 4) (.tmp 18) 64 rfl w.heap.size (hv 0 0 0 0 0 0) (hv 0 0 0 0 0 0) rfl rfl HV4.out rfl rowy_head.2 (hv_one _ _ _ _ _ _) ?_
  intro y2 v9 B9 K9
  have HF:=hdH (v9)
  have BB:=hdH (BB.out.trans B9)
  have hS:y2.rangeAt gv 0 Z9:=range_heap hS (K9 _ NE.out)
  clear v9 B9 K9
  refine hK.out _ _ hS (fun _=>?_)
  simp only [Act.put]
  clear hK K
  refine tkH 9 (some 5) (.bool false) rfl rfl (Or.inl ⟨by rfl,fun w' hw'=>by rfl⟩) hS ?_
  simp only [Act.put,zE1,zE2,zE3]
  refine wpAnyH_done (by kernel_rfl) ?_ _
  go_wp2
  exact bodyPost_ret (v:=.tuple #[.agg (hv 0 0 0 0 0 0).toArray,.bool false]) (results_cv rfl _ _ w.heap.size _ _ rowy_head rfl rfl HF.out.1) rfl ⟨rfl,BB.out⟩
theorem clo_no (g0 g1 g3 g4 g5:Int) (S:Nat) (b off n cap i c3 c5:Nat) (z:Value) (xs:List Int) (w:World) (hr:ge.Rt [g0,g1,(S:Int),g3,g4,g5]) (hT:Tab w) (h3:Vr w c3 [.int .i64 g0,.int .i64 g1,.int .i64 (S:Int),.int .i64 g3,.int .i64 g4,.int .i64 g5]) (h5:Vr w c5 [.slice (some ⟨b,off,none⟩) n cap]) (hi:i<n) (hz:w.cell? ⟨b,off+i,none⟩=some z) (hb:Byt w z xs) (hl:xs.length=S+88) (ht:Tl (xs.drop S)) (hc:¬(xs.drop S).drop 80=List.replicate 8 0):
  Calls Tryz.prog 40 #[.int .i64 (i:Int),.pointer (some ⟨c3,0,none⟩),.pointer (some ⟨c5,0,none⟩)] w fun x w'=>x=.returned (.tuple #[.agg (hv (qk (xs.drop S)) (qn (xs.drop S)) (qc (xs.drop S)) (ql (xs.drop S)) (qe (xs.drop S)) (qt (xs.drop S))).toArray,.bool false])∧Below w.heap.size w w':=by
 have SR:Hid (∀ w0,Below w.heap.size w w0→Calls Tryz.prog 41 #[.agg (ints .i64 [g0,g1,(S:Int),g3,g4,g5]),z] w0 fun x w'=>∃ po pc uo uc,x=.returned (.tuple #[.agg (pg9 (qk (xs.drop S)) (qn (xs.drop S)) (qc (xs.drop S)) (ql (xs.drop S)) (qe (xs.drop S)) (qt (xs.drop S)) (.slice po S pc) (.slice uo 32 uc) false).toArray,.int .i64 0])∧Below w0.heap.size w0 w'):=fun w0 q=>(read_page g0 g1 g3 g4 g5 S z xs w0 (hb.below q) hr hl (hT.below q) ht).mono (by
  rintro _ w' ⟨po,pc,uo,uc,rfl, -, -,h⟩
  rw [decide_eq_false hc]
  exact ⟨po,pc,uo,uc,rfl,h⟩)
 generalize qk (xs.drop S)=k at SR ⊢
 generalize qn (xs.drop S)=n0 at SR ⊢
 generalize qc (xs.drop S)=c at SR ⊢
 generalize ql (xs.drop S)=l at SR ⊢
 generalize qe (xs.drop S)=e at SR ⊢
 generalize qt (xs.drop S)=t at SR ⊢
 have H3:Hid (Vr w c3 [.int .i64 g0,.int .i64 g1,.int .i64 (S:Int),.int .i64 g3,.int .i64 g4,.int .i64 g5]∧Vr w c5 [.slice (some ⟨b,off,none⟩) n cap]∧c3<w.heap.size∧c5<w.heap.size):=⟨h3,h5,range_lt h3.1 (Nat.succ_pos _),range_lt h5.1 (Nat.succ_pos _)⟩
 have HZ:Hid (w.cell? ⟨b,off+i,none⟩=some z∧b<w.heap.size):=⟨hz,World.block_lt_of_cell? _ _ hz⟩
 have HI:=hdH (hi)
 obtain ⟨zo,zc,rfl⟩:=byt_form hb hl
 clear hr hT h3 h5 hi hz hb hl hc ht
 have t0:=tR
 go_enter Tryz.func40,Tryz.ntmps40
 go_wp2_with (have q0:=t0;(with_reducible refine at_alloc ?_);refine new_lawC _ (hv 0 0 0 0 0 0) zero_head ?_;intro w1 X9 B9 l9;have HV4:=hdH (X9);have BB:=hdH (B9);clear X9 B9 l9 t0;have t1:=tR)
 have L4:Hid (w.heap.size<w1.heap.size):=range_lt HV4.out.1 (Nat.succ_pos _)
 go_cut [6,7] (fun r6 r7 wc=>∃ (gv:Nat) (po:Option Addr) (pc:Nat) (uo:Option Addr) (uc:Nat),r6=.pointer (some ⟨gv,0,none⟩)∧r7=.int .i64 0∧Vr wc gv (pg9 k n0 c l e t (.slice po S pc) (.slice uo 32 uc) false)∧Vr wc w.heap.size (hv 0 0 0 0 0 0)∧gv≠w.heap.size∧Below w.heap.size w wc)
 case first=>
  have HV4:Hid (Vr w1.drew w.heap.size (hv 0 0 0 0 0 0)):=HV4.out.drewN 1
  refine wp_region_held_drew (S:=fun w'=>Below w1.heap.size w1 w') (by kernel_rfl) (Below.refl _ _).drew (fun hS=>?_)
  obtain ⟨x1,hx0⟩:∃ x,x=w1.drew:=⟨_,rfl⟩
  rw [←hx0] at hS HV4 ⊢
  clear hx0
  refine tkH 0 (some 9) (.agg ([.int .i64 g0,.int .i64 g1,.int .i64 (S:Int),.int .i64 g3,.int .i64 g4,.int .i64 g5]:List Value).toArray) rfl rfl (Or.inl ⟨by rfl,fun w' hw'=>by exact exec_loadN 23 (.tmp 1) rfl _ rfl _ _ (load_cells rowy_geo6 (H3.out.1.below (BB.out.trans (hw'.mono BB.out.size)) H3.out.2.2.1).1)⟩) hS ?_
  simp only [Act.put,zE1,zE2,zE3]
  refine tkH 1 (some 10) (.slice (some ⟨b,off,none⟩) n cap) rfl rfl (Or.inl ⟨by rfl,fun w' hw'=>by exact exec_loadN 69 (.tmp 2) rfl _ rfl _ _ (load_one one_bytess ((H3.out.2.1.below (BB.out.trans (hw'.mono BB.out.size)) H3.out.2.2.2).cell 0 _ rfl))⟩) hS ?_
  simp only [Act.put,zE1,zE2,zE3]
  refine tkH 2 (some 11) (.int .i64 (i:Int)) rfl rfl (Or.inl ⟨by rfl,fun w' hw'=>by rfl⟩) hS ?_
  simp only [Act.put,zE1,zE2,zE3]
  refine tkH 3 (some 12) (.pointer (some ⟨b,off+i,none⟩)) rfl rfl (Or.inl ⟨by rfl,fun w' hw'=>by exact exec_idxR (.tmp 10) (.tmp 11) rfl b off n cap i rfl rfl HI.out _⟩) hS ?_
  simp only [Act.put,zE1,zE2,zE3]
  refine tkH 4 (some 13) (.slice zo (S+88) zc) rfl rfl (Or.inl ⟨by rfl,fun w' hw'=>by exact exec_loadN 26 (.tmp 12) rfl _ rfl _ _ (load_one one_bytes (by rw [(BB.out.trans (hw'.mono BB.out.size)).cell HZ.out.2];exact HZ.out.1))⟩) hS ?_
  simp only [Act.put,zE1,zE2,zE3]
  refine wpAnyH_ready (rs:=[5,9]) (by kernel_rfl) (by simp) ?_
  refine AllReadyH.cons rfl (fun K hK=>?_) (AllReadyH.cons rfl (fun K hK=>?_) AllReadyH.nil)
  ·refine step_callW _ (by rfl) (some 14) rfl 41 #[.tmp 9,.tmp 13] #[23,26] rfl (fun q w'=>by rfl) #[.agg ([.int .i64 g0,.int .i64 g1,.int .i64 (S:Int),.int .i64 g3,.int .i64 g4,.int .i64 g5]:List Value).toArray,.slice zo (S+88) zc] (by simp only [List.map_toArray,List.map_cons,List.map_nil];rfl) (fun z w'=>(∃ po pc uo uc,z=.tuple #[.agg (pg9 k n0 c l e t (.slice po S pc) (.slice uo 32 uc) false).toArray,.int .i64 0])∧Below x1.heap.size x1 w') ?_ ?_
   ·exact (SR.out x1 (BB.out.trans (hS.mono BB.out.size))).mono fun e w' ⟨po,pc,uo,uc,h1,h3⟩=>⟨_,h1,⟨po,pc,uo,uc,rfl⟩,h3⟩
   rintro _ x2 ⟨⟨po,pc,uo,uc,rfl⟩,hb⟩
   have HV4:=hdH (HV4.out.below hb (range_lt HV4.out.1 (Nat.succ_pos _)))
   have hS:Below w1.heap.size w1 x2:=hS.trans (hb.mono hS.size)
   clear hb
   refine hK.out _ _ hS (fun _=>?_)
   simp only [Act.put,zE1,zE2,zE3]
   clear hK K
   refine tkH 6 (some 8) (.tuple #[.agg (pg9 k n0 c l e t (.slice po S pc) (.slice uo 32 uc) false).toArray,.int .i64 0]) rfl rfl (Or.inl ⟨by rfl,fun w' hw'=>by rfl⟩) hS ?_
   simp only [Act.put,zE1,zE2,zE3]
   refine tkH 7 (some 15) (.agg (pg9 k n0 c l e t (.slice po S pc) (.slice uo 32 uc) false).toArray) rfl rfl (Or.inl ⟨by rfl,fun w' hw'=>by rfl⟩) hS ?_
   simp only [Act.put,zE1,zE2,zE3]
   refine tkH 8 (some 16) (.int .i64 0) rfl rfl (Or.inl ⟨by rfl,fun w' hw'=>by rfl⟩) hS ?_
   simp only [Act.put,zE1,zE2,zE3]
   refine wpAnyH_ready (rs:=[9]) (by kernel_rfl) (by simp) ?_
   refine AllReadyH.cons rfl (fun K hK=>?_) AllReadyH.nil
   refine step_newC _ rfl (some 6) rfl 124 rfl Z9 zero_page ?_
   intro x3 v9 hb l9
   have HV:=hdH (v9)
   have LV:Hid (w1.heap.size≤x2.heap.size):=hS.size
   have HV4:=hdH (HV4.out.below hb (range_lt HV4.out.1 (Nat.succ_pos _)))
   have hS:Below w1.heap.size w1 x3:=hS.trans (hb.mono hS.size)
   clear v9 hb l9
   obtain ⟨gv,hg9⟩:∃ g,g=x2.heap.size:=⟨_,rfl⟩
   rw [←hg9] at HV LV ⊢
   clear hg9
   refine hK.out _ _ hS (fun _=>?_)
   simp only [Act.put,zE1,zE2,zE3]
   clear hK K
   refine wpAnyH_ready (rs:=[10]) (by kernel_rfl) (by simp) ?_
   refine AllReadyH.cons rfl (fun K hK=>?_) AllReadyH.nil
   refine step_storeC _ rfl none rfl (.tmp 6) (.tmp 15) 124 rfl gv Z9 (pg9 k n0 c l e t (.slice po S pc) (.slice uo 32 uc) false) rfl rfl HV.out rfl rowy_page.2 (pg9_one _ _ _ _ _ _ _ _ _ _ _ _ _) ?_
   intro x4 v9 B9
   have HP:=hdH (v9)
   have HV4:=hdH (HV4.out.below B9 (Nat.lt_of_lt_of_le L4.out LV.out))
   have hS:Below w1.heap.size w1 x4:=hS.trans (B9.mono LV.out)
   clear v9 B9
   refine hK.out _ _ hS (fun _=>?_)
   simp only [Act.put]
   clear hK K
   refine tkH 11 (some 7) (.int .i64 0) rfl rfl (Or.inl ⟨by rfl,fun w' hw'=>by rfl⟩) hS ?_
   simp only [Act.put,zE1,zE2,zE3]
   refine wpAnyH_done (by kernel_rfl) ?_ _
   go_wp2_with fail
   go_meet
   exact ⟨gv,po,pc,uo,uc,rfl,rfl,HP.out,HV4.out,Nat.ne_of_gt (Nat.lt_of_lt_of_le L4.out LV.out),BB.out.trans (hS.mono BB.out.size)⟩
  ·refine step_newC _ rfl (some 6) rfl 124 rfl Z9 zero_page ?_
   intro x5 v9 hb l9
   have HV:=hdH (v9)
   have LV:Hid (w1.heap.size≤x1.heap.size):=hS.size
   have HV4:=hdH (HV4.out.below hb (range_lt HV4.out.1 (Nat.succ_pos _)))
   have hS:Below w1.heap.size w1 x5:=hS.trans (hb.mono hS.size)
   clear v9 hb l9
   obtain ⟨gv,hg9⟩:∃ g,g=x1.heap.size:=⟨_,rfl⟩
   rw [←hg9] at HV LV ⊢
   clear hg9
   refine hK.out _ _ hS (fun _=>?_)
   simp only [Act.put,zE1,zE2,zE3]
   clear hK K
   refine wpAnyH_ready (rs:=[5]) (by kernel_rfl) (by simp) ?_
   refine AllReadyH.cons rfl (fun K hK=>?_) AllReadyH.nil
   refine step_callW _ (by rfl) (some 14) rfl 41 #[.tmp 9,.tmp 13] #[23,26] rfl (fun q w'=>by rfl) #[.agg ([.int .i64 g0,.int .i64 g1,.int .i64 (S:Int),.int .i64 g3,.int .i64 g4,.int .i64 g5]:List Value).toArray,.slice zo (S+88) zc] (by simp only [List.map_toArray,List.map_cons,List.map_nil];rfl) (fun z w'=>(∃ po pc uo uc,z=.tuple #[.agg (pg9 k n0 c l e t (.slice po S pc) (.slice uo 32 uc) false).toArray,.int .i64 0])∧Below x5.heap.size x5 w') ?_ ?_
   ·exact (SR.out x5 (BB.out.trans (hS.mono BB.out.size))).mono fun e w' ⟨po,pc,uo,uc,h1,h3⟩=>⟨_,h1,⟨po,pc,uo,uc,rfl⟩,h3⟩
   rintro _ x6 ⟨⟨po,pc,uo,uc,rfl⟩,hb⟩
   have HV4:=hdH (HV4.out.below hb (range_lt HV4.out.1 (Nat.succ_pos _)))
   have HV:=hdH (HV.out.below hb (range_lt HV.out.1 (Nat.succ_pos _)))
   have hS:Below w1.heap.size w1 x6:=hS.trans (hb.mono hS.size)
   clear hb
   refine hK.out _ _ hS (fun _=>?_)
   simp only [Act.put,zE1,zE2,zE3]
   clear hK K
   refine tkH 6 (some 8) (.tuple #[.agg (pg9 k n0 c l e t (.slice po S pc) (.slice uo 32 uc) false).toArray,.int .i64 0]) rfl rfl (Or.inl ⟨by rfl,fun w' hw'=>by rfl⟩) hS ?_
   simp only [Act.put,zE1,zE2,zE3]
   refine tkH 7 (some 15) (.agg (pg9 k n0 c l e t (.slice po S pc) (.slice uo 32 uc) false).toArray) rfl rfl (Or.inl ⟨by rfl,fun w' hw'=>by rfl⟩) hS ?_
   simp only [Act.put,zE1,zE2,zE3]
   refine tkH 8 (some 16) (.int .i64 0) rfl rfl (Or.inl ⟨by rfl,fun w' hw'=>by rfl⟩) hS ?_
   simp only [Act.put,zE1,zE2,zE3]
   refine wpAnyH_ready (rs:=[10]) (by kernel_rfl) (by simp) ?_
   refine AllReadyH.cons rfl (fun K hK=>?_) AllReadyH.nil
   refine step_storeC _ rfl none rfl (.tmp 6) (.tmp 15) 124 rfl gv Z9 (pg9 k n0 c l e t (.slice po S pc) (.slice uo 32 uc) false) rfl rfl HV.out rfl rowy_page.2 (pg9_one _ _ _ _ _ _ _ _ _ _ _ _ _) ?_
   intro x7 v9 B9
   have HP:=hdH (v9)
   have HV4:=hdH (HV4.out.below B9 (Nat.lt_of_lt_of_le L4.out LV.out))
   have hS:Below w1.heap.size w1 x7:=hS.trans (B9.mono LV.out)
   clear v9 B9
   refine hK.out _ _ hS (fun _=>?_)
   simp only [Act.put]
   clear hK K
   refine tkH 11 (some 7) (.int .i64 0) rfl rfl (Or.inl ⟨by rfl,fun w' hw'=>by rfl⟩) hS ?_
   simp only [Act.put,zE1,zE2,zE3]
   refine wpAnyH_done (by kernel_rfl) ?_ _
   go_wp2_with fail
   go_meet
   exact ⟨gv,po,pc,uo,uc,rfl,rfl,HP.out,HV4.out,Nat.ne_of_gt (Nat.lt_of_lt_of_le L4.out LV.out),BB.out.trans (hS.mono BB.out.size)⟩
 case rest=>
  obtain ⟨gv,po,pc,uo,uc,rfl,rfl,h1,h2,h3,h4⟩:=hcut
  have HP:=hdH (h1)
  have HV4:=hdH (h2)
  have NE:=hdH (h3)
  have BB:=hdH (h4)
  clear h1 h2 h3 h4
  go_wp2_with fail
  have HV4:Hid (Vr wc.drew w.heap.size (hv 0 0 0 0 0 0)):=HV4.out.drewN 1
  have BB:Hid (Below w.heap.size w wc.drew):=BB.out.drew
  refine wp_region_held_drew (S:=fun w'=>w'.rangeAt gv 0 (pg9 k n0 c l e t (.slice po S pc) (.slice uo 32 uc) false)) (by kernel_rfl) HP.out.1 (fun hS=>?_)
  obtain ⟨y1,hx0⟩:∃ x,x=wc.drew:=⟨_,rfl⟩
  rw [←hx0] at hS HV4 BB ⊢
  clear hx0
  refine tkH 0 (some 17) (.pointer (some ⟨gv,0,none⟩)) rfl rfl (Or.inl ⟨by rfl,fun w' hw'=>by go_simp⟩) hS ?_
  simp only [Act.put,zE1,zE2,zE3]
  refine tkH 1 (some 18) (.agg (hv k n0 c l e t).toArray) rfl rfl (Or.inl ⟨by rfl,fun w' hw'=>by exact exec_loadN 64 (.tmp 17) rfl _ rfl _ _ (load_cells rowy_head (pg_head hw'))⟩) hS ?_
  simp only [Act.put,zE1,zE2,zE3]
  refine tkH 2 (some 19) (.int .i64 0) rfl rfl (Or.inl ⟨by rfl,fun w' hw'=>by rfl⟩) hS ?_
  simp only [Act.put,zE1,zE2,zE3]
  refine tkH 3 (some 20) (.bool true) rfl rfl (Or.inl ⟨by rfl,fun w' hw'=>by go_simp⟩) hS ?_
  simp only [Act.put,zE1,zE2,zE3]
  refine tkH 4 (some 21) (.bool true) rfl rfl (Or.inl ⟨by rfl,fun w' hw'=>by rfl⟩) hS ?_
  simp only [Act.put,zE1,zE2,zE3]
  refine tkH 5 (some 22) (.pointer (some ⟨gv,8,none⟩)) rfl rfl (Or.inl ⟨by rfl,fun w' hw'=>by go_simp⟩) hS ?_
  simp only [Act.put,zE1,zE2,zE3]
  refine tkH 6 (some 23) (.bool false) rfl rfl (Or.inl ⟨by rfl,fun w' hw'=>by exact exec_loadN 4 (.tmp 22) rfl _ rfl _ _ (load_one one_bool (pg_done hw'))⟩) hS ?_
  simp only [Act.put,zE1,zE2,zE3]
  refine tkH 7 (some 24) (.bool false) rfl rfl (Or.inl ⟨by rfl,fun w' hw'=>by rfl⟩) hS ?_
  simp only [Act.put,zE1,zE2,zE3]
  refine wpAnyH_ready (rs:=[8]) (by kernel_rfl) (by simp) ?_
  refine AllReadyH.cons rfl (fun K hK=>?_) AllReadyH.nil
  refine step_storeK _ rfl none rfl (.tmp 4) (.tmp 18) 64 rfl w.heap.size (hv 0 0 0 0 0 0) (hv k n0 c l e t) rfl rfl HV4.out rfl rowy_head.2 (hv_one _ _ _ _ _ _) ?_
  intro y2 v9 B9 K9
  have HF:=hdH (v9)
  have BB:=hdH (BB.out.trans B9)
  have hS:y2.rangeAt gv 0 (pg9 k n0 c l e t (.slice po S pc) (.slice uo 32 uc) false):=range_heap hS (K9 _ NE.out)
  clear v9 B9 K9
  refine hK.out _ _ hS (fun _=>?_)
  simp only [Act.put]
  clear hK K
  refine tkH 9 (some 5) (.bool false) rfl rfl (Or.inl ⟨by rfl,fun w' hw'=>by rfl⟩) hS ?_
  simp only [Act.put,zE1,zE2,zE3]
  refine wpAnyH_done (by kernel_rfl) ?_ _
  go_wp2
  exact bodyPost_ret (v:=.tuple #[.agg (hv k n0 c l e t).toArray,.bool false]) (results_cv rfl _ _ w.heap.size _ _ rowy_head rfl rfl HF.out.1) rfl ⟨rfl,BB.out⟩
theorem clo_yes (g0 g1 g3 g4 g5:Int) (S:Nat) (b off n cap i c3 c5:Nat) (z:Value) (xs:List Int) (w:World) (hr:ge.Rt [g0,g1,(S:Int),g3,g4,g5]) (hT:Tab w) (h3:Vr w c3 [.int .i64 g0,.int .i64 g1,.int .i64 (S:Int),.int .i64 g3,.int .i64 g4,.int .i64 g5]) (h5:Vr w c5 [.slice (some ⟨b,off,none⟩) n cap]) (hi:i<n) (hz:w.cell? ⟨b,off+i,none⟩=some z) (hb:Byt w z xs) (hl:xs.length=S+88) (ht:Tl (xs.drop S)) (hc:(xs.drop S).drop 80=List.replicate 8 0):
  Calls Tryz.prog 40 #[.int .i64 (i:Int),.pointer (some ⟨c3,0,none⟩),.pointer (some ⟨c5,0,none⟩)] w fun x w'=>x=.returned (.tuple #[.agg (hv (qk (xs.drop S)) (qn (xs.drop S)) (qc (xs.drop S)) (ql (xs.drop S)) (qe (xs.drop S)) (qt (xs.drop S))).toArray,.bool true])∧Below w.heap.size w w':=by
 have SR:Hid (∀ w0,Below w.heap.size w w0→Calls Tryz.prog 41 #[.agg (ints .i64 [g0,g1,(S:Int),g3,g4,g5]),z] w0 fun x w'=>∃ po pc uo uc,x=.returned (.tuple #[.agg (pg9 (qk (xs.drop S)) (qn (xs.drop S)) (qc (xs.drop S)) (ql (xs.drop S)) (qe (xs.drop S)) (qt (xs.drop S)) (.slice po S pc) (.slice uo 32 uc) true).toArray,.int .i64 0])∧Below w0.heap.size w0 w'):=fun w0 q=>(read_page g0 g1 g3 g4 g5 S z xs w0 (hb.below q) hr hl (hT.below q) ht).mono (by
  rintro _ w' ⟨po,pc,uo,uc,rfl, -, -,h⟩
  rw [decide_eq_true hc]
  exact ⟨po,pc,uo,uc,rfl,h⟩)
 generalize qk (xs.drop S)=k at SR ⊢
 generalize qn (xs.drop S)=n0 at SR ⊢
 generalize qc (xs.drop S)=c at SR ⊢
 generalize ql (xs.drop S)=l at SR ⊢
 generalize qe (xs.drop S)=e at SR ⊢
 generalize qt (xs.drop S)=t at SR ⊢
 have H3:Hid (Vr w c3 [.int .i64 g0,.int .i64 g1,.int .i64 (S:Int),.int .i64 g3,.int .i64 g4,.int .i64 g5]∧Vr w c5 [.slice (some ⟨b,off,none⟩) n cap]∧c3<w.heap.size∧c5<w.heap.size):=⟨h3,h5,range_lt h3.1 (Nat.succ_pos _),range_lt h5.1 (Nat.succ_pos _)⟩
 have HZ:Hid (w.cell? ⟨b,off+i,none⟩=some z∧b<w.heap.size):=⟨hz,World.block_lt_of_cell? _ _ hz⟩
 have HI:=hdH (hi)
 obtain ⟨zo,zc,rfl⟩:=byt_form hb hl
 clear hr hT h3 h5 hi hz hb hl hc ht
 have t0:=tR
 go_enter Tryz.func40,Tryz.ntmps40
 go_wp2_with (have q0:=t0;(with_reducible refine at_alloc ?_);refine new_lawC _ (hv 0 0 0 0 0 0) zero_head ?_;intro w1 X9 B9 l9;have HV4:=hdH (X9);have BB:=hdH (B9);clear X9 B9 l9 t0;have t1:=tR)
 have L4:Hid (w.heap.size<w1.heap.size):=range_lt HV4.out.1 (Nat.succ_pos _)
 go_cut [6,7] (fun r6 r7 wc=>∃ (gv:Nat) (po:Option Addr) (pc:Nat) (uo:Option Addr) (uc:Nat),r6=.pointer (some ⟨gv,0,none⟩)∧r7=.int .i64 0∧Vr wc gv (pg9 k n0 c l e t (.slice po S pc) (.slice uo 32 uc) true)∧Vr wc w.heap.size (hv 0 0 0 0 0 0)∧gv≠w.heap.size∧Below w.heap.size w wc)
 case first=>
  have HV4:Hid (Vr w1.drew w.heap.size (hv 0 0 0 0 0 0)):=HV4.out.drewN 1
  refine wp_region_held_drew (S:=fun w'=>Below w1.heap.size w1 w') (by kernel_rfl) (Below.refl _ _).drew (fun hS=>?_)
  obtain ⟨x1,hx0⟩:∃ x,x=w1.drew:=⟨_,rfl⟩
  rw [←hx0] at hS HV4 ⊢
  clear hx0
  refine tkH 0 (some 9) (.agg ([.int .i64 g0,.int .i64 g1,.int .i64 (S:Int),.int .i64 g3,.int .i64 g4,.int .i64 g5]:List Value).toArray) rfl rfl (Or.inl ⟨by rfl,fun w' hw'=>by exact exec_loadN 23 (.tmp 1) rfl _ rfl _ _ (load_cells rowy_geo6 (H3.out.1.below (BB.out.trans (hw'.mono BB.out.size)) H3.out.2.2.1).1)⟩) hS ?_
  simp only [Act.put,zE1,zE2,zE3]
  refine tkH 1 (some 10) (.slice (some ⟨b,off,none⟩) n cap) rfl rfl (Or.inl ⟨by rfl,fun w' hw'=>by exact exec_loadN 69 (.tmp 2) rfl _ rfl _ _ (load_one one_bytess ((H3.out.2.1.below (BB.out.trans (hw'.mono BB.out.size)) H3.out.2.2.2).cell 0 _ rfl))⟩) hS ?_
  simp only [Act.put,zE1,zE2,zE3]
  refine tkH 2 (some 11) (.int .i64 (i:Int)) rfl rfl (Or.inl ⟨by rfl,fun w' hw'=>by rfl⟩) hS ?_
  simp only [Act.put,zE1,zE2,zE3]
  refine tkH 3 (some 12) (.pointer (some ⟨b,off+i,none⟩)) rfl rfl (Or.inl ⟨by rfl,fun w' hw'=>by exact exec_idxR (.tmp 10) (.tmp 11) rfl b off n cap i rfl rfl HI.out _⟩) hS ?_
  simp only [Act.put,zE1,zE2,zE3]
  refine tkH 4 (some 13) (.slice zo (S+88) zc) rfl rfl (Or.inl ⟨by rfl,fun w' hw'=>by exact exec_loadN 26 (.tmp 12) rfl _ rfl _ _ (load_one one_bytes (by rw [(BB.out.trans (hw'.mono BB.out.size)).cell HZ.out.2];exact HZ.out.1))⟩) hS ?_
  simp only [Act.put,zE1,zE2,zE3]
  refine wpAnyH_ready (rs:=[5,9]) (by kernel_rfl) (by simp) ?_
  refine AllReadyH.cons rfl (fun K hK=>?_) (AllReadyH.cons rfl (fun K hK=>?_) AllReadyH.nil)
  ·refine step_callW _ (by rfl) (some 14) rfl 41 #[.tmp 9,.tmp 13] #[23,26] rfl (fun q w'=>by rfl) #[.agg ([.int .i64 g0,.int .i64 g1,.int .i64 (S:Int),.int .i64 g3,.int .i64 g4,.int .i64 g5]:List Value).toArray,.slice zo (S+88) zc] (by simp only [List.map_toArray,List.map_cons,List.map_nil];rfl) (fun z w'=>(∃ po pc uo uc,z=.tuple #[.agg (pg9 k n0 c l e t (.slice po S pc) (.slice uo 32 uc) true).toArray,.int .i64 0])∧Below x1.heap.size x1 w') ?_ ?_
   ·exact (SR.out x1 (BB.out.trans (hS.mono BB.out.size))).mono fun e w' ⟨po,pc,uo,uc,h1,h3⟩=>⟨_,h1,⟨po,pc,uo,uc,rfl⟩,h3⟩
   rintro _ x2 ⟨⟨po,pc,uo,uc,rfl⟩,hb⟩
   have HV4:=hdH (HV4.out.below hb (range_lt HV4.out.1 (Nat.succ_pos _)))
   have hS:Below w1.heap.size w1 x2:=hS.trans (hb.mono hS.size)
   clear hb
   refine hK.out _ _ hS (fun _=>?_)
   simp only [Act.put,zE1,zE2,zE3]
   clear hK K
   refine tkH 6 (some 8) (.tuple #[.agg (pg9 k n0 c l e t (.slice po S pc) (.slice uo 32 uc) true).toArray,.int .i64 0]) rfl rfl (Or.inl ⟨by rfl,fun w' hw'=>by rfl⟩) hS ?_
   simp only [Act.put,zE1,zE2,zE3]
   refine tkH 7 (some 15) (.agg (pg9 k n0 c l e t (.slice po S pc) (.slice uo 32 uc) true).toArray) rfl rfl (Or.inl ⟨by rfl,fun w' hw'=>by rfl⟩) hS ?_
   simp only [Act.put,zE1,zE2,zE3]
   refine tkH 8 (some 16) (.int .i64 0) rfl rfl (Or.inl ⟨by rfl,fun w' hw'=>by rfl⟩) hS ?_
   simp only [Act.put,zE1,zE2,zE3]
   refine wpAnyH_ready (rs:=[9]) (by kernel_rfl) (by simp) ?_
   refine AllReadyH.cons rfl (fun K hK=>?_) AllReadyH.nil
   refine step_newC _ rfl (some 6) rfl 124 rfl Z9 zero_page ?_
   intro x3 v9 hb l9
   have HV:=hdH (v9)
   have LV:Hid (w1.heap.size≤x2.heap.size):=hS.size
   have HV4:=hdH (HV4.out.below hb (range_lt HV4.out.1 (Nat.succ_pos _)))
   have hS:Below w1.heap.size w1 x3:=hS.trans (hb.mono hS.size)
   clear v9 hb l9
   obtain ⟨gv,hg9⟩:∃ g,g=x2.heap.size:=⟨_,rfl⟩
   rw [←hg9] at HV LV ⊢
   clear hg9
   refine hK.out _ _ hS (fun _=>?_)
   simp only [Act.put,zE1,zE2,zE3]
   clear hK K
   refine wpAnyH_ready (rs:=[10]) (by kernel_rfl) (by simp) ?_
   refine AllReadyH.cons rfl (fun K hK=>?_) AllReadyH.nil
   refine step_storeC _ rfl none rfl (.tmp 6) (.tmp 15) 124 rfl gv Z9 (pg9 k n0 c l e t (.slice po S pc) (.slice uo 32 uc) true) rfl rfl HV.out rfl rowy_page.2 (pg9_one _ _ _ _ _ _ _ _ _ _ _ _ _) ?_
   intro x4 v9 B9
   have HP:=hdH (v9)
   have HV4:=hdH (HV4.out.below B9 (Nat.lt_of_lt_of_le L4.out LV.out))
   have hS:Below w1.heap.size w1 x4:=hS.trans (B9.mono LV.out)
   clear v9 B9
   refine hK.out _ _ hS (fun _=>?_)
   simp only [Act.put]
   clear hK K
   refine tkH 11 (some 7) (.int .i64 0) rfl rfl (Or.inl ⟨by rfl,fun w' hw'=>by rfl⟩) hS ?_
   simp only [Act.put,zE1,zE2,zE3]
   refine wpAnyH_done (by kernel_rfl) ?_ _
   go_wp2_with fail
   go_meet
   exact ⟨gv,po,pc,uo,uc,rfl,rfl,HP.out,HV4.out,Nat.ne_of_gt (Nat.lt_of_lt_of_le L4.out LV.out),BB.out.trans (hS.mono BB.out.size)⟩
  ·refine step_newC _ rfl (some 6) rfl 124 rfl Z9 zero_page ?_
   intro x5 v9 hb l9
   have HV:=hdH (v9)
   have LV:Hid (w1.heap.size≤x1.heap.size):=hS.size
   have HV4:=hdH (HV4.out.below hb (range_lt HV4.out.1 (Nat.succ_pos _)))
   have hS:Below w1.heap.size w1 x5:=hS.trans (hb.mono hS.size)
   clear v9 hb l9
   obtain ⟨gv,hg9⟩:∃ g,g=x1.heap.size:=⟨_,rfl⟩
   rw [←hg9] at HV LV ⊢
   clear hg9
   refine hK.out _ _ hS (fun _=>?_)
   simp only [Act.put,zE1,zE2,zE3]
   clear hK K
   refine wpAnyH_ready (rs:=[5]) (by kernel_rfl) (by simp) ?_
   refine AllReadyH.cons rfl (fun K hK=>?_) AllReadyH.nil
   refine step_callW _ (by rfl) (some 14) rfl 41 #[.tmp 9,.tmp 13] #[23,26] rfl (fun q w'=>by rfl) #[.agg ([.int .i64 g0,.int .i64 g1,.int .i64 (S:Int),.int .i64 g3,.int .i64 g4,.int .i64 g5]:List Value).toArray,.slice zo (S+88) zc] (by simp only [List.map_toArray,List.map_cons,List.map_nil];rfl) (fun z w'=>(∃ po pc uo uc,z=.tuple #[.agg (pg9 k n0 c l e t (.slice po S pc) (.slice uo 32 uc) true).toArray,.int .i64 0])∧Below x5.heap.size x5 w') ?_ ?_
   ·exact (SR.out x5 (BB.out.trans (hS.mono BB.out.size))).mono fun e w' ⟨po,pc,uo,uc,h1,h3⟩=>⟨_,h1,⟨po,pc,uo,uc,rfl⟩,h3⟩
   rintro _ x6 ⟨⟨po,pc,uo,uc,rfl⟩,hb⟩
   have HV4:=hdH (HV4.out.below hb (range_lt HV4.out.1 (Nat.succ_pos _)))
   have HV:=hdH (HV.out.below hb (range_lt HV.out.1 (Nat.succ_pos _)))
   have hS:Below w1.heap.size w1 x6:=hS.trans (hb.mono hS.size)
   clear hb
   refine hK.out _ _ hS (fun _=>?_)
   simp only [Act.put,zE1,zE2,zE3]
   clear hK K
   refine tkH 6 (some 8) (.tuple #[.agg (pg9 k n0 c l e t (.slice po S pc) (.slice uo 32 uc) true).toArray,.int .i64 0]) rfl rfl (Or.inl ⟨by rfl,fun w' hw'=>by rfl⟩) hS ?_
   simp only [Act.put,zE1,zE2,zE3]
   refine tkH 7 (some 15) (.agg (pg9 k n0 c l e t (.slice po S pc) (.slice uo 32 uc) true).toArray) rfl rfl (Or.inl ⟨by rfl,fun w' hw'=>by rfl⟩) hS ?_
   simp only [Act.put,zE1,zE2,zE3]
   refine tkH 8 (some 16) (.int .i64 0) rfl rfl (Or.inl ⟨by rfl,fun w' hw'=>by rfl⟩) hS ?_
   simp only [Act.put,zE1,zE2,zE3]
   refine wpAnyH_ready (rs:=[10]) (by kernel_rfl) (by simp) ?_
   refine AllReadyH.cons rfl (fun K hK=>?_) AllReadyH.nil
   refine step_storeC _ rfl none rfl (.tmp 6) (.tmp 15) 124 rfl gv Z9 (pg9 k n0 c l e t (.slice po S pc) (.slice uo 32 uc) true) rfl rfl HV.out rfl rowy_page.2 (pg9_one _ _ _ _ _ _ _ _ _ _ _ _ _) ?_
   intro x7 v9 B9
   have HP:=hdH (v9)
   have HV4:=hdH (HV4.out.below B9 (Nat.lt_of_lt_of_le L4.out LV.out))
   have hS:Below w1.heap.size w1 x7:=hS.trans (B9.mono LV.out)
   clear v9 B9
   refine hK.out _ _ hS (fun _=>?_)
   simp only [Act.put]
   clear hK K
   refine tkH 11 (some 7) (.int .i64 0) rfl rfl (Or.inl ⟨by rfl,fun w' hw'=>by rfl⟩) hS ?_
   simp only [Act.put,zE1,zE2,zE3]
   refine wpAnyH_done (by kernel_rfl) ?_ _
   go_wp2_with fail
   go_meet
   exact ⟨gv,po,pc,uo,uc,rfl,rfl,HP.out,HV4.out,Nat.ne_of_gt (Nat.lt_of_lt_of_le L4.out LV.out),BB.out.trans (hS.mono BB.out.size)⟩
 case rest=>
  obtain ⟨gv,po,pc,uo,uc,rfl,rfl,h1,h2,h3,h4⟩:=hcut
  have HP:=hdH (h1)
  have HV4:=hdH (h2)
  have NE:=hdH (h3)
  have BB:=hdH (h4)
  clear h1 h2 h3 h4
  go_wp2_with fail
  have HV4:Hid (Vr wc.drew w.heap.size (hv 0 0 0 0 0 0)):=HV4.out.drewN 1
  have BB:Hid (Below w.heap.size w wc.drew):=BB.out.drew
  refine wp_region_held_drew (S:=fun w'=>w'.rangeAt gv 0 (pg9 k n0 c l e t (.slice po S pc) (.slice uo 32 uc) true)) (by kernel_rfl) HP.out.1 (fun hS=>?_)
  obtain ⟨y1,hx0⟩:∃ x,x=wc.drew:=⟨_,rfl⟩
  rw [←hx0] at hS HV4 BB ⊢
  clear hx0
  refine tkH 0 (some 17) (.pointer (some ⟨gv,0,none⟩)) rfl rfl (Or.inl ⟨by rfl,fun w' hw'=>by go_simp⟩) hS ?_
  simp only [Act.put,zE1,zE2,zE3]
  refine tkH 1 (some 18) (.agg (hv k n0 c l e t).toArray) rfl rfl (Or.inl ⟨by rfl,fun w' hw'=>by exact exec_loadN 64 (.tmp 17) rfl _ rfl _ _ (load_cells rowy_head (pg_head hw'))⟩) hS ?_
  simp only [Act.put,zE1,zE2,zE3]
  refine tkH 2 (some 19) (.int .i64 0) rfl rfl (Or.inl ⟨by rfl,fun w' hw'=>by rfl⟩) hS ?_
  simp only [Act.put,zE1,zE2,zE3]
  refine tkH 3 (some 20) (.bool true) rfl rfl (Or.inl ⟨by rfl,fun w' hw'=>by go_simp⟩) hS ?_
  simp only [Act.put,zE1,zE2,zE3]
  refine tkH 4 (some 21) (.bool true) rfl rfl (Or.inl ⟨by rfl,fun w' hw'=>by rfl⟩) hS ?_
  simp only [Act.put,zE1,zE2,zE3]
  refine tkH 5 (some 22) (.pointer (some ⟨gv,8,none⟩)) rfl rfl (Or.inl ⟨by rfl,fun w' hw'=>by go_simp⟩) hS ?_
  simp only [Act.put,zE1,zE2,zE3]
  refine tkH 6 (some 23) (.bool true) rfl rfl (Or.inl ⟨by rfl,fun w' hw'=>by exact exec_loadN 4 (.tmp 22) rfl _ rfl _ _ (load_one one_bool (pg_done hw'))⟩) hS ?_
  simp only [Act.put,zE1,zE2,zE3]
  refine tkH 7 (some 24) (.bool true) rfl rfl (Or.inl ⟨by rfl,fun w' hw'=>by rfl⟩) hS ?_
  simp only [Act.put,zE1,zE2,zE3]
  refine wpAnyH_ready (rs:=[8]) (by kernel_rfl) (by simp) ?_
  refine AllReadyH.cons rfl (fun K hK=>?_) AllReadyH.nil
  refine step_storeK _ rfl none rfl (.tmp 4) (.tmp 18) 64 rfl w.heap.size (hv 0 0 0 0 0 0) (hv k n0 c l e t) rfl rfl HV4.out rfl rowy_head.2 (hv_one _ _ _ _ _ _) ?_
  intro y2 v9 B9 K9
  have HF:=hdH (v9)
  have BB:=hdH (BB.out.trans B9)
  have hS:y2.rangeAt gv 0 (pg9 k n0 c l e t (.slice po S pc) (.slice uo 32 uc) true):=range_heap hS (K9 _ NE.out)
  clear v9 B9 K9
  refine hK.out _ _ hS (fun _=>?_)
  simp only [Act.put]
  clear hK K
  refine tkH 9 (some 5) (.bool true) rfl rfl (Or.inl ⟨by rfl,fun w' hw'=>by rfl⟩) hS ?_
  simp only [Act.put,zE1,zE2,zE3]
  refine wpAnyH_done (by kernel_rfl) ?_ _
  go_wp2
  exact bodyPost_ret (v:=.tuple #[.agg (hv k n0 c l e t).toArray,.bool true]) (results_cv rfl _ _ w.heap.size _ _ rowy_head rfl rfl HF.out.1) rfl ⟨rfl,BB.out⟩
end Go.Proofs.YtmbgokmomkmgcaaGreatDoor.sc
