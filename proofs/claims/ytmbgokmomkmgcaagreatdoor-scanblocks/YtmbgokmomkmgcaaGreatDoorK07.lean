/- Parts of the proof: what ScanBlocks reaches. No claim of its own. -/
import Derived.Laws.AppendOwnNone
import Derived.WalkKit
import Derived.WalkSmall
import Derived.ProofKit
import Derived.OpenShut
import Derived.BigQuiet
import Derived.Deep.QuietTactic
import Derived.Deep.RegionHeld3
import Derived.Lib.AppendZeros
import Derived.Lib.SliceRun
import Derived.Deep.WholeRow
import Derived.Deep.MidRow
import Derived.Laws.StructEq
import Derived.Deep.DeepCutAuto
import Derived.Test.YtmbgokmomkmgcaaGreatDoorK00
import Derived.Test.YtmbgokmomkmgcaaGreatDoorK01
import Derived.Test.YtmbgokmomkmgcaaGreatDoorK02
import Derived.Test.YtmbgokmomkmgcaaGreatDoorK03
import Derived.Test.YtmbgokmomkmgcaaGreatDoorK04
import Derived.Test.YtmbgokmomkmgcaaGreatDoorK06
set_option maxHeartbeats 8000000
namespace Go.Proofs.YtmbgokmomkmgcaaGreatDoor.he
open Go.RowKit Go.Proofs.YtmbgokmomkmgcaaGreatDoor.fa
set_option maxRecDepth 20000
theorem exec_idx {ev:Operand→Value} {o:Oper} (x y:Operand) (hop:o.op=Op.indexAddr 26 x y) (b off n cap i:Nat) (hx:ev x=.slice (some ⟨b,off,none⟩) n cap) (hy:ev y=.int .i64 (i:Int)) (hi:i<n) (w:World):(execOp ev o).run Tryz.prog w=.ok (.value (.pointer (some ⟨b,off+i,none⟩))) w:=by
 have hr:(Instr.indexAt 26 (.slice (some ⟨b,off,none⟩) n cap) (.int .i64 (i:Int))).run Tryz.prog w=.ok (.pointer (some ⟨b,off+i,none⟩)) w:=by
  rw [run_indexAt_slice _ _ _ _ _ _ _ und_bytes,if_pos (by omega),elem_bytes,run_size_u8]
  simp [Result.andThen,Addr.add]
 unfold execOp
 simp only [hop,hx,hy,Sem.run_bind,Sem.run_pure,Result.andThen_ok,hr]
theorem rread_a (v:Value) (xs:List Int) (w:World) (hb:Byt w v xs) (hl:xs.length=88) (hr:¬Rh (qk xs) (qn xs) (qc xs)):
  Calls Tryz.prog 83 #[v] w fun x w'=>x=.returned (.tuple #[.agg (hv 0 0 0 0 0 0).toArray,.bool false])∧Below w.heap.size w w':=by
 have ha:=hb.all
 have HB:=hdH (hb)
 have HL:=hdH (hl)
 have b0:=ha 0
 have b1:=ha 1
 have b2:=ha 2
 have bl:=(be_num4 (xs:=sub xs 4 8) (by rw [sub_len _ _ _ (by omega)]) (allB_sub ha 4 8)).2
 have be':=(be_num8 (xs:=sub xs 8 16) (by rw [sub_len _ _ _ (by omega)]) (allB_sub ha 8 16)).2
 have bt':=(be_num8 (xs:=sub xs 16 24) (by rw [sub_len _ _ _ (by omega)]) (allB_sub ha 16 24)).2
 have k0:IntKind.i64.wrap (gb xs 0)=gb xs 0:=by rw [IntKind.wrap_i64];omega
 have k1:IntKind.i64.wrap (gb xs 1)=gb xs 1:=by rw [IntKind.wrap_i64];omega
 have k2:IntKind.i64.wrap (gb xs 2)=gb xs 2:=by rw [IntKind.wrap_i64];omega
 have k3:IntKind.u32.wrap (ql xs)=ql xs:=by
  rw [IntKind.wrap_u32]
  unfold ql
  omega
 obtain ⟨ao,cap,hv',c1,c2, -, -,h5⟩:=hb
 rw [hl] at hv' c1
 obtain ⟨bb,bo,hao,hc⟩:=h5 (by omega)
 subst hao
 subst hv'
 have HC:Hid (∀ i,i<88→∀ w',Below w.heap.size w w'→w'.cell? ⟨bb,bo+i,none⟩=some (.int .u8 (gb xs i))):=fun i hi w' hw=>by
  have z:=hc i (by omega)
  rw [hw.cell (World.block_lt_of_cell? w _ z)];exact z
 have C0:Hid (∀ w',Below w.heap.size w w'→w'.cell? ⟨bb,bo+0,none⟩=some (.int .u8 (gb xs 0))):=HC.out 0 (by omega)
 have C1:Hid (∀ w',Below w.heap.size w w'→w'.cell? ⟨bb,bo+1,none⟩=some (.int .u8 (gb xs 1))):=HC.out 1 (by omega)
 have C2:Hid (∀ w',Below w.heap.size w w'→w'.cell? ⟨bb,bo+2,none⟩=some (.int .u8 (gb xs 2))):=HC.out 2 (by omega)
 have SN:∀ a b,a≤b→b≤88→∀ w',Below w.heap.size w w'→Calls Tryz.prog 124 #[sl (.slice (some ⟨bb,bo,none⟩) 88 cap) a b] w' fun e w''=>e=.returned (.int .u64 (num (last8 (sub xs a b))))∧Below w'.heap.size w' w'':=fun a b h1 h2 w' q=>rnum_any _ _ w' (sl_sub (HB.out.below q) a b h1 (by omega)) (by rw [sub_len _ _ _ (by omega)];omega)
 have N4:Hid (∀ w',Below w.heap.size w w'→Calls Tryz.prog 124 #[sl (.slice (some ⟨bb,bo,none⟩) 88 cap) 4 8] w' fun e w''=>e=.returned (.int .u64 (ql xs))∧Below w'.heap.size w' w''):=SN 4 8 (by omega) (by omega)
 have N8:Hid (∀ w',Below w.heap.size w w'→Calls Tryz.prog 124 #[sl (.slice (some ⟨bb,bo,none⟩) 88 cap) 8 16] w' fun e w''=>e=.returned (.int .u64 (qe xs))∧Below w'.heap.size w' w''):=SN 8 16 (by omega) (by omega)
 have N16:Hid (∀ w',Below w.heap.size w w'→Calls Tryz.prog 124 #[sl (.slice (some ⟨bb,bo,none⟩) 88 cap) 16 24] w' fun e w''=>e=.returned (.int .u64 (qt xs))∧Below w'.heap.size w' w''):=SN 16 24 (by omega) (by omega)
 have SR:Hid (∀ w,Calls Tryz.prog 16 #[.agg (hv (qk xs) (qn xs) (qc xs) (ql xs) (qe xs) (qt xs)).toArray] w fun x w'=>x=.returned (.bool false)∧Below w.heap.size w w'):=fun w=>right_any _ _ _ _ _ _ w false (by
  have q:¬(1≤qk xs∧qk xs≤4∧0≤qn xs∧qn xs≤255∧0≤qc xs∧qc xs≤255):=hr
  exact (decide_eq_false q).symm)
 clear hr bl be' bt' b0 b1 b2
 simp only [qk,qn,qc] at*
 generalize gb xs 0=n0 at*
 generalize gb xs 1=n1 at*
 generalize gb xs 2=n2 at*
 generalize ql xs=l at*
 generalize qe xs=e at*
 generalize qt xs=t at*
 clear ha hl SN HC hc h5 c1 c2
 have t0:=tR
 go_enter Tryz.func83,Tryz.ntmps83
 go_wp2_with (have q0:=t0;refine new_lawC _ (hv 0 0 0 0 0 0) zero_head ?_;intro w1 V1 B1 s1;have HR:=hdH (V1);clear V1 t0)
 have HR:Hid (Vr w1.drew w.heap.size (hv 0 0 0 0 0 0)):=HR.out.drewN 1
 have hW9:Hid (w.heap.size<w1.drew.heap.size):=s1
 refine wp_region_held_drew (S:=fun w'=>Below w.heap.size w w') (by kernel_rfl) B1.drew (fun hS=>?_)
 obtain ⟨x1,hx0⟩:∃ x,x=w1.drew:=⟨_,rfl⟩
 rw [←hx0] at hS HR hW9 ⊢
 clear hx0
 refine tkH 0 (some 5) (.slice (some ⟨bb,bo,none⟩) 88 cap) rfl rfl (Or.inl ⟨by rfl,fun w' hw'=>by rfl⟩) hS ?_
 simp only [Act.put,zE1,zE2,zE3]
 refine tkH 1 (some 6) (.pointer (some ⟨bb,bo+0,none⟩)) rfl rfl (Or.inl ⟨by rfl,fun w' hw'=>by exact exec_idx (.tmp 5) (.const (.int .i64 0)) rfl bb bo 88 cap 0 rfl rfl (by omega) _⟩) hS ?_
 simp only [Act.put,zE1,zE2,zE3]
 refine tkH 2 (some 7) (.int .u8 n0) rfl rfl (Or.inl ⟨by rfl,fun w' hw'=>by exact exec_loadN 5 (.tmp 6) rfl _ rfl _ _ (ld_u8 (C0.out _ hw'))⟩) hS ?_
 simp only [Act.put,zE1,zE2,zE3]
 refine tkH 3 (some 8) (.int .i64 n0) rfl rfl (Or.inl ⟨by rfl,fun w' hw'=>by go_simp⟩) hS ?_
 simp only [Act.put,zE1,zE2,zE3]
 refine tkH 4 (some 9) (.slice (some ⟨bb,bo,none⟩) 88 cap) rfl rfl (Or.inl ⟨by rfl,fun w' hw'=>by rfl⟩) hS ?_
 simp only [Act.put,zE1,zE2,zE3]
 refine tkH 5 (some 10) (.pointer (some ⟨bb,bo+1,none⟩)) rfl rfl (Or.inl ⟨by rfl,fun w' hw'=>by exact exec_idx (.tmp 9) (.const (.int .i64 1)) rfl bb bo 88 cap 1 rfl rfl (by omega) _⟩) hS ?_
 simp only [Act.put,zE1,zE2,zE3]
 refine tkH 6 (some 11) (.int .u8 n1) rfl rfl (Or.inl ⟨by rfl,fun w' hw'=>by exact exec_loadN 5 (.tmp 10) rfl _ rfl _ _ (ld_u8 (C1.out _ hw'))⟩) hS ?_
 simp only [Act.put,zE1,zE2,zE3]
 refine tkH 7 (some 12) (.int .i64 n1) rfl rfl (Or.inl ⟨by rfl,fun w' hw'=>by go_simp⟩) hS ?_
 simp only [Act.put,zE1,zE2,zE3]
 refine tkH 8 (some 13) (.slice (some ⟨bb,bo,none⟩) 88 cap) rfl rfl (Or.inl ⟨by rfl,fun w' hw'=>by rfl⟩) hS ?_
 simp only [Act.put,zE1,zE2,zE3]
 refine tkH 9 (some 14) (.pointer (some ⟨bb,bo+2,none⟩)) rfl rfl (Or.inl ⟨by rfl,fun w' hw'=>by exact exec_idx (.tmp 13) (.const (.int .i64 2)) rfl bb bo 88 cap 2 rfl rfl (by omega) _⟩) hS ?_
 simp only [Act.put,zE1,zE2,zE3]
 refine tkH 10 (some 15) (.int .u8 n2) rfl rfl (Or.inl ⟨by rfl,fun w' hw'=>by exact exec_loadN 5 (.tmp 14) rfl _ rfl _ _ (ld_u8 (C2.out _ hw'))⟩) hS ?_
 simp only [Act.put,zE1,zE2,zE3]
 refine tkH 11 (some 16) (.int .i64 n2) rfl rfl (Or.inl ⟨by rfl,fun w' hw'=>by go_simp⟩) hS ?_
 simp only [Act.put,zE1,zE2,zE3]
 refine tkH 12 (some 17) (.slice (some ⟨bb,bo,none⟩) 88 cap) rfl rfl (Or.inl ⟨by rfl,fun w' hw'=>by rfl⟩) hS ?_
 simp only [Act.put,zE1,zE2,zE3]
 refine tkH 13 (some 18) (sl (.slice (some ⟨bb,bo,none⟩) 88 cap) 4 8) rfl rfl (Or.inl ⟨by rfl,fun w' hw'=>by exact exec_part (.tmp 17) (.const (.int .i64 4)) (.const (.int .i64 8)) rfl _ xs _ HB.out 4 8 rfl rfl rfl (by omega) (by have:=HL.out;omega) _⟩) hS ?_
 simp only [Act.put,zE1,zE2,zE3]
 refine tkH 16 (some 21) (.slice (some ⟨bb,bo,none⟩) 88 cap) rfl rfl (Or.inl ⟨by rfl,fun w' hw'=>by rfl⟩) hS ?_
 simp only [Act.put,zE1,zE2,zE3]
 refine tkH 17 (some 22) (sl (.slice (some ⟨bb,bo,none⟩) 88 cap) 8 16) rfl rfl (Or.inl ⟨by rfl,fun w' hw'=>by exact exec_part (.tmp 21) (.const (.int .i64 8)) (.const (.int .i64 16)) rfl _ xs _ HB.out 8 16 rfl rfl rfl (by omega) (by have:=HL.out;omega) _⟩) hS ?_
 simp only [Act.put,zE1,zE2,zE3]
 refine tkH 19 (some 24) (.slice (some ⟨bb,bo,none⟩) 88 cap) rfl rfl (Or.inl ⟨by rfl,fun w' hw'=>by rfl⟩) hS ?_
 simp only [Act.put,zE1,zE2,zE3]
 refine tkH 20 (some 25) (sl (.slice (some ⟨bb,bo,none⟩) 88 cap) 16 24) rfl rfl (Or.inl ⟨by rfl,fun w' hw'=>by exact exec_part (.tmp 24) (.const (.int .i64 16)) (.const (.int .i64 24)) rfl _ xs _ HB.out 16 24 rfl rfl rfl (by omega) (by have:=HL.out;omega) _⟩) hS ?_
 simp only [Act.put,zE1,zE2,zE3]
 refine wpAnyH_ready (rs:=[14,23]) (by kernel_rfl) (by simp) ?_
 refine AllReadyH.cons rfl (fun K hK=>?_) (AllReadyH.cons rfl (fun K hK=>?_) AllReadyH.nil)
 ·refine step_callW _ (by rfl) (some 19) rfl 124 #[.tmp 18] #[26] rfl (fun q w'=>by rfl) #[sl (.slice (some ⟨bb,bo,none⟩) 88 cap) 4 8] (by simp only [List.map_toArray,List.map_cons,List.map_nil];rfl) (fun u w'=>(u=.int .u64 l)∧Below x1.heap.size x1 w') ?_ ?_
  ·exact (N4.out x1 hS).mono fun e w' ⟨h1,h2⟩=>⟨_,h1,rfl,h2⟩
  rintro _ x2 ⟨rfl,hb⟩
  have HR:=hdH (HR.out.below hb (range_lt HR.out.1 (by simp [hv])))
  have hW9:Hid (w.heap.size<x2.heap.size):=Nat.lt_of_lt_of_le hW9.out hb.size
  have hS:Below w.heap.size w x2:=hS.trans (hb.mono hS.size)
  clear hb
  refine hK.out _ _ hS (fun _=>?_)
  simp only [Act.put,zE1,zE2,zE3]
  clear hK K
  refine tkH 15 (some 20) (.int .u32 l) rfl rfl (Or.inl ⟨by rfl,fun w' hw'=>by go_simp⟩) hS ?_
  simp only [Act.put,zE1,zE2,zE3]
  refine wpAnyH_ready (rs:=[18,23]) (by kernel_rfl) (by simp) ?_
  refine AllReadyH.cons rfl (fun K hK=>?_) (AllReadyH.cons rfl (fun K hK=>?_) AllReadyH.nil)
  ·refine step_callW _ (by rfl) (some 23) rfl 124 #[.tmp 22] #[26] rfl (fun q w'=>by rfl) #[sl (.slice (some ⟨bb,bo,none⟩) 88 cap) 8 16] (by simp only [List.map_toArray,List.map_cons,List.map_nil];rfl) (fun u w'=>(u=.int .u64 e)∧Below x2.heap.size x2 w') ?_ ?_
   ·exact (N8.out x2 hS).mono fun e w' ⟨h1,h2⟩=>⟨_,h1,rfl,h2⟩
   rintro _ x3 ⟨rfl,hb⟩
   have HR:=hdH (HR.out.below hb (range_lt HR.out.1 (by simp [hv])))
   have hW9:Hid (w.heap.size<x3.heap.size):=Nat.lt_of_lt_of_le hW9.out hb.size
   have hS:Below w.heap.size w x3:=hS.trans (hb.mono hS.size)
   clear hb
   refine hK.out _ _ hS (fun _=>?_)
   simp only [Act.put,zE1,zE2,zE3]
   clear hK K
   refine wpAnyH_ready (rs:=[21,23]) (by kernel_rfl) (by simp) ?_
   refine AllReadyH.cons rfl (fun K hK=>?_) (AllReadyH.cons rfl (fun K hK=>?_) AllReadyH.nil)
   ·refine step_callW _ (by rfl) (some 26) rfl 124 #[.tmp 25] #[26] rfl (fun q w'=>by rfl) #[sl (.slice (some ⟨bb,bo,none⟩) 88 cap) 16 24] (by simp only [List.map_toArray,List.map_cons,List.map_nil];rfl) (fun u w'=>(u=.int .u64 t)∧Below x3.heap.size x3 w') ?_ ?_
    ·exact (N16.out x3 hS).mono fun e w' ⟨h1,h2⟩=>⟨_,h1,rfl,h2⟩
    rintro _ x4 ⟨rfl,hb⟩
    have HR:=hdH (HR.out.below hb (range_lt HR.out.1 (by simp [hv])))
    have hW9:Hid (w.heap.size<x4.heap.size):=Nat.lt_of_lt_of_le hW9.out hb.size
    have hS:Below w.heap.size w x4:=hS.trans (hb.mono hS.size)
    clear hb
    refine hK.out _ _ hS (fun _=>?_)
    simp only [Act.put,zE1,zE2,zE3]
    clear hK K
    refine tkH 22 (some 27) (.agg (hv n0 n1 n2 l e t).toArray) rfl rfl (Or.inl ⟨by rfl,fun w' hw'=>by kernel_rfl⟩) hS ?_
    simp only [Act.put,zE1,zE2,zE3]
    refine wpAnyH_ready (rs:=[23]) (by kernel_rfl) (by simp) ?_
    refine AllReadyH.cons rfl (fun K hK=>?_) AllReadyH.nil
    refine step_newC _ rfl (some 4) rfl 64 rfl (hv 0 0 0 0 0 0) zero_head ?_
    intro x5 V9 hb s9
    have HR:=hdH (HR.out.below hb (range_lt HR.out.1 (by simp [hv])))
    have g4l:w.heap.size<x4.heap.size:=hW9.out
    have hW9:Hid (w.heap.size<x5.heap.size):=Nat.lt_of_lt_of_le g4l hb.size
    obtain ⟨g4,hg4⟩:∃ g,g=x4.heap.size:=⟨_,rfl⟩
    have hS:Below w.heap.size w x5:=hS.trans (hb.mono hS.size)
    rw [←hg4] at V9 g4l s9 ⊢
    have HD:=hdH (V9)
    clear V9 hb hg4
    refine hK.out _ _ hS (fun _=>?_)
    simp only [Act.put,zE1,zE2,zE3]
    clear hK K
    refine wpAnyH_ready (rs:=[24]) (by kernel_rfl) (by simp) ?_
    refine AllReadyH.cons rfl (fun K hK=>?_) AllReadyH.nil
    refine step_storeC _ rfl none rfl (.tmp 4) (.tmp 27) 64 rfl g4 (hv 0 0 0 0 0 0) (hv n0 n1 n2 l e t) rfl rfl HD.out rfl rowy_head.2 (hv_one _ _ _ _ _ _) ?_
    intro x6 v9 B9
    have HD:=hdH (v9)
    have HR:=hdH (HR.out.below B9 g4l)
    have hS:Below w.heap.size w x6:=hS.trans (B9.mono (by omega))
    clear v9 B9
    refine hK.out _ _ hS (fun _=>?_)
    simp only [Act.put]
    clear hK K
    refine wpAnyH_done (by kernel_rfl) ?_ _
    have BB:=hdH (hS)
    clear hS hW9
    have t1:=tR
    go_wp2_with (first
     |(have q4:=t4;refine store_lawC _ (hv 0 0 0 0 0 0) w.heap.size 0 rfl rfl HR.out.2 rowy_head.2 (hv_one _ _ _ _ _ _) ?_;intro w6 E6 R6 T6 B6;have HQ:=hdH (R6);clear t4 E6 R6 T6)
     |(have q3:=t3;refine build_law _ rfl 64 _ rfl (.agg (hv 0 0 0 0 0 0).toArray) (by kernel_rfl) ?_;clear t3;have t4:=tR)
     |(have q2:=t2;go_at_call 16;refine (SR.out _).mono ?_;rintro e9 w5 ⟨rfl,B5⟩;have HR:=hdH (HR.out.below B5 (range_lt HR.out.1 (by simp [hv])));have HD:=hdH (HD.out.below B5 (range_lt HD.out.1 (by simp [hv])));have BB:=hdH (BB.out.trans (B5.mono BB.out.size));clear B5 t2;have t3:=tR)
     |(have q1:=t1;refine load_lawC _ rfl (hv n0 n1 n2 l e t) g4 0 rfl HD.out.1 rowy_head ?_;clear t1;have t2:=tR))
    exact bodyPost_ret (v:=.tuple #[.agg (hv 0 0 0 0 0 0).toArray,.bool false]) (results_cv rfl _ _ w.heap.size _ _ rowy_head rfl rfl HQ.out) rfl ⟨rfl,BB.out.trans B6⟩
   ·refine step_newC _ rfl (some 4) rfl 64 rfl (hv 0 0 0 0 0 0) zero_head ?_
    intro x7 V9 hb s9
    have HR:=hdH (HR.out.below hb (range_lt HR.out.1 (by simp [hv])))
    have g4l:w.heap.size<x3.heap.size:=hW9.out
    have hW9:Hid (w.heap.size<x7.heap.size):=Nat.lt_of_lt_of_le g4l hb.size
    obtain ⟨g4,hg4⟩:∃ g,g=x3.heap.size:=⟨_,rfl⟩
    have hS:Below w.heap.size w x7:=hS.trans (hb.mono hS.size)
    rw [←hg4] at V9 g4l s9 ⊢
    have HD:=hdH (V9)
    clear V9 hb hg4
    refine hK.out _ _ hS (fun _=>?_)
    simp only [Act.put,zE1,zE2,zE3]
    clear hK K
    refine wpAnyH_ready (rs:=[21]) (by kernel_rfl) (by simp) ?_
    refine AllReadyH.cons rfl (fun K hK=>?_) AllReadyH.nil
    refine step_callW _ (by rfl) (some 26) rfl 124 #[.tmp 25] #[26] rfl (fun q w'=>by rfl) #[sl (.slice (some ⟨bb,bo,none⟩) 88 cap) 16 24] (by simp only [List.map_toArray,List.map_cons,List.map_nil];rfl) (fun u w'=>(u=.int .u64 t)∧Below x7.heap.size x7 w') ?_ ?_
    ·exact (N16.out x7 hS).mono fun e w' ⟨h1,h2⟩=>⟨_,h1,rfl,h2⟩
    rintro _ x8 ⟨rfl,hb⟩
    have HR:=hdH (HR.out.below hb (range_lt HR.out.1 (by simp [hv])))
    have HD:=hdH (HD.out.below hb (range_lt HD.out.1 (by simp [hv])))
    have hW9:Hid (w.heap.size<x8.heap.size):=Nat.lt_of_lt_of_le hW9.out hb.size
    have hS:Below w.heap.size w x8:=hS.trans (hb.mono hS.size)
    clear hb
    refine hK.out _ _ hS (fun _=>?_)
    simp only [Act.put,zE1,zE2,zE3]
    clear hK K
    refine tkH 22 (some 27) (.agg (hv n0 n1 n2 l e t).toArray) rfl rfl (Or.inl ⟨by rfl,fun w' hw'=>by kernel_rfl⟩) hS ?_
    simp only [Act.put,zE1,zE2,zE3]
    refine wpAnyH_ready (rs:=[24]) (by kernel_rfl) (by simp) ?_
    refine AllReadyH.cons rfl (fun K hK=>?_) AllReadyH.nil
    refine step_storeC _ rfl none rfl (.tmp 4) (.tmp 27) 64 rfl g4 (hv 0 0 0 0 0 0) (hv n0 n1 n2 l e t) rfl rfl HD.out rfl rowy_head.2 (hv_one _ _ _ _ _ _) ?_
    intro x9 v9 B9
    have HD:=hdH (v9)
    have HR:=hdH (HR.out.below B9 g4l)
    have hS:Below w.heap.size w x9:=hS.trans (B9.mono (by omega))
    clear v9 B9
    refine hK.out _ _ hS (fun _=>?_)
    simp only [Act.put]
    clear hK K
    refine wpAnyH_done (by kernel_rfl) ?_ _
    have BB:=hdH (hS)
    clear hS hW9
    have t1:=tR
    go_wp2_with (first
     |(have q4:=t4;refine store_lawC _ (hv 0 0 0 0 0 0) w.heap.size 0 rfl rfl HR.out.2 rowy_head.2 (hv_one _ _ _ _ _ _) ?_;intro w6 E6 R6 T6 B6;have HQ:=hdH (R6);clear t4 E6 R6 T6)
     |(have q3:=t3;refine build_law _ rfl 64 _ rfl (.agg (hv 0 0 0 0 0 0).toArray) (by kernel_rfl) ?_;clear t3;have t4:=tR)
     |(have q2:=t2;go_at_call 16;refine (SR.out _).mono ?_;rintro e9 w5 ⟨rfl,B5⟩;have HR:=hdH (HR.out.below B5 (range_lt HR.out.1 (by simp [hv])));have HD:=hdH (HD.out.below B5 (range_lt HD.out.1 (by simp [hv])));have BB:=hdH (BB.out.trans (B5.mono BB.out.size));clear B5 t2;have t3:=tR)
     |(have q1:=t1;refine load_lawC _ rfl (hv n0 n1 n2 l e t) g4 0 rfl HD.out.1 rowy_head ?_;clear t1;have t2:=tR))
    exact bodyPost_ret (v:=.tuple #[.agg (hv 0 0 0 0 0 0).toArray,.bool false]) (results_cv rfl _ _ w.heap.size _ _ rowy_head rfl rfl HQ.out) rfl ⟨rfl,BB.out.trans B6⟩
  ·refine step_newC _ rfl (some 4) rfl 64 rfl (hv 0 0 0 0 0 0) zero_head ?_
   intro x10 V9 hb s9
   have HR:=hdH (HR.out.below hb (range_lt HR.out.1 (by simp [hv])))
   have g4l:w.heap.size<x2.heap.size:=hW9.out
   have hW9:Hid (w.heap.size<x10.heap.size):=Nat.lt_of_lt_of_le g4l hb.size
   obtain ⟨g4,hg4⟩:∃ g,g=x2.heap.size:=⟨_,rfl⟩
   have hS:Below w.heap.size w x10:=hS.trans (hb.mono hS.size)
   rw [←hg4] at V9 g4l s9 ⊢
   have HD:=hdH (V9)
   clear V9 hb hg4
   refine hK.out _ _ hS (fun _=>?_)
   simp only [Act.put,zE1,zE2,zE3]
   clear hK K
   refine wpAnyH_ready (rs:=[18]) (by kernel_rfl) (by simp) ?_
   refine AllReadyH.cons rfl (fun K hK=>?_) AllReadyH.nil
   refine step_callW _ (by rfl) (some 23) rfl 124 #[.tmp 22] #[26] rfl (fun q w'=>by rfl) #[sl (.slice (some ⟨bb,bo,none⟩) 88 cap) 8 16] (by simp only [List.map_toArray,List.map_cons,List.map_nil];rfl) (fun u w'=>(u=.int .u64 e)∧Below x10.heap.size x10 w') ?_ ?_
   ·exact (N8.out x10 hS).mono fun e w' ⟨h1,h2⟩=>⟨_,h1,rfl,h2⟩
   rintro _ x11 ⟨rfl,hb⟩
   have HR:=hdH (HR.out.below hb (range_lt HR.out.1 (by simp [hv])))
   have HD:=hdH (HD.out.below hb (range_lt HD.out.1 (by simp [hv])))
   have hW9:Hid (w.heap.size<x11.heap.size):=Nat.lt_of_lt_of_le hW9.out hb.size
   have hS:Below w.heap.size w x11:=hS.trans (hb.mono hS.size)
   clear hb
   refine hK.out _ _ hS (fun _=>?_)
   simp only [Act.put,zE1,zE2,zE3]
   clear hK K
   refine wpAnyH_ready (rs:=[21]) (by kernel_rfl) (by simp) ?_
   refine AllReadyH.cons rfl (fun K hK=>?_) AllReadyH.nil
   refine step_callW _ (by rfl) (some 26) rfl 124 #[.tmp 25] #[26] rfl (fun q w'=>by rfl) #[sl (.slice (some ⟨bb,bo,none⟩) 88 cap) 16 24] (by simp only [List.map_toArray,List.map_cons,List.map_nil];rfl) (fun u w'=>(u=.int .u64 t)∧Below x11.heap.size x11 w') ?_ ?_
   ·exact (N16.out x11 hS).mono fun e w' ⟨h1,h2⟩=>⟨_,h1,rfl,h2⟩
   rintro _ x12 ⟨rfl,hb⟩
   have HR:=hdH (HR.out.below hb (range_lt HR.out.1 (by simp [hv])))
   have HD:=hdH (HD.out.below hb (range_lt HD.out.1 (by simp [hv])))
   have hW9:Hid (w.heap.size<x12.heap.size):=Nat.lt_of_lt_of_le hW9.out hb.size
   have hS:Below w.heap.size w x12:=hS.trans (hb.mono hS.size)
   clear hb
   refine hK.out _ _ hS (fun _=>?_)
   simp only [Act.put,zE1,zE2,zE3]
   clear hK K
   refine tkH 22 (some 27) (.agg (hv n0 n1 n2 l e t).toArray) rfl rfl (Or.inl ⟨by rfl,fun w' hw'=>by kernel_rfl⟩) hS ?_
   simp only [Act.put,zE1,zE2,zE3]
   refine wpAnyH_ready (rs:=[24]) (by kernel_rfl) (by simp) ?_
   refine AllReadyH.cons rfl (fun K hK=>?_) AllReadyH.nil
   refine step_storeC _ rfl none rfl (.tmp 4) (.tmp 27) 64 rfl g4 (hv 0 0 0 0 0 0) (hv n0 n1 n2 l e t) rfl rfl HD.out rfl rowy_head.2 (hv_one _ _ _ _ _ _) ?_
   intro x13 v9 B9
   have HD:=hdH (v9)
   have HR:=hdH (HR.out.below B9 g4l)
   have hS:Below w.heap.size w x13:=hS.trans (B9.mono (by omega))
   clear v9 B9
   refine hK.out _ _ hS (fun _=>?_)
   simp only [Act.put]
   clear hK K
   refine wpAnyH_done (by kernel_rfl) ?_ _
   have BB:=hdH (hS)
   clear hS hW9
   have t1:=tR
   go_wp2_with (first
    |(have q4:=t4;refine store_lawC _ (hv 0 0 0 0 0 0) w.heap.size 0 rfl rfl HR.out.2 rowy_head.2 (hv_one _ _ _ _ _ _) ?_;intro w6 E6 R6 T6 B6;have HQ:=hdH (R6);clear t4 E6 R6 T6)
    |(have q3:=t3;refine build_law _ rfl 64 _ rfl (.agg (hv 0 0 0 0 0 0).toArray) (by kernel_rfl) ?_;clear t3;have t4:=tR)
    |(have q2:=t2;go_at_call 16;refine (SR.out _).mono ?_;rintro e9 w5 ⟨rfl,B5⟩;have HR:=hdH (HR.out.below B5 (range_lt HR.out.1 (by simp [hv])));have HD:=hdH (HD.out.below B5 (range_lt HD.out.1 (by simp [hv])));have BB:=hdH (BB.out.trans (B5.mono BB.out.size));clear B5 t2;have t3:=tR)
    |(have q1:=t1;refine load_lawC _ rfl (hv n0 n1 n2 l e t) g4 0 rfl HD.out.1 rowy_head ?_;clear t1;have t2:=tR))
   exact bodyPost_ret (v:=.tuple #[.agg (hv 0 0 0 0 0 0).toArray,.bool false]) (results_cv rfl _ _ w.heap.size _ _ rowy_head rfl rfl HQ.out) rfl ⟨rfl,BB.out.trans B6⟩
 ·refine step_newC _ rfl (some 4) rfl 64 rfl (hv 0 0 0 0 0 0) zero_head ?_
  intro x14 V9 hb s9
  have HR:=hdH (HR.out.below hb (range_lt HR.out.1 (by simp [hv])))
  have g4l:w.heap.size<x1.heap.size:=hW9.out
  have hW9:Hid (w.heap.size<x14.heap.size):=Nat.lt_of_lt_of_le g4l hb.size
  obtain ⟨g4,hg4⟩:∃ g,g=x1.heap.size:=⟨_,rfl⟩
  have hS:Below w.heap.size w x14:=hS.trans (hb.mono hS.size)
  rw [←hg4] at V9 g4l s9 ⊢
  have HD:=hdH (V9)
  clear V9 hb hg4
  refine hK.out _ _ hS (fun _=>?_)
  simp only [Act.put,zE1,zE2,zE3]
  clear hK K
  refine wpAnyH_ready (rs:=[14]) (by kernel_rfl) (by simp) ?_
  refine AllReadyH.cons rfl (fun K hK=>?_) AllReadyH.nil
  refine step_callW _ (by rfl) (some 19) rfl 124 #[.tmp 18] #[26] rfl (fun q w'=>by rfl) #[sl (.slice (some ⟨bb,bo,none⟩) 88 cap) 4 8] (by simp only [List.map_toArray,List.map_cons,List.map_nil];rfl) (fun u w'=>(u=.int .u64 l)∧Below x14.heap.size x14 w') ?_ ?_
  ·exact (N4.out x14 hS).mono fun e w' ⟨h1,h2⟩=>⟨_,h1,rfl,h2⟩
  rintro _ x15 ⟨rfl,hb⟩
  have HR:=hdH (HR.out.below hb (range_lt HR.out.1 (by simp [hv])))
  have HD:=hdH (HD.out.below hb (range_lt HD.out.1 (by simp [hv])))
  have hW9:Hid (w.heap.size<x15.heap.size):=Nat.lt_of_lt_of_le hW9.out hb.size
  have hS:Below w.heap.size w x15:=hS.trans (hb.mono hS.size)
  clear hb
  refine hK.out _ _ hS (fun _=>?_)
  simp only [Act.put,zE1,zE2,zE3]
  clear hK K
  refine tkH 15 (some 20) (.int .u32 l) rfl rfl (Or.inl ⟨by rfl,fun w' hw'=>by go_simp⟩) hS ?_
  simp only [Act.put,zE1,zE2,zE3]
  refine wpAnyH_ready (rs:=[18]) (by kernel_rfl) (by simp) ?_
  refine AllReadyH.cons rfl (fun K hK=>?_) AllReadyH.nil
  refine step_callW _ (by rfl) (some 23) rfl 124 #[.tmp 22] #[26] rfl (fun q w'=>by rfl) #[sl (.slice (some ⟨bb,bo,none⟩) 88 cap) 8 16] (by simp only [List.map_toArray,List.map_cons,List.map_nil];rfl) (fun u w'=>(u=.int .u64 e)∧Below x15.heap.size x15 w') ?_ ?_
  ·exact (N8.out x15 hS).mono fun e w' ⟨h1,h2⟩=>⟨_,h1,rfl,h2⟩
  rintro _ x16 ⟨rfl,hb⟩
  have HR:=hdH (HR.out.below hb (range_lt HR.out.1 (by simp [hv])))
  have HD:=hdH (HD.out.below hb (range_lt HD.out.1 (by simp [hv])))
  have hW9:Hid (w.heap.size<x16.heap.size):=Nat.lt_of_lt_of_le hW9.out hb.size
  have hS:Below w.heap.size w x16:=hS.trans (hb.mono hS.size)
  clear hb
  refine hK.out _ _ hS (fun _=>?_)
  simp only [Act.put,zE1,zE2,zE3]
  clear hK K
  refine wpAnyH_ready (rs:=[21]) (by kernel_rfl) (by simp) ?_
  refine AllReadyH.cons rfl (fun K hK=>?_) AllReadyH.nil
  refine step_callW _ (by rfl) (some 26) rfl 124 #[.tmp 25] #[26] rfl (fun q w'=>by rfl) #[sl (.slice (some ⟨bb,bo,none⟩) 88 cap) 16 24] (by simp only [List.map_toArray,List.map_cons,List.map_nil];rfl) (fun u w'=>(u=.int .u64 t)∧Below x16.heap.size x16 w') ?_ ?_
  ·exact (N16.out x16 hS).mono fun e w' ⟨h1,h2⟩=>⟨_,h1,rfl,h2⟩
  rintro _ x17 ⟨rfl,hb⟩
  have HR:=hdH (HR.out.below hb (range_lt HR.out.1 (by simp [hv])))
  have HD:=hdH (HD.out.below hb (range_lt HD.out.1 (by simp [hv])))
  have hW9:Hid (w.heap.size<x17.heap.size):=Nat.lt_of_lt_of_le hW9.out hb.size
  have hS:Below w.heap.size w x17:=hS.trans (hb.mono hS.size)
  clear hb
  refine hK.out _ _ hS (fun _=>?_)
  simp only [Act.put,zE1,zE2,zE3]
  clear hK K
  refine tkH 22 (some 27) (.agg (hv n0 n1 n2 l e t).toArray) rfl rfl (Or.inl ⟨by rfl,fun w' hw'=>by kernel_rfl⟩) hS ?_
  simp only [Act.put,zE1,zE2,zE3]
  refine wpAnyH_ready (rs:=[24]) (by kernel_rfl) (by simp) ?_
  refine AllReadyH.cons rfl (fun K hK=>?_) AllReadyH.nil
  refine step_storeC _ rfl none rfl (.tmp 4) (.tmp 27) 64 rfl g4 (hv 0 0 0 0 0 0) (hv n0 n1 n2 l e t) rfl rfl HD.out rfl rowy_head.2 (hv_one _ _ _ _ _ _) ?_
  intro x18 v9 B9
  have HD:=hdH (v9)
  have HR:=hdH (HR.out.below B9 g4l)
  have hS:Below w.heap.size w x18:=hS.trans (B9.mono (by omega))
  clear v9 B9
  refine hK.out _ _ hS (fun _=>?_)
  simp only [Act.put]
  clear hK K
  refine wpAnyH_done (by kernel_rfl) ?_ _
  have BB:=hdH (hS)
  clear hS hW9
  have t1:=tR
  go_wp2_with (first
   |(have q4:=t4;refine store_lawC _ (hv 0 0 0 0 0 0) w.heap.size 0 rfl rfl HR.out.2 rowy_head.2 (hv_one _ _ _ _ _ _) ?_;intro w6 E6 R6 T6 B6;have HQ:=hdH (R6);clear t4 E6 R6 T6)
   |(have q3:=t3;refine build_law _ rfl 64 _ rfl (.agg (hv 0 0 0 0 0 0).toArray) (by kernel_rfl) ?_;clear t3;have t4:=tR)
   |(have q2:=t2;go_at_call 16;refine (SR.out _).mono ?_;rintro e9 w5 ⟨rfl,B5⟩;have HR:=hdH (HR.out.below B5 (range_lt HR.out.1 (by simp [hv])));have HD:=hdH (HD.out.below B5 (range_lt HD.out.1 (by simp [hv])));have BB:=hdH (BB.out.trans (B5.mono BB.out.size));clear B5 t2;have t3:=tR)
   |(have q1:=t1;refine load_lawC _ rfl (hv n0 n1 n2 l e t) g4 0 rfl HD.out.1 rowy_head ?_;clear t1;have t2:=tR))
  exact bodyPost_ret (v:=.tuple #[.agg (hv 0 0 0 0 0 0).toArray,.bool false]) (results_cv rfl _ _ w.heap.size _ _ rowy_head rfl rfl HQ.out) rfl ⟨rfl,BB.out.trans B6⟩
set_option linter.unusedVariables false in
theorem rread_b_m:
  (∀ (v:Value) (xs:List Int) (w:World) (hb:Byt w v xs) (hl:xs.length=88) (hr:Rh (qk xs) (qn xs) (qc xs)) (heq:¬he.hb (qk xs) (qn xs) (qc xs) (ql xs) (qe xs) (qt xs) ++ inv (he.hb (qk xs) (qn xs) (qc xs) (ql xs) (qe xs) (qt xs))=sub xs 0 48),Calls Tryz.prog 83 #[v] w fun x w'=>x=.returned (.tuple #[.agg (hv 0 0 0 0 0 0).toArray,.bool false])∧Below w.heap.size w w')∧
  (∀ (v:Value) (xs:List Int) (w:World) (hb:Byt w v xs) (hl:xs.length=88) (hr:Rh (qk xs) (qn xs) (qc xs)) (heq:he.hb (qk xs) (qn xs) (qc xs) (ql xs) (qe xs) (qt xs) ++ inv (he.hb (qk xs) (qn xs) (qc xs) (ql xs) (qe xs) (qt xs))=sub xs 0 48),Calls Tryz.prog 83 #[v] w fun x w'=>x=.returned (.tuple #[.agg (hv (qk xs) (qn xs) (qc xs) (ql xs) (qe xs) (qt xs)).toArray,.bool true])∧Below w.heap.size w w'):=by
 refine ⟨?c0,?c1⟩
 case' c0=>intro v xs w hb hl hr heq;have mA:=tR
 case' c1=>intro v xs w hb hl hr heq;have mB:=tR
 all_goals
  have ha:=hb.all
  have HB:=hdH (hb)
  have HL:=hdH (hl)
  have b0:=ha 0
  have b1:=ha 1
  have b2:=ha 2
  have bl:=(be_num4 (xs:=sub xs 4 8) (by rw [sub_len _ _ _ (by omega)]) (allB_sub ha 4 8)).2
  have be':=(be_num8 (xs:=sub xs 8 16) (by rw [sub_len _ _ _ (by omega)]) (allB_sub ha 8 16)).2
  have bt':=(be_num8 (xs:=sub xs 16 24) (by rw [sub_len _ _ _ (by omega)]) (allB_sub ha 16 24)).2
  have k0:IntKind.i64.wrap (gb xs 0)=gb xs 0:=by rw [IntKind.wrap_i64];omega
  have k1:IntKind.i64.wrap (gb xs 1)=gb xs 1:=by rw [IntKind.wrap_i64];omega
  have k2:IntKind.i64.wrap (gb xs 2)=gb xs 2:=by rw [IntKind.wrap_i64];omega
  have k3:IntKind.u32.wrap (ql xs)=ql xs:=by
   rw [IntKind.wrap_u32]
   unfold ql
   omega
  obtain ⟨ao,cap,hv',c1,c2, -, -,h5⟩:=hb
  rw [hl] at hv' c1
  obtain ⟨bb,bo,hao,hc⟩:=h5 (by omega)
  subst hao
  subst hv'
  have HC:Hid (∀ i,i<88→∀ w',Below w.heap.size w w'→w'.cell? ⟨bb,bo+i,none⟩=some (.int .u8 (gb xs i))):=fun i hi w' hw=>by
   have z:=hc i (by omega)
   rw [hw.cell (World.block_lt_of_cell? w _ z)];exact z
  have C0:Hid (∀ w',Below w.heap.size w w'→w'.cell? ⟨bb,bo+0,none⟩=some (.int .u8 (gb xs 0))):=HC.out 0 (by omega)
  have C1:Hid (∀ w',Below w.heap.size w w'→w'.cell? ⟨bb,bo+1,none⟩=some (.int .u8 (gb xs 1))):=HC.out 1 (by omega)
  have C2:Hid (∀ w',Below w.heap.size w w'→w'.cell? ⟨bb,bo+2,none⟩=some (.int .u8 (gb xs 2))):=HC.out 2 (by omega)
  have SN:∀ a b,a≤b→b≤88→∀ w',Below w.heap.size w w'→Calls Tryz.prog 124 #[sl (.slice (some ⟨bb,bo,none⟩) 88 cap) a b] w' fun e w''=>e=.returned (.int .u64 (num (last8 (sub xs a b))))∧Below w'.heap.size w' w'':=fun a b h1 h2 w' q=>rnum_any _ _ w' (sl_sub (HB.out.below q) a b h1 (by omega)) (by rw [sub_len _ _ _ (by omega)];omega)
  have N4:Hid (∀ w',Below w.heap.size w w'→Calls Tryz.prog 124 #[sl (.slice (some ⟨bb,bo,none⟩) 88 cap) 4 8] w' fun e w''=>e=.returned (.int .u64 (ql xs))∧Below w'.heap.size w' w''):=SN 4 8 (by omega) (by omega)
  have N8:Hid (∀ w',Below w.heap.size w w'→Calls Tryz.prog 124 #[sl (.slice (some ⟨bb,bo,none⟩) 88 cap) 8 16] w' fun e w''=>e=.returned (.int .u64 (qe xs))∧Below w'.heap.size w' w''):=SN 8 16 (by omega) (by omega)
  have N16:Hid (∀ w',Below w.heap.size w w'→Calls Tryz.prog 124 #[sl (.slice (some ⟨bb,bo,none⟩) 88 cap) 16 24] w' fun e w''=>e=.returned (.int .u64 (qt xs))∧Below w'.heap.size w' w''):=SN 16 24 (by omega) (by omega)
  have SR:Hid (∀ w,Calls Tryz.prog 16 #[.agg (hv (qk xs) (qn xs) (qc xs) (ql xs) (qe xs) (qt xs)).toArray] w fun x w'=>x=.returned (.bool true)∧Below w.heap.size w w'):=fun w=>right_any _ _ _ _ _ _ w true (by
   have q:1≤qk xs∧qk xs≤4∧0≤qn xs∧qn xs≤255∧0≤qc xs∧qc xs≤255:=hr
   exact (decide_eq_true q).symm)
  have SB:Hid (∀ w,Calls Tryz.prog 126 #[.agg (hv (qk xs) (qn xs) (qc xs) (ql xs) (qe xs) (qt xs)).toArray] w fun x w'=>∃ v,x=.returned v∧Own w.heap.size w' v (he.hb (qk xs) (qn xs) (qc xs) (ql xs) (qe xs) (qt xs))∧Below w.heap.size w w'):=fun w=>rbytes_own _ _ _ _ _ _ w hr bl be' bt'
  have AZ:Hid (AllB (he.hb (qk xs) (qn xs) (qc xs) (ql xs) (qe xs) (qt xs))):=hb_all hr _ _ _
  have LZ:Hid ((he.hb (qk xs) (qn xs) (qc xs) (ql xs) (qe xs) (qt xs)).length =24∧(inv (he.hb (qk xs) (qn xs) (qc xs) (ql xs) (qe xs) (qt xs))).length =24):=⟨hb_len _ _ _ _ _ _,by rw [inv_len,hb_len]⟩
  have AI:Hid (AllB (inv (he.hb (qk xs) (qn xs) (qc xs) (ql xs) (qe xs) (qt xs)))):=inv_all _ (hb_all hr _ _ _)
  generalize he.hb (qk xs) (qn xs) (qc xs) (ql xs) (qe xs) (qt xs)=Z at*
  first
   |have m9:=mB
    have DS:decide (Z ++ inv Z=sub xs 0 48)=true:=decide_eq_true heq
   |have DS:decide (Z ++ inv Z=sub xs 0 48)=false:=decide_eq_false heq
  have HDS:=hdH (DS)
  clear hr bl be' bt' b0 b1 b2 heq DS
  simp only [qk,qn,qc] at*
  generalize gb xs 0=n0 at*
  generalize gb xs 1=n1 at*
  generalize gb xs 2=n2 at*
  generalize ql xs=l at*
  generalize qe xs=e at*
  generalize qt xs=t at*
  clear ha hl SN HC hc h5 c1 c2
  have t0:=tR
  go_enter Tryz.func83,Tryz.ntmps83
  go_wp2_with (have q0:=t0;refine new_lawC _ (hv 0 0 0 0 0 0) zero_head ?_;intro w1 V1 B1 s1;have HR:=hdH (V1);clear V1 t0)
  have HR:Hid (Vr w1.drew w.heap.size (hv 0 0 0 0 0 0)):=HR.out.drewN 1
  have hW9:Hid (w.heap.size<w1.drew.heap.size):=s1
  refine wp_region_held_drew (S:=fun w'=>Below w.heap.size w w') (by kernel_rfl) B1.drew (fun hS=>?_)
  obtain ⟨x1,hx0⟩:∃ x,x=w1.drew:=⟨_,rfl⟩
  rw [←hx0] at hS HR hW9 ⊢
  clear hx0
  refine tkH 0 (some 5) (.slice (some ⟨bb,bo,none⟩) 88 cap) rfl rfl (Or.inl ⟨by rfl,fun w' hw'=>by rfl⟩) hS ?_
  simp only [Act.put,zE1,zE2,zE3]
  refine tkH 1 (some 6) (.pointer (some ⟨bb,bo+0,none⟩)) rfl rfl (Or.inl ⟨by rfl,fun w' hw'=>by exact exec_idx (.tmp 5) (.const (.int .i64 0)) rfl bb bo 88 cap 0 rfl rfl (by omega) _⟩) hS ?_
  simp only [Act.put,zE1,zE2,zE3]
  refine tkH 2 (some 7) (.int .u8 n0) rfl rfl (Or.inl ⟨by rfl,fun w' hw'=>by exact exec_loadN 5 (.tmp 6) rfl _ rfl _ _ (ld_u8 (C0.out _ hw'))⟩) hS ?_
  simp only [Act.put,zE1,zE2,zE3]
  refine tkH 3 (some 8) (.int .i64 n0) rfl rfl (Or.inl ⟨by rfl,fun w' hw'=>by go_simp⟩) hS ?_
  simp only [Act.put,zE1,zE2,zE3]
  refine tkH 4 (some 9) (.slice (some ⟨bb,bo,none⟩) 88 cap) rfl rfl (Or.inl ⟨by rfl,fun w' hw'=>by rfl⟩) hS ?_
  simp only [Act.put,zE1,zE2,zE3]
  refine tkH 5 (some 10) (.pointer (some ⟨bb,bo+1,none⟩)) rfl rfl (Or.inl ⟨by rfl,fun w' hw'=>by exact exec_idx (.tmp 9) (.const (.int .i64 1)) rfl bb bo 88 cap 1 rfl rfl (by omega) _⟩) hS ?_
  simp only [Act.put,zE1,zE2,zE3]
  refine tkH 6 (some 11) (.int .u8 n1) rfl rfl (Or.inl ⟨by rfl,fun w' hw'=>by exact exec_loadN 5 (.tmp 10) rfl _ rfl _ _ (ld_u8 (C1.out _ hw'))⟩) hS ?_
  simp only [Act.put,zE1,zE2,zE3]
  refine tkH 7 (some 12) (.int .i64 n1) rfl rfl (Or.inl ⟨by rfl,fun w' hw'=>by go_simp⟩) hS ?_
  simp only [Act.put,zE1,zE2,zE3]
  refine tkH 8 (some 13) (.slice (some ⟨bb,bo,none⟩) 88 cap) rfl rfl (Or.inl ⟨by rfl,fun w' hw'=>by rfl⟩) hS ?_
  simp only [Act.put,zE1,zE2,zE3]
  refine tkH 9 (some 14) (.pointer (some ⟨bb,bo+2,none⟩)) rfl rfl (Or.inl ⟨by rfl,fun w' hw'=>by exact exec_idx (.tmp 13) (.const (.int .i64 2)) rfl bb bo 88 cap 2 rfl rfl (by omega) _⟩) hS ?_
  simp only [Act.put,zE1,zE2,zE3]
  refine tkH 10 (some 15) (.int .u8 n2) rfl rfl (Or.inl ⟨by rfl,fun w' hw'=>by exact exec_loadN 5 (.tmp 14) rfl _ rfl _ _ (ld_u8 (C2.out _ hw'))⟩) hS ?_
  simp only [Act.put,zE1,zE2,zE3]
  refine tkH 11 (some 16) (.int .i64 n2) rfl rfl (Or.inl ⟨by rfl,fun w' hw'=>by go_simp⟩) hS ?_
  simp only [Act.put,zE1,zE2,zE3]
  refine tkH 12 (some 17) (.slice (some ⟨bb,bo,none⟩) 88 cap) rfl rfl (Or.inl ⟨by rfl,fun w' hw'=>by rfl⟩) hS ?_
  simp only [Act.put,zE1,zE2,zE3]
  refine tkH 13 (some 18) (sl (.slice (some ⟨bb,bo,none⟩) 88 cap) 4 8) rfl rfl (Or.inl ⟨by rfl,fun w' hw'=>by exact exec_part (.tmp 17) (.const (.int .i64 4)) (.const (.int .i64 8)) rfl _ xs _ HB.out 4 8 rfl rfl rfl (by omega) (by have:=HL.out;omega) _⟩) hS ?_
  simp only [Act.put,zE1,zE2,zE3]
  refine tkH 16 (some 21) (.slice (some ⟨bb,bo,none⟩) 88 cap) rfl rfl (Or.inl ⟨by rfl,fun w' hw'=>by rfl⟩) hS ?_
  simp only [Act.put,zE1,zE2,zE3]
  refine tkH 17 (some 22) (sl (.slice (some ⟨bb,bo,none⟩) 88 cap) 8 16) rfl rfl (Or.inl ⟨by rfl,fun w' hw'=>by exact exec_part (.tmp 21) (.const (.int .i64 8)) (.const (.int .i64 16)) rfl _ xs _ HB.out 8 16 rfl rfl rfl (by omega) (by have:=HL.out;omega) _⟩) hS ?_
  simp only [Act.put,zE1,zE2,zE3]
  refine tkH 19 (some 24) (.slice (some ⟨bb,bo,none⟩) 88 cap) rfl rfl (Or.inl ⟨by rfl,fun w' hw'=>by rfl⟩) hS ?_
  simp only [Act.put,zE1,zE2,zE3]
  refine tkH 20 (some 25) (sl (.slice (some ⟨bb,bo,none⟩) 88 cap) 16 24) rfl rfl (Or.inl ⟨by rfl,fun w' hw'=>by exact exec_part (.tmp 24) (.const (.int .i64 16)) (.const (.int .i64 24)) rfl _ xs _ HB.out 16 24 rfl rfl rfl (by omega) (by have:=HL.out;omega) _⟩) hS ?_
  simp only [Act.put,zE1,zE2,zE3]
  refine wpAnyH_ready (rs:=[14,23]) (by kernel_rfl) (by simp) ?_
  refine AllReadyH.cons rfl (fun K hK=>?_) (AllReadyH.cons rfl (fun K hK=>?_) AllReadyH.nil)
  ·refine step_callW _ (by rfl) (some 19) rfl 124 #[.tmp 18] #[26] rfl (fun q w'=>by rfl) #[sl (.slice (some ⟨bb,bo,none⟩) 88 cap) 4 8] (by simp only [List.map_toArray,List.map_cons,List.map_nil];rfl) (fun u w'=>(u=.int .u64 l)∧Below x1.heap.size x1 w') ?_ ?_
   ·exact (N4.out x1 hS).mono fun e w' ⟨h1,h2⟩=>⟨_,h1,rfl,h2⟩
   rintro _ x2 ⟨rfl,hb⟩
   have HR:=hdH (HR.out.below hb (range_lt HR.out.1 (by simp [hv])))
   have hW9:Hid (w.heap.size<x2.heap.size):=Nat.lt_of_lt_of_le hW9.out hb.size
   have hS:Below w.heap.size w x2:=hS.trans (hb.mono hS.size)
   clear hb
   refine hK.out _ _ hS (fun _=>?_)
   simp only [Act.put,zE1,zE2,zE3]
   clear hK K
   refine tkH 15 (some 20) (.int .u32 l) rfl rfl (Or.inl ⟨by rfl,fun w' hw'=>by go_simp⟩) hS ?_
   simp only [Act.put,zE1,zE2,zE3]
   refine wpAnyH_ready (rs:=[18,23]) (by kernel_rfl) (by simp) ?_
   refine AllReadyH.cons rfl (fun K hK=>?_) (AllReadyH.cons rfl (fun K hK=>?_) AllReadyH.nil)
   ·refine step_callW _ (by rfl) (some 23) rfl 124 #[.tmp 22] #[26] rfl (fun q w'=>by rfl) #[sl (.slice (some ⟨bb,bo,none⟩) 88 cap) 8 16] (by simp only [List.map_toArray,List.map_cons,List.map_nil];rfl) (fun u w'=>(u=.int .u64 e)∧Below x2.heap.size x2 w') ?_ ?_
    ·exact (N8.out x2 hS).mono fun e w' ⟨h1,h2⟩=>⟨_,h1,rfl,h2⟩
    rintro _ x3 ⟨rfl,hb⟩
    have HR:=hdH (HR.out.below hb (range_lt HR.out.1 (by simp [hv])))
    have hW9:Hid (w.heap.size<x3.heap.size):=Nat.lt_of_lt_of_le hW9.out hb.size
    have hS:Below w.heap.size w x3:=hS.trans (hb.mono hS.size)
    clear hb
    refine hK.out _ _ hS (fun _=>?_)
    simp only [Act.put,zE1,zE2,zE3]
    clear hK K
    refine wpAnyH_ready (rs:=[21,23]) (by kernel_rfl) (by simp) ?_
    refine AllReadyH.cons rfl (fun K hK=>?_) (AllReadyH.cons rfl (fun K hK=>?_) AllReadyH.nil)
    ·refine step_callW _ (by rfl) (some 26) rfl 124 #[.tmp 25] #[26] rfl (fun q w'=>by rfl) #[sl (.slice (some ⟨bb,bo,none⟩) 88 cap) 16 24] (by simp only [List.map_toArray,List.map_cons,List.map_nil];rfl) (fun u w'=>(u=.int .u64 t)∧Below x3.heap.size x3 w') ?_ ?_
     ·exact (N16.out x3 hS).mono fun e w' ⟨h1,h2⟩=>⟨_,h1,rfl,h2⟩
     rintro _ x4 ⟨rfl,hb⟩
     have HR:=hdH (HR.out.below hb (range_lt HR.out.1 (by simp [hv])))
     have hW9:Hid (w.heap.size<x4.heap.size):=Nat.lt_of_lt_of_le hW9.out hb.size
     have hS:Below w.heap.size w x4:=hS.trans (hb.mono hS.size)
     clear hb
     refine hK.out _ _ hS (fun _=>?_)
     simp only [Act.put,zE1,zE2,zE3]
     clear hK K
     refine tkH 22 (some 27) (.agg (hv n0 n1 n2 l e t).toArray) rfl rfl (Or.inl ⟨by rfl,fun w' hw'=>by kernel_rfl⟩) hS ?_
     simp only [Act.put,zE1,zE2,zE3]
     refine wpAnyH_ready (rs:=[23]) (by kernel_rfl) (by simp) ?_
     refine AllReadyH.cons rfl (fun K hK=>?_) AllReadyH.nil
     refine step_newC _ rfl (some 4) rfl 64 rfl (hv 0 0 0 0 0 0) zero_head ?_
     intro x5 V9 hb s9
     have HR:=hdH (HR.out.below hb (range_lt HR.out.1 (by simp [hv])))
     have g4l:w.heap.size<x4.heap.size:=hW9.out
     have hW9:Hid (w.heap.size<x5.heap.size):=Nat.lt_of_lt_of_le g4l hb.size
     obtain ⟨g4,hg4⟩:∃ g,g=x4.heap.size:=⟨_,rfl⟩
     have hS:Below w.heap.size w x5:=hS.trans (hb.mono hS.size)
     rw [←hg4] at V9 g4l s9 ⊢
     have HD:=hdH (V9)
     clear V9 hb hg4
     refine hK.out _ _ hS (fun _=>?_)
     simp only [Act.put,zE1,zE2,zE3]
     clear hK K
     refine wpAnyH_ready (rs:=[24]) (by kernel_rfl) (by simp) ?_
     refine AllReadyH.cons rfl (fun K hK=>?_) AllReadyH.nil
     refine step_storeC _ rfl none rfl (.tmp 4) (.tmp 27) 64 rfl g4 (hv 0 0 0 0 0 0) (hv n0 n1 n2 l e t) rfl rfl HD.out rfl rowy_head.2 (hv_one _ _ _ _ _ _) ?_
     intro x6 v9 B9
     have HD:=hdH (v9)
     have HR:=hdH (HR.out.below B9 g4l)
     have hS:Below w.heap.size w x6:=hS.trans (B9.mono (by omega))
     clear v9 B9
     refine hK.out _ _ hS (fun _=>?_)
     simp only [Act.put]
     clear hK K
     refine wpAnyH_done (by kernel_rfl) ?_ _
     have BB:=hdH (hS)
     clear hS hW9
     have t1:=tR
     go_wp2_with (first
      |(have q2:=t2;go_at_call 16;refine (SR.out _).mono ?_;rintro e9 w5 ⟨rfl,B5⟩;have HR:=hdH (HR.out.below B5 (range_lt HR.out.1 (by simp [hv])));have HD:=hdH (HD.out.below B5 (range_lt HD.out.1 (by simp [hv])));have BB:=hdH (BB.out.trans (B5.mono BB.out.size));clear B5 t2;have t3:=tR)
      |(have q1:=t1;refine load_lawC _ rfl (hv n0 n1 n2 l e t) g4 0 rfl HD.out.1 rowy_head ?_;clear t1;have t2:=tR))
     clear t3
     refine wp_region_held_drew (S:=fun w'=>Below w5.heap.size w5 w') (by kernel_rfl) (Below.refl _ _).drew (fun hS=>?_)
     obtain ⟨y1,hx0⟩:∃ x,x=w5.drew:=⟨_,rfl⟩
     rw [←hx0] at hS ⊢
     clear hx0
     refine tkH 0 (some 32) (.agg (hv n0 n1 n2 l e t).toArray) rfl rfl (Or.inl ⟨by rfl,fun w' hw'=>by exact exec_loadN 64 (.tmp 4) rfl _ rfl _ _ (load_cells rowy_head (HD.out.below hw' (range_lt HD.out.1 (by simp [hv]))).1)⟩) hS ?_
     simp only [Act.put,zE1,zE2,zE3]
     refine tkH 2 (some 34) (.agg (hv n0 n1 n2 l e t).toArray) rfl rfl (Or.inl ⟨by rfl,fun w' hw'=>by exact exec_loadN 64 (.tmp 4) rfl _ rfl _ _ (load_cells rowy_head (HD.out.below hw' (range_lt HD.out.1 (by simp [hv]))).1)⟩) hS ?_
     simp only [Act.put,zE1,zE2,zE3]
     refine tkH 6 (some 38) (.slice (some ⟨bb,bo,none⟩) 88 cap) rfl rfl (Or.inl ⟨by rfl,fun w' hw'=>by rfl⟩) hS ?_
     simp only [Act.put,zE1,zE2,zE3]
     refine tkH 7 (some 39) (sl (.slice (some ⟨bb,bo,none⟩) 88 cap) 0 48) rfl rfl (Or.inl ⟨by rfl,fun w' hw'=>by exact exec_to (.tmp 38) (.const (.int .i64 48)) rfl _ xs _ HB.out 48 rfl rfl (by have:=HL.out;omega) _⟩) hS ?_
     simp only [Act.put,zE1,zE2,zE3]
     refine wpAnyH_ready (rs:=[1]) (by kernel_rfl) (by simp) ?_
     refine AllReadyH.cons rfl (fun K hK=>?_) AllReadyH.nil
     have z1:w5.heap.size≤y1.heap.size:=hS.size
     refine step_callW _ (by rfl) (some 33) rfl 126 #[.tmp 32] #[64] rfl (fun q w'=>by rfl) #[.agg (hv n0 n1 n2 l e t).toArray] (by simp only [List.map_toArray,List.map_cons,List.map_nil];rfl) (fun u w'=>(Own y1.heap.size w' u Z)∧Below y1.heap.size y1 w') ?_ ?_
     ·exact SB.out y1
     rintro u1 y2 ⟨y9,hb⟩
     have O1:=hdH (y9)
     have hS:Below w5.heap.size w5 y2:=hS.trans (hb.mono hS.size)
     clear hb y9
     refine hK.out _ _ hS (fun _=>?_)
     simp only [Act.put,zE1,zE2,zE3]
     clear hK K
     refine wpAnyH_ready (rs:=[3]) (by kernel_rfl) (by simp) ?_
     refine AllReadyH.cons rfl (fun K hK=>?_) AllReadyH.nil
     refine step_callW _ (by rfl) (some 35) rfl 126 #[.tmp 34] #[64] rfl (fun q w'=>by rfl) #[.agg (hv n0 n1 n2 l e t).toArray] (by simp only [List.map_toArray,List.map_cons,List.map_nil];rfl) (fun u w'=>(Own y2.heap.size w' u Z)∧Below y2.heap.size y2 w') ?_ ?_
     ·exact SB.out y2
     rintro u2 y3 ⟨y9,hb⟩
     have O1:=hdH (own_low O1.out hb)
     have O2:=hdH (y9)
     have hS:Below w5.heap.size w5 y3:=hS.trans (hb.mono hS.size)
     clear hb y9
     refine hK.out _ _ hS (fun _=>?_)
     simp only [Act.put,zE1,zE2,zE3]
     clear hK K
     refine wpAnyH_ready (rs:=[4]) (by kernel_rfl) (by simp) ?_
     refine AllReadyH.cons rfl (fun K hK=>?_) AllReadyH.nil
     refine step_callW _ (by rfl) (some 36) rfl 127 #[.tmp 35] #[26] rfl (fun q w'=>by rfl) #[u2] (by simp only [List.map_toArray,List.map_cons,List.map_nil];rfl) (fun u w'=>(Byt w' u (inv Z))∧Below y3.heap.size y3 w') ?_ ?_
     ·exact (rinvert_any _ Z y3 (O2.out.byt AZ.out) (by have:=LZ.out;omega))
     rintro u3 y4 ⟨y9,hb⟩
     have O1:=hdH (own_low O1.out hb)
     have O2:=hdH (own_low O2.out hb)
     have YI:=hdH (y9)
     have hS:Below w5.heap.size w5 y4:=hS.trans (hb.mono hS.size)
     clear hb y9
     refine hK.out _ _ hS (fun _=>?_)
     simp only [Act.put,zE1,zE2,zE3]
     clear hK K
     refine wpAnyH_ready (rs:=[5]) (by kernel_rfl) (by simp) ?_
     refine AllReadyH.cons rfl (fun K hK=>?_) AllReadyH.nil
     refine step_pushs _ rfl (some 37) rfl (.tmp 33) (.tmp 36) rfl w5.heap.size hS.size _ _ Z (inv Z) rfl rfl (own_less O1.out z1) YI.out (by have:=LZ.out;omega) (by have:=LZ.out;omega) ?_
     intro pv y5 y9 hb
     have OP:=hdH (y9)
     have hS:Below w5.heap.size w5 y5:=hS.trans hb
     clear hb y9
     refine hK.out _ _ hS (fun _=>?_)
     simp only [Act.put,zE1,zE2,zE3]
     clear hK K
     refine wpAnyH_ready (rs:=[8]) (by kernel_rfl) (by simp) ?_
     refine AllReadyH.cons rfl (fun K hK=>?_) AllReadyH.nil
     first
      |have m9:=mB
       refine step_callW _ (by rfl) (some 40) rfl 125 #[.tmp 37,.tmp 39] #[26,26] rfl (fun q w'=>by rfl) #[pv,sl (.slice (some ⟨bb,bo,none⟩) 88 cap) 0 48] (by simp only [List.map_toArray,List.map_cons,List.map_nil];rfl) (fun u w'=>(u=.bool true)∧Below y5.heap.size y5 w') ?_ ?_
      |refine step_callW _ (by rfl) (some 40) rfl 125 #[.tmp 37,.tmp 39] #[26,26] rfl (fun q w'=>by rfl) #[pv,sl (.slice (some ⟨bb,bo,none⟩) 88 cap) 0 48] (by simp only [List.map_toArray,List.map_cons,List.map_nil];rfl) (fun u w'=>(u=.bool false)∧Below y5.heap.size y5 w') ?_ ?_
     ·exact (same_any y5 _ _ _ _ (OP.out.byt (allB_app AZ.out AI.out)) (sl_sub ((HB.out.below BB.out).below hS) 0 48 (by omega) (by have:=HL.out;omega))).mono fun e w' ⟨h1,n,h2⟩=>⟨_,h1,by rw [HDS.out],by rw [h2];exact below_drawn (Below.refl _ _) n⟩
     rintro _ y6 ⟨rfl,hb⟩
     have OP:=hdH (own_low OP.out hb)
     have hS:Below w5.heap.size w5 y6:=hS.trans (hb.mono hS.size)
     clear hb
     refine hK.out _ _ hS (fun _=>?_)
     simp only [Act.put,zE1,zE2,zE3]
     clear hK K
     first
      |have m9:=mA
       refine tkH 9 (some 41) (.bool true) rfl rfl (Or.inl ⟨by rfl,fun w' hw'=>by go_simp⟩) hS ?_
      |refine tkH 9 (some 41) (.bool false) rfl rfl (Or.inl ⟨by rfl,fun w' hw'=>by go_simp⟩) hS ?_
     simp only [Act.put,zE1,zE2,zE3]
     refine wpAnyH_done (by kernel_rfl) ?_ _
     have HR:=hdH (HR.out.below hS (range_lt HR.out.1 (by simp [hv])))
     have HD:=hdH (HD.out.below hS (range_lt HD.out.1 (by simp [hv])))
     have BB:=hdH (BB.out.trans (hS.mono BB.out.size))
     clear hS
     have t3:=tR
     go_wp2_with (first
      |(have m9:=mA;have q4:=t4;refine store_lawC _ (hv 0 0 0 0 0 0) w.heap.size 0 rfl rfl HR.out.2 rowy_head.2 (hv_one _ _ _ _ _ _) ?_;intro w6 E6 R6 T6 B6;have HQ:=hdH (R6);clear t4 E6 R6 T6)
      |(have m9:=mA;have q3:=t3;refine build_law _ rfl 64 _ rfl (.agg (hv 0 0 0 0 0 0).toArray) (by kernel_rfl) ?_;clear t3;have t4:=tR)
      |(have m9:=mB;have q4:=t4;refine store_lawC _ (hv n0 n1 n2 l e t) w.heap.size 0 rfl rfl HR.out.2 rowy_head.2 (hv_one _ _ _ _ _ _) ?_;intro w6 E6 R6 T6 B6;have HQ:=hdH (R6);clear t4 E6 R6 T6)
      |(have m9:=mB;have q3:=t3;refine load_lawC _ rfl (hv n0 n1 n2 l e t) g4 0 rfl HD.out.1 rowy_head ?_;clear t3;have t4:=tR))
     first
      |have m9:=mA
       exact bodyPost_ret (v:=.tuple #[.agg (hv 0 0 0 0 0 0).toArray,.bool false]) (results_cv rfl _ _ w.heap.size _ _ rowy_head rfl rfl HQ.out) rfl ⟨rfl,BB.out.trans B6⟩
      |exact bodyPost_ret (v:=.tuple #[.agg (hv n0 n1 n2 l e t).toArray,.bool true]) (results_cv rfl _ _ w.heap.size _ _ rowy_head rfl rfl HQ.out) rfl ⟨rfl,BB.out.trans B6⟩
    ·refine step_newC _ rfl (some 4) rfl 64 rfl (hv 0 0 0 0 0 0) zero_head ?_
     intro x7 V9 hb s9
     have HR:=hdH (HR.out.below hb (range_lt HR.out.1 (by simp [hv])))
     have g4l:w.heap.size<x3.heap.size:=hW9.out
     have hW9:Hid (w.heap.size<x7.heap.size):=Nat.lt_of_lt_of_le g4l hb.size
     obtain ⟨g4,hg4⟩:∃ g,g=x3.heap.size:=⟨_,rfl⟩
     have hS:Below w.heap.size w x7:=hS.trans (hb.mono hS.size)
     rw [←hg4] at V9 g4l s9 ⊢
     have HD:=hdH (V9)
     clear V9 hb hg4
     refine hK.out _ _ hS (fun _=>?_)
     simp only [Act.put,zE1,zE2,zE3]
     clear hK K
     refine wpAnyH_ready (rs:=[21]) (by kernel_rfl) (by simp) ?_
     refine AllReadyH.cons rfl (fun K hK=>?_) AllReadyH.nil
     refine step_callW _ (by rfl) (some 26) rfl 124 #[.tmp 25] #[26] rfl (fun q w'=>by rfl) #[sl (.slice (some ⟨bb,bo,none⟩) 88 cap) 16 24] (by simp only [List.map_toArray,List.map_cons,List.map_nil];rfl) (fun u w'=>(u=.int .u64 t)∧Below x7.heap.size x7 w') ?_ ?_
     ·exact (N16.out x7 hS).mono fun e w' ⟨h1,h2⟩=>⟨_,h1,rfl,h2⟩
     rintro _ x8 ⟨rfl,hb⟩
     have HR:=hdH (HR.out.below hb (range_lt HR.out.1 (by simp [hv])))
     have HD:=hdH (HD.out.below hb (range_lt HD.out.1 (by simp [hv])))
     have hW9:Hid (w.heap.size<x8.heap.size):=Nat.lt_of_lt_of_le hW9.out hb.size
     have hS:Below w.heap.size w x8:=hS.trans (hb.mono hS.size)
     clear hb
     refine hK.out _ _ hS (fun _=>?_)
     simp only [Act.put,zE1,zE2,zE3]
     clear hK K
     refine tkH 22 (some 27) (.agg (hv n0 n1 n2 l e t).toArray) rfl rfl (Or.inl ⟨by rfl,fun w' hw'=>by kernel_rfl⟩) hS ?_
     simp only [Act.put,zE1,zE2,zE3]
     refine wpAnyH_ready (rs:=[24]) (by kernel_rfl) (by simp) ?_
     refine AllReadyH.cons rfl (fun K hK=>?_) AllReadyH.nil
     refine step_storeC _ rfl none rfl (.tmp 4) (.tmp 27) 64 rfl g4 (hv 0 0 0 0 0 0) (hv n0 n1 n2 l e t) rfl rfl HD.out rfl rowy_head.2 (hv_one _ _ _ _ _ _) ?_
     intro x9 v9 B9
     have HD:=hdH (v9)
     have HR:=hdH (HR.out.below B9 g4l)
     have hS:Below w.heap.size w x9:=hS.trans (B9.mono (by omega))
     clear v9 B9
     refine hK.out _ _ hS (fun _=>?_)
     simp only [Act.put]
     clear hK K
     refine wpAnyH_done (by kernel_rfl) ?_ _
     have BB:=hdH (hS)
     clear hS hW9
     have t1:=tR
     go_wp2_with (first
      |(have q2:=t2;go_at_call 16;refine (SR.out _).mono ?_;rintro e9 w5 ⟨rfl,B5⟩;have HR:=hdH (HR.out.below B5 (range_lt HR.out.1 (by simp [hv])));have HD:=hdH (HD.out.below B5 (range_lt HD.out.1 (by simp [hv])));have BB:=hdH (BB.out.trans (B5.mono BB.out.size));clear B5 t2;have t3:=tR)
      |(have q1:=t1;refine load_lawC _ rfl (hv n0 n1 n2 l e t) g4 0 rfl HD.out.1 rowy_head ?_;clear t1;have t2:=tR))
     clear t3
     refine wp_region_held_drew (S:=fun w'=>Below w5.heap.size w5 w') (by kernel_rfl) (Below.refl _ _).drew (fun hS=>?_)
     obtain ⟨y1,hx0⟩:∃ x,x=w5.drew:=⟨_,rfl⟩
     rw [←hx0] at hS ⊢
     clear hx0
     refine tkH 0 (some 32) (.agg (hv n0 n1 n2 l e t).toArray) rfl rfl (Or.inl ⟨by rfl,fun w' hw'=>by exact exec_loadN 64 (.tmp 4) rfl _ rfl _ _ (load_cells rowy_head (HD.out.below hw' (range_lt HD.out.1 (by simp [hv]))).1)⟩) hS ?_
     simp only [Act.put,zE1,zE2,zE3]
     refine tkH 2 (some 34) (.agg (hv n0 n1 n2 l e t).toArray) rfl rfl (Or.inl ⟨by rfl,fun w' hw'=>by exact exec_loadN 64 (.tmp 4) rfl _ rfl _ _ (load_cells rowy_head (HD.out.below hw' (range_lt HD.out.1 (by simp [hv]))).1)⟩) hS ?_
     simp only [Act.put,zE1,zE2,zE3]
     refine tkH 6 (some 38) (.slice (some ⟨bb,bo,none⟩) 88 cap) rfl rfl (Or.inl ⟨by rfl,fun w' hw'=>by rfl⟩) hS ?_
     simp only [Act.put,zE1,zE2,zE3]
     refine tkH 7 (some 39) (sl (.slice (some ⟨bb,bo,none⟩) 88 cap) 0 48) rfl rfl (Or.inl ⟨by rfl,fun w' hw'=>by exact exec_to (.tmp 38) (.const (.int .i64 48)) rfl _ xs _ HB.out 48 rfl rfl (by have:=HL.out;omega) _⟩) hS ?_
     simp only [Act.put,zE1,zE2,zE3]
     refine wpAnyH_ready (rs:=[1]) (by kernel_rfl) (by simp) ?_
     refine AllReadyH.cons rfl (fun K hK=>?_) AllReadyH.nil
     have z1:w5.heap.size≤y1.heap.size:=hS.size
     refine step_callW _ (by rfl) (some 33) rfl 126 #[.tmp 32] #[64] rfl (fun q w'=>by rfl) #[.agg (hv n0 n1 n2 l e t).toArray] (by simp only [List.map_toArray,List.map_cons,List.map_nil];rfl) (fun u w'=>(Own y1.heap.size w' u Z)∧Below y1.heap.size y1 w') ?_ ?_
     ·exact SB.out y1
     rintro u1 y2 ⟨y9,hb⟩
     have O1:=hdH (y9)
     have hS:Below w5.heap.size w5 y2:=hS.trans (hb.mono hS.size)
     clear hb y9
     refine hK.out _ _ hS (fun _=>?_)
     simp only [Act.put,zE1,zE2,zE3]
     clear hK K
     refine wpAnyH_ready (rs:=[3]) (by kernel_rfl) (by simp) ?_
     refine AllReadyH.cons rfl (fun K hK=>?_) AllReadyH.nil
     refine step_callW _ (by rfl) (some 35) rfl 126 #[.tmp 34] #[64] rfl (fun q w'=>by rfl) #[.agg (hv n0 n1 n2 l e t).toArray] (by simp only [List.map_toArray,List.map_cons,List.map_nil];rfl) (fun u w'=>(Own y2.heap.size w' u Z)∧Below y2.heap.size y2 w') ?_ ?_
     ·exact SB.out y2
     rintro u2 y3 ⟨y9,hb⟩
     have O1:=hdH (own_low O1.out hb)
     have O2:=hdH (y9)
     have hS:Below w5.heap.size w5 y3:=hS.trans (hb.mono hS.size)
     clear hb y9
     refine hK.out _ _ hS (fun _=>?_)
     simp only [Act.put,zE1,zE2,zE3]
     clear hK K
     refine wpAnyH_ready (rs:=[4]) (by kernel_rfl) (by simp) ?_
     refine AllReadyH.cons rfl (fun K hK=>?_) AllReadyH.nil
     refine step_callW _ (by rfl) (some 36) rfl 127 #[.tmp 35] #[26] rfl (fun q w'=>by rfl) #[u2] (by simp only [List.map_toArray,List.map_cons,List.map_nil];rfl) (fun u w'=>(Byt w' u (inv Z))∧Below y3.heap.size y3 w') ?_ ?_
     ·exact (rinvert_any _ Z y3 (O2.out.byt AZ.out) (by have:=LZ.out;omega))
     rintro u3 y4 ⟨y9,hb⟩
     have O1:=hdH (own_low O1.out hb)
     have O2:=hdH (own_low O2.out hb)
     have YI:=hdH (y9)
     have hS:Below w5.heap.size w5 y4:=hS.trans (hb.mono hS.size)
     clear hb y9
     refine hK.out _ _ hS (fun _=>?_)
     simp only [Act.put,zE1,zE2,zE3]
     clear hK K
     refine wpAnyH_ready (rs:=[5]) (by kernel_rfl) (by simp) ?_
     refine AllReadyH.cons rfl (fun K hK=>?_) AllReadyH.nil
     refine step_pushs _ rfl (some 37) rfl (.tmp 33) (.tmp 36) rfl w5.heap.size hS.size _ _ Z (inv Z) rfl rfl (own_less O1.out z1) YI.out (by have:=LZ.out;omega) (by have:=LZ.out;omega) ?_
     intro pv y5 y9 hb
     have OP:=hdH (y9)
     have hS:Below w5.heap.size w5 y5:=hS.trans hb
     clear hb y9
     refine hK.out _ _ hS (fun _=>?_)
     simp only [Act.put,zE1,zE2,zE3]
     clear hK K
     refine wpAnyH_ready (rs:=[8]) (by kernel_rfl) (by simp) ?_
     refine AllReadyH.cons rfl (fun K hK=>?_) AllReadyH.nil
     first
      |have m9:=mB
       refine step_callW _ (by rfl) (some 40) rfl 125 #[.tmp 37,.tmp 39] #[26,26] rfl (fun q w'=>by rfl) #[pv,sl (.slice (some ⟨bb,bo,none⟩) 88 cap) 0 48] (by simp only [List.map_toArray,List.map_cons,List.map_nil];rfl) (fun u w'=>(u=.bool true)∧Below y5.heap.size y5 w') ?_ ?_
      |refine step_callW _ (by rfl) (some 40) rfl 125 #[.tmp 37,.tmp 39] #[26,26] rfl (fun q w'=>by rfl) #[pv,sl (.slice (some ⟨bb,bo,none⟩) 88 cap) 0 48] (by simp only [List.map_toArray,List.map_cons,List.map_nil];rfl) (fun u w'=>(u=.bool false)∧Below y5.heap.size y5 w') ?_ ?_
     ·exact (same_any y5 _ _ _ _ (OP.out.byt (allB_app AZ.out AI.out)) (sl_sub ((HB.out.below BB.out).below hS) 0 48 (by omega) (by have:=HL.out;omega))).mono fun e w' ⟨h1,n,h2⟩=>⟨_,h1,by rw [HDS.out],by rw [h2];exact below_drawn (Below.refl _ _) n⟩
     rintro _ y6 ⟨rfl,hb⟩
     have OP:=hdH (own_low OP.out hb)
     have hS:Below w5.heap.size w5 y6:=hS.trans (hb.mono hS.size)
     clear hb
     refine hK.out _ _ hS (fun _=>?_)
     simp only [Act.put,zE1,zE2,zE3]
     clear hK K
     first
      |have m9:=mA
       refine tkH 9 (some 41) (.bool true) rfl rfl (Or.inl ⟨by rfl,fun w' hw'=>by go_simp⟩) hS ?_
      |refine tkH 9 (some 41) (.bool false) rfl rfl (Or.inl ⟨by rfl,fun w' hw'=>by go_simp⟩) hS ?_
     simp only [Act.put,zE1,zE2,zE3]
     refine wpAnyH_done (by kernel_rfl) ?_ _
     have HR:=hdH (HR.out.below hS (range_lt HR.out.1 (by simp [hv])))
     have HD:=hdH (HD.out.below hS (range_lt HD.out.1 (by simp [hv])))
     have BB:=hdH (BB.out.trans (hS.mono BB.out.size))
     clear hS
     have t3:=tR
     go_wp2_with (first
      |(have m9:=mA;have q4:=t4;refine store_lawC _ (hv 0 0 0 0 0 0) w.heap.size 0 rfl rfl HR.out.2 rowy_head.2 (hv_one _ _ _ _ _ _) ?_;intro w6 E6 R6 T6 B6;have HQ:=hdH (R6);clear t4 E6 R6 T6)
      |(have m9:=mA;have q3:=t3;refine build_law _ rfl 64 _ rfl (.agg (hv 0 0 0 0 0 0).toArray) (by kernel_rfl) ?_;clear t3;have t4:=tR)
      |(have m9:=mB;have q4:=t4;refine store_lawC _ (hv n0 n1 n2 l e t) w.heap.size 0 rfl rfl HR.out.2 rowy_head.2 (hv_one _ _ _ _ _ _) ?_;intro w6 E6 R6 T6 B6;have HQ:=hdH (R6);clear t4 E6 R6 T6)
      |(have m9:=mB;have q3:=t3;refine load_lawC _ rfl (hv n0 n1 n2 l e t) g4 0 rfl HD.out.1 rowy_head ?_;clear t3;have t4:=tR))
     first
      |have m9:=mA
       exact bodyPost_ret (v:=.tuple #[.agg (hv 0 0 0 0 0 0).toArray,.bool false]) (results_cv rfl _ _ w.heap.size _ _ rowy_head rfl rfl HQ.out) rfl ⟨rfl,BB.out.trans B6⟩
      |exact bodyPost_ret (v:=.tuple #[.agg (hv n0 n1 n2 l e t).toArray,.bool true]) (results_cv rfl _ _ w.heap.size _ _ rowy_head rfl rfl HQ.out) rfl ⟨rfl,BB.out.trans B6⟩
   ·refine step_newC _ rfl (some 4) rfl 64 rfl (hv 0 0 0 0 0 0) zero_head ?_
    intro x10 V9 hb s9
    have HR:=hdH (HR.out.below hb (range_lt HR.out.1 (by simp [hv])))
    have g4l:w.heap.size<x2.heap.size:=hW9.out
    have hW9:Hid (w.heap.size<x10.heap.size):=Nat.lt_of_lt_of_le g4l hb.size
    obtain ⟨g4,hg4⟩:∃ g,g=x2.heap.size:=⟨_,rfl⟩
    have hS:Below w.heap.size w x10:=hS.trans (hb.mono hS.size)
    rw [←hg4] at V9 g4l s9 ⊢
    have HD:=hdH (V9)
    clear V9 hb hg4
    refine hK.out _ _ hS (fun _=>?_)
    simp only [Act.put,zE1,zE2,zE3]
    clear hK K
    refine wpAnyH_ready (rs:=[18]) (by kernel_rfl) (by simp) ?_
    refine AllReadyH.cons rfl (fun K hK=>?_) AllReadyH.nil
    refine step_callW _ (by rfl) (some 23) rfl 124 #[.tmp 22] #[26] rfl (fun q w'=>by rfl) #[sl (.slice (some ⟨bb,bo,none⟩) 88 cap) 8 16] (by simp only [List.map_toArray,List.map_cons,List.map_nil];rfl) (fun u w'=>(u=.int .u64 e)∧Below x10.heap.size x10 w') ?_ ?_
    ·exact (N8.out x10 hS).mono fun e w' ⟨h1,h2⟩=>⟨_,h1,rfl,h2⟩
    rintro _ x11 ⟨rfl,hb⟩
    have HR:=hdH (HR.out.below hb (range_lt HR.out.1 (by simp [hv])))
    have HD:=hdH (HD.out.below hb (range_lt HD.out.1 (by simp [hv])))
    have hW9:Hid (w.heap.size<x11.heap.size):=Nat.lt_of_lt_of_le hW9.out hb.size
    have hS:Below w.heap.size w x11:=hS.trans (hb.mono hS.size)
    clear hb
    refine hK.out _ _ hS (fun _=>?_)
    simp only [Act.put,zE1,zE2,zE3]
    clear hK K
    refine wpAnyH_ready (rs:=[21]) (by kernel_rfl) (by simp) ?_
    refine AllReadyH.cons rfl (fun K hK=>?_) AllReadyH.nil
    refine step_callW _ (by rfl) (some 26) rfl 124 #[.tmp 25] #[26] rfl (fun q w'=>by rfl) #[sl (.slice (some ⟨bb,bo,none⟩) 88 cap) 16 24] (by simp only [List.map_toArray,List.map_cons,List.map_nil];rfl) (fun u w'=>(u=.int .u64 t)∧Below x11.heap.size x11 w') ?_ ?_
    ·exact (N16.out x11 hS).mono fun e w' ⟨h1,h2⟩=>⟨_,h1,rfl,h2⟩
    rintro _ x12 ⟨rfl,hb⟩
    have HR:=hdH (HR.out.below hb (range_lt HR.out.1 (by simp [hv])))
    have HD:=hdH (HD.out.below hb (range_lt HD.out.1 (by simp [hv])))
    have hW9:Hid (w.heap.size<x12.heap.size):=Nat.lt_of_lt_of_le hW9.out hb.size
    have hS:Below w.heap.size w x12:=hS.trans (hb.mono hS.size)
    clear hb
    refine hK.out _ _ hS (fun _=>?_)
    simp only [Act.put,zE1,zE2,zE3]
    clear hK K
    refine tkH 22 (some 27) (.agg (hv n0 n1 n2 l e t).toArray) rfl rfl (Or.inl ⟨by rfl,fun w' hw'=>by kernel_rfl⟩) hS ?_
    simp only [Act.put,zE1,zE2,zE3]
    refine wpAnyH_ready (rs:=[24]) (by kernel_rfl) (by simp) ?_
    refine AllReadyH.cons rfl (fun K hK=>?_) AllReadyH.nil
    refine step_storeC _ rfl none rfl (.tmp 4) (.tmp 27) 64 rfl g4 (hv 0 0 0 0 0 0) (hv n0 n1 n2 l e t) rfl rfl HD.out rfl rowy_head.2 (hv_one _ _ _ _ _ _) ?_
    intro x13 v9 B9
    have HD:=hdH (v9)
    have HR:=hdH (HR.out.below B9 g4l)
    have hS:Below w.heap.size w x13:=hS.trans (B9.mono (by omega))
    clear v9 B9
    refine hK.out _ _ hS (fun _=>?_)
    simp only [Act.put]
    clear hK K
    refine wpAnyH_done (by kernel_rfl) ?_ _
    have BB:=hdH (hS)
    clear hS hW9
    have t1:=tR
    go_wp2_with (first
     |(have q2:=t2;go_at_call 16;refine (SR.out _).mono ?_;rintro e9 w5 ⟨rfl,B5⟩;have HR:=hdH (HR.out.below B5 (range_lt HR.out.1 (by simp [hv])));have HD:=hdH (HD.out.below B5 (range_lt HD.out.1 (by simp [hv])));have BB:=hdH (BB.out.trans (B5.mono BB.out.size));clear B5 t2;have t3:=tR)
     |(have q1:=t1;refine load_lawC _ rfl (hv n0 n1 n2 l e t) g4 0 rfl HD.out.1 rowy_head ?_;clear t1;have t2:=tR))
    clear t3
    refine wp_region_held_drew (S:=fun w'=>Below w5.heap.size w5 w') (by kernel_rfl) (Below.refl _ _).drew (fun hS=>?_)
    obtain ⟨y1,hx0⟩:∃ x,x=w5.drew:=⟨_,rfl⟩
    rw [←hx0] at hS ⊢
    clear hx0
    refine tkH 0 (some 32) (.agg (hv n0 n1 n2 l e t).toArray) rfl rfl (Or.inl ⟨by rfl,fun w' hw'=>by exact exec_loadN 64 (.tmp 4) rfl _ rfl _ _ (load_cells rowy_head (HD.out.below hw' (range_lt HD.out.1 (by simp [hv]))).1)⟩) hS ?_
    simp only [Act.put,zE1,zE2,zE3]
    refine tkH 2 (some 34) (.agg (hv n0 n1 n2 l e t).toArray) rfl rfl (Or.inl ⟨by rfl,fun w' hw'=>by exact exec_loadN 64 (.tmp 4) rfl _ rfl _ _ (load_cells rowy_head (HD.out.below hw' (range_lt HD.out.1 (by simp [hv]))).1)⟩) hS ?_
    simp only [Act.put,zE1,zE2,zE3]
    refine tkH 6 (some 38) (.slice (some ⟨bb,bo,none⟩) 88 cap) rfl rfl (Or.inl ⟨by rfl,fun w' hw'=>by rfl⟩) hS ?_
    simp only [Act.put,zE1,zE2,zE3]
    refine tkH 7 (some 39) (sl (.slice (some ⟨bb,bo,none⟩) 88 cap) 0 48) rfl rfl (Or.inl ⟨by rfl,fun w' hw'=>by exact exec_to (.tmp 38) (.const (.int .i64 48)) rfl _ xs _ HB.out 48 rfl rfl (by have:=HL.out;omega) _⟩) hS ?_
    simp only [Act.put,zE1,zE2,zE3]
    refine wpAnyH_ready (rs:=[1]) (by kernel_rfl) (by simp) ?_
    refine AllReadyH.cons rfl (fun K hK=>?_) AllReadyH.nil
    have z1:w5.heap.size≤y1.heap.size:=hS.size
    refine step_callW _ (by rfl) (some 33) rfl 126 #[.tmp 32] #[64] rfl (fun q w'=>by rfl) #[.agg (hv n0 n1 n2 l e t).toArray] (by simp only [List.map_toArray,List.map_cons,List.map_nil];rfl) (fun u w'=>(Own y1.heap.size w' u Z)∧Below y1.heap.size y1 w') ?_ ?_
    ·exact SB.out y1
    rintro u1 y2 ⟨y9,hb⟩
    have O1:=hdH (y9)
    have hS:Below w5.heap.size w5 y2:=hS.trans (hb.mono hS.size)
    clear hb y9
    refine hK.out _ _ hS (fun _=>?_)
    simp only [Act.put,zE1,zE2,zE3]
    clear hK K
    refine wpAnyH_ready (rs:=[3]) (by kernel_rfl) (by simp) ?_
    refine AllReadyH.cons rfl (fun K hK=>?_) AllReadyH.nil
    refine step_callW _ (by rfl) (some 35) rfl 126 #[.tmp 34] #[64] rfl (fun q w'=>by rfl) #[.agg (hv n0 n1 n2 l e t).toArray] (by simp only [List.map_toArray,List.map_cons,List.map_nil];rfl) (fun u w'=>(Own y2.heap.size w' u Z)∧Below y2.heap.size y2 w') ?_ ?_
    ·exact SB.out y2
    rintro u2 y3 ⟨y9,hb⟩
    have O1:=hdH (own_low O1.out hb)
    have O2:=hdH (y9)
    have hS:Below w5.heap.size w5 y3:=hS.trans (hb.mono hS.size)
    clear hb y9
    refine hK.out _ _ hS (fun _=>?_)
    simp only [Act.put,zE1,zE2,zE3]
    clear hK K
    refine wpAnyH_ready (rs:=[4]) (by kernel_rfl) (by simp) ?_
    refine AllReadyH.cons rfl (fun K hK=>?_) AllReadyH.nil
    refine step_callW _ (by rfl) (some 36) rfl 127 #[.tmp 35] #[26] rfl (fun q w'=>by rfl) #[u2] (by simp only [List.map_toArray,List.map_cons,List.map_nil];rfl) (fun u w'=>(Byt w' u (inv Z))∧Below y3.heap.size y3 w') ?_ ?_
    ·exact (rinvert_any _ Z y3 (O2.out.byt AZ.out) (by have:=LZ.out;omega))
    rintro u3 y4 ⟨y9,hb⟩
    have O1:=hdH (own_low O1.out hb)
    have O2:=hdH (own_low O2.out hb)
    have YI:=hdH (y9)
    have hS:Below w5.heap.size w5 y4:=hS.trans (hb.mono hS.size)
    clear hb y9
    refine hK.out _ _ hS (fun _=>?_)
    simp only [Act.put,zE1,zE2,zE3]
    clear hK K
    refine wpAnyH_ready (rs:=[5]) (by kernel_rfl) (by simp) ?_
    refine AllReadyH.cons rfl (fun K hK=>?_) AllReadyH.nil
    refine step_pushs _ rfl (some 37) rfl (.tmp 33) (.tmp 36) rfl w5.heap.size hS.size _ _ Z (inv Z) rfl rfl (own_less O1.out z1) YI.out (by have:=LZ.out;omega) (by have:=LZ.out;omega) ?_
    intro pv y5 y9 hb
    have OP:=hdH (y9)
    have hS:Below w5.heap.size w5 y5:=hS.trans hb
    clear hb y9
    refine hK.out _ _ hS (fun _=>?_)
    simp only [Act.put,zE1,zE2,zE3]
    clear hK K
    refine wpAnyH_ready (rs:=[8]) (by kernel_rfl) (by simp) ?_
    refine AllReadyH.cons rfl (fun K hK=>?_) AllReadyH.nil
    first
     |have m9:=mB
      refine step_callW _ (by rfl) (some 40) rfl 125 #[.tmp 37,.tmp 39] #[26,26] rfl (fun q w'=>by rfl) #[pv,sl (.slice (some ⟨bb,bo,none⟩) 88 cap) 0 48] (by simp only [List.map_toArray,List.map_cons,List.map_nil];rfl) (fun u w'=>(u=.bool true)∧Below y5.heap.size y5 w') ?_ ?_
     |refine step_callW _ (by rfl) (some 40) rfl 125 #[.tmp 37,.tmp 39] #[26,26] rfl (fun q w'=>by rfl) #[pv,sl (.slice (some ⟨bb,bo,none⟩) 88 cap) 0 48] (by simp only [List.map_toArray,List.map_cons,List.map_nil];rfl) (fun u w'=>(u=.bool false)∧Below y5.heap.size y5 w') ?_ ?_
    ·exact (same_any y5 _ _ _ _ (OP.out.byt (allB_app AZ.out AI.out)) (sl_sub ((HB.out.below BB.out).below hS) 0 48 (by omega) (by have:=HL.out;omega))).mono fun e w' ⟨h1,n,h2⟩=>⟨_,h1,by rw [HDS.out],by rw [h2];exact below_drawn (Below.refl _ _) n⟩
    rintro _ y6 ⟨rfl,hb⟩
    have OP:=hdH (own_low OP.out hb)
    have hS:Below w5.heap.size w5 y6:=hS.trans (hb.mono hS.size)
    clear hb
    refine hK.out _ _ hS (fun _=>?_)
    simp only [Act.put,zE1,zE2,zE3]
    clear hK K
    first
     |have m9:=mA
      refine tkH 9 (some 41) (.bool true) rfl rfl (Or.inl ⟨by rfl,fun w' hw'=>by go_simp⟩) hS ?_
     |refine tkH 9 (some 41) (.bool false) rfl rfl (Or.inl ⟨by rfl,fun w' hw'=>by go_simp⟩) hS ?_
    simp only [Act.put,zE1,zE2,zE3]
    refine wpAnyH_done (by kernel_rfl) ?_ _
    have HR:=hdH (HR.out.below hS (range_lt HR.out.1 (by simp [hv])))
    have HD:=hdH (HD.out.below hS (range_lt HD.out.1 (by simp [hv])))
    have BB:=hdH (BB.out.trans (hS.mono BB.out.size))
    clear hS
    have t3:=tR
    go_wp2_with (first
     |(have m9:=mA;have q4:=t4;refine store_lawC _ (hv 0 0 0 0 0 0) w.heap.size 0 rfl rfl HR.out.2 rowy_head.2 (hv_one _ _ _ _ _ _) ?_;intro w6 E6 R6 T6 B6;have HQ:=hdH (R6);clear t4 E6 R6 T6)
     |(have m9:=mA;have q3:=t3;refine build_law _ rfl 64 _ rfl (.agg (hv 0 0 0 0 0 0).toArray) (by kernel_rfl) ?_;clear t3;have t4:=tR)
     |(have m9:=mB;have q4:=t4;refine store_lawC _ (hv n0 n1 n2 l e t) w.heap.size 0 rfl rfl HR.out.2 rowy_head.2 (hv_one _ _ _ _ _ _) ?_;intro w6 E6 R6 T6 B6;have HQ:=hdH (R6);clear t4 E6 R6 T6)
     |(have m9:=mB;have q3:=t3;refine load_lawC _ rfl (hv n0 n1 n2 l e t) g4 0 rfl HD.out.1 rowy_head ?_;clear t3;have t4:=tR))
    first
     |have m9:=mA
      exact bodyPost_ret (v:=.tuple #[.agg (hv 0 0 0 0 0 0).toArray,.bool false]) (results_cv rfl _ _ w.heap.size _ _ rowy_head rfl rfl HQ.out) rfl ⟨rfl,BB.out.trans B6⟩
     |exact bodyPost_ret (v:=.tuple #[.agg (hv n0 n1 n2 l e t).toArray,.bool true]) (results_cv rfl _ _ w.heap.size _ _ rowy_head rfl rfl HQ.out) rfl ⟨rfl,BB.out.trans B6⟩
  ·refine step_newC _ rfl (some 4) rfl 64 rfl (hv 0 0 0 0 0 0) zero_head ?_
   intro x14 V9 hb s9
   have HR:=hdH (HR.out.below hb (range_lt HR.out.1 (by simp [hv])))
   have g4l:w.heap.size<x1.heap.size:=hW9.out
   have hW9:Hid (w.heap.size<x14.heap.size):=Nat.lt_of_lt_of_le g4l hb.size
   obtain ⟨g4,hg4⟩:∃ g,g=x1.heap.size:=⟨_,rfl⟩
   have hS:Below w.heap.size w x14:=hS.trans (hb.mono hS.size)
   rw [←hg4] at V9 g4l s9 ⊢
   have HD:=hdH (V9)
   clear V9 hb hg4
   refine hK.out _ _ hS (fun _=>?_)
   simp only [Act.put,zE1,zE2,zE3]
   clear hK K
   refine wpAnyH_ready (rs:=[14]) (by kernel_rfl) (by simp) ?_
   refine AllReadyH.cons rfl (fun K hK=>?_) AllReadyH.nil
   refine step_callW _ (by rfl) (some 19) rfl 124 #[.tmp 18] #[26] rfl (fun q w'=>by rfl) #[sl (.slice (some ⟨bb,bo,none⟩) 88 cap) 4 8] (by simp only [List.map_toArray,List.map_cons,List.map_nil];rfl) (fun u w'=>(u=.int .u64 l)∧Below x14.heap.size x14 w') ?_ ?_
   ·exact (N4.out x14 hS).mono fun e w' ⟨h1,h2⟩=>⟨_,h1,rfl,h2⟩
   rintro _ x15 ⟨rfl,hb⟩
   have HR:=hdH (HR.out.below hb (range_lt HR.out.1 (by simp [hv])))
   have HD:=hdH (HD.out.below hb (range_lt HD.out.1 (by simp [hv])))
   have hW9:Hid (w.heap.size<x15.heap.size):=Nat.lt_of_lt_of_le hW9.out hb.size
   have hS:Below w.heap.size w x15:=hS.trans (hb.mono hS.size)
   clear hb
   refine hK.out _ _ hS (fun _=>?_)
   simp only [Act.put,zE1,zE2,zE3]
   clear hK K
   refine tkH 15 (some 20) (.int .u32 l) rfl rfl (Or.inl ⟨by rfl,fun w' hw'=>by go_simp⟩) hS ?_
   simp only [Act.put,zE1,zE2,zE3]
   refine wpAnyH_ready (rs:=[18]) (by kernel_rfl) (by simp) ?_
   refine AllReadyH.cons rfl (fun K hK=>?_) AllReadyH.nil
   refine step_callW _ (by rfl) (some 23) rfl 124 #[.tmp 22] #[26] rfl (fun q w'=>by rfl) #[sl (.slice (some ⟨bb,bo,none⟩) 88 cap) 8 16] (by simp only [List.map_toArray,List.map_cons,List.map_nil];rfl) (fun u w'=>(u=.int .u64 e)∧Below x15.heap.size x15 w') ?_ ?_
   ·exact (N8.out x15 hS).mono fun e w' ⟨h1,h2⟩=>⟨_,h1,rfl,h2⟩
   rintro _ x16 ⟨rfl,hb⟩
   have HR:=hdH (HR.out.below hb (range_lt HR.out.1 (by simp [hv])))
   have HD:=hdH (HD.out.below hb (range_lt HD.out.1 (by simp [hv])))
   have hW9:Hid (w.heap.size<x16.heap.size):=Nat.lt_of_lt_of_le hW9.out hb.size
   have hS:Below w.heap.size w x16:=hS.trans (hb.mono hS.size)
   clear hb
   refine hK.out _ _ hS (fun _=>?_)
   simp only [Act.put,zE1,zE2,zE3]
   clear hK K
   refine wpAnyH_ready (rs:=[21]) (by kernel_rfl) (by simp) ?_
   refine AllReadyH.cons rfl (fun K hK=>?_) AllReadyH.nil
   refine step_callW _ (by rfl) (some 26) rfl 124 #[.tmp 25] #[26] rfl (fun q w'=>by rfl) #[sl (.slice (some ⟨bb,bo,none⟩) 88 cap) 16 24] (by simp only [List.map_toArray,List.map_cons,List.map_nil];rfl) (fun u w'=>(u=.int .u64 t)∧Below x16.heap.size x16 w') ?_ ?_
   ·exact (N16.out x16 hS).mono fun e w' ⟨h1,h2⟩=>⟨_,h1,rfl,h2⟩
   rintro _ x17 ⟨rfl,hb⟩
   have HR:=hdH (HR.out.below hb (range_lt HR.out.1 (by simp [hv])))
   have HD:=hdH (HD.out.below hb (range_lt HD.out.1 (by simp [hv])))
   have hW9:Hid (w.heap.size<x17.heap.size):=Nat.lt_of_lt_of_le hW9.out hb.size
   have hS:Below w.heap.size w x17:=hS.trans (hb.mono hS.size)
   clear hb
   refine hK.out _ _ hS (fun _=>?_)
   simp only [Act.put,zE1,zE2,zE3]
   clear hK K
   refine tkH 22 (some 27) (.agg (hv n0 n1 n2 l e t).toArray) rfl rfl (Or.inl ⟨by rfl,fun w' hw'=>by kernel_rfl⟩) hS ?_
   simp only [Act.put,zE1,zE2,zE3]
   refine wpAnyH_ready (rs:=[24]) (by kernel_rfl) (by simp) ?_
   refine AllReadyH.cons rfl (fun K hK=>?_) AllReadyH.nil
   refine step_storeC _ rfl none rfl (.tmp 4) (.tmp 27) 64 rfl g4 (hv 0 0 0 0 0 0) (hv n0 n1 n2 l e t) rfl rfl HD.out rfl rowy_head.2 (hv_one _ _ _ _ _ _) ?_
   intro x18 v9 B9
   have HD:=hdH (v9)
   have HR:=hdH (HR.out.below B9 g4l)
   have hS:Below w.heap.size w x18:=hS.trans (B9.mono (by omega))
   clear v9 B9
   refine hK.out _ _ hS (fun _=>?_)
   simp only [Act.put]
   clear hK K
   refine wpAnyH_done (by kernel_rfl) ?_ _
   have BB:=hdH (hS)
   clear hS hW9
   have t1:=tR
   go_wp2_with (first
    |(have q2:=t2;go_at_call 16;refine (SR.out _).mono ?_;rintro e9 w5 ⟨rfl,B5⟩;have HR:=hdH (HR.out.below B5 (range_lt HR.out.1 (by simp [hv])));have HD:=hdH (HD.out.below B5 (range_lt HD.out.1 (by simp [hv])));have BB:=hdH (BB.out.trans (B5.mono BB.out.size));clear B5 t2;have t3:=tR)
    |(have q1:=t1;refine load_lawC _ rfl (hv n0 n1 n2 l e t) g4 0 rfl HD.out.1 rowy_head ?_;clear t1;have t2:=tR))
   clear t3
   refine wp_region_held_drew (S:=fun w'=>Below w5.heap.size w5 w') (by kernel_rfl) (Below.refl _ _).drew (fun hS=>?_)
   obtain ⟨y1,hx0⟩:∃ x,x=w5.drew:=⟨_,rfl⟩
   rw [←hx0] at hS ⊢
   clear hx0
   refine tkH 0 (some 32) (.agg (hv n0 n1 n2 l e t).toArray) rfl rfl (Or.inl ⟨by rfl,fun w' hw'=>by exact exec_loadN 64 (.tmp 4) rfl _ rfl _ _ (load_cells rowy_head (HD.out.below hw' (range_lt HD.out.1 (by simp [hv]))).1)⟩) hS ?_
   simp only [Act.put,zE1,zE2,zE3]
   refine tkH 2 (some 34) (.agg (hv n0 n1 n2 l e t).toArray) rfl rfl (Or.inl ⟨by rfl,fun w' hw'=>by exact exec_loadN 64 (.tmp 4) rfl _ rfl _ _ (load_cells rowy_head (HD.out.below hw' (range_lt HD.out.1 (by simp [hv]))).1)⟩) hS ?_
   simp only [Act.put,zE1,zE2,zE3]
   refine tkH 6 (some 38) (.slice (some ⟨bb,bo,none⟩) 88 cap) rfl rfl (Or.inl ⟨by rfl,fun w' hw'=>by rfl⟩) hS ?_
   simp only [Act.put,zE1,zE2,zE3]
   refine tkH 7 (some 39) (sl (.slice (some ⟨bb,bo,none⟩) 88 cap) 0 48) rfl rfl (Or.inl ⟨by rfl,fun w' hw'=>by exact exec_to (.tmp 38) (.const (.int .i64 48)) rfl _ xs _ HB.out 48 rfl rfl (by have:=HL.out;omega) _⟩) hS ?_
   simp only [Act.put,zE1,zE2,zE3]
   refine wpAnyH_ready (rs:=[1]) (by kernel_rfl) (by simp) ?_
   refine AllReadyH.cons rfl (fun K hK=>?_) AllReadyH.nil
   have z1:w5.heap.size≤y1.heap.size:=hS.size
   refine step_callW _ (by rfl) (some 33) rfl 126 #[.tmp 32] #[64] rfl (fun q w'=>by rfl) #[.agg (hv n0 n1 n2 l e t).toArray] (by simp only [List.map_toArray,List.map_cons,List.map_nil];rfl) (fun u w'=>(Own y1.heap.size w' u Z)∧Below y1.heap.size y1 w') ?_ ?_
   ·exact SB.out y1
   rintro u1 y2 ⟨y9,hb⟩
   have O1:=hdH (y9)
   have hS:Below w5.heap.size w5 y2:=hS.trans (hb.mono hS.size)
   clear hb y9
   refine hK.out _ _ hS (fun _=>?_)
   simp only [Act.put,zE1,zE2,zE3]
   clear hK K
   refine wpAnyH_ready (rs:=[3]) (by kernel_rfl) (by simp) ?_
   refine AllReadyH.cons rfl (fun K hK=>?_) AllReadyH.nil
   refine step_callW _ (by rfl) (some 35) rfl 126 #[.tmp 34] #[64] rfl (fun q w'=>by rfl) #[.agg (hv n0 n1 n2 l e t).toArray] (by simp only [List.map_toArray,List.map_cons,List.map_nil];rfl) (fun u w'=>(Own y2.heap.size w' u Z)∧Below y2.heap.size y2 w') ?_ ?_
   ·exact SB.out y2
   rintro u2 y3 ⟨y9,hb⟩
   have O1:=hdH (own_low O1.out hb)
   have O2:=hdH (y9)
   have hS:Below w5.heap.size w5 y3:=hS.trans (hb.mono hS.size)
   clear hb y9
   refine hK.out _ _ hS (fun _=>?_)
   simp only [Act.put,zE1,zE2,zE3]
   clear hK K
   refine wpAnyH_ready (rs:=[4]) (by kernel_rfl) (by simp) ?_
   refine AllReadyH.cons rfl (fun K hK=>?_) AllReadyH.nil
   refine step_callW _ (by rfl) (some 36) rfl 127 #[.tmp 35] #[26] rfl (fun q w'=>by rfl) #[u2] (by simp only [List.map_toArray,List.map_cons,List.map_nil];rfl) (fun u w'=>(Byt w' u (inv Z))∧Below y3.heap.size y3 w') ?_ ?_
   ·exact (rinvert_any _ Z y3 (O2.out.byt AZ.out) (by have:=LZ.out;omega))
   rintro u3 y4 ⟨y9,hb⟩
   have O1:=hdH (own_low O1.out hb)
   have O2:=hdH (own_low O2.out hb)
   have YI:=hdH (y9)
   have hS:Below w5.heap.size w5 y4:=hS.trans (hb.mono hS.size)
   clear hb y9
   refine hK.out _ _ hS (fun _=>?_)
   simp only [Act.put,zE1,zE2,zE3]
   clear hK K
   refine wpAnyH_ready (rs:=[5]) (by kernel_rfl) (by simp) ?_
   refine AllReadyH.cons rfl (fun K hK=>?_) AllReadyH.nil
   refine step_pushs _ rfl (some 37) rfl (.tmp 33) (.tmp 36) rfl w5.heap.size hS.size _ _ Z (inv Z) rfl rfl (own_less O1.out z1) YI.out (by have:=LZ.out;omega) (by have:=LZ.out;omega) ?_
   intro pv y5 y9 hb
   have OP:=hdH (y9)
   have hS:Below w5.heap.size w5 y5:=hS.trans hb
   clear hb y9
   refine hK.out _ _ hS (fun _=>?_)
   simp only [Act.put,zE1,zE2,zE3]
   clear hK K
   refine wpAnyH_ready (rs:=[8]) (by kernel_rfl) (by simp) ?_
   refine AllReadyH.cons rfl (fun K hK=>?_) AllReadyH.nil
   first
    |have m9:=mB
     refine step_callW _ (by rfl) (some 40) rfl 125 #[.tmp 37,.tmp 39] #[26,26] rfl (fun q w'=>by rfl) #[pv,sl (.slice (some ⟨bb,bo,none⟩) 88 cap) 0 48] (by simp only [List.map_toArray,List.map_cons,List.map_nil];rfl) (fun u w'=>(u=.bool true)∧Below y5.heap.size y5 w') ?_ ?_
    |refine step_callW _ (by rfl) (some 40) rfl 125 #[.tmp 37,.tmp 39] #[26,26] rfl (fun q w'=>by rfl) #[pv,sl (.slice (some ⟨bb,bo,none⟩) 88 cap) 0 48] (by simp only [List.map_toArray,List.map_cons,List.map_nil];rfl) (fun u w'=>(u=.bool false)∧Below y5.heap.size y5 w') ?_ ?_
   ·exact (same_any y5 _ _ _ _ (OP.out.byt (allB_app AZ.out AI.out)) (sl_sub ((HB.out.below BB.out).below hS) 0 48 (by omega) (by have:=HL.out;omega))).mono fun e w' ⟨h1,n,h2⟩=>⟨_,h1,by rw [HDS.out],by rw [h2];exact below_drawn (Below.refl _ _) n⟩
   rintro _ y6 ⟨rfl,hb⟩
   have OP:=hdH (own_low OP.out hb)
   have hS:Below w5.heap.size w5 y6:=hS.trans (hb.mono hS.size)
   clear hb
   refine hK.out _ _ hS (fun _=>?_)
   simp only [Act.put,zE1,zE2,zE3]
   clear hK K
   first
    |have m9:=mA
     refine tkH 9 (some 41) (.bool true) rfl rfl (Or.inl ⟨by rfl,fun w' hw'=>by go_simp⟩) hS ?_
    |refine tkH 9 (some 41) (.bool false) rfl rfl (Or.inl ⟨by rfl,fun w' hw'=>by go_simp⟩) hS ?_
   simp only [Act.put,zE1,zE2,zE3]
   refine wpAnyH_done (by kernel_rfl) ?_ _
   have HR:=hdH (HR.out.below hS (range_lt HR.out.1 (by simp [hv])))
   have HD:=hdH (HD.out.below hS (range_lt HD.out.1 (by simp [hv])))
   have BB:=hdH (BB.out.trans (hS.mono BB.out.size))
   clear hS
   have t3:=tR
   go_wp2_with (first
    |(have m9:=mA;have q4:=t4;refine store_lawC _ (hv 0 0 0 0 0 0) w.heap.size 0 rfl rfl HR.out.2 rowy_head.2 (hv_one _ _ _ _ _ _) ?_;intro w6 E6 R6 T6 B6;have HQ:=hdH (R6);clear t4 E6 R6 T6)
    |(have m9:=mA;have q3:=t3;refine build_law _ rfl 64 _ rfl (.agg (hv 0 0 0 0 0 0).toArray) (by kernel_rfl) ?_;clear t3;have t4:=tR)
    |(have m9:=mB;have q4:=t4;refine store_lawC _ (hv n0 n1 n2 l e t) w.heap.size 0 rfl rfl HR.out.2 rowy_head.2 (hv_one _ _ _ _ _ _) ?_;intro w6 E6 R6 T6 B6;have HQ:=hdH (R6);clear t4 E6 R6 T6)
    |(have m9:=mB;have q3:=t3;refine load_lawC _ rfl (hv n0 n1 n2 l e t) g4 0 rfl HD.out.1 rowy_head ?_;clear t3;have t4:=tR))
   first
    |have m9:=mA
     exact bodyPost_ret (v:=.tuple #[.agg (hv 0 0 0 0 0 0).toArray,.bool false]) (results_cv rfl _ _ w.heap.size _ _ rowy_head rfl rfl HQ.out) rfl ⟨rfl,BB.out.trans B6⟩
    |exact bodyPost_ret (v:=.tuple #[.agg (hv n0 n1 n2 l e t).toArray,.bool true]) (results_cv rfl _ _ w.heap.size _ _ rowy_head rfl rfl HQ.out) rfl ⟨rfl,BB.out.trans B6⟩
theorem rread_no (v:Value) (xs:List Int) (w:World) (hb:Byt w v xs) (hl:xs.length=88) (h:¬Tl xs):
  Calls Tryz.prog 83 #[v] w fun x w'=>x=.returned (.tuple #[.agg (hv 0 0 0 0 0 0).toArray,.bool false])∧Below w.heap.size w w':=by
 have h':¬(Rh (qk xs) (qn xs) (qc xs)∧he.hb (qk xs) (qn xs) (qc xs) (ql xs) (qe xs) (qt xs) ++ inv (he.hb (qk xs) (qn xs) (qc xs) (ql xs) (qe xs) (qt xs))=sub xs 0 48):=fun q=>h ((tl_ref xs hl hb.all).2 q)
 by_cases hr:Rh (qk xs) (qn xs) (qc xs)
 ·exact rread_b_m.1 v xs w hb hl hr fun q=>h' ⟨hr,q⟩
 ·exact rread_a v xs w hb hl hr
theorem rread_yes (v:Value) (xs:List Int) (w:World) (hb:Byt w v xs) (hl:xs.length=88) (h:Tl xs):
  Calls Tryz.prog 83 #[v] w fun x w'=>x=.returned (.tuple #[.agg (hv (qk xs) (qn xs) (qc xs) (ql xs) (qe xs) (qt xs)).toArray,.bool true])∧Below w.heap.size w w':=by
 obtain ⟨hr,q⟩:=(tl_ref xs hl hb.all).1 h
 exact rread_b_m.2 v xs w hb hl hr q
end Go.Proofs.YtmbgokmomkmgcaaGreatDoor.he
