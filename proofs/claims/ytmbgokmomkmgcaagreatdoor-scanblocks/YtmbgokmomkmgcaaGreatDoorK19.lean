/- Parts of the proof: what ScanBlocks reaches. No claim of its own. -/
import Derived.Lib.MakeNoZero
import Derived.Laws.AppendOwnNone
import Derived.Deep.DeepCutAuto
import Derived.ArgAppend
import Derived.WalkKit
import Derived.WalkSmall
import Derived.ProofKit
import Derived.OpenShut
import Derived.BigQuiet
import Derived.Deep.QuietTactic
import Derived.Deep.RegionHeld3
import Derived.Lib.SliceRun
import Derived.Deep.WholeRow
import Derived.Deep.MidRow
import Derived.Laws.StructEq
import Derived.Test.YtmbgokmomkmgcaaGreatDoorK00
import Derived.Test.YtmbgokmomkmgcaaGreatDoorK02
import Derived.Test.YtmbgokmomkmgcaaGreatDoorK08
import Derived.Test.YtmbgokmomkmgcaaGreatDoorK09
import Derived.Test.YtmbgokmomkmgcaaGreatDoorK10
import Derived.Test.YtmbgokmomkmgcaaGreatDoorK11
import Derived.Test.YtmbgokmomkmgcaaGreatDoorK12
import Derived.Test.YtmbgokmomkmgcaaGreatDoorK13
import Derived.Test.YtmbgokmomkmgcaaGreatDoorK14
import Derived.Test.YtmbgokmomkmgcaaGreatDoorK18
set_option maxHeartbeats 8000000
namespace Go.Proofs.YtmbgokmomkmgcaaGreatDoor.na
open Go.RowKit Go.Proofs.YtmbgokmomkmgcaaGreatDoor.fa
set_option maxRecDepth 20000
def chd (g:List Int) (pv:Value) (on:Bool) (cv bv tv:Value):List Value:=g.map (Value.int .i64) ++ [pv,.bool on,cv,bv,tv]
theorem info_state:(Tryz.prog.info? 140).map (fun i=>(i.zero,i.size,i.bytes))=some (some (.agg #[.slice none 0 0,.int .i64 0,.bool false]),3,40):=by kernel_rfl
theorem made_get (z:Array Value) (n k b j:Nat) (hz:z.size=k) (hb:b<n) (hj:j<k):(madeCells z (n*k)).toList[b*k+j]? =z[j]? :=by
 have hlt:b*k+j<n*k:=by
  have:=Nat.mul_le_mul_right k (show b+1≤n by omega)
  rw [Nat.succ_mul] at this;omega
 have hm:(b*k+j)%k=j:=by rw [Nat.add_comm,Nat.add_mul_mod_self_right,Nat.mod_eq_of_lt hj]
 subst hz
 simp [madeCells,hlt,hm]
 rw [Array.getElem!_eq_getD,Array.getD_eq_getD_getElem?,Array.getElem?_eq_getElem hj];rfl
section
variable {ops:Array Oper} {o:Oper} {a:Act} {Q:Exit→Act→World→Prop} {K:Act→World→Prop} {E:Prop}
theorem step_makeG (w:World) (hg:o.guard=none) (d:Option Tmp) (hd:o.dst=d) (l c:Operand) (t e:TypeId) (hop:o.op=Op.makeSlice t l c) (hu:Tryz.prog.underlying t=some (.slice e)) (z:Value) (k m0:Nat) (hi:(Tryz.prog.info? e).map (fun i=>(i.zero,i.size,i.bytes))=some (some z,k,m0))
  (n:Nat) (hl:a.eval l=.int .i64 (n:Int)) (hc:a.eval c=.int .i64 (n:Int)) (hn:m0*n≤281474976710656) (hn2:n≤9223372036854775807)
  (hK:∀ w',w'.ownsRow 0 e k (.slice (some ⟨w.heap.size,0,none⟩) n n) n (madeCells z.cells (n*k)).toList →Below w.heap.size w w'→w.heap.size<w'.heap.size→K (a.put d (.slice (some ⟨w.heap.size,0,none⟩) n n)) w'):
  if Region.wanted o (yielded ops a.tmps)=true then Oper.wp Tryz.prog o a w K Q else E:=by
 have hw:Region.wanted o (yielded ops a.tmps)=true:=by simp [Region.wanted,hg]
 rw [if_pos hw]
 subst hd
 obtain ⟨i0,hi0,hz0,hz1,hz2⟩:=info_parts hi
 obtain ⟨w',hrun,h1,h2⟩:=run_make_full (P:=Tryz.prog) w 0 t e i0 z k hu hi0 hz0 hz1 .i64 .i64 n (by rw [hz2];exact hn) (by simp only [maxLen];omega) (Nat.zero_le _)
 have hlt:w.heap.size<w'.heap.size:=(h1.lt w.heap.size rfl).2
 unfold Oper.wp
 simp [execOp,hop,hl,hc,hrun,Result.andThen]
 exact hK w' h1 ((Below.refl w.heap.size w).grown h2 (Nat.le_refl _) (fun k hk=>by cases hk)) hlt
end
theorem made_states {w:World} {r n:Nat} (h:w.ownsRow 0 140 3 (.slice (some ⟨r,0,none⟩) n n) n (madeCells (Value.agg #[.slice none 0 0,.int .i64 0,.bool false]).cells (n*3)).toList):∀ b,b<n→w.rangeAt r (b*3) [.slice none 0 0,.int .i64 0,.bool false]∧w.there r (b*3) 3:=fun b hb=>by
 have hs:∀ j,j<3→w.cell? ⟨r,b*3+j,none⟩=([.slice none 0 0,.int .i64 0,.bool false]:List Value)[j]? :=fun j hj=>by
  rw [h.cellAt (b*3+j) (by omega),made_get _ n 3 b j rfl hb hj]
  have:j=0∨j=1∨j=2:=by omega
  rcases this with rfl | rfl | rfl <;> rfl
 refine ⟨fun j v hv=>?_,fun j hj=>⟨?_,h.frozenAt _⟩⟩
 ·rw [hs j (List.getElem?_eq_some_iff.1 hv).1];exact hv
 ·rw [hs j hj,List.getElem?_eq_getElem hj];rfl
theorem made_ints {w:World} {r n:Nat} (h:w.ownsRow 0 3 1 (.slice (some ⟨r,0,none⟩) n n) n (madeCells (Value.int .i64 0).cells (n*1)).toList):Ar w r 0 .i64 (List.replicate n 0):=Ar.mk fun i hi=>by
 rw [List.length_replicate] at hi
 rw [Nat.zero_add,gb_rep n i 0 hi]
 refine ⟨?_,h.frozenAt _⟩
 have:=made_get (Value.int .i64 0).cells n 1 i 0 rfl hi (by omega)
 rw [show i*1+0=i by omega] at this
 rw [h.cellAt i (by omega),this];rfl
theorem cop_pla {B:Nat} {w:World} {v:Value} {fs:List (Int × Bool × Value)} {ms:Nat→List Int} (h:CopyIs B fs ms v w) (M:Nat→Bool) (hM:∀ k,M k=true→k<B) (hl:fs.length≤64) (hk:Okp fs ms fs.length):Pla (hid M w) v (plnOf fs ms):=by
 obtain ⟨gs,cap,g,ao,rfl,a1,a2,a3,a4,c1,c2,c3,c4,c5⟩:=h
 refine ⟨gs,ms,⟨ao,cap,by rw [c1],by omega,a2,a3,fun hp=>?_⟩,fun t ht=>?_,by omega,fun t ht=>?_,fun n=>?_⟩
 ·obtain ⟨rfl,hg⟩:=a4 (by omega)
  exact ⟨g,0,rfl,fun t ht=>by rw [Nat.zero_add];exact FlA.of (range_hid (c2 t (by omega)).range (not_hid hM hg))⟩
 ·exact ⟨bow_hid (c4 t (by omega) (by omega)).2.2 hM,by have:=(hk t (by omega)).2;omega⟩
 ·have:=c4 t (by omega) (by omega)
  rw [this.1]
  exact hk t (by omega)
 ·have key:=plnOf_is fs ms n
  have e1:∀ t,t<fs.length→(gf gs t).1=(gf fs t).1:=fun t ht=>(c4 t ht ht).1
  refine ⟨fun t ⟨t1,t2,t3⟩=>?_,fun hn=>key.2 fun s hs=>?_⟩
  ·rw [(c4 t (by omega) (by omega)).2.1]
   exact key.1 t ⟨by omega,by rw [←e1 t (by omega)];exact t2,fun s hs=>by rw [←e1 s (by omega)];exact t3 s hs⟩
  ·rw [←e1 s hs];exact hn s (by omega)
theorem m0_eq {k c r:Nat} (h:k≠c):(decide (k=c) || decide (k=r))=decide (k=r):=by simp [h]
theorem step_oneB {ops:Array Oper} {o:Oper} {a:Act} {Q:Exit→Act→World→Prop} {K:Act→World→Prop} {E:Prop} (w:World) (hg:o.guard=none) (d:Option Tmp) (hd:o.dst=d) (x:Operand) (hop:o.op=Op.buildSlice 26 1 #[(0,x)]) (n:Int) (hx:a.eval x=.int .u8 n)
  (hK:∀ w',w'.cell? ⟨w.heap.size,0,none⟩=some (.int .u8 n)→Below w.heap.size w w'→K (a.put d (.slice (some ⟨w.heap.size,0,none⟩) 1 1)) w'):if Region.wanted o (yielded ops a.tmps)=true then Oper.wp Tryz.prog o a w K Q else E:=by
 have hw:Region.wanted o (yielded ops a.tmps)=true:=by simp [Region.wanted,hg]
 rw [if_pos hw]
 subst hd
 have hrun:(Instr.buildSlice 26 1 #[(0,.int .u8 n)]).run Tryz.prog w=.ok (.slice (some ⟨w.heap.size,0,none⟩) 1 1) (w.alloc (.cells #[.int .u8 n] 5)):=by kernel_rfl
 unfold Oper.wp execOp
 simp only [hop,List.map_toArray,List.map_cons,List.map_nil,hx,Sem.run_bind,Sem.run_pure,Result.andThen_ok,hrun]
 exact hK _ (cell_of_row (w.alloc (.cells #[.int .u8 n] 5)) w.heap.size 0 _ 5 (0,0) (heap_alloc_last w _)) ((Below.refl _ _).alloc (Nat.le_refl _) _)
def raw0 (N P S:Nat):Raw:=mkX (List.replicate (N*(P*S)) 255) (fun _=>List.replicate P 0) (fun _=>0) (fun _=>false) true []
def Blks (w:World) (r B3:Nat) (q:Nat→Nat) (N P k:Nat):Prop:=(∀ b,b<N→w.rangeAt r (b*3) [if b<k then .slice (some ⟨q b,0,none⟩) P P else .slice none 0 0,.int .i64 0,.bool false]∧w.there r (b*3) 3)∧(∀ b,b<k→Ar w (q b) 0 .i64 (List.replicate P 0)∧B3≤q b∧q b<w.heap.size)∧∀ b b',b<b'→b'<k→q b<q b'
theorem Blks.heap {w w':World} {r B3:Nat} {q:Nat→Nat} {N P k:Nat} (h:Blks w r B3 q N P k) (hr:w'.heap[r]? =w.heap[r]?) (hq:∀ b,b<k→w'.heap[q b]? =w.heap[q b]?) (hs:w.heap.size≤w'.heap.size):Blks w' r B3 q N P k:=
 ⟨fun b hb=>⟨range_heap (h.1 b hb).1 hr,there_heap (h.1 b hb).2 hr⟩,fun b hb=>⟨(h.2.1 b hb).1.heap (hq b hb),(h.2.1 b hb).2.1,Nat.lt_of_lt_of_le (h.2.1 b hb).2.2 hs⟩,h.2.2⟩
theorem Blks.more {w:World} {r B3:Nat} {q:Nat→Nat} {N P k h9:Nat} (h:Blks w r B3 q N P k) (hk:k<N) (hA:Ar w h9 0 .i64 (List.replicate P 0)) (h3:B3≤h9) (hn:∀ b,b<k→q b<h9) (hr:r<B3) (hl:h9<w.heap.size):Blks (w.setCell ⟨r,k*3,none⟩ (.slice (some ⟨h9,0,none⟩) P P)) r B3 (at1 q k h9) N P (k+1):=by
 have g:=keep_set w r (k*3) (.slice (some ⟨h9,0,none⟩) P P)
 refine ⟨fun b hb=>?_,fun b hb=>?_,fun b b' h1 h2=>?_⟩
 ·obtain ⟨a1,a2⟩:=h.1 b hb
  have ht:∀ i,i<3→((w.setCell ⟨r,k*3,none⟩ (.slice (some ⟨h9,0,none⟩) P P)).cell? ⟨r,b*3+i,none⟩).isSome =true∧(w.setCell ⟨r,k*3,none⟩ (.slice (some ⟨h9,0,none⟩) P P)).frozen? ⟨r,b*3+i,none⟩=false:=fun i hi=>by
   refine ⟨?_,by rw [World.frozen?_setCell];exact (a2 i hi).2⟩
   by_cases e:(⟨r,k*3,none⟩:Addr)=⟨r,b*3+i,none⟩
   ·cases hc:w.cell? ⟨r,b*3+i,none⟩ with
    |none=>have:=(a2 i hi).1;rw [hc] at this;cases this
    |some u=>rw [e,World.cell?_setCell_same _ _ _ hc];rfl
   ·rw [World.cell?_setCell_other _ _ _ _ e];exact (a2 i hi).1
  refine ⟨fun j v hv=>?_,ht⟩
  have hj:j<3:=(List.getElem?_eq_some_iff.1 hv).1
  by_cases e:b=k∧j=0
  ·obtain ⟨rfl,rfl⟩:=e
   rw [if_pos (by omega),at1_same] at hv
   simp at hv
   subst hv
   exact World.cell?_setCell_same _ _ _ (a1 0 _ rfl)
  ·rw [World.cell?_setCell_other _ _ _ _ (by intro q;injection q with _ q2;omega)]
   refine a1 j v ?_
   have:j=0∨j=1∨j=2:=by omega
   rcases this with rfl | rfl | rfl
   ·have hb':b≠k:=fun q=>e ⟨q,rfl⟩
    rw [at1_other _ _ _ _ hb'] at hv
    by_cases q:b<k
    ·rw [if_pos (by omega)] at hv;rw [if_pos q];exact hv
    ·rw [if_neg (by omega)] at hv;rw [if_neg q];exact hv
   ·exact hv
   ·exact hv
 ·by_cases e:b=k
  ·subst e
   rw [at1_same]
   exact ⟨hA.heap (g.block h9 hl (by simp;omega)),h3,by simpa [World.setCell] using hl⟩
  ·rw [at1_other _ _ _ _ e]
   obtain ⟨a1,a2,a3⟩:=h.2.1 b (by omega)
   exact ⟨a1.heap (g.block _ a3 (by simp;omega)),a2,by simpa [World.setCell] using a3⟩
 ·by_cases e:b'=k
  ·subst e
   rw [at1_same,at1_other _ _ _ _ (by omega)]
   exact hn b (by omega)
  ·rw [at1_other _ _ _ _ e,at1_other _ _ _ _ (by omega)]
   exact h.2.2 b b' h1 (by omega)
def Made (w:World) (g:List Int) (N P S:Nat) (pl:Pln) (e:Ending) (w':World):Prop:=∃ M c r d q pv tv,e=.returned (.tuple #[.pointer (some ⟨c,0,none⟩),.int .i64 0])∧Lay M w' c r d q pv tv g N P S pl (raw0 N P S)∧Mlt M w'∧(∀ k,M k=true→w.heap.size≤k)∧Below w.heap.size w w'
theorem new_yes (g2 g3 g4 g5:Int) (N P S:Nat) (hs:Shp [(N:Int),(P:Int),g2,g3,g4,g5] N P S) (v:Value) (fs:List (Int × Bool × Value)) (ms:Nat→List Int) (w:World) (h:Fls w v fs) (hm:Mks w fs ms) (hl:fs.length≤64) (hk:Okp fs ms fs.length):
  Calls Tryz.prog 18 #[.agg (ints .i64 [(N:Int),(P:Int),g2,g3,g4,g5]),v] w (Made w [(N:Int),(P:Int),g2,g3,g4,g5] N P S (plnOf fs ms)):=by
 have hg:([(N:Int),(P:Int),g2,g3,g4,g5]:List Int).length =6:=rfl
 have HS:=hdH (hs)
 obtain ⟨-,hr,e0,e1,e2⟩:=hs
 have HNM:Hid (7≤N∧N≤64∧4≤P∧P≤32∧120≤S∧S≤4184):=by
  obtain ⟨k1,k2,k3, -⟩:=hr.1
  rw [e0] at k1
  rw [e1] at k2
  show _∧_
  omega
 have HBY:Hid (P*S≤133888∧N*(P*S)≤8568832∧0<P*S):=by
  obtain ⟨a1,a2,a3,a4,a5,a6⟩:=HNM.out
  have b1:P*S≤32*4184:=Nat.mul_le_mul a4 a6
  have b2:N*(P*S)≤64*(32*4184):=Nat.mul_le_mul a2 b1
  have b3:4*120≤P*S:=Nat.mul_le_mul a3 a5
  show _∧_
  omega
 have SG:Hid (∀ w,Calls Tryz.prog 24 #[.agg (ints .i64 [(N:Int),(P:Int),g2,g3,g4,g5])] w fun x w'=>x=.returned (.int .i64 0)∧Below w.heap.size w w'):=ge.check_yes [(N:Int),(P:Int),g2,g3,g4,g5] hg hr
 have SP:Hid (∀ w,Calls Tryz.prog 50 #[.agg (ints .i64 [(N:Int),(P:Int),g2,g3,g4,g5])] w fun x w'=>x=.returned (.int .i64 (S:Int))∧Below w.heap.size w w'):=psize_nat [(N:Int),(P:Int),g2,g3,g4,g5] hg hr S e2
 have SC:Hid (∀ w0,Below w.heap.size w w0→Calls Tryz.prog 47 #[v] w0 fun e w'=>e=.returned (.int .i64 0)∧Below w0.heap.size w0 w'):=fun w0 hb=>check_any _ fs ms w0 (h.below hb) (hm.below hb) 0 (fun _ _=>rfl) (fun q=>absurd ⟨hl,hk⟩ q)
 have SY:Hid (∀ w0,Below w.heap.size w w0→Calls Tryz.prog 48 #[v] w0 fun e w'=>∃ v',e=.returned v'∧CopyIs w0.heap.size fs ms v' w'∧Below w0.heap.size w0 w'):=fun w0 hb=>copy_any _ fs ms w0 (h.below hb) (hm.below hb) (by omega)
 have HOK:Hid (fs.length≤64∧Okp fs ms fs.length):=⟨hl,hk⟩
 have MQ1:Hid (IntKind.i64.wrap ((N:Int)*(P:Int))=((N*P:Nat):Int)):=wrap_mul N P (by
  obtain ⟨a1,a2,a3,a4,a5,a6⟩:=HNM.out
  have:N*P≤64*32:=Nat.mul_le_mul a2 a4
  omega)
 have MQ2:Hid (IntKind.i64.wrap (((N*P:Nat):Int)*(S:Int))=((N*(P*S):Nat):Int)):=by
  have:=wrap_mul (N*P) S (by rw [Nat.mul_assoc];have:=HBY.out;omega)
  rw [Nat.mul_assoc] at this
  exact this
 obtain ⟨ao,cap,rfl, -⟩:=h
 clear hm hr hl hk e0 e1 e2
 have t0:=tR
 go_enter Tryz.func18,Tryz.ntmps18
 go_wp2_with (first
  |(have q3:=t3;go_at_call 47;refine (SC.out _ BB.out).mono ?_;rintro e w3 ⟨rfl,B3⟩;have HP:=hdH (HP.out.below B3 (HP.out.lt (by simp)));have BB:=hdH (BB.out.trans (B3.mono BB.out.size));clear B3 t3)
  |(have q2:=t2;go_at_call 24;refine (SG.out _).mono ?_;rintro e w2 ⟨rfl,B2⟩;have HP:=hdH (HP.out.below B2 (HP.out.lt (by simp)));have BB:=hdH (BB.out.trans (B2.mono BB.out.size));clear B2 t2;have t3:=tR)
  |(have q1:=t1;refine load_lawS _ (by rfl) _ _ rfl (ld_geo hg HP.out.1) ?_;clear t1;have t2:=tR)
  |(have q0:=t0;refine box_lawF _ rfl (.tmp 0) 23 rfl .i64 [(N:Int),(P:Int),g2,g3,g4,g5] rfl ?_;intro w1 X1 B1 l1;have HP:=hdH (X1);have BB:=hdH (B1);clear X1 B1 t0;have t1:=tR))
 go_cut [6] (fun r6 wc=>∃ (c r:Nat) (po:Option Addr) (pc:Nat),r6=.pointer (some ⟨c,0,none⟩)∧Vr wc c (chd [(N:Int),(P:Int),g2,g3,g4,g5] (.slice po fs.length pc) true (.slice none 0 0) (.slice (some ⟨r,0,none⟩) N N) (.slice none 0 0))∧(∀ b,b<N→wc.rangeAt r (b*3) [.slice none 0 0,.int .i64 0,.bool false]∧wc.there r (b*3) 3)∧Pla (hid (fun k=>decide (k=c) || decide (k=r)) wc) (.slice po fs.length pc) (plnOf fs ms)∧w3.heap.size≤c∧w3.heap.size≤r∧r<c∧c<wc.heap.size∧Below w3.heap.size w3 wc)
 case first=>
  refine wp_region_held_drew (S:=fun w'=>Below w3.heap.size w3 w') (by kernel_rfl) (Below.refl _ _).drew (fun hS=>?_)
  obtain ⟨x1,hx0⟩:∃ x,x=w3.drew:=⟨_,rfl⟩
  rw [←hx0] at hS ⊢
  clear hx0
  refine tkH 0 (some 16) (.agg (ints .i64 [(N:Int),(P:Int),g2,g3,g4,g5])) rfl rfl (Or.inl ⟨by rfl,fun w' hw'=>by exact exec_loadN 23 (.tmp 2) rfl _ rfl _ _ (ld_geo hg (HP.out.below hw' (HP.out.lt (by simp))).1)⟩) hS ?_
  simp only [Act.put,zE1,zE2,zE3]
  refine tkH 1 (some 17) (.slice ao fs.length cap) rfl rfl (Or.inl ⟨by rfl,fun w' hw'=>by rfl⟩) hS ?_
  simp only [Act.put,zE1,zE2,zE3]
  refine tkH 3 (some 19) (.pointer (some ⟨w.heap.size,0,none⟩)) rfl rfl (Or.inl ⟨by rfl,fun w' hw'=>by go_simp⟩) hS ?_
  simp only [Act.put,zE1,zE2,zE3]
  refine tkH 4 (some 20) (.int .i64 (N:Int)) rfl rfl (Or.inl ⟨by rfl,fun w' hw'=>by exact exec_loadN 3 (.tmp 19) rfl _ rfl _ _ (load_one one_int ((HP.out.below hw' (HP.out.lt (by simp))).cell0 0 (by simp)))⟩) hS ?_
  simp only [Act.put,zE1,zE2,zE3]
  refine wpAnyH_ready (rs:=[2,5]) (by kernel_rfl) (by simp) ?_
  refine AllReadyH.cons rfl (fun K hK=>?_) (AllReadyH.cons rfl (fun K hK=>?_) AllReadyH.nil)
  ·refine ge.step_callW _ (by rfl) (some 18) rfl 48 #[.tmp 17] #[36] rfl (fun q w'=>by rfl) #[.slice ao fs.length cap] (by simp only [List.map_toArray,List.map_cons,List.map_nil];rfl) (fun v w'=>CopyIs x1.heap.size fs ms v w'∧Below x1.heap.size x1 w') ?_ ?_
   ·exact SY.out x1 (BB.out.trans (hS.mono BB.out.size))
   rintro v9 x2 ⟨y9,hb⟩
   obtain ⟨gs9,pc,g9,po,rfl,y91⟩:=(show ∃ gs cap g ao,v9=.slice ao fs.length cap∧_ from y9)
   have HY:=hdH (y9)
   have hS:Below w3.heap.size w3 x2:=hS.trans (hb.mono hS.size)
   clear y9 y91 hb
   refine hK.out _ _ hS (fun _=>?_)
   simp only [Act.put,zE1,zE2,zE3]
   clear hK K
   refine wpAnyH_ready (rs:=[5]) (by kernel_rfl) (by simp) ?_
   refine AllReadyH.cons rfl (fun K hK=>?_) AllReadyH.nil
   refine step_makeG _ rfl (some 21) rfl (.tmp 20) (.tmp 20) 104 140 rfl Tryz.underlying104 _ 3 40 info_state N rfl rfl (by have:=HNM.out;omega) (by have:=HNM.out;omega) ?_
   intro x3 o9 b9 l9
   obtain ⟨r,er⟩:∃ x,x=x2.heap.size:=⟨_,rfl⟩
   rw [←er] at o9 l9 ⊢
   have HR:Hid (∀ b,b<N→x3.rangeAt r (b*3) [.slice none 0 0,.int .i64 0,.bool false]∧x3.there r (b*3) 3):=made_states o9
   have lr:=hdH (l9)
   have gr:Hid (w3.heap.size≤r):=by rw [er];exact hS.size
   have HPL:Hid (∀ M:Nat→Bool,(∀ k,k<x2.heap.size→M k=false)→Pla (hid M x3) (.slice po fs.length pc) (plnOf fs ms)):=fun M hM=>((cop_pla HY.out (fun _=>false) (fun k e=>by cases e) HOK.out.1 HOK.out.2).below ((Frm.refl (fun _=>false) x2).hid (M':=M) (fun k hk=>hM k hk))).below (below_hid b9)
   have er2:=hdH (er)
   have hS:Below w3.heap.size w3 x3:=hS.trans (b9.mono hS.size)
   clear o9 b9 l9 er
   refine hK.out _ _ hS (fun _=>?_)
   simp only [Act.put,zE1,zE2,zE3]
   clear hK K
   refine tkH 6 (some 22) (.agg (chd [(N:Int),(P:Int),g2,g3,g4,g5] (.slice po fs.length pc) true (.slice none 0 0) (.slice (some ⟨r,0,none⟩) N N) (.slice none 0 0)).toArray) rfl rfl (Or.inl ⟨by rfl,fun w' hw'=>by kernel_rfl⟩) hS ?_
   simp only [Act.put,zE1,zE2,zE3]
   refine wpAnyH_ready (rs:=[7]) (by kernel_rfl) (by simp) ?_
   refine AllReadyH.cons rfl (fun K hK=>?_) AllReadyH.nil
   refine step_boxC _ rfl (some 23) rfl (.tmp 22) 107 rfl (chd [(N:Int),(P:Int),g2,g3,g4,g5] (.slice po fs.length pc) true (.slice none 0 0) (.slice (some ⟨r,0,none⟩) N N) (.slice none 0 0)) rfl ?_
   intro x4 v9 b9 l9
   obtain ⟨c,ec⟩:∃ x,x=x3.heap.size:=⟨_,rfl⟩
   rw [←ec] at v9 l9 ⊢
   have HC:=hdH (v9)
   have HR:Hid (∀ b,b<N→x4.rangeAt r (b*3) [.slice none 0 0,.int .i64 0,.bool false]∧x4.there r (b*3) 3):=fun b hb2=>⟨range_heap (HR.out b hb2).1 (b9.block r lr.out),there_heap (HR.out b hb2).2 (b9.block r lr.out)⟩
   have gc:Hid (w3.heap.size≤c∧r<c∧c<x4.heap.size):=⟨by rw [ec];exact hS.size,by rw [ec];exact lr.out,l9⟩
   have HPA:Hid (Pla (hid (fun k=>decide (k=c) || decide (k=r)) x4) (.slice po fs.length pc) (plnOf fs ms)):=(HPL.out (fun k=>decide (k=c) || decide (k=r)) (fun k hk=>by have:=er2.out;have:=gc.out;simp;omega)).below (below_hid b9)
   have hS:Below w3.heap.size w3 x4:=hS.trans (b9.mono hS.size)
   clear v9 b9 l9 ec
   refine hK.out _ _ hS (fun _=>?_)
   simp only [Act.put,zE1,zE2,zE3]
   clear hK K
   refine tkH 8 (some 6) (.pointer (some ⟨c,0,none⟩)) rfl rfl (Or.inl ⟨by rfl,fun w' hw'=>by rfl⟩) hS ?_
   simp only [Act.put,zE1,zE2,zE3]
   refine wpAnyH_done (by kernel_rfl) ?_ _
   go_wp2_with fail
   go_meet
   exact ⟨c,r,po,pc,rfl,HC.out,HR.out,HPA.out,gc.out.1,gr.out,gc.out.2.1,gc.out.2.2,hS⟩
  ·refine step_makeG _ rfl (some 21) rfl (.tmp 20) (.tmp 20) 104 140 rfl Tryz.underlying104 _ 3 40 info_state N rfl rfl (by have:=HNM.out;omega) (by have:=HNM.out;omega) ?_
   intro x5 o9 b9 l9
   obtain ⟨r,er⟩:∃ x,x=x1.heap.size:=⟨_,rfl⟩
   rw [←er] at o9 l9 ⊢
   have HR:Hid (∀ b,b<N→x5.rangeAt r (b*3) [.slice none 0 0,.int .i64 0,.bool false]∧x5.there r (b*3) 3):=made_states o9
   have lr:=hdH (l9)
   have gr:Hid (w3.heap.size≤r):=by rw [er];exact hS.size
   have hS:Below w3.heap.size w3 x5:=hS.trans (b9.mono hS.size)
   clear o9 b9 l9 er
   refine hK.out _ _ hS (fun _=>?_)
   simp only [Act.put,zE1,zE2,zE3]
   clear hK K
   refine wpAnyH_ready (rs:=[2]) (by kernel_rfl) (by simp) ?_
   refine AllReadyH.cons rfl (fun K hK=>?_) AllReadyH.nil
   refine ge.step_callW _ (by rfl) (some 18) rfl 48 #[.tmp 17] #[36] rfl (fun q w'=>by rfl) #[.slice ao fs.length cap] (by simp only [List.map_toArray,List.map_cons,List.map_nil];rfl) (fun v w'=>CopyIs x5.heap.size fs ms v w'∧Below x5.heap.size x5 w') ?_ ?_
   ·exact SY.out x5 (BB.out.trans (hS.mono BB.out.size))
   rintro v9 x6 ⟨y9,hb⟩
   obtain ⟨gs9,pc,g9,po,rfl,y91⟩:=(show ∃ gs cap g ao,v9=.slice ao fs.length cap∧_ from y9)
   have HY:=hdH (y9)
   have HPL:Hid (∀ M:Nat→Bool,(∀ k,M k=true→k<x5.heap.size)→Pla (hid M x6) (.slice po fs.length pc) (plnOf fs ms)):=fun M hM=>cop_pla y9 M hM HOK.out.1 HOK.out.2
   have HR:Hid (∀ b,b<N→x6.rangeAt r (b*3) [.slice none 0 0,.int .i64 0,.bool false]∧x6.there r (b*3) 3):=fun b hb2=>⟨range_heap (HR.out b hb2).1 (hb.block r lr.out),there_heap (HR.out b hb2).2 (hb.block r lr.out)⟩
   have lr2:=hdH (lr.out)
   have lr:Hid (r<x6.heap.size):=Nat.lt_of_lt_of_le lr.out hb.size
   have hS:Below w3.heap.size w3 x6:=hS.trans (hb.mono hS.size)
   clear y9 y91 hb
   refine hK.out _ _ hS (fun _=>?_)
   simp only [Act.put,zE1,zE2,zE3]
   clear hK K
   refine tkH 6 (some 22) (.agg (chd [(N:Int),(P:Int),g2,g3,g4,g5] (.slice po fs.length pc) true (.slice none 0 0) (.slice (some ⟨r,0,none⟩) N N) (.slice none 0 0)).toArray) rfl rfl (Or.inl ⟨by rfl,fun w' hw'=>by kernel_rfl⟩) hS ?_
   simp only [Act.put,zE1,zE2,zE3]
   refine wpAnyH_ready (rs:=[7]) (by kernel_rfl) (by simp) ?_
   refine AllReadyH.cons rfl (fun K hK=>?_) AllReadyH.nil
   refine step_boxC _ rfl (some 23) rfl (.tmp 22) 107 rfl (chd [(N:Int),(P:Int),g2,g3,g4,g5] (.slice po fs.length pc) true (.slice none 0 0) (.slice (some ⟨r,0,none⟩) N N) (.slice none 0 0)) rfl ?_
   intro x7 v9 b9 l9
   obtain ⟨c,ec⟩:∃ x,x=x6.heap.size:=⟨_,rfl⟩
   rw [←ec] at v9 l9 ⊢
   have HC:=hdH (v9)
   have HR:Hid (∀ b,b<N→x7.rangeAt r (b*3) [.slice none 0 0,.int .i64 0,.bool false]∧x7.there r (b*3) 3):=fun b hb2=>⟨range_heap (HR.out b hb2).1 (b9.block r lr.out),there_heap (HR.out b hb2).2 (b9.block r lr.out)⟩
   have gc:Hid (w3.heap.size≤c∧r<c∧c<x7.heap.size):=⟨by rw [ec];exact hS.size,by rw [ec];exact lr.out,l9⟩
   have HPA:Hid (Pla (hid (fun k=>decide (k=c) || decide (k=r)) x7) (.slice po fs.length pc) (plnOf fs ms)):=((HPL.out (fun k=>decide (k=r)) (fun k hk=>by have:=lr2.out;simp at hk;omega)).below ((Frm.refl _ x6).hid (M':=(fun k=>decide (k=c) || decide (k=r))) (fun k hk=>m0_eq (by omega)))).below (below_hid b9)
   have hS:Below w3.heap.size w3 x7:=hS.trans (b9.mono hS.size)
   clear v9 b9 l9 ec
   refine hK.out _ _ hS (fun _=>?_)
   simp only [Act.put,zE1,zE2,zE3]
   clear hK K
   refine tkH 8 (some 6) (.pointer (some ⟨c,0,none⟩)) rfl rfl (Or.inl ⟨by rfl,fun w' hw'=>by rfl⟩) hS ?_
   simp only [Act.put,zE1,zE2,zE3]
   refine wpAnyH_done (by kernel_rfl) ?_ _
   go_wp2_with fail
   go_meet
   exact ⟨c,r,po,pc,rfl,HC.out,HR.out,HPA.out,gc.out.1,gr.out,gc.out.2.1,gc.out.2.2,hS⟩
 case rest=>
  obtain ⟨c,r,po,pc,rfl,V4,R4,P4,a1,a2,a3,a4,B4⟩:=hcut
  obtain ⟨w4,rfl⟩:∃ x,x=wc:=⟨_,rfl⟩
  have HM0:Hid (∀ k,k<w4.heap.size→(fun k=>decide (k=c) || decide (k=r) || decide (w4.heap.size≤k)) k=(fun k=>decide (k=c) || decide (k=r)) k):=fun k hk=>by
   have:¬(w4.heap.size≤k):=by omega
   simp [this]
  obtain ⟨B2,hB2⟩:∃ x,x=w4.heap.size:=⟨_,rfl⟩
  rw [←hB2] at HM0
  have HPA:Hid (Pla (hid (fun k=>decide (k=c) || decide (k=r) || decide (B2≤k)) w4) (.slice po fs.length pc) (plnOf fs ms)):=P4.below ((Frm.refl _ w4).hid (fun k hk=>HM0.out k (by omega)))
  have HC:=hdH (V4)
  have HR:=hdH (R4)
  have lz3:=HP.out.lt (by simp)
  have HP:=hdH (HP.out.below B4 (HP.out.lt (by simp)))
  have BB:=hdH (BB.out.trans (B4.mono BB.out.size))
  have gg:Hid (w.heap.size<w3.heap.size∧w3.heap.size≤c∧w3.heap.size≤r∧r<c∧c<B2∧B2=w4.heap.size):=by
   exact ⟨lz3,a1,a2,a3,by omega,hB2⟩
  have h0M:Hid ((fun k=>decide (k=c) || decide (k=r) || decide (B2≤k)) w.heap.size=false):=by
   have:=gg.out
   show ((decide (w.heap.size=c) || decide (w.heap.size=r)) || decide (B2≤w.heap.size))=false
   have n1:w.heap.size≠c:=by omega
   have n2:w.heap.size≠r:=by omega
   have n3:¬(B2≤w.heap.size):=by omega
   simp [n1,n2,n3]
  clear V4 R4 P4 a1 a2 a3 a4 B4 HM0 hB2 lz3
  go_wp2
  go_cut [36] (fun r36 wc=>∃ d:Nat,Vr wc c (chd [(N:Int),(P:Int),g2,g3,g4,g5] (.slice po fs.length pc) true (.slice (some ⟨d,0,none⟩) (N*(P*S)) (N*(P*S))) (.slice (some ⟨r,0,none⟩) N N) (.slice none 0 0))∧Ar wc d 0 .u8 (List.replicate (N*(P*S)) 255)∧B2≤d∧d<wc.heap.size∧Ar wc w.heap.size 0 .i64 [(N:Int),(P:Int),g2,g3,g4,g5]∧Frm (fun k=>decide (k=c) || decide (k=r) || decide (B2≤k)) w4 wc∧∀ b,b<N→wc.rangeAt r (b*3) [.slice none 0 0,.int .i64 0,.bool false]∧wc.there r (b*3) 3)
  case first=>
   have HC:Hid (Vr w4.drew c (chd [(N:Int),(P:Int),g2,g3,g4,g5] (.slice po fs.length pc) true (.slice none 0 0) (.slice (some ⟨r,0,none⟩) N N) (.slice none 0 0))):=HC.out.heap rfl
   have HR:Hid (∀ b,b<N→w4.drew.rangeAt r (b*3) [.slice none 0 0,.int .i64 0,.bool false]∧w4.drew.there r (b*3) 3):=fun b hb2=>⟨range_heap (HR.out b hb2).1 rfl,there_heap (HR.out b hb2).2 rfl⟩
   have FF:Hid (Frm (fun k=>decide (k=c) || decide (k=r) || decide (B2≤k)) w4 w4.drew):=Frm.of_below (Below.refl _ _).drew
   refine wp_region_held_drew (S:=fun w'=>Ar w' w.heap.size 0 .i64 [(N:Int),(P:Int),g2,g3,g4,g5]) (by kernel_rfl) (HP.out.drewN 1) (fun hS=>?_)
   obtain ⟨y1,hx0⟩:∃ x,x=w4.drew:=⟨_,rfl⟩
   rw [←hx0] at hS HC HR FF ⊢
   clear hx0
   refine tkH 0 (some 24) (.pointer (some ⟨c,0,none⟩)) rfl rfl (Or.inl ⟨by rfl,fun w' hw'=>by rfl⟩) hS ?_
   simp only [Act.put,zE1,zE2,zE3]
   refine tkH 2 (some 26) (.pointer (some ⟨w.heap.size,0,none⟩)) rfl rfl (Or.inl ⟨by rfl,fun w' hw'=>by go_simp⟩) hS ?_
   simp only [Act.put,zE1,zE2,zE3]
   refine tkH 3 (some 27) (.int .i64 (N:Int)) rfl rfl (Or.inl ⟨by rfl,fun w' hw'=>by exact exec_loadN 3 (.tmp 26) rfl _ rfl _ _ (load_one one_int (hw'.cell0 0 (by simp)))⟩) hS ?_
   simp only [Act.put,zE1,zE2,zE3]
   refine tkH 4 (some 28) (.pointer (some ⟨w.heap.size,1,none⟩)) rfl rfl (Or.inl ⟨by rfl,fun w' hw'=>by go_simp⟩) hS ?_
   simp only [Act.put,zE1,zE2,zE3]
   refine tkH 5 (some 29) (.int .i64 (P:Int)) rfl rfl (Or.inl ⟨by rfl,fun w' hw'=>by exact exec_loadN 3 (.tmp 28) rfl _ rfl _ _ (load_one one_int (hw'.cell0 1 (by simp)))⟩) hS ?_
   simp only [Act.put,zE1,zE2,zE3]
   refine tkH 6 (some 30) (.int .i64 ((N*P:Nat):Int)) rfl rfl (Or.inl ⟨by rfl,fun w' hw'=>by exact exec_mul (.tmp 27) (.tmp 29) rfl (N:Int) (P:Int) _ rfl rfl MQ1.out⟩) hS ?_
   simp only [Act.put,zE1,zE2,zE3]
   refine tkH 7 (some 31) (.agg (ints .i64 [(N:Int),(P:Int),g2,g3,g4,g5])) rfl rfl (Or.inl ⟨by rfl,fun w' hw'=>by exact exec_loadN 23 (.tmp 2) rfl _ rfl _ _ (ld_geo hg hw'.1)⟩) hS ?_
   simp only [Act.put,zE1,zE2,zE3]
   refine wpAnyH_ready (rs:=[1,8]) (by kernel_rfl) (by simp) ?_
   refine AllReadyH.cons rfl (fun K hK=>?_) (AllReadyH.cons rfl (fun K hK=>?_) AllReadyH.nil)
   ·refine step_oneB _ rfl (some 25) rfl (.const (.int .u8 255)) rfl 255 rfl ?_
    intro y2 c8 hb
    obtain ⟨h8,e8⟩:∃ x,x=y1.heap.size:=⟨_,rfl⟩
    rw [←e8] at c8 ⊢
    have HC:=hdH (HC.out.below hb (range_lt HC.out.1 (by simp [chd])))
    have HR:Hid (∀ b,b<N→y2.rangeAt r (b*3) [.slice none 0 0,.int .i64 0,.bool false]∧y2.there r (b*3) 3):=fun b hb2=>⟨range_heap (HR.out b hb2).1 (hb.block r (range_lt (HR.out b hb2).1 (by simp))),there_heap (HR.out b hb2).2 (hb.block r (range_lt (HR.out b hb2).1 (by simp)))⟩
    have FF:Hid (Frm (fun k=>decide (k=c) || decide (k=r) || decide (B2≤k)) w4 y2):=FF.out.tr (Frm.of_below hb)
    have hS:Ar y2 w.heap.size 0 .i64 [(N:Int),(P:Int),g2,g3,g4,g5]:=hS.below hb (hS.lt (by simp))
    have H8:=hdH (c8)
    clear c8 hb e8
    refine hK.out _ _ hS (fun _=>?_)
    simp only [Act.put,zE1,zE2,zE3]
    clear hK K
    refine wpAnyH_ready (rs:=[8]) (by kernel_rfl) (by simp) ?_
    refine AllReadyH.cons rfl (fun K hK=>?_) AllReadyH.nil
    refine ge.step_callW _ (by rfl) (some 32) rfl 50 #[.tmp 31] #[23] rfl (fun q w'=>by rfl) #[.agg (ints .i64 [(N:Int),(P:Int),g2,g3,g4,g5])] (by simp only [List.map_toArray,List.map_cons,List.map_nil];rfl) (fun v w'=>v=.int .i64 (S:Int)∧Below y2.heap.size y2 w') ?_ ?_
    ·exact (SP.out y2).mono fun e w' ⟨h1,h2⟩=>⟨_,h1,rfl,h2⟩
    rintro _ y3 ⟨rfl,hb⟩
    have HC:=hdH (HC.out.below hb (range_lt HC.out.1 (by simp [chd])))
    have HR:Hid (∀ b,b<N→y3.rangeAt r (b*3) [.slice none 0 0,.int .i64 0,.bool false]∧y3.there r (b*3) 3):=fun b hb2=>⟨range_heap (HR.out b hb2).1 (hb.block r (range_lt (HR.out b hb2).1 (by simp))),there_heap (HR.out b hb2).2 (hb.block r (range_lt (HR.out b hb2).1 (by simp)))⟩
    have FF:Hid (Frm (fun k=>decide (k=c) || decide (k=r) || decide (B2≤k)) w4 y3):=FF.out.tr (Frm.of_below hb)
    have hS:Ar y3 w.heap.size 0 .i64 [(N:Int),(P:Int),g2,g3,g4,g5]:=hS.below hb (hS.lt (by simp))
    have H8:Hid (y3.cell? ⟨h8,0,none⟩=some (.int .u8 255)):=(hb.cell (World.block_lt_of_cell? _ _ H8.out)).trans H8.out
    clear hb
    refine hK.out _ _ hS (fun _=>?_)
    simp only [Act.put,zE1,zE2,zE3]
    clear hK K
    refine tkH 9 (some 33) (.int .i64 ((N*(P*S):Nat):Int)) rfl rfl (Or.inl ⟨by rfl,fun w' hw'=>by exact exec_mul (.tmp 30) (.tmp 32) rfl ((N*P:Nat):Int) (S:Int) _ rfl rfl MQ2.out⟩) hS ?_
    simp only [Act.put,zE1,zE2,zE3]
    refine wpAnyH_ready (rs:=[10]) (by kernel_rfl) (by simp) ?_
    refine AllReadyH.cons rfl (fun K hK=>?_) AllReadyH.nil
    refine ge.step_callW _ (by rfl) (some 34) rfl 49 #[.tmp 25,.tmp 33] #[26,3] rfl (fun q w'=>by rfl) #[.slice (some ⟨h8,0,none⟩) 1 1,.int .i64 ((N*(P*S):Nat):Int)] (by simp only [List.map_toArray,List.map_cons,List.map_nil];rfl) (fun v w'=>v=.slice (some ⟨y3.heap.size,0,none⟩) (N*(P*S)) (N*(P*S))∧Ar w' y3.heap.size 0 .u8 (List.replicate (N*(P*S)) 255)∧Below y3.heap.size y3 w'∧y3.heap.size<w'.heap.size) ?_ ?_
    ·exact (repeat_any h8 255 (N*(P*S)) y3 H8.out (by omega) (by have a1:=HNM.out;have a2:=HBY.out;exact Nat.mul_pos (by omega) a2.2.2) (by have:=HBY.out;omega)).mono fun e w' ⟨h1,h2⟩=>⟨_,h1,rfl,h2⟩
    rintro _ y4 ⟨rfl,A9,hb,l9⟩
    obtain ⟨d,ed⟩:∃ x,x=y3.heap.size:=⟨_,rfl⟩
    rw [←ed] at A9 l9 ⊢
    have HA:=hdH (A9)
    have HD:Hid (B2≤d∧d<y4.heap.size):=⟨by rw [ed,gg.out.2.2.2.2.2];exact FF.out.size,l9⟩
    have HC:=hdH (HC.out.below hb (range_lt HC.out.1 (by simp [chd])))
    have HR:Hid (∀ b,b<N→y4.rangeAt r (b*3) [.slice none 0 0,.int .i64 0,.bool false]∧y4.there r (b*3) 3):=fun b hb2=>⟨range_heap (HR.out b hb2).1 (hb.block r (range_lt (HR.out b hb2).1 (by simp))),there_heap (HR.out b hb2).2 (hb.block r (range_lt (HR.out b hb2).1 (by simp)))⟩
    have FF:Hid (Frm (fun k=>decide (k=c) || decide (k=r) || decide (B2≤k)) w4 y4):=FF.out.tr (Frm.of_below hb)
    have hS:Ar y4 w.heap.size 0 .i64 [(N:Int),(P:Int),g2,g3,g4,g5]:=hS.below hb (hS.lt (by simp))
    have H8:Hid (y4.cell? ⟨h8,0,none⟩=some (.int .u8 255)):=(hb.cell (World.block_lt_of_cell? _ _ H8.out)).trans H8.out
    clear A9 hb l9 ed
    refine hK.out _ _ hS (fun _=>?_)
    simp only [Act.put,zE1,zE2,zE3]
    clear hK K
    refine tkH 11 (some 35) (.pointer (some ⟨c,0,none⟩)) rfl rfl (Or.inl ⟨by rfl,fun w' hw'=>by go_simp⟩) hS ?_
    simp only [Act.put,zE1,zE2,zE3]
    refine tkH 12 (some 36) (.pointer (some ⟨c,8,none⟩)) rfl rfl (Or.inl ⟨by rfl,fun w' hw'=>by go_simp⟩) hS ?_
    simp only [Act.put,zE1,zE2,zE3]
    refine wpAnyH_ready (rs:=[13]) (by kernel_rfl) (by simp) ?_
    refine AllReadyH.cons rfl (fun K hK=>?_) AllReadyH.nil
    refine step_store1 _ rfl none rfl (.tmp 36) (.tmp 34) 26 rfl c 8 (.slice (some ⟨d,0,none⟩) (N*(P*S)) (N*(P*S))) rfl rfl (HC.out.there1 8 (by simp [chd])) (HC.out.free 8 (by simp [chd])) one_bytes.2 rfl rfl ?_
    intro y5 e9
    have gw:y4.grownBy y5 (some c):=by rw [e9.out];exact keep_set _ _ _ _
    have HC2:Hid (Vr y5 c (chd [(N:Int),(P:Int),g2,g3,g4,g5] (.slice po fs.length pc) true (.slice (some ⟨d,0,none⟩) (N*(P*S)) (N*(P*S))) (.slice (some ⟨r,0,none⟩) N N) (.slice none 0 0))):=by
     have:=HC.out.set 8 (by simp [chd]) (.slice (some ⟨d,0,none⟩) (N*(P*S)) (N*(P*S)))
     rw [←e9.out] at this
     exact this
    have HA2:=hdH (HA.out.heap (gw.block d HD.out.2 (by have:=gg.out;have:=HD.out;simp;omega)))
    have HD2:Hid (B2≤d∧d<y5.heap.size):=⟨HD.out.1,Nat.lt_of_lt_of_le HD.out.2 gw.size⟩
    have HR:Hid (∀ b,b<N→y5.rangeAt r (b*3) [.slice none 0 0,.int .i64 0,.bool false]∧y5.there r (b*3) 3):=fun b hb2=>⟨range_heap (HR.out b hb2).1 (gw.block r (range_lt (HR.out b hb2).1 (by simp)) (by have:=gg.out;simp;omega)),there_heap (HR.out b hb2).2 (gw.block r (range_lt (HR.out b hb2).1 (by simp)) (by have:=gg.out;simp;omega))⟩
    have FF:Hid (Frm (fun k=>decide (k=c) || decide (k=r) || decide (B2≤k)) w4 y5):=FF.out.tr (Frm.grown gw (fun k e=>by injection e with e;subst e;simp))
    have hS:Ar y5 w.heap.size 0 .i64 [(N:Int),(P:Int),g2,g3,g4,g5]:=hS.heap (gw.block _ (hS.lt (by simp)) (by have:=gg.out;simp;omega))
    clear e9 gw
    refine hK.out _ _ hS (fun _=>?_)
    simp only [Act.put]
    clear hK K
    refine wpAnyH_done (by kernel_rfl) ?_ _
    go_wp2_with fail
    go_meet
    exact ⟨d,HC2.out,HA2.out,HD2.out.1,HD2.out.2,hS,FF.out,HR.out⟩
   ·refine ge.step_callW _ (by rfl) (some 32) rfl 50 #[.tmp 31] #[23] rfl (fun q w'=>by rfl) #[.agg (ints .i64 [(N:Int),(P:Int),g2,g3,g4,g5])] (by simp only [List.map_toArray,List.map_cons,List.map_nil];rfl) (fun v w'=>v=.int .i64 (S:Int)∧Below y1.heap.size y1 w') ?_ ?_
    ·exact (SP.out y1).mono fun e w' ⟨h1,h2⟩=>⟨_,h1,rfl,h2⟩
    rintro _ y6 ⟨rfl,hb⟩
    have HC:=hdH (HC.out.below hb (range_lt HC.out.1 (by simp [chd])))
    have HR:Hid (∀ b,b<N→y6.rangeAt r (b*3) [.slice none 0 0,.int .i64 0,.bool false]∧y6.there r (b*3) 3):=fun b hb2=>⟨range_heap (HR.out b hb2).1 (hb.block r (range_lt (HR.out b hb2).1 (by simp))),there_heap (HR.out b hb2).2 (hb.block r (range_lt (HR.out b hb2).1 (by simp)))⟩
    have FF:Hid (Frm (fun k=>decide (k=c) || decide (k=r) || decide (B2≤k)) w4 y6):=FF.out.tr (Frm.of_below hb)
    have hS:Ar y6 w.heap.size 0 .i64 [(N:Int),(P:Int),g2,g3,g4,g5]:=hS.below hb (hS.lt (by simp))
    clear hb
    refine hK.out _ _ hS (fun _=>?_)
    simp only [Act.put,zE1,zE2,zE3]
    clear hK K
    refine tkH 9 (some 33) (.int .i64 ((N*(P*S):Nat):Int)) rfl rfl (Or.inl ⟨by rfl,fun w' hw'=>by exact exec_mul (.tmp 30) (.tmp 32) rfl ((N*P:Nat):Int) (S:Int) _ rfl rfl MQ2.out⟩) hS ?_
    simp only [Act.put,zE1,zE2,zE3]
    refine wpAnyH_ready (rs:=[1]) (by kernel_rfl) (by simp) ?_
    refine AllReadyH.cons rfl (fun K hK=>?_) AllReadyH.nil
    refine step_oneB _ rfl (some 25) rfl (.const (.int .u8 255)) rfl 255 rfl ?_
    intro y7 c8 hb
    obtain ⟨h8,e8⟩:∃ x,x=y6.heap.size:=⟨_,rfl⟩
    rw [←e8] at c8 ⊢
    have HC:=hdH (HC.out.below hb (range_lt HC.out.1 (by simp [chd])))
    have HR:Hid (∀ b,b<N→y7.rangeAt r (b*3) [.slice none 0 0,.int .i64 0,.bool false]∧y7.there r (b*3) 3):=fun b hb2=>⟨range_heap (HR.out b hb2).1 (hb.block r (range_lt (HR.out b hb2).1 (by simp))),there_heap (HR.out b hb2).2 (hb.block r (range_lt (HR.out b hb2).1 (by simp)))⟩
    have FF:Hid (Frm (fun k=>decide (k=c) || decide (k=r) || decide (B2≤k)) w4 y7):=FF.out.tr (Frm.of_below hb)
    have hS:Ar y7 w.heap.size 0 .i64 [(N:Int),(P:Int),g2,g3,g4,g5]:=hS.below hb (hS.lt (by simp))
    have H8:=hdH (c8)
    clear c8 hb e8
    refine hK.out _ _ hS (fun _=>?_)
    simp only [Act.put,zE1,zE2,zE3]
    clear hK K
    refine wpAnyH_ready (rs:=[10]) (by kernel_rfl) (by simp) ?_
    refine AllReadyH.cons rfl (fun K hK=>?_) AllReadyH.nil
    refine ge.step_callW _ (by rfl) (some 34) rfl 49 #[.tmp 25,.tmp 33] #[26,3] rfl (fun q w'=>by rfl) #[.slice (some ⟨h8,0,none⟩) 1 1,.int .i64 ((N*(P*S):Nat):Int)] (by simp only [List.map_toArray,List.map_cons,List.map_nil];rfl) (fun v w'=>v=.slice (some ⟨y7.heap.size,0,none⟩) (N*(P*S)) (N*(P*S))∧Ar w' y7.heap.size 0 .u8 (List.replicate (N*(P*S)) 255)∧Below y7.heap.size y7 w'∧y7.heap.size<w'.heap.size) ?_ ?_
    ·exact (repeat_any h8 255 (N*(P*S)) y7 H8.out (by omega) (by have a1:=HNM.out;have a2:=HBY.out;exact Nat.mul_pos (by omega) a2.2.2) (by have:=HBY.out;omega)).mono fun e w' ⟨h1,h2⟩=>⟨_,h1,rfl,h2⟩
    rintro _ y8 ⟨rfl,A9,hb,l9⟩
    obtain ⟨d,ed⟩:∃ x,x=y7.heap.size:=⟨_,rfl⟩
    rw [←ed] at A9 l9 ⊢
    have HA:=hdH (A9)
    have HD:Hid (B2≤d∧d<y8.heap.size):=⟨by rw [ed,gg.out.2.2.2.2.2];exact FF.out.size,l9⟩
    have HC:=hdH (HC.out.below hb (range_lt HC.out.1 (by simp [chd])))
    have HR:Hid (∀ b,b<N→y8.rangeAt r (b*3) [.slice none 0 0,.int .i64 0,.bool false]∧y8.there r (b*3) 3):=fun b hb2=>⟨range_heap (HR.out b hb2).1 (hb.block r (range_lt (HR.out b hb2).1 (by simp))),there_heap (HR.out b hb2).2 (hb.block r (range_lt (HR.out b hb2).1 (by simp)))⟩
    have FF:Hid (Frm (fun k=>decide (k=c) || decide (k=r) || decide (B2≤k)) w4 y8):=FF.out.tr (Frm.of_below hb)
    have hS:Ar y8 w.heap.size 0 .i64 [(N:Int),(P:Int),g2,g3,g4,g5]:=hS.below hb (hS.lt (by simp))
    have H8:Hid (y8.cell? ⟨h8,0,none⟩=some (.int .u8 255)):=(hb.cell (World.block_lt_of_cell? _ _ H8.out)).trans H8.out
    clear A9 hb l9 ed
    refine hK.out _ _ hS (fun _=>?_)
    simp only [Act.put,zE1,zE2,zE3]
    clear hK K
    refine tkH 11 (some 35) (.pointer (some ⟨c,0,none⟩)) rfl rfl (Or.inl ⟨by rfl,fun w' hw'=>by go_simp⟩) hS ?_
    simp only [Act.put,zE1,zE2,zE3]
    refine tkH 12 (some 36) (.pointer (some ⟨c,8,none⟩)) rfl rfl (Or.inl ⟨by rfl,fun w' hw'=>by go_simp⟩) hS ?_
    simp only [Act.put,zE1,zE2,zE3]
    refine wpAnyH_ready (rs:=[13]) (by kernel_rfl) (by simp) ?_
    refine AllReadyH.cons rfl (fun K hK=>?_) AllReadyH.nil
    refine step_store1 _ rfl none rfl (.tmp 36) (.tmp 34) 26 rfl c 8 (.slice (some ⟨d,0,none⟩) (N*(P*S)) (N*(P*S))) rfl rfl (HC.out.there1 8 (by simp [chd])) (HC.out.free 8 (by simp [chd])) one_bytes.2 rfl rfl ?_
    intro y9 e9
    have gw:y8.grownBy y9 (some c):=by rw [e9.out];exact keep_set _ _ _ _
    have HC2:Hid (Vr y9 c (chd [(N:Int),(P:Int),g2,g3,g4,g5] (.slice po fs.length pc) true (.slice (some ⟨d,0,none⟩) (N*(P*S)) (N*(P*S))) (.slice (some ⟨r,0,none⟩) N N) (.slice none 0 0))):=by
     have:=HC.out.set 8 (by simp [chd]) (.slice (some ⟨d,0,none⟩) (N*(P*S)) (N*(P*S)))
     rw [←e9.out] at this
     exact this
    have HA2:=hdH (HA.out.heap (gw.block d HD.out.2 (by have:=gg.out;have:=HD.out;simp;omega)))
    have HD2:Hid (B2≤d∧d<y9.heap.size):=⟨HD.out.1,Nat.lt_of_lt_of_le HD.out.2 gw.size⟩
    have HR:Hid (∀ b,b<N→y9.rangeAt r (b*3) [.slice none 0 0,.int .i64 0,.bool false]∧y9.there r (b*3) 3):=fun b hb2=>⟨range_heap (HR.out b hb2).1 (gw.block r (range_lt (HR.out b hb2).1 (by simp)) (by have:=gg.out;simp;omega)),there_heap (HR.out b hb2).2 (gw.block r (range_lt (HR.out b hb2).1 (by simp)) (by have:=gg.out;simp;omega))⟩
    have FF:Hid (Frm (fun k=>decide (k=c) || decide (k=r) || decide (B2≤k)) w4 y9):=FF.out.tr (Frm.grown gw (fun k e=>by injection e with e;subst e;simp))
    have hS:Ar y9 w.heap.size 0 .i64 [(N:Int),(P:Int),g2,g3,g4,g5]:=hS.heap (gw.block _ (hS.lt (by simp)) (by have:=gg.out;simp;omega))
    clear e9 gw
    refine hK.out _ _ hS (fun _=>?_)
    simp only [Act.put]
    clear hK K
    refine wpAnyH_done (by kernel_rfl) ?_ _
    go_wp2_with fail
    go_meet
    exact ⟨d,HC2.out,HA2.out,HD2.out.1,HD2.out.2,hS,FF.out,HR.out⟩
  case rest=>
   obtain ⟨d,V5,A5,d1,d2,P5,F5,R5⟩:=hcut
   obtain ⟨w5,rfl⟩:∃ x,x=wc:=⟨_,rfl⟩
   obtain ⟨B3,hB3⟩:∃ x,x=w5.heap.size:=⟨_,rfl⟩
   have HG5:Hid (B2≤d∧d<B3∧B3=w5.heap.size∧r<B3∧c<B3):=⟨d1,by omega,hB3,by have:=gg.out;omega,by have:=gg.out;omega⟩
   have H5:Hid (Vr w5 c (chd [(N:Int),(P:Int),g2,g3,g4,g5] (.slice po fs.length pc) true (.slice (some ⟨d,0,none⟩) (N*(P*S)) (N*(P*S))) (.slice (some ⟨r,0,none⟩) N N) (.slice none 0 0))∧Ar w5 d 0 .u8 (List.replicate (N*(P*S)) 255)∧Ar w5 w.heap.size 0 .i64 [(N:Int),(P:Int),g2,g3,g4,g5]∧Frm (fun k=>decide (k=c) || decide (k=r) || decide (B2≤k)) w4 w5∧∃ q,Blks w5 r B3 q N P 0):=⟨V5,A5,P5,F5,fun _=>0,fun b hb=>by rw [if_neg (by omega)];exact R5 b hb,fun b hb=>by omega,fun b b' _ h2=>by omega⟩
   have f9:=H5.out.1.cell 9 (.slice (some ⟨r,0,none⟩) N N) rfl
   clear V5 A5 d1 d2 P5 F5 R5 hB3
   have hN64:N≤64:=HNM.out.2.1
   go_wp2
   go_loopw [42] (fun i wr=>∃ k:Nat,k≤N∧i=.int .i64 k∧Hid (B3≤wr.heap.size∧Vr wr c (chd [(N:Int),(P:Int),g2,g3,g4,g5] (.slice po fs.length pc) true (.slice (some ⟨d,0,none⟩) (N*(P*S)) (N*(P*S))) (.slice (some ⟨r,0,none⟩) N N) (.slice none 0 0))∧Ar wr d 0 .u8 (List.replicate (N*(P*S)) 255)∧Ar wr w.heap.size 0 .i64 [(N:Int),(P:Int),g2,g3,g4,g5]∧Frm (fun k=>decide (k=c) || decide (k=r) || decide (B2≤k)) w4 wr∧∃ q,Blks wr r B3 q N P k)) (fun i _=>N-(intOf i).toNat)
   case atStart=>exact ⟨0,Nat.zero_le _,rfl,by rw [HG5.out.2.2.1];exact Nat.le_refl _,H5.out⟩
   case round=>
    obtain ⟨k,hk,rfl,HX⟩:=hrel
    obtain ⟨wa,rfl⟩:∃ x,x=wr:=⟨_,rfl⟩
    clear f9
    have k0:(0 :Int)≤(k:Int):=by omega
    by_cases hlt:k<N
    ·have k1:(k:Int)<(N:Int):=by omega
     obtain ⟨z1,z2,z3,z4,z5,q,z6⟩:=HX.out
     have HC:=hdH (z2)
     have HA:=hdH (z3)
     have HP:=hdH (z4)
     have FF:=hdH (z5)
     have HK:=hdH (z6)
     have HZ:=hdH (z1)
     clear z1 z2 z3 z4 z5 z6 HX
     go_wp2
     have HA:Hid (Ar wa.drew d 0 .u8 (List.replicate (N*(P*S)) 255)):=HA.out.drewN 1
     have FF:Hid (Frm (fun k=>decide (k=c) || decide (k=r) || decide (B2≤k)) w4 wa.drew):=FF.out
     have HK:Hid (Blks wa.drew r B3 q N P k):=HK.out.heap rfl (fun _ _=>rfl) (Nat.le_refl _)
     have HZ:Hid (B3≤wa.drew.heap.size):=HZ.out
     refine wp_region_held_drew (S:=fun w'=>(Ar w' w.heap.size 0 .i64 [(N:Int),(P:Int),g2,g3,g4,g5]∧Vr w' c (chd [(N:Int),(P:Int),g2,g3,g4,g5] (.slice po fs.length pc) true (.slice (some ⟨d,0,none⟩) (N*(P*S)) (N*(P*S))) (.slice (some ⟨r,0,none⟩) N N) (.slice none 0 0)))) (by kernel_rfl) ⟨HP.out.drewN 1,HC.out.heap rfl⟩ (fun hS=>?_)
     obtain ⟨z1,hx0⟩:∃ x,x=wa.drew:=⟨_,rfl⟩
     rw [←hx0] at hS HA FF HK HZ ⊢
     clear hx0
     refine tkH 0 (some 45) (.pointer (some ⟨c,0,none⟩)) rfl rfl (Or.inl ⟨by rfl,fun w' hw'=>by rfl⟩) hS ?_
     simp only [Act.put,zE1,zE2,zE3]
     refine tkH 1 (some 46) (.pointer (some ⟨c,0,none⟩)) rfl rfl (Or.inl ⟨by rfl,fun w' hw'=>by go_simp⟩) hS ?_
     simp only [Act.put,zE1,zE2,zE3]
     refine tkH 2 (some 47) (.pointer (some ⟨c,9,none⟩)) rfl rfl (Or.inl ⟨by rfl,fun w' hw'=>by go_simp⟩) hS ?_
     simp only [Act.put,zE1,zE2,zE3]
     refine tkH 3 (some 48) (.slice (some ⟨r,0,none⟩) N N) rfl rfl (Or.inl ⟨by rfl,fun w' hw'=>by exact exec_loadN 104 (.tmp 47) rfl _ rfl _ _ (load_one one_states (hw'.2.cell 9 _ rfl))⟩) hS ?_
     simp only [Act.put,zE1,zE2,zE3]
     refine tkH 4 (some 49) (.int .i64 (k:Int)) rfl rfl (Or.inl ⟨by rfl,fun w' hw'=>by rfl⟩) hS ?_
     simp only [Act.put,zE1,zE2,zE3]
     refine tkH 5 (some 50) (.pointer (some ⟨w.heap.size,1,none⟩)) rfl rfl (Or.inl ⟨by rfl,fun w' hw'=>by go_simp⟩) hS ?_
     simp only [Act.put,zE1,zE2,zE3]
     refine tkH 6 (some 51) (.int .i64 (P:Int)) rfl rfl (Or.inl ⟨by rfl,fun w' hw'=>by exact exec_loadN 3 (.tmp 50) rfl _ rfl _ _ (load_one one_int (hw'.1.cell0 1 (by simp)))⟩) hS ?_
     simp only [Act.put,zE1,zE2,zE3]
     refine wpAnyH_ready (rs:=[7]) (by kernel_rfl) (by simp) ?_
     refine AllReadyH.cons rfl (fun K hK=>?_) AllReadyH.nil
     refine step_makeG _ rfl (some 52) rfl (.tmp 51) (.tmp 51) 70 3 rfl Tryz.underlying70 _ 1 8 info_int P rfl rfl (by have:=HNM.out;omega) (by have:=HNM.out;omega) ?_
     intro z2 o9 hb l9
     obtain ⟨h9,e9⟩:∃ x,x=z1.heap.size:=⟨_,rfl⟩
     rw [←e9] at o9 l9 ⊢
     have H9:Hid (Ar z2 h9 0 .i64 (List.replicate P 0)∧B3≤h9∧h9<z2.heap.size∧∀ b,b<k→q b<h9):=⟨made_ints o9,by rw [e9];exact HZ.out,l9,fun b hb2=>by rw [e9];exact (HK.out.2.1 b hb2).2.2⟩
     have HA:=hdH (HA.out.below hb (HA.out.lt (by rw [List.length_replicate];exact Nat.mul_pos (by have:=HNM.out;omega) HBY.out.2.2)))
     have HK:=hdH (HK.out.heap (hb.block r (Nat.lt_of_lt_of_le HG5.out.2.2.2.1 HZ.out)) (fun b hb2=>hb.block _ (HK.out.2.1 b hb2).2.2) hb.size)
     have FF:Hid (Frm (fun k=>decide (k=c) || decide (k=r) || decide (B2≤k)) w4 z2):=FF.out.tr (Frm.of_below hb)
     have hS:Ar z2 w.heap.size 0 .i64 [(N:Int),(P:Int),g2,g3,g4,g5]∧Vr z2 c (chd [(N:Int),(P:Int),g2,g3,g4,g5] (.slice po fs.length pc) true (.slice (some ⟨d,0,none⟩) (N*(P*S)) (N*(P*S))) (.slice (some ⟨r,0,none⟩) N N) (.slice none 0 0)):=⟨hS.1.below hb (hS.1.lt (by simp)),hS.2.below hb (range_lt hS.2.1 (by simp [chd]))⟩
     have HZ:Hid (B3≤z2.heap.size):=Nat.le_trans HZ.out hb.size
     clear o9 hb l9 e9
     refine hK.out _ _ hS (fun _=>?_)
     simp only [Act.put,zE1,zE2,zE3]
     clear hK K
     refine tkH 8 (some 53) (.pointer (some ⟨r,k*3,none⟩)) rfl rfl (Or.inl ⟨by rfl,fun w' hw'=>by go_simp⟩) hS ?_
     simp only [Act.put,zE1,zE2,zE3]
     refine tkH 9 (some 54) (.pointer (some ⟨r,k*3,none⟩)) rfl rfl (Or.inl ⟨by rfl,fun w' hw'=>by go_simp⟩) hS ?_
     simp only [Act.put,zE1,zE2,zE3]
     refine wpAnyH_ready (rs:=[10]) (by kernel_rfl) (by simp) ?_
     refine AllReadyH.cons rfl (fun K hK=>?_) AllReadyH.nil
     refine step_store1 _ rfl none rfl (.tmp 54) (.tmp 52) 70 rfl r (k*3) (.slice (some ⟨h9,0,none⟩) P P) rfl rfl ((HK.out.1 k hlt).2 0 (by omega)).1 ((HK.out.1 k hlt).2 0 (by omega)).2 one_ints.2 rfl rfl ?_
     intro z3 e9
     have gw:z2.grownBy z3 (some r):=by rw [e9.out];exact keep_set _ _ _ _
     have HK2:Hid (Blks z3 r B3 (at1 q k h9) N P (k+1)):=by
      rw [e9.out]
      exact HK.out.more hlt H9.out.1 H9.out.2.1 H9.out.2.2.2 HG5.out.2.2.2.1 H9.out.2.2.1
     have HA2:=hdH (HA.out.heap (gw.block d (Nat.lt_of_lt_of_le HG5.out.2.1 HZ.out) (by have a1:=gg.out;have a2:=HG5.out;simp;omega)))
     have FF2:Hid (Frm (fun k=>decide (k=c) || decide (k=r) || decide (B2≤k)) w4 z3):=FF.out.tr (Frm.grown gw (fun k e=>by injection e with e;subst e;simp))
     have hS:Ar z3 w.heap.size 0 .i64 [(N:Int),(P:Int),g2,g3,g4,g5]∧Vr z3 c (chd [(N:Int),(P:Int),g2,g3,g4,g5] (.slice po fs.length pc) true (.slice (some ⟨d,0,none⟩) (N*(P*S)) (N*(P*S))) (.slice (some ⟨r,0,none⟩) N N) (.slice none 0 0)):=⟨hS.1.heap (gw.block _ (hS.1.lt (by simp)) (by have:=gg.out;simp;omega)),hS.2.kept gw (range_lt hS.2.1 (by simp [chd])) (by have:=gg.out;simp;omega)⟩
     have HZ2:Hid (B3≤z3.heap.size):=Nat.le_trans HZ.out gw.size
     clear e9 gw
     refine hK.out _ _ hS (fun _=>?_)
     simp only [Act.put]
     clear hK K
     refine wpAnyH_done (by kernel_rfl) ?_ _
     go_wp2
     go_roundw
     case rel=>
      exact ⟨k+1,by omega,by go_num,HZ2.out,hS.2,HA2.out,hS.1,FF2.out,at1 q k h9,HK2.out⟩
     case measure=>
      simp [intOf];omega
    ·have e:k=N:=by omega
     subst e
     obtain ⟨z1,z2,z3,z4,z5,q,z6⟩:=HX.out
     have HE:Hid (Made w [(k:Int),(P:Int),g2,g3,g4,g5] k P S (plnOf fs ms) (.returned (.tuple #[.pointer (some ⟨c,0,none⟩),.int .i64 0])) wa):=by
      have a1:=gg.out
      have a2:=HG5.out
      have cN:∀ b,b<k→q b<wa.heap.size∧B3≤q b:=fun b hb=>⟨(z6.2.1 b hb).2.2,(z6.2.1 b hb).2.1⟩
      have mk:∀ x,((fun k=>decide (k=c) || decide (k=r) || decide (B2≤k)) x=true)→x<wa.heap.size→((fun x=>(fun k=>decide (k=c) || decide (k=r) || decide (B2≤k)) x && decide (x<wa.heap.size)) x)=true:=fun x h1 h2=>by
       show ((fun k=>decide (k=c) || decide (k=r) || decide (B2≤k)) x && decide (x<wa.heap.size))=true
       rw [h1];simp [h2]
      refine ⟨fun x=>(fun k=>decide (k=c) || decide (k=r) || decide (B2≤k)) x && decide (x<wa.heap.size),c,r,d,q,.slice po fs.length pc,.slice none 0 0,rfl,⟨HS.out,⟨⟨mk c (by simp) (by omega),mk r (by simp) (by omega),mk d (by simp [show B2≤d from a2.1]) (by omega),fun b hb=>mk _ (by have:=(cN b hb).2;simp [show B2≤q b by omega]) (cN b hb).1⟩,⟨by omega,by omega,by omega⟩,fun b hb=>by have:=cN b hb;exact ⟨by omega,by omega,by omega⟩,fun b b' h1 h2 hne=>?_⟩,fun j hj=>(by cases hj),z2,⟨z3,List.length_replicate,allB_replicate 255 _ (by omega)⟩,fun b hb=>?_,fun b hb=>⟨(z6.2.1 b hb).1,List.length_replicate⟩,⟨fun _=>.slice none 0 0,OwR.nil _ _ _ _,fun i hi=>(by cases hi),fun j hj=>(by cases hj)⟩,?_,by omega,by omega,by omega,fun b hb=>(cN b hb).1⟩,?_,?_,?_⟩
      ·rcases Nat.lt_or_gt_of_ne hne with h | h
       ·have:=z6.2.2 b b' h h2;omega
       ·have:=z6.2.2 b' b h h1;omega
      ·have:=z6.1 b hb
       rw [if_pos hb] at this
       exact this
      ·exact pla_less (HPA.out.below z5.hid0) (fun x hx=>by
        have:((fun k=>decide (k=c) || decide (k=r) || decide (B2≤k)) x && decide (x<wa.heap.size))=true:=hx
        rw [Bool.and_eq_true] at this
        exact this.1)
      ·intro x hx
       have:((fun k=>decide (k=c) || decide (k=r) || decide (B2≤k)) x && decide (x<wa.heap.size))=true:=hx
       rw [Bool.and_eq_true] at this
       exact of_decide_eq_true this.2
      ·intro x hx
       have:((fun k=>decide (k=c) || decide (k=r) || decide (B2≤k)) x && decide (x<wa.heap.size))=true:=hx
       rw [Bool.and_eq_true,Bool.or_eq_true,Bool.or_eq_true] at this
       rcases this.1 with (h | h) | h
       ·have:=of_decide_eq_true h;omega
       ·have:=of_decide_eq_true h;omega
       ·have:=of_decide_eq_true h;omega
      ·exact BB.out.trans (z5.below (by omega) (fun x hx=>by
        have hx':((decide (x=c) || decide (x=r)) || decide (B2≤x))=true:=hx
        rw [Bool.or_eq_true,Bool.or_eq_true] at hx'
        rcases hx' with (h | h) | h
        ·have:=of_decide_eq_true h;omega
        ·have:=of_decide_eq_true h;omega
        ·have:=of_decide_eq_true h;omega))
     clear z1 z2 z3 z4 z5 z6 HX
     go_wp2
     go_ret2
     exact HE.out
end Go.Proofs.YtmbgokmomkmgcaaGreatDoor.na
