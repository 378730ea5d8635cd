/- What the pages of any block tell, in any geometry: both sides tell the same. No condition. -/
import Derived.Test.YtmbgokmomkmgcaaGreatDoorCards
import Derived.Test.YtmbgokmomkmgcaaGreatDoorTie
import Derived.Test.YtmbgokmomkmgcaaGreatDoorK00
import Derived.Test.YtmbgokmomkmgcaaGreatDoorK01
import Derived.Test.YtmbgokmomkmgcaaGreatDoorK02
import Derived.Test.YtmbgokmomkmgcaaGreatDoorK03
import Derived.Test.YtmbgokmomkmgcaaGreatDoorK04
import Derived.Test.YtmbgokmomkmgcaaGreatDoorK05
import Derived.Test.YtmbgokmomkmgcaaGreatDoorK06
import Derived.Test.YtmbgokmomkmgcaaGreatDoorK07
import Derived.Test.YtmbgokmomkmgcaaGreatDoorK08
import Derived.Test.YtmbgokmomkmgcaaGreatDoorK09
import Derived.Test.YtmbgokmomkmgcaaGreatDoorK10
import Derived.Test.YtmbgokmomkmgcaaGreatDoorK11
import Derived.Test.YtmbgokmomkmgcaaGreatDoorK12
import Derived.Test.YtmbgokmomkmgcaaGreatDoorK13
import Derived.Test.YtmbgokmomkmgcaaGreatDoorK14
import Derived.Test.YtmbgokmomkmgcaaGreatDoorK15
import Derived.Test.YtmbgokmomkmgcaaGreatDoorK16
import Derived.Test.YtmbgokmomkmgcaaGreatDoorK17
import Derived.Test.YtmbgokmomkmgcaaGreatDoorK18
import Derived.Test.YtmbgokmomkmgcaaGreatDoorK19
import Derived.Test.YtmbgokmomkmgcaaGreatDoorK20
import Derived.Test.YtmbgokmomkmgcaaGreatDoorK21
import Derived.Test.YtmbgokmomkmgcaaGreatDoorK22
import Derived.Test.YtmbgokmomkmgcaaGreatDoorK23
import Derived.Test.YtmbgokmomkmgcaaGreatDoorK24
import Derived.Test.YtmbgokmomkmgcaaGreatDoorK25
import Derived.Test.YtmbgokmomkmgcaaGreatDoorK26
import Derived.Test.YtmbgokmomkmgcaaGreatDoorK27
import Derived.Test.YtmbgokmomkmgcaaGreatDoorK28
import Derived.Test.YtmbgokmomkmgcaaGreatDoorK29
import Derived.Test.YtmbgokmomkmgcaaGreatDoorK30
import Derived.Test.YtmbgokmomkmgcaaGreatDoorK31
import Derived.Test.YtmbgokmomkmgcaaGreatDoorK32
import Derived.Test.YtmbgokmomkmgcaaGreatDoorK33
import Derived.Test.YtmbgokmomkmgcaaGreatDoorK34
import Derived.Test.YtmbgokmomkmgcaaGreatDoorK35
import Derived.Test.YtmbgokmomkmgcaaGreatDoorK36
import Derived.Test.YtmbgokmomkmgcaaGreatDoorK37
namespace Go.Proofs.YtmbgokmomkmgcaaGreatDoor.scanBlocks
open Go.ChangeShapes Go.WideShapes Go.ChangeAt Go.RowKit Go.Proofs.YtmbgokmomkmgcaaGreatDoor.sc Go.Proofs.YtmbgokmomkmgcaaGreatDoor.pa Go.Proofs.YtmbgokmomkmgcaaGreatDoor.he Go.Proofs.YtmbgokmomkmgcaaGreatDoor.fa
set_option maxRecDepth 20000
theorem walk (g0 g1 g2 g3 g4 g5:Int) (ao:Option Addr) (n cap:Nat) (u:Nat→Bool) (z e t:Nat→Int) (va:Nat→Option Addr) (vm vc:Nat→Nat) (bad:Int) (f:Nat→Pgd) (bl ls:Int) (w:World) (hp:Pgl w (.slice ao n cap) n f) (_hb: -9223372036854775808≤bl∧bl≤9223372036854775807) (_hl: -9223372036854775808≤ls∧ls≤9223372036854775807) (hT:Tab w):
  Calls Tryz.prog 4 #[.agg (csz g0 g1 g2 g3 g4 g5 (.slice ao n cap) u z e t (fun i=>.slice (va i) (vm i) (vc i)) bad).toArray,.int .i64 bl,.int .i64 ls] w fun x w'=>x=.returned (.bool true)∧Below w.heap.size w w':=by
 by_cases hc:Lc g0 g1 g2 g3 g4 g5 n z vm
 ·have k0:=hc.1.1.1
  have k1:=hc.1.1.2.1
  have k2:=hc.1.1.2.2.1
  obtain ⟨N,rfl⟩:∃ N:Nat,g0=(N:Int):=⟨g0.toNat,by have:gb [g0,g1,g2,g3,g4,g5] 0=g0:=rfl;omega⟩
  obtain ⟨P,rfl⟩:∃ P:Nat,g1=(P:Int):=⟨g1.toNat,by have:gb [(N:Int),g1,g2,g3,g4,g5] 1=g1:=rfl;omega⟩
  obtain ⟨S,rfl⟩:∃ S:Nat,g2=(S:Int):=⟨g2.toNat,by have:gb [(N:Int),(P:Int),g2,g3,g4,g5] 2=g2:=rfl;omega⟩
  by_cases h0:bl<0∨(0≤bl∧(N:Int)≤bl)
  ·exact blocks_out N P S g3 g4 g5 ao n cap u z e t va vm vc bad f bl ls w hT hc hp h0
  ·obtain ⟨k,rfl⟩:∃ k:Nat,bl=(k:Int):=⟨bl.toNat,by omega⟩
   have hk:k<N:=by omega
   by_cases h1:ls<1
   ·exact blocks_yes1 N P S g3 g4 g5 ao n cap u z e t va vm vc bad f k ls w hT hc hp hk h1
   ·by_cases h2:(P:Int)<ls
    ·exact blocks_yes2 N P S g3 g4 g5 ao n cap u z e t va vm vc bad f k ls w hT hc hp hk (by omega) h2
    ·obtain ⟨ln,rfl⟩:∃ ln:Nat,ls=(ln:Int):=⟨ls.toNat,by omega⟩
     exact blocks_less N P S g3 g4 g5 ao n cap u z e t va vm vc bad f k ln w hT hc hp hk (by omega) (by omega)
 ·exact blocks_dark g0 g1 g2 g3 g4 g5 bl ls ao n cap u z e t va vm vc bad w hT hc
theorem params:∀ t ∈ Tryz.f4.params.toList,Tryz.prog.readableRec t=true∧t<Tryz.prog.types.size:=by
 rw [Tryz.params4]
 intro t ht
 simp at ht
 rcases ht with rfl | rfl
 ·exact ⟨by kernel_rfl,of_decide_eq_true (by kernel_rfl)⟩
 ·exact ⟨by kernel_rfl,of_decide_eq_true (by kernel_rfl)⟩
theorem contract (H:Type) (enc:TypeId × Value→H) (W:World) (base:Nat) (args:Array Value) (ds gs:List (DataW H)) (before:List MemPlace)
  (hval:∀ (j:Nat) t v,Tryz.f4.params[j]? =some t→args[j]? =some v→Value.okWide Tryz.prog W .any base t v)
  (hW:DataW.Whole enc Tryz.prog Tryz.f4.params.toList Rows.scanBlocksSpec.vars false W args.toList ds gs before) (hL:laidMetH Tryz.prog Rows.scanBlocksRow.laid W):
  Calls Tryz.prog 4 args W fun e W'=>∃ v,e=.returned v∧Rows.scanBlocksSpec.post enc Tryz.prog Tryz.f4 false true false false W args v W':=by
 have hW':=hW
 obtain ⟨p,q,hA0,hV,rfl,hfz,hnd⟩:=hW
 have hA:DataW.TrodAll enc Tryz.prog W 0 (fun _=>true) true Tryz.f4.params.toList args.toList ds p:=hA0
 rw [Tryz.params4] at hA hval
 obtain ⟨v0,v1,v2,d0,d1,d2,p0,p1,p2,rfl,rfl,rfl,h0,h1,h2⟩:=trodAll_three hA
 obtain ⟨rfl,rfl⟩:=trodVars_none hV
 obtain ⟨ga0,gb0,gc0,gd0,ge0,gf0,ao0,pn0,pc0,su0,sz0,se0,st0,va0,vm0,vc0,bd0,pf0,rfl,hp0⟩:=sc.case_open (hval 0 31 v0 rfl rfl) h0
 obtain ⟨x1,rfl,rfl,rfl,w1⟩:=open_int Tryz.underlying3 (hval 1 3 v1 rfl rfl) h1
 obtain ⟨x2,rfl,rfl,rfl,w2⟩:=open_int Tryz.underlying3 (hval 2 3 v2 rfl rfl) h2
 clear hA0
 refine (walk ga0 gb0 gc0 gd0 ge0 gf0 ao0 pn0 pc0 su0 sz0 se0 st0 va0 vm0 vc0 bd0 pf0 x1 x2 W hp0 (bounds_i64 w1) (bounds_i64 w2) (table hL)).mono fun e W' ⟨he,hg⟩=>?_
 subst he
 exact ⟨_,rfl,post_law rfl (by kernel_rfl) params rfl rfl rfl hW' hg⟩
theorem laid_met (os:Os):laidMet Tryz.prog Rows.scanBlocksRow.laid (({World.holding Tryz.prog os ⟨#[],#[],[]⟩ with heap:=(World.holding Tryz.prog os ⟨#[],#[],[]⟩).heap.modify 1 fun | .cells _ t frozen=>.cells #[.int .i64 1,.int .i64 1,.int .i64 1,.int .i64 1,.int .i64 4,.int .i64 8,.int .i64 8] t frozen | o=>o}:World).forCall (fun _ _=>0) ⟨#[],#[.agg #[.int .i64 0,.int .i64 0,.int .i64 0,.int .i64 0,.int .i64 0,.int .i64 0,.slice none 0 0,.bool false,.int .i64 0,.int .u64 0,.int .u64 0,.slice none 0 0,.bool false,.int .i64 0,.int .u64 0,.int .u64 0,.slice none 0 0,.bool false,.int .i64 0,.int .u64 0,.int .u64 0,.slice none 0 0,.bool false,.int .i64 0,.int .u64 0,.int .u64 0,.slice none 0 0,.int .u64 0],.int .i64 0,.int .i64 0],[]⟩).memory :=
 laidMet_of_run' 8 (by kernel_rfl) (by kernel_rfl)
theorem reads (os:Os) {H:Type} (enc:TypeId × Value→H):∃ places,DataW.whole enc Tryz.prog (({World.holding Tryz.prog os ⟨#[],#[],[]⟩ with heap:=(World.holding Tryz.prog os ⟨#[],#[],[]⟩).heap.modify 1 fun | .cells _ t frozen=>.cells #[.int .i64 1,.int .i64 1,.int .i64 1,.int .i64 1,.int .i64 4,.int .i64 8,.int .i64 8] t frozen | o=>o}:World).forCall (fun _ _=>0) ⟨#[],#[.agg #[.int .i64 0,.int .i64 0,.int .i64 0,.int .i64 0,.int .i64 0,.int .i64 0,.slice none 0 0,.bool false,.int .i64 0,.int .u64 0,.int .u64 0,.slice none 0 0,.bool false,.int .i64 0,.int .u64 0,.int .u64 0,.slice none 0 0,.bool false,.int .i64 0,.int .u64 0,.int .u64 0,.slice none 0 0,.bool false,.int .i64 0,.int .u64 0,.int .u64 0,.slice none 0 0,.int .u64 0],.int .i64 0,.int .i64 0],[]⟩).memory Tryz.f4.params.toList Rows.scanBlocksSpec.vars false #[Value.agg #[.int .i64 0,.int .i64 0,.int .i64 0,.int .i64 0,.int .i64 0,.int .i64 0,.slice none 0 0,.bool false,.int .i64 0,.int .u64 0,.int .u64 0,.slice none 0 0,.bool false,.int .i64 0,.int .u64 0,.int .u64 0,.slice none 0 0,.bool false,.int .i64 0,.int .u64 0,.int .u64 0,.slice none 0 0,.bool false,.int .i64 0,.int .u64 0,.int .u64 0,.slice none 0 0,.int .u64 0],Value.int .i64 0,Value.int .i64 0].toList 8=some ([.agg [.agg [.lit (.int .i64 0),.lit (.int .i64 0),.lit (.int .i64 0),.lit (.int .i64 0),.lit (.int .i64 0),.lit (.int .i64 0)],.nil,.agg [.agg [.lit (.bool false),.lit (.int .i64 0),.lit (.int .u64 0),.lit (.int .u64 0),.nil],.agg [.lit (.bool false),.lit (.int .i64 0),.lit (.int .u64 0),.lit (.int .u64 0),.nil],.agg [.lit (.bool false),.lit (.int .i64 0),.lit (.int .u64 0),.lit (.int .u64 0),.nil],.agg [.lit (.bool false),.lit (.int .i64 0),.lit (.int .u64 0),.lit (.int .u64 0),.nil]],.lit (.int .u64 0)],.lit (.int .i64 0),.lit (.int .i64 0)],[],places):=
 ⟨[],by kernel_rfl⟩
set_option maxRecDepth 100000 in
theorem lifted (os:Os) (started:os.Started) (H:Type) (enc:TypeId × Value→H) (F:Stop.Interp):
  ReturnsInHanded {} Tryz.checked os 4 .any ((OpenSpec.ofChange Rows.scanBlocksSpec).preRow enc Tryz.prog Tryz.f4 Rows.scanBlocksRow.domain false Rows.scanBlocksRow.laid) (((OpenSpec.ofChange Rows.scanBlocksSpec).at F).post enc Tryz.prog Tryz.f4 false true false false):=by
 obtain ⟨places,hx⟩:=reads os enc
 refine returnsInHanded_of_row (C:=Tryz.checked) (s:=OpenSpec.ofChange Rows.scanBlocksSpec) own started (by kernel_rfl) Tryz.func4
  (witness_row_at (enc:=enc) (C:=Tryz.checked) false ({World.holding Tryz.prog os ⟨#[],#[],[]⟩ with heap:=(World.holding Tryz.prog os ⟨#[],#[],[]⟩).heap.modify 1 fun | .cells _ t frozen=>.cells #[.int .i64 1,.int .i64 1,.int .i64 1,.int .i64 1,.int .i64 4,.int .i64 8,.int .i64 8] t frozen | o=>o}:World) #[.agg #[.int .i64 0,.int .i64 0,.int .i64 0,.int .i64 0,.int .i64 0,.int .i64 0,.slice none 0 0,.bool false,.int .i64 0,.int .u64 0,.int .u64 0,.slice none 0 0,.bool false,.int .i64 0,.int .u64 0,.int .u64 0,.slice none 0 0,.bool false,.int .i64 0,.int .u64 0,.int .u64 0,.slice none 0 0,.bool false,.int .i64 0,.int .u64 0,.int .u64 0,.slice none 0 0,.int .u64 0],.int .i64 0,.int .i64 0] rfl (by kernel_rfl) (by kernel_rfl) (by kernel_rfl)
   (OpenSpec.preRow_of_cond 8 hx (by kernel_rfl) (fun k hk=>by cases hk) (by kernel_rfl) (laid_met os))) ?_
 intro W base args ds gs before hval hW _ _ _ hL _ _
 exact contract H enc W base args ds gs before hval hW hL
theorem said:Rows.ScanBlocksSaid:=
 OpenClaim.holds_of_cond 4 Tryz.f4 rfl rfl rfl rfl rfl rfl rfl ⟨rfl,rfl,rfl,rfl,rfl⟩ rfl rfl rfl rfl rfl (by kernel_rfl) Tryz.func4 (by kernel_rfl)
  (of_decide_eq_true (by kernel_rfl)) (by unfold Func.isWrapper;first | (rw [if_pos (by decide+kernel)];kernel_rfl) | (rw [if_neg (by decide+kernel)];exact ⟨rfl,rfl⟩))
  (fun os started H enc _ F=>by rw [OpenClaim.pre_eq_preRow];exact lifted os started H enc F)
theorem plain (f:FuncId) (fn:Func) (hf:Tryz.pinned.checked.prog.funcNamed "nepenthe/nepenthelaw23.ScanBlocks" =some f) (hfn:Tryz.pinned.checked.prog.funcs[f]? =some fn):
  false=Tryz.pinned.checked.prog.looks []∧∀ (j:Nat) t,fn.params[j]? =some t→Tryz.pinned.checked.prog.wantsStandIn t=false:=by
 obtain rfl:f=4:=Option.some.inj ((show Tryz.prog.funcNamed "nepenthe/nepenthelaw23.ScanBlocks" =some 4 by kernel_rfl).symm.trans hf) |>.symm
 obtain rfl:fn=Tryz.f4:=(Option.some.inj (Tryz.func4.symm.trans hfn)).symm
 refine ⟨by kernel_rfl,fun j t ht=>?_⟩
 rw [Tryz.params4] at ht
 have hm:=Array.mem_of_getElem? ht
 simp at hm
 rcases hm with rfl | rfl
 ·exact (show Tryz.prog.wantsStandIn 31=false by kernel_rfl)
 ·exact (show Tryz.prog.wantsStandIn 3=false by kernel_rfl)
end Go.Proofs.YtmbgokmomkmgcaaGreatDoor.scanBlocks
namespace Go.Proofs.YtmbgokmomkmgcaaGreatDoor
theorem scanBlocks_card:Rows.ScanBlocksCardSaid:=
 Claim7.holds_tied_plain_at .later [] _ _ _ _ scanBlocks.said (fun _ h=>by cases h) (by kernel_rfl) (fun _ h=>by cases h) scanBlocks_row_tie rfl ⟨rfl,rfl⟩ (by kernel_rfl) rfl scanBlocks.plain (by kernel_rfl)
end Go.Proofs.YtmbgokmomkmgcaaGreatDoor
