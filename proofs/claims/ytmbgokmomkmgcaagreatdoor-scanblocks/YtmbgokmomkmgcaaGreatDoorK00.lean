/- Parts of the proof: what ScanBlocks reaches. No claim of its own. -/
import Derived.WalkKit
import Derived.WalkSmall
import Derived.ProofKit
import Derived.OpenShut
import Derived.BigQuiet
import Derived.Deep.QuietTactic
import Derived.Deep.WholeRow
import Derived.Deep.MidRow
import Derived.Laws.StructEq
import Derived.Deep.RegionHeld3
import Derived.Laws.AppendOwnNone
import Derived.Test.YtmbgokmomkmgcaaGreatDoorRows
set_option maxHeartbeats 8000000
namespace Go.Proofs.YtmbgokmomkmgcaaGreatDoor
open Go.RowKit
set_option maxRecDepth 20000
def gb (xs:List Int) (j:Nat):Int:=xs.getD j 0
def AllB (xs:List Int):Prop:=∀ j:Nat,0≤gb xs j∧gb xs j≤255
def Byt (w:World) (v:Value) (xs:List Int):Prop:=
 ∃ ao cap,v=.slice ao xs.length cap∧xs.length≤cap∧cap≤9223372036854775807∧AllB xs∧(ao=none→cap=0)∧
  (0<xs.length→∃ b off,ao=some ⟨b,off,none⟩∧∀ t,t<xs.length→w.cell? ⟨b,off+t,none⟩=some (.int .u8 (gb xs t)))
theorem Byt.below {w w':World} {v:Value} {xs:List Int} (h:Byt w v xs) (hb:Below w.heap.size w w'):Byt w' v xs:=by
 obtain ⟨ao,cap,rfl,h1,h2,h3,h4,h5⟩:=h
 refine ⟨ao,cap,rfl,h1,h2,h3,h4,fun hp=>?_⟩
 obtain ⟨b,off,rfl,hc⟩:=h5 hp
 refine ⟨b,off,rfl,fun t ht=>?_⟩
 have:=hc t ht
 rw [hb.cell (World.block_lt_of_cell? w _ this)]
 exact this
theorem Byt.nil (w:World):Byt w (.slice none 0 0) []:=
 ⟨none,0,rfl,by simp,by simp,fun j=>by simp [gb],fun _=>rfl,fun h=>by simp at h⟩
theorem Byt.all {w:World} {v:Value} {xs:List Int} (h:Byt w v xs):AllB xs:=by
 obtain ⟨ao,cap,rfl,h1,h2,h3,h4,h5⟩:=h
 exact h3
theorem Byt.len {w:World} {v:Value} {xs:List Int} (h:Byt w v xs):xs.length≤9223372036854775807:=by
 obtain ⟨ao,cap,rfl,h1,h2,h3,h4,h5⟩:=h
 omega
theorem Byt.own {w:World} {base:Nat} {v:Value} {n:Nat} {xs:List Int} (h:w.ownsRow base 5 1 v n (xs.map (Value.int .u8))) (ha:AllB xs):Byt w v xs:=by
 have hl:xs.length=n:=by have:=h.1;simpa using this
 rcases h.2 with ⟨rfl,hn⟩ | ⟨g,cap,cur,rfl,hg,hb,hc,hm,hs,ht⟩
 ·have:xs= []:=List.eq_nil_of_length_eq_zero (by omega)
  subst this
  exact Byt.nil w
 ·subst hl
  refine ⟨some ⟨g,0,none⟩,cap,rfl,hc,by simpa [maxLen] using hm,ha,(by intro h;cases h),fun hp=>⟨g,0,rfl,fun t ht'=>?_⟩⟩
  have:=h.cells (g:=g) rfl t (.int .u8 (gb xs t)) (by simp [gb,List.getD,ht'])
  rw [Addr.add_lit] at this
  simpa using this
theorem ext_gb {xs ys:List Int} (h:xs.length=ys.length) (h':∀ t,t<xs.length→gb xs t=gb ys t):xs=ys:=by
 refine List.ext_getElem h fun t h1 h2=>?_
 have:=h' t h1
 simpa [gb,List.getD,h1,h2] using this
theorem allB_mem {xs:List Int} (h:∀ x ∈ xs,0≤x∧x≤255):AllB xs:=by
 intro j
 by_cases hj:j<xs.length
 ·have:=h (xs[j]) (List.getElem_mem hj)
  simpa [gb,List.getD,hj] using this
 ·simp [gb,List.getD,Nat.le_of_not_lt hj]
theorem ret_bool {a b:Bool} (h:a=b):Ending.returned (.bool a)=.returned (.bool b):=by rw [h]
theorem ret_int {k:IntKind} {a b:Int} (h:a=b):Ending.returned (.int k a)=.returned (.int k b):=by rw [h]
theorem info_u8:(Tryz.prog.info? 5).map (fun i=>(i.zero,i.size,i.bytes))=some (some (.int .u8 0),1,1):=by kernel_rfl
theorem own:ownKnob Tryz.prog.godebug=none:=by kernel_rfl
def Own (B:Nat) (w:World) (v:Value) (xs:List Int):Prop:=w.ownsRow B 5 1 v xs.length (xs.map (Value.int .u8))
def OwnN (B:Nat) (w:World) (g n:Nat) (xs:List Int):Prop:=xs.length=n∧B≤g∧w.ownsRow B 5 1 (.slice (some ⟨g,0,none⟩) n n) n (xs.map (Value.int .u8))
theorem Own.byt {B:Nat} {w:World} {v:Value} {xs:List Int} (h:Own B w v xs) (ha:AllB xs):Byt w v xs:=Byt.own h ha
theorem OwnN.byt {B:Nat} {w:World} {g n:Nat} {xs:List Int} (h:OwnN B w g n xs) (ha:AllB xs):Byt w (.slice (some ⟨g,0,none⟩) n n) xs:=Byt.own h.2.2 ha
theorem Own.empty (w:World) {B:Nat} (hB:B≤w.heap.size):Own B (w.alloc (.cells #[] 5)) (.slice (some ⟨w.heap.size,0,none⟩) 0 0) []:=
 World.ownsRow_made w #[] 0 hB (by simp [maxLen]) (by simp)
theorem OwnN.cell {B:Nat} {w:World} {g n:Nat} {xs:List Int} (h:OwnN B w g n xs) {k:Nat} (hk:k<n):w.cell? ⟨g,k,none⟩=some (.int .u8 (gb xs k)):=by
 rw [h.2.2.cellAt k (by omega)]
 have:=h.1
 simp [gb,List.getD,show k<xs.length by omega]
theorem OwnN.free {B:Nat} {w:World} {g n:Nat} {xs:List Int} (h:OwnN B w g n xs) (k:Nat):w.frozen? ⟨g,k,none⟩=false:=h.2.2.frozenAt k
theorem OwnN.set {B:Nat} {w:World} {g n:Nat} {xs:List Int} (h:OwnN B w g n xs) (k:Nat) (x:Int):OwnN B (w.setCell ⟨g,k,none⟩ (.int .u8 x)) g n (xs.set k x):=
 ⟨by simpa using h.1,h.2.1,by have:=(h.2.2.stored k (.int .u8 x)).1;rwa [←List.map_set] at this⟩
theorem OwnN.drew {B:Nat} {w:World} {g n:Nat} {xs:List Int} (h:OwnN B w g n xs) (m:Nat):OwnN B (w.drewN m) g n xs:=h
section
variable {ops:Array Oper} {rest:List Oper} {o:Oper} {a:Act} {Q:Exit→Act→World→Prop}
theorem make_law (w:World) (hg:o.guard=none) (l c:Operand) (hop:o.op=Op.makeSlice 26 l c) (B:Nat) (hB:B≤w.heap.size)
  (L:Int) (n:Nat) (hl:a.eval l=.int .i64 L) (hc:a.eval c=.int .i64 L) (hL:L=(n:Int)) (hn:n≤1099511627776)
  (hK:∀ w',OwnN B w' w.heap.size n (List.replicate n 0)→Below B w w'→w.heap.size<w'.heap.size→wpList Tryz.prog ops Q rest (a.put o.dst (.slice (some ⟨w.heap.size,0,none⟩) n n)) w'):
  wpList Tryz.prog ops Q (o :: rest) a w:=by
 obtain ⟨i0,hi,hz0,hz1,hz2⟩:=info_parts info_u8
 refine wpList_make_full w hg l c 26 hop B 5 i0 (.int .u8 0) 1 Tryz.underlying26 hi hz0 hz1 .i64 .i64 L L n hl hc hL hL (by rw [hz2];omega) (by simp only [maxLen];omega) hB fun w' h1 h2=>?_
 have hlt:w.heap.size<w'.heap.size:=(h1.lt w.heap.size rfl).2
 refine hK w' ⟨by simp,hB,?_⟩ ((Below.refl B w).grown h2 hB (fun k hk=>by cases hk)) hlt
 have e:(madeCells (Value.int .u8 0).cells (n*1)).toList =(List.replicate n (0 :Int)).map (Value.int .u8):=by
  rw [Nat.mul_one]
  show (madeCells #[Value.int .u8 0] n).toList =_
  rw [toList_madeCells_one];simp
 rw [e] at h1
 exact h1
theorem push_law (w0:World) (hg:o.guard=none) (s x:Operand) (hop:o.op=.call {callee:=.builtin .append,args:=#[s,x],argTypes:=#[26,26]})
  (B:Nat) (hB:B≤w0.heap.size) (v:Value) (xs:List Int) (c:Int) (hs:a.eval s=v) (hx:a.eval x=.slice (some ⟨w0.heap.size,0,none⟩) 1 1) (hown:Own B w0 v xs) (hn:xs.length≤1099511627776)
  (hK:∀ v' w',Own B w' v' (xs ++ [c])→Below B w0 w'→wpList Tryz.prog ops Q rest (a.put o.dst v') w'):
  wpList Tryz.prog ops Q (o :: rest) a (w0.alloc (.cells #[.int .u8 c] 5)):=by
 obtain ⟨i0,hi,hz0,hz1,hz2⟩:=info_parts info_u8
 refine wpList_append_own _ hg s x 26 hop B 5 i0 (.int .u8 0) 1 1 Tryz.underlying26 hi hz0 hz1 hz2 rfl (by decide) v xs.length _ hs (World.ownsRow.alloc hown _) ⟨w0.heap.size,0,none⟩ 1 1 [.int .u8 c] hx rfl ?_ ?_ (by simp only [maxLen];omega) (by omega) (by simp;omega) fun v' w' h1 h2 _=>?_
 ·intro j u hj
  match j,hj with
  |0,hj=>simp at hj;subst hj;simp [Addr.add]
 ·intro u hu;simp at hu;subst hu;rfl
 ·refine hK v' w' ?_ ?_
  ·show w'.ownsRow B 5 1 v' (xs ++ [c]).length ((xs ++ [c]).map (Value.int .u8))
   simpa using h1
  ·refine ((Below.refl B w0).alloc hB _).grown h2 (by simp;omega) fun k hk=>?_
   exact (World.ownsRow.lt hown k hk).1
theorem step_push1 {K:Act→World→Prop} {E:Prop} (w0:World) (hg:o.guard=none) (s x:Operand) (hop:o.op=.call {callee:=.builtin .append,args:=#[s,x],argTypes:=#[26,26]})
  (B:Nat) (hB:B≤w0.heap.size) (v:Value) (xs:List Int) (c:Int) (hs:a.eval s=v) (hx:a.eval x=.slice (some ⟨w0.heap.size,0,none⟩) 1 1) (hown:Own B w0 v xs) (hn:xs.length≤1099511627776)
  (hK:∀ v' w',Own B w' v' (xs ++ [c])→Below B w0 w'→K (a.put o.dst v') w'):
  if Region.wanted o (yielded ops a.tmps)=true then Oper.wp Tryz.prog o a (w0.alloc (.cells #[.int .u8 c] 5)) K Q else E:=by
 have hw:Region.wanted o (yielded ops a.tmps)=true:=by simp [Region.wanted,hg]
 rw [if_pos hw]
 obtain ⟨i0,hi,hz0,hz1,hz2⟩:=info_parts info_u8
 refine wp_append_own _ s x 26 hop B 5 i0 (.int .u8 0) 1 1 Tryz.underlying26 hi hz0 hz1 hz2 rfl (by decide) v xs.length _ hs (World.ownsRow.alloc hown _) ⟨w0.heap.size,0,none⟩ 1 1 [.int .u8 c] hx rfl ?_ ?_ (by simp only [maxLen];omega) (by omega) (by simp;omega) fun v' w' h1 h2 _=>?_
 ·intro j u hj
  match j,hj with
  |0,hj=>simp at hj;subst hj;simp [Addr.add]
 ·intro u hu;simp at hu;subst hu;rfl
 ·refine hK v' w' ?_ ?_
  ·show w'.ownsRow B 5 1 v' (xs ++ [c]).length ((xs ++ [c]).map (Value.int .u8))
   simpa using h1
  ·refine ((Below.refl B w0).alloc hB _).grown h2 (by simp;omega) fun k hk=>?_
   exact (World.ownsRow.lt hown k hk).1
theorem gb_cut (xs:List Int) (l h t:Nat) (ht:t<h-l):gb ((xs.take h).drop l) t=gb xs (l+t):=by
 simp [gb,List.getD,show l+t<h by omega]
theorem byt_cut {w:World} {v:Value} {xs:List Int} (hb:Byt w v xs) (l h:Nat) (hl:l≤h) (hh:h≤xs.length):
  ∃ ao cap,v=.slice ao xs.length cap∧h≤cap∧Byt w (sliced ao l h cap 1) ((xs.take h).drop l):=by
 obtain ⟨ao,cap,rfl,h1,h2,h3,h4,h5⟩:=hb
 refine ⟨ao,cap,rfl,by omega,?_⟩
 have hlen:((xs.take h).drop l).length =h-l:=by simp;omega
 refine ⟨if cap=l then ao else ao.map (·.add (l*1)),cap-l,by rw [hlen];rfl,by omega,by omega,?_,?_,?_⟩
 ·intro t
  by_cases ht:t<h-l
  ·rw [gb_cut xs l h t ht];exact h3 _
  ·have:gb ((xs.take h).drop l) t=0:=by
    simp only [gb,List.getD,List.getElem?_eq_none (show ((xs.take h).drop l).length ≤t by omega)];rfl
   omega
 ·split
  ·intro _;omega
  ·intro hn
   have:=h4 (by simpa using hn)
   omega
 ·intro hp
  obtain ⟨b,off,rfl,hc⟩:=h5 (by omega)
  rw [if_neg (by omega)]
  refine ⟨b,off+l,by simp [Addr.add_lit],fun t ht=>?_⟩
  rw [gb_cut xs l h t (by omega),Nat.add_assoc]
  exact hc (l+t) (by omega)
theorem run_size_u8 (w:World):(sizeOf 5).run Tryz.prog w=.ok 1 w:=by
 obtain ⟨i0,hi,hz0,hz1,hz2⟩:=info_parts info_u8
 simp [sizeOf,typeInfo,hi,hz1]
theorem elem_bytes:Tryz.prog.elem 26=5:=by kernel_rfl
theorem und_bytes:Tryz.prog.underlying 26=some (.slice (Tryz.prog.elem 26)):=by kernel_rfl
theorem cut_from (w:World) (hg:o.guard=none) (s x:Operand) (hop:o.op=Op.slice 26 s (some x) none none) (v:Value) (xs:List Int) (L:Int) (l:Nat)
  (hs:a.eval s=v) (hx:a.eval x=.int .i64 L) (hL:L=(l:Int)) (hl:l≤xs.length) (hb:Byt w v xs)
  (hK:∀ v',Byt w v' (xs.drop l)→wpList Tryz.prog ops Q rest (a.put o.dst v') w):
  wpList Tryz.prog ops Q (o :: rest) a w:=by
 refine wpList_plain hg fun K hK'=>?_
 obtain ⟨ao,cap,rfl,hc,hb'⟩:=byt_cut hb l xs.length hl (Nat.le_refl _)
 have hrun:=run_slice_l (P:=Tryz.prog) w 26 ao xs.length cap und_bytes .i64 L (by omega) (by omega)
 rw [elem_bytes,run_size_u8] at hrun
 subst hL
 rw [List.take_length] at hb'
 unfold Oper.wp
 simp [execOp,hop,hs,hx,run_sliceAt_slice w 26 _ _ _ _ und_bytes,hrun,Result.andThen]
 exact hK' _ _ (hK _ hb')
theorem cut_to (w:World) (hg:o.guard=none) (s x:Operand) (hop:o.op=Op.slice 26 s none (some x) none) (v:Value) (xs:List Int) (L:Int) (h:Nat)
  (hs:a.eval s=v) (hx:a.eval x=.int .i64 L) (hL:L=(h:Int)) (hh:h≤xs.length) (hb:Byt w v xs)
  (hK:∀ v',Byt w v' (xs.take h)→wpList Tryz.prog ops Q rest (a.put o.dst v') w):
  wpList Tryz.prog ops Q (o :: rest) a w:=by
 refine wpList_plain hg fun K hK'=>?_
 obtain ⟨ao,cap,rfl,hc,hb'⟩:=byt_cut hb 0 h (Nat.zero_le _) hh
 have hrun:=run_slice_h (P:=Tryz.prog) w 26 ao xs.length cap und_bytes .i64 L (by omega) (by omega)
 rw [elem_bytes,run_size_u8] at hrun
 subst hL
 rw [List.drop_zero] at hb'
 unfold Oper.wp
 simp [execOp,hop,hs,hx,run_sliceAt_slice w 26 _ _ _ _ und_bytes,hrun,Result.andThen]
 exact hK' _ _ (hK _ hb')
theorem cut_part (w:World) (hg:o.guard=none) (s x y:Operand) (hop:o.op=Op.slice 26 s (some x) (some y) none) (v:Value) (xs:List Int) (L H:Int) (l h:Nat)
  (hs:a.eval s=v) (hx:a.eval x=.int .i64 L) (hy:a.eval y=.int .i64 H) (hL:L=(l:Int)) (hH:H=(h:Int)) (hl:l≤h) (hh:h≤xs.length) (hb:Byt w v xs)
  (hK:∀ v',Byt w v' ((xs.take h).drop l)→wpList Tryz.prog ops Q rest (a.put o.dst v') w):
  wpList Tryz.prog ops Q (o :: rest) a w:=by
 refine wpList_plain hg fun K hK'=>?_
 obtain ⟨ao,cap,rfl,hc,hb'⟩:=byt_cut hb l h hl hh
 have hrun:=run_slice_lh (P:=Tryz.prog) w 26 ao xs.length cap und_bytes .i64 .i64 L H (by omega) (by omega) (by omega)
 rw [elem_bytes,run_size_u8] at hrun
 subst hL
 subst hH
 unfold Oper.wp
 simp [execOp,hop,hs,hx,hy,run_sliceAt_slice w 26 _ _ _ _ und_bytes,hrun,Result.andThen]
 exact hK' _ _ (hK _ hb')
end
end Go.Proofs.YtmbgokmomkmgcaaGreatDoor
namespace Go.Proofs.YtmbgokmomkmgcaaGreatDoor
open Go.RowKit
theorem tR : (1 : Nat) = 1 := rfl
theorem hdH {p : Prop} (h : p) : Hid p := h
theorem zE1 {α : Type} (l : List α) (i : Nat) (a : α) : l.toArray.setIfInBounds i a = (l.set i a).toArray := List.setIfInBounds_toArray ..
theorem zE2 {α : Type} (a b : α) (l : List α) : (a :: l).set 0 b = b :: l := List.set_cons_zero ..
theorem zE3 {α : Type} (a b : α) (l : List α) (n : Nat) : (a :: l).set (n + 1) b = a :: l.set n b := List.set_cons_succ ..
end Go.Proofs.YtmbgokmomkmgcaaGreatDoor
namespace Go.Proofs.YtmbgokmomkmgcaaGreatDoor
open Go.RowKit
set_option maxRecDepth 20000
theorem i_u8:(Tryz.prog.info? 5).map (·.size)=some 1:=by kernel_rfl
theorem below_cells {B:Nat} {a:World} (b:Nat) (hb:B≤b):∀ (vs:List Value) (o:Nat) {w:World},Below B a w→Below B a (w.setCells b o vs)
 |[],_,_,h=>h
 |v :: r,o,_,h=>below_cells b hb r (o+1) (h.setCell (p:=⟨b,o,none⟩) hb v)
def ints (k:IntKind) (xs:List Int):Array Value:=(xs.map (Value.int k)).toArray
theorem ints_size (k:IntKind) (xs:List Int):(ints k xs).size =xs.length:=by simp [ints]
theorem ints_toList (k:IntKind) (xs:List Int):(ints k xs).toList =xs.map (Value.int k):=by simp [ints]
theorem ints_one (k:IntKind) (xs:List Int):(ints k xs).all (·.oneCell')=true:=by
 rw [Array.all_eq_true_iff_forall_mem]
 intro v hv
 simp only [ints,List.mem_toArray,List.mem_map] at hv
 obtain ⟨x,_,rfl⟩:=hv
 rfl
def Ar (w:World) (b o:Nat) (k:IntKind) (xs:List Int):Prop:=w.rangeAt b o (xs.map (Value.int k))∧w.there b o xs.length
theorem Ar.cell {w:World} {b o:Nat} {k:IntKind} {xs:List Int} (h:Ar w b o k xs) (i:Nat) (hi:i<xs.length):w.cell? ⟨b,o+i,none⟩=some (.int k (gb xs i)):=
 h.1 i _ (by simp [gb,List.getD,hi])
theorem Ar.cell0 {w:World} {b:Nat} {k:IntKind} {xs:List Int} (h:Ar w b 0 k xs) (i:Nat) (hi:i<xs.length):w.cell? ⟨b,i,none⟩=some (.int k (gb xs i)):=by
 have:=h.cell i hi
 rwa [Nat.zero_add] at this
theorem Ar.free {w:World} {b o:Nat} {k:IntKind} {xs:List Int} (h:Ar w b o k xs) (i:Nat) (hi:i<xs.length):w.frozen? ⟨b,o+i,none⟩=false:=(h.2 i hi).2
theorem Ar.free0 {w:World} {b:Nat} {k:IntKind} {xs:List Int} (h:Ar w b 0 k xs) (i:Nat) (hi:i<xs.length):w.frozen? ⟨b,i,none⟩=false:=by
 have:=h.free i hi
 rwa [Nat.zero_add] at this
theorem Ar.mk {w:World} {b o:Nat} {k:IntKind} {xs:List Int} (h:∀ i,i<xs.length→w.cell? ⟨b,o+i,none⟩=some (.int k (gb xs i))∧w.frozen? ⟨b,o+i,none⟩=false):Ar w b o k xs:=by
 refine ⟨fun j v hv=>?_,fun j hj=>?_⟩
 ·have hj:j<xs.length:=by have:=(List.getElem?_eq_some_iff.1 hv).1;simpa using this
  rw [(h j hj).1,←hv]
  simp [gb,List.getD,hj]
 ·exact ⟨by rw [(h j hj).1];rfl,(h j hj).2⟩
theorem Ar.lt {w:World} {b o:Nat} {k:IntKind} {xs:List Int} (h:Ar w b o k xs) (hp:0<xs.length):b<w.heap.size:=World.block_lt_of_cell? w _ (h.cell 0 hp)
theorem Ar.heap {w w':World} {b o:Nat} {k:IntKind} {xs:List Int} (h:Ar w b o k xs) (e:w'.heap[b]? =w.heap[b]?):Ar w' b o k xs:=
 Ar.mk fun i hi=>⟨by rw [World.cell?_of_block (w:=w) (w':=w') (a:=⟨b,o+i,none⟩) e];exact h.cell i hi,by rw [World.frozen?_of_block (w:=w) (w':=w') (a:=⟨b,o+i,none⟩) e];exact h.free i hi⟩
theorem Ar.below {w w':World} {b o B:Nat} {k:IntKind} {xs:List Int} (h:Ar w b o k xs) (hb:Below B w w') (hB:b<B):Ar w' b o k xs:=h.heap (hb.block b hB)
theorem Ar.drewN {w:World} {b o:Nat} {k:IntKind} {xs:List Int} (h:Ar w b o k xs) (n:Nat):Ar (w.drewN n) b o k xs:=h.heap rfl
theorem Ar.new (w:World) (t:TypeId) (k:IntKind) (xs:List Int):Ar (w.alloc (.cells (ints k xs) t)) w.heap.size 0 k xs:=
 Ar.mk fun i hi=>by
  have e:=cell_of_row (w.alloc (.cells (ints k xs) t)) w.heap.size (0+i) _ t (0,0) (heap_alloc_last w _)
  refine ⟨by rw [e];simp [ints,gb,List.getD,hi],?_⟩
  exact World.frozen?_alloc_at _ _ _ _ rfl
theorem Ar.set {w:World} {b o:Nat} {k:IntKind} {xs:List Int} (h:Ar w b o k xs) (i:Nat) (hi:i<xs.length) (x:Int):Ar (w.setCell ⟨b,o+i,none⟩ (.int k x)) b o k (xs.set i x):=
 Ar.mk fun j hj=>by
  rw [List.length_set] at hj
  refine ⟨?_,by rw [World.frozen?_setCell];exact h.free j hj⟩
  by_cases e:i=j
  ·subst e
   rw [World.cell?_setCell_same _ _ _ (h.cell i hi)]
   simp [gb,List.getD,hi]
  ·rw [World.cell?_setCell_other _ _ _ _ (by intro hh;injection hh with _ h2;omega),h.cell j hj]
   simp [gb,List.getD,e]
theorem Ar.set0 {w:World} {b:Nat} {k:IntKind} {xs:List Int} (h:Ar w b 0 k xs) (i:Nat) (hi:i<xs.length) (x:Int):Ar (w.setCell ⟨b,i,none⟩ (.int k x)) b 0 k (xs.set i x):=by
 have:=h.set i hi x
 rwa [Nat.zero_add] at this
def laid (xs:List Int) (s:Nat) (ys:List Int):List Int:=xs.take s ++ ys ++ xs.drop (s+ys.length)
theorem laid_len (xs:List Int) (s:Nat) (ys:List Int) (h:s+ys.length≤xs.length):(laid xs s ys).length =xs.length:=by simp [laid];omega
theorem gb_laid (xs:List Int) (s:Nat) (ys:List Int) (hs:s+ys.length≤xs.length) (j:Nat):gb (laid xs s ys) j=if j<s then gb xs j else if j<s+ys.length then gb ys (j-s) else gb xs j:=by
 have hm:(xs.take s).length =s:=by simp;omega
 unfold gb laid
 by_cases h1:j<s
 ·rw [if_pos h1,List.append_assoc,List.getD_eq_getElem?_getD,List.getElem?_append_left (by omega),List.getElem?_take,if_pos h1];rfl
 ·rw [if_neg h1,List.append_assoc,List.getD_eq_getElem?_getD,List.getElem?_append_right (by omega),hm]
  by_cases h2:j<s+ys.length
  ·rw [if_pos h2,List.getElem?_append_left (by omega)];rfl
  ·rw [if_neg h2,List.getElem?_append_right (by omega),List.getElem?_drop,show s+ys.length+(j-s-ys.length)=j by omega];rfl
theorem Ar.lay {w:World} {b o:Nat} {k:IntKind} {xs:List Int} (h:Ar w b o k xs) (s:Nat) (ys:List Int) (hs:s+ys.length≤xs.length):Ar (w.setCells b (o+s) (ys.map (Value.int k))) b o k (laid xs s ys):=
 Ar.mk fun j hj=>by
  rw [laid_len xs s ys hs] at hj
  refine ⟨?_,by rw [World.frozen?_setCells];exact h.free j hj⟩
  by_cases h1:j<s
  ·rw [World.cell?_setCells_out _ _ _ _ _ (fun _ _=>by left;show o+j<o+s;omega),h.cell j hj,gb_laid xs s ys hs,if_pos h1]
  ·by_cases h2:j<s+ys.length
   ·have e:=World.cell?_setCells_in b (ys.map (Value.int k)) (o+s) w (fun i hi=>by
     simp only [List.length_map] at hi
     rw [show o+s+i=o+(s+i) by omega,h.cell (s+i) (by omega)];rfl) (j-s) (by simp;omega)
    rw [show o+s+(j-s)=o+j by omega] at e
    rw [e,gb_laid xs s ys hs,if_neg h1,if_pos h2]
    simp [gb,List.getD,show j-s<ys.length by omega]
   ·rw [World.cell?_setCells_out _ _ _ _ _ (fun _ _=>by right;simp;omega),h.cell j hj,gb_laid xs s ys hs,if_neg h1,if_neg h2]
theorem Ar.whole {w:World} {b o:Nat} {k:IntKind} {xs:List Int} (ht:w.there b o xs.length):Ar (w.setCells b o (xs.map (Value.int k))) b o k xs:=
 ⟨World.rangeAt_setCells_same w b o _ (by simpa using ht),World.there_setCells ht b o _⟩
section
variable {ops:Array Oper} {rest:List Oper} {o:Oper} {a:Act} {Q:Exit→Act→World→Prop}
theorem box_law (w:World) (hg:o.guard=none) (x:Operand) (t:TypeId) (hop:o.op=Op.box t x) (k:IntKind) (xs:List Int) (hx:a.eval x=.agg (ints k xs))
  (hK:wpList Tryz.prog ops Q rest (a.put o.dst (.pointer (some ⟨w.heap.size,0,none⟩))) (w.alloc (.cells (ints k xs) t))):
  wpList Tryz.prog ops Q (o :: rest) a w:=by
 refine wpList_plain hg fun K hK'=>?_
 unfold Oper.wp
 simp [execOp,hop,hx,Instr.box,newVar,newRow,Value.cells,Result.andThen]
 exact hK' _ _ hK
theorem new_law (w:World) (hg:o.guard=none) (t:TypeId) (hop:o.op=Op.alloc t) (k:IntKind) (xs:List Int) (hz:(Tryz.prog.info? t).map (fun i=>(i.zero,i.size))=some (some (.agg (ints k xs)),xs.length))
  (hK:wpList Tryz.prog ops Q rest (a.put o.dst (.pointer (some ⟨w.heap.size,0,none⟩))) (w.alloc (.cells (ints k xs) t))):
  wpList Tryz.prog ops Q (o :: rest) a w:=by
 refine wpList_plain hg fun K hK'=>?_
 have hz':=(zero_of_info hz).1
 unfold Oper.wp
 simp [execOp,hop,Instr.alloc,hz',newVar,newRow,Value.cells,Result.andThen]
 exact hK' _ _ hK
theorem store_law (w:World) (hg:o.guard=none) (x y:Operand) (t:TypeId) (hop:o.op=Op.store t x y) (k:IntKind) (ys:List Int) (b p:Nat) (hx:a.eval x=.pointer (some ⟨b,p,none⟩)) (hy:a.eval y=.agg (ints k ys))
  (ht:w.there b p ys.length) (n:Nat) (hi:(Tryz.prog.info? t).map (·.size)=some n) (hn:ys.length=n)
  (hK:wpList Tryz.prog ops Q rest (a.put o.dst undef) (w.setCells b p (ys.map (Value.int k)))):
  wpList Tryz.prog ops Q (o :: rest) a w:=
 wpList_store_mid hg t x y hop b p (ints k ys) hx hy (by rw [ints_size];exact ht) (by rw [hi,ints_size,hn]) (ints_one k ys) (by rw [ints_toList];exact hK)
theorem build_law (w:World) (hg:o.guard=none) (t:TypeId) (parts:Array (Nat × Operand)) (hop:o.op=Op.build t parts) (v:Value) (hrun:(Instr.build t (parts.map fun (i,x)=>(i,a.eval x))).run Tryz.prog w=.ok v w)
  (hK:wpList Tryz.prog ops Q rest (a.put o.dst v) w):wpList Tryz.prog ops Q (o :: rest) a w:=by
 refine wpList_plain hg fun K hK'=>?_
 unfold Oper.wp execOp
 simp only [hop,Sem.run_bind,Sem.run_pure,Result.andThen_ok,hrun]
 exact hK' _ _ hK
theorem new_lawF (w:World) (hg:o.guard=none) (t:TypeId) (hop:o.op=Op.alloc t) (k:IntKind) (xs:List Int) (hz:(Tryz.prog.info? t).map (fun i=>(i.zero,i.size))=some (some (.agg (ints k xs)),xs.length))
  (hK:∀ w',Ar w' w.heap.size 0 k xs→Below w.heap.size w w'→w.heap.size<w'.heap.size→wpList Tryz.prog ops Q rest (a.put o.dst (.pointer (some ⟨w.heap.size,0,none⟩))) w'):
  wpList Tryz.prog ops Q (o :: rest) a w:=
 new_law w hg t hop k xs hz (hK _ (Ar.new w t k xs) ((Below.refl _ _).alloc (Nat.le_refl _) _) (by simp))
theorem store_lawF (w:World) (hg:o.guard=none) (x y:Operand) (t:TypeId) (hop:o.op=Op.store t x y) (k:IntKind) (xs ys:List Int) (b:Nat) (hx:a.eval x=.pointer (some ⟨b,0,none⟩)) (hy:a.eval y=.agg (ints k ys))
  (hA:Ar w b 0 k xs) (n:Nat) (hi:(Tryz.prog.info? t).map (·.size)=some n) (hl:xs.length=n) (hn:ys.length=n)
  (hK:∀ w',Ar w' b 0 k ys→Below b w w'→wpList Tryz.prog ops Q rest (a.put o.dst undef) w'):
  wpList Tryz.prog ops Q (o :: rest) a w:=by
 have ht:w.there b 0 ys.length:=by rw [hn,←hl];exact hA.2
 exact store_law w hg x y t hop k ys b 0 hx hy ht n hi hn (hK _ (Ar.whole ht) (below_cells _ (Nat.le_refl _) _ _ (Below.refl _ _)))
theorem box_lawF (w:World) (hg:o.guard=none) (x:Operand) (t:TypeId) (hop:o.op=Op.box t x) (k:IntKind) (xs:List Int) (hx:a.eval x=.agg (ints k xs))
  (hK:∀ w',Ar w' w.heap.size 0 k xs→Below w.heap.size w w'→w.heap.size<w'.heap.size→wpList Tryz.prog ops Q rest (a.put o.dst (.pointer (some ⟨w.heap.size,0,none⟩))) w'):
  wpList Tryz.prog ops Q (o :: rest) a w:=
 box_law w hg x t hop k xs hx (hK _ (Ar.new w t k xs) ((Below.refl _ _).alloc (Nat.le_refl _) _) (by simp))
end
section
variable {ops:Array Oper} {o:Oper} {a:Act} {Q:Exit→Act→World→Prop} {K:Act→World→Prop} {E:Prop}
theorem step_set (w:World) (hg:o.guard=none) (d:Option Tmp) (hd:o.dst=d) (x y:Operand) (t:TypeId) (hop:o.op=Op.store t x y) (k:IntKind) (n:Int) (b p:Nat) (hx:a.eval x=.pointer (some ⟨b,p,none⟩)) (hy:a.eval y=.int k n)
  (hc:(w.cell? ⟨b,p,none⟩).isSome =true) (hf:w.frozen? ⟨b,p,none⟩=false) (hi:(Tryz.prog.info? t).map (·.size)=some 1)
  (hK:K (a.put d undef) (w.setCell ⟨b,p,none⟩ (.int k n))):
  if Region.wanted o (yielded ops a.tmps)=true then Oper.wp Tryz.prog o a w K Q else E:=by
 have hw:Region.wanted o (yielded ops a.tmps)=true:=by simp [Region.wanted,hg]
 rw [if_pos hw]
 subst hd
 have hr:(storeVar t ⟨b,p,none⟩ (.int k n)).run Tryz.prog w=.ok () (w.setCell ⟨b,p,none⟩ (.int k n)):=by
  have e0:∀ j,j< [Value.int k n].length →j=0:=fun j hj=>by simpa using hj
  have:=run_storeCells_cells (P:=Tryz.prog) b p [.int k n] 0 w (fun j hj=>by rw [e0 j hj];simpa using hc) (fun j hj=>by rw [e0 j hj];simpa using hf) (fun v hv=>by simp at hv;subst hv;rfl)
  cases hq:Tryz.prog.info? t with
  |none=>simp [hq] at hi
  |some i=>
   have hs:i.size=1:=by simpa [hq] using hi
   simp only [Nat.add_zero] at this
   simp [storeVar,sizeOf,typeInfo,hq,Value.cells,hs]
   simpa [World.setCells] using this
 unfold Oper.wp execOp
 simp only [hop,hx,hy,Instr.storeAt,Instr.sureAddr,Sem.run_bind,Sem.run_pure,Result.andThen_ok,hr]
 exact hK
end
section
variable {ops:Array Oper} {C:World→Prop} {K:Act→Prop} {o:Oper} {a:Act}
theorem q_val (hw:Region.wanted o (yielded ops a.tmps)=true) (d:Option Tmp) (hd:o.dst=d) (v:Value) (hr:∀ w,C w→(execOp a.eval o).run Tryz.prog w=.ok (.value v) w) (hK:K (a.put d v)):
  if Region.wanted o (yielded ops a.tmps)=true then o.quiet Tryz.prog a C K else K (a.put o.dst undef):=by
 rw [if_pos hw]
 subst hd
 refine ⟨v,fun w hC=>?_,hK⟩
 unfold Oper.quietAt
 rw [hr w hC]
 exact ⟨rfl,rfl⟩
theorem q_call (hw:Region.wanted o (yielded ops a.tmps)=true) (d:Option Tmp) (hd:o.dst=d) (f:FuncId) (xs:Array Operand) (ats:Array TypeId) (hop:o.op=.call {callee:=.value (.func f),args:=xs,argTypes:=ats})
  (hcf:∀ (q:Array Value) (w:World),(callFunc f q).run Tryz.prog w=.ok (.enter f q) w) (vs:Array Value) (hx:xs.map a.eval=vs) (v:Value) (hc:∀ w,C w→Calls Tryz.prog f vs w fun e w'=>e=.returned v∧C w') (hK:K (a.put d v)):
  if Region.wanted o (yielded ops a.tmps)=true then o.quiet Tryz.prog a C K else K (a.put o.dst undef):=by
 rw [if_pos hw]
 subst hd
 refine ⟨v,fun w hC=>?_,hK⟩
 unfold Oper.quietAt
 simp only [execOp,hop]
 go_simp
 exact hc w hC
end
end Go.Proofs.YtmbgokmomkmgcaaGreatDoor
namespace Go.Proofs.YtmbgokmomkmgcaaGreatDoor
open Go.RowKit
set_option maxRecDepth 20000
theorem region_quietC {C:World→Prop} {id:Nat} {Q:Exit→Act→World→Prop} {a:Act} {w:World} {l:List Oper} (hm:Tryz.prog.follows .mixedOrders =true) (hB:Region.lexB .any l.toArray=true) (hC:C {w with drawn:=w.drawn+1})
  (h:wpQuiet Tryz.prog l.toArray C (fun a'=>∀ w',C w'→Q .normal a' w') l a):(Code.region id l.toArray true).wp Tryz.prog Q a w:=
 wp_region_quiet hm hB hC (by simpa using h)
theorem run_load1 (w:World) (b p:Nat) (t:TypeId) (k:IntKind) (n:Int) (hu:Tryz.prog.underlying t=some (.int k)) (h:w.cell? ⟨b,p,none⟩=some (.int k n)):(loadVar t ⟨b,p,none⟩).run Tryz.prog w=.ok (.int k n) w:=by
 simp [loadVar,isAgg,run_underlying hu,h]
section
variable {ops:Array Oper} {C:World→Prop} {K:Act→Prop} {o:Oper} {a:Act}
theorem q_get (hw:Region.wanted o (yielded ops a.tmps)=true) (d:Option Tmp) (hd:o.dst=d) (x:Operand) (t:TypeId) (hop:o.op=Op.load t x) (k:IntKind) (n:Int) (b p:Nat) (hx:a.eval x=.pointer (some ⟨b,p,none⟩)) (hu:Tryz.prog.underlying t=some (.int k)) (h:∀ w,C w→w.cell? ⟨b,p,none⟩=some (.int k n))
  (hK:K (a.put d (.int k n))):
  if Region.wanted o (yielded ops a.tmps)=true then o.quiet Tryz.prog a C K else K (a.put o.dst undef):=by
 refine q_val hw d hd _ (fun w hC=>?_) hK
 unfold execOp
 simp only [hop,hx,Instr.loadAt,Instr.sureAddr,Sem.run_bind,Sem.run_pure,Result.andThen_ok,run_load1 w b p t k n hu (h w hC)]
end
end Go.Proofs.YtmbgokmomkmgcaaGreatDoor
namespace Go.Proofs.YtmbgokmomkmgcaaGreatDoor
open Go.RowKit
set_option maxRecDepth 20000
def waits (md:Region.Mode) (ops:Array Oper) (k j:Nat):Bool:=match ops[k]? with
 |some o=>o.after.any fun e=>Region.binds md e && e.on == j
 |none=>false
def thenB (md:Region.Mode) (ops:Array Oper) (k m n:Nat):Bool:=
 (ops.size == m+n) && Region.noSelect (ops.extract 0 m) && Region.lexFrom md (ops.extract 0 m) (m-k) k (Array.replicate k true ++ Array.replicate (m-k) false)
 && (List.range m).all (fun i=>match ops[i]? with | some o=>o.guard.isNone && o.after.all (fun e=> !Region.binds md e || decide (e.on<i)) | none=>false)
 && (List.range m).all (fun j=>decide (j<k) || (List.range (m+1)).any (fun i=>decide (j<i) && waits md ops i j))
 && (List.range (m+n)).all (fun i=>decide (i≤m) || waits md ops i m) && decide (k≤m)
theorem waits_spec {md:Region.Mode} {ops:Array Oper} {k j:Nat} (h:waits md ops k j=true):∃ o,ops[k]? =some o∧∃ e ∈ o.after,Region.binds md e=true∧e.on=j:=by
 unfold waits at h
 cases ho:ops[k]? with
 |none=>simp [ho] at h
 |some o=>
  simp only [ho] at h
  obtain ⟨e,he,h2⟩:=Array.any_eq_true'.1 h
  simp only [Bool.and_eq_true,beq_iff_eq] at h2
  exact ⟨o,rfl,e,he,h2.1,h2.2⟩
section
variable {P:Program} {ops:Array Oper} {md:Region.Mode} {C:World→Prop} {Q:Exit→Act→World→Prop}
theorem getD_lo {L:Array Bool} {n j:Nat} (b:Bool) (hj:j<L.size):(L ++ Array.replicate n false).getD j b=L.getD j b:=by
 simp [Array.getElem?_append,hj]
theorem getD_hi {L:Array Bool} {n j:Nat} (b:Bool) (hj:L.size≤j) (hn:j<L.size+n):(L ++ Array.replicate n false).getD j b=false:=by
 simp [Array.getElem?_append,Nat.not_lt.2 hj,show j-L.size<n by omega]
theorem getD_any {L:Array Bool} {j:Nat} (b c:Bool) (hj:j<L.size):L.getD j b=L.getD j c:=by simp [hj]
theorem all_true {L:Array Bool} {m:Nat} (hs:L.size=m) (h:∀ j,j<m→L.getD j true=true):L=Array.replicate m true:=by
 apply Array.ext
 ·simp [hs]
 ·intro i h1 h2
  have:=h i (by omega)
  simpa [h1] using this
theorem set_lo {L:Array Bool} {n i:Nat} (hi:i<L.size):(L ++ Array.replicate n false).setIfInBounds i true=L.setIfInBounds i true ++ Array.replicate n false:=by
 apply Array.ext_getElem?
 intro j
 rw [Array.getElem?_setIfInBounds,Array.getElem?_append,Array.getElem?_append,Array.getElem?_setIfInBounds,Array.size_setIfInBounds,Array.size_append]
 by_cases e:i=j
 ·subst e;simp [hi]
  omega
 ·simp [e]
theorem wpAny_pre {m n k:Nat} (hsz:ops.size=m+n)
  (hpre:∀ i,i<m→∃ o,ops[i]? =some o∧o.guard=none∧∀ e ∈ o.after,Region.binds md e=true→e.on<i)
  (hall:∀ j,k≤j→j<m→∃ i,j<i∧i≤m∧waits md ops i j=true)
  (hbeh:∀ i,m<i→i<m+n→waits md ops i m=true) (Q':Act→Prop)
  (hQ:∀ a,Q' a→∀ f w,C w→wpAny P md ops Q (f+n) (Array.replicate m true ++ Array.replicate n false) a w):
  ∀ (fuel:Nat) (L:Array Bool) (a:Act) (w:World),L.size=m→(∀ j,j<k→j<m→L.getD j true=true)→
   (∀ i o,i<m→ops[i]? =some o→L.getD i true=true→∀ e ∈ o.after,Region.binds md e=true→L.getD e.on false=true)→
   C w→wpAnyQ P md (ops.extract 0 m) C Q' fuel L a→wpAny P md ops Q (fuel+n) (L ++ Array.replicate n false) a w:=by
 have hex:∀ i,i<m→(ops.extract 0 m)[i]? =ops[i]? :=fun i hi=>by
  rw [Array.getElem?_extract];simp
  intro h;omega
 have hpr:∀ (L:Array Bool) (i:Nat),L.size=m→i<m→(i ∈ Region.ready md (ops.extract 0 m) L↔i ∈ Region.ready md ops (L ++ Array.replicate n false)):=by
  intro L i hs hi
  obtain ⟨o,ho,hg,hd⟩:=hpre i hi
  rw [mem_ready,mem_ready,hex i hi,ho,getD_lo _ (by omega)]
  constructor
  ·rintro ⟨h1,o',e',h2⟩
   cases e'
   exact ⟨h1,o,rfl,fun e he hb=>by rw [getD_lo _ (by have:=hd e he hb;omega)];exact h2 e he hb⟩
  ·rintro ⟨h1,o',e',h2⟩
   cases e'
   refine ⟨h1,o,rfl,fun e he hb=>?_⟩
   have:=h2 e he hb
   rwa [getD_lo _ (by have:=hd e he hb;omega)] at this
 
 have hlow:∀ (L:Array Bool) (i:Nat),L.size=m→(∀ j,j<k→j<m→L.getD j true=true)→(∀ i o,i<m→ops[i]? =some o→L.getD i true=true→∀ e ∈ o.after,Region.binds md e=true→L.getD e.on false=true)→
   (∃ j,j<m∧L.getD j true=false)→i ∈ Region.ready md ops (L ++ Array.replicate n false)→i<m:=by
  intro L i hs hk hcl ⟨j,hj,hjf⟩ hi
  rcases Nat.lt_or_ge i m with h | h
  ·exact h
  exfalso
  obtain ⟨hun,o,ho,hd⟩:=mem_ready.1 hi
  have hio:i<m+n:=by rw [←hsz];exact (Array.getElem?_eq_some_iff.1 ho).1
  have him:i=m:=by
   rcases Nat.lt_or_ge m i with h' | h'
   ·obtain ⟨o',ho',e,he,hb,hon⟩:=waits_spec (hbeh i h' hio)
    rw [ho] at ho';cases ho'
    have:=hd e he hb
    rw [hon,getD_hi _ (by omega) (by omega)] at this
    cases this
   ·omega
  subst him
  have hdown:∀ d j,i-1-d=j→j<i→L.getD j true=true:=by
   intro d
   induction d using Nat.strongRecOn with
   |ind d ih=>
    intro j hdj hji
    rcases Nat.lt_or_ge j k with hjk | hjk
    ·exact hk j hjk hji
    obtain ⟨c,hc1,hc2,hw⟩:=hall j hjk hji
    obtain ⟨o',ho',e,he,hb,hon⟩:=waits_spec hw
    rcases Nat.lt_or_ge c i with hci | hci
    ·have h1:=ih (i-1-c) (by omega) c (by omega) hci
     have h2:=hcl c o' hci ho' h1 e he hb
     rw [hon] at h2
     rw [getD_any true false (by omega)];exact h2
    ·have:c=i:=by omega
     subst this
     rw [ho] at ho';cases ho'
     have h2:=hd e he hb
     rw [hon,getD_lo _ (by omega)] at h2
     rw [getD_any true false (by omega)];exact h2
  have:=hdown (i-1-j) j (by omega) hj
  rw [this] at hjf;cases hjf
 
 have hsome:∀ (L:Array Bool),L.size=m→(∃ j,j<m∧L.getD j true=false)→∃ i,i<m∧i ∈ Region.ready md (ops.extract 0 m) L:=by
  intro L hs ⟨j,hj,hjf⟩
  induction j using Nat.strongRecOn with
  |ind j ih=>
   obtain ⟨o,ho,hg,hd⟩:=hpre j hj
   by_cases hq:∀ e ∈ o.after,Region.binds md e=true→L.getD e.on false=true
   ·exact ⟨j,hj,mem_ready.2 ⟨hjf,o,by rw [hex j hj];exact ho,hq⟩⟩
   ·simp only [Classical.not_forall] at hq
    obtain ⟨e,he,hb,hn⟩:=hq
    have hlt:=hd e he hb
    refine ih e.on hlt (by omega) ?_
    rw [getD_any true false (by omega)]
    simpa using hn
 intro fuel
 induction fuel with
 |zero=>
  intro L a w hs hk hcl hC h
  have hal:∀ j,j<m→L.getD j true=true:=by
   intro j hj
   cases hv:L.getD j true with
   |true=>rfl
   |false=>
    obtain ⟨i,_,hi⟩:=hsome L hs ⟨j,hj,hv⟩
    rw [h.1] at hi;cases hi
  rw [all_true hs hal]
  exact hQ a h.2 0 w hC
 |succ fuel ih=>
  intro L a w hs hk hcl hC h
  by_cases hal:∀ j,j<m→L.getD j true=true
  ·rw [all_true hs hal]
   refine hQ a (h.1 ?_) (fuel+1) w hC
   apply List.eq_nil_iff_forall_not_mem.2
   intro i hi
   obtain ⟨hun,o,ho,_⟩:=mem_ready.1 hi
   have him:i<m:=by
    have:=(Array.getElem?_eq_some_iff.1 ho).1
    simp at this;omega
   rw [hal i him] at hun;cases hun
  ·have hex2:∃ j,j<m∧L.getD j true=false:=by
    simp only [Classical.not_forall] at hal
    obtain ⟨j,hj,hn⟩:=hal
    exact ⟨j,hj,by simpa using hn⟩
   rw [Nat.add_right_comm]
   refine ⟨fun h0=>?_,fun i hi=>?_⟩
   ·obtain ⟨i,him,hi⟩:=hsome L hs hex2
    rw [hpr L i hs him,h0] at hi;cases hi
   ·have him:=hlow L i hs hk hcl hex2 hi
    have hip:=(hpr L i hs him).2 hi
    have hq:=h.2 i hip
    obtain ⟨o,ho,hg,hd⟩:=hpre i him
    obtain ⟨hun,o',ho',hdd⟩:=mem_ready.1 hi
    rw [ho] at ho';cases ho'
    unfold qOp at hq
    unfold wpOp
    rw [hex i him,ho] at hq
    rw [ho]
    have hw1:∀ y,Region.wanted o y=true:=fun y=>by simp [Region.wanted,hg]
    simp only [hw1,if_true] at hq ⊢
    refine .inl (Oper.wp_of_quiet hC (fun a' w' hw' hK=>?_) hq)
    rw [set_lo (by omega)]
    refine ih _ a' w' (by simpa using hs) (fun j hj hjm=>?_) (fun c oc hc hoc hct e he hb=>?_) hw' hK
    ·by_cases hij:i=j
     ·subst hij;simp [hs,him]
     ·rw [getD_set_ne true hij];exact hk j hj hjm
    ·by_cases hie:i=e.on
     ·rw [←hie];simp [hs,him]
     ·rw [getD_set_ne false hie]
      by_cases hic:i=c
      ·subst hic
       rw [ho] at hoc;cases hoc
       have:=hdd e he hb
       rwa [getD_lo _ (by have:=hd e he hb;omega)] at this
      ·rw [getD_set_ne true hic] at hct
       exact hcl c oc hc hoc hct e he hb
theorem wpAny_quiet_then (k m n:Nat) {fuel:Nat} {listed:Array Bool} {a:Act} {w:World} (l:List Oper) (hB:thenB md ops k m n=true) (hl:l=(ops.toList.take m).drop k) (hf:fuel=(m-k)+n)
  (hL:listed=(Array.replicate k true ++ Array.replicate (m-k) false) ++ Array.replicate n false) (hC:C w)
  (h:wpQuiet P (ops.extract 0 m) C (fun a'=>∀ f w',C w'→wpAny P md ops Q (f+n) (Array.replicate m true ++ Array.replicate n false) a' w') l a):wpAny P md ops Q fuel listed a w:=by
 simp only [thenB,Bool.and_eq_true,beq_iff_eq,decide_eq_true_eq] at hB
 obtain ⟨⟨⟨⟨⟨⟨hsz,hns⟩,hlex⟩,hpre⟩,hall⟩,hbeh⟩,hkm⟩:=hB
 subst hf hL
 have hll:l.length=m-k:=by rw [hl];simp;omega
 refine wpAny_pre (k:=k) hsz (fun i hi=>?_) (fun j hj hjm=>?_) (fun i hi hin=>?_) _ (fun a h=>h) (m-k) _ a w (by simp;omega) (fun j hj hjm=>?_) (fun i o hi ho ht e he hb=>?_) hC ?_
 ·have:=List.all_eq_true.1 hpre i (List.mem_range.2 hi)
  cases ho:ops[i]? with
  |none=>simp [ho] at this
  |some o=>
   simp only [ho,Bool.and_eq_true] at this
   refine ⟨o,rfl,by simpa using this.1,fun e he hb=>?_⟩
   have h2:=Array.all_eq_true_iff_forall_mem.1 this.2 e he
   simpa [hb] using h2
 ·have:=List.all_eq_true.1 hall j (List.mem_range.2 hjm)
  simp only [Bool.or_eq_true,decide_eq_true_eq] at this
  rcases this with h | h
  ·omega
  obtain ⟨i,hi,h2⟩:=List.any_eq_true.1 h
  simp only [Bool.and_eq_true,decide_eq_true_eq] at h2
  exact ⟨i,h2.1,by have:=List.mem_range.1 hi;omega,h2.2⟩
 ·have:=List.all_eq_true.1 hbeh i (List.mem_range.2 hin)
  simp only [Bool.or_eq_true,decide_eq_true_eq] at this
  rcases this with h | h
  ·omega
  ·exact h
 ·simp [Array.getElem?_append,hj]
 ·have hik:i<k:=by
   rcases Nat.lt_or_ge i k with h | h
   ·exact h
   ·simp [Array.getElem?_append,Nat.not_lt.2 h,show i-k<m-k by omega] at ht
  have:=List.all_eq_true.1 hpre i (List.mem_range.2 hi)
  simp only [ho,Bool.and_eq_true] at this
  have h2:=Array.all_eq_true_iff_forall_mem.1 this.2 e he
  have h3:e.on<i:=by simpa [hb] using h2
  simp [Array.getElem?_append,show e.on<k by omega]
 ·have:=wpAnyQ_lex (P:=P) (C:=C) (md:=md) hns l k (Array.replicate k true ++ Array.replicate (m-k) false) a (fun j=>?_) (by rw [hll];exact hlex) h
  ·rwa [hll] at this
  ·rw [hl,List.getElem?_drop,Array.getElem?_extract]
   by_cases hj:k+j<m
   ·rw [List.getElem?_take_of_lt hj];simp
    intro h;omega
   ·rw [List.getElem?_take_eq_none (by omega)];simp;omega
end
end Go.Proofs.YtmbgokmomkmgcaaGreatDoor
namespace Go.Proofs.YtmbgokmomkmgcaaGreatDoor
open Go.RowKit
set_option maxRecDepth 20000
theorem Ar.bytG {w:World} {b p:Nat} {xs:List Int} (h:Ar w b p .u8 xs) (ha:AllB xs) (n c:Nat) (hn:xs.length=n) (hc:n≤c) (hm:c≤9223372036854775807):Byt w (.slice (some ⟨b,p,none⟩) n c) xs:=
 ⟨some ⟨b,p,none⟩,c,by rw [hn],by omega,hm,ha,(by intro h;cases h),fun _=>⟨b,p,rfl,fun t ht=>h.cell t ht⟩⟩
theorem Ar.subG {w:World} {b o:Nat} {k:IntKind} {xs:List Int} (h:Ar w b o k xs) (s:Nat) (ys:List Int) (hl:s+ys.length≤xs.length) (hg:∀ t,t<ys.length→gb ys t=gb xs (s+t)):Ar w b (o+s) k ys:=Ar.mk fun i hi=>by
 rw [Nat.add_assoc,hg i hi]
 exact ⟨h.cell (s+i) (by omega),h.free (s+i) (by omega)⟩
theorem run_copyG (w:World) (b p dl dc:Nat) (ao:Option Addr) (ys:List Int) (cap:Nat) (ty:TypeId) (h5:0<ys.length→∃ b off,ao=some ⟨b,off,none⟩∧∀ t,t<ys.length→w.cell? ⟨b,off+t,none⟩=some (.int .u8 (gb ys t))) (ht:w.there b p (min ys.length dl)):
  (Builtin.copy_ #[26,26] ty #[.slice (some ⟨b,p,none⟩) dl dc,.slice ao ys.length cap]).run Tryz.prog w=.ok (.int .i64 ((min ys.length dl:Nat):Int)) (w.setCells b p ((ys.take dl).map (Value.int .u8))):=by
 obtain ⟨i0,hi,hz0,hz1,hz2⟩:=info_parts info_u8
 have hs:(Tryz.prog.info? 5).map (·.size)=some 1:=by rw [hi];simp [hz1]
 by_cases hz:min ys.length dl=0
 ·have:=run_copy_none (P:=Tryz.prog) w 26 26 ty 5 (some ⟨b,p,none⟩) ao dl dc ys.length cap Tryz.underlying26 hs hz
  rw [this,hz]
  have:ys.take dl= []:=by
   rcases Nat.eq_zero_or_pos dl with h | h
   ·subst h;simp
   ·have:ys= []:=List.eq_nil_of_length_eq_zero (by omega)
    subst this;simp
  rw [this];rfl
 ·obtain ⟨b',off,rfl,hc⟩:=h5 (by omega)
  have hlen:((ys.take dl).map (Value.int .u8)).length =min ys.length dl:=by simp;omega
  have:=run_copy_cells (P:=Tryz.prog) w 26 26 ty 5 b p dl dc ⟨b',off,none⟩ ys.length cap ((ys.take dl).map (Value.int .u8)) Tryz.underlying26 hs hlen (fun j u hj=>by
   have hj':j<min ys.length dl:=by rw [←hlen];exact (List.getElem?_eq_some_iff.1 hj).1
   rw [Addr.add_mid,hc j (by omega),←hj]
   simp [gb,List.getD,show j<dl by omega,show j<ys.length by omega]) (fun j hj=>(ht j (by rw [←hlen];exact hj)).1) (fun j hj=>(ht j (by rw [←hlen];exact hj)).2) (fun u hu=>by
   simp only [List.mem_map] at hu
   obtain ⟨x,_,rfl⟩:=hu
   rfl)
  rw [this,hlen];rfl
theorem thereG {w:World} {b:Nat} {k:IntKind} {xs:List Int} (h:Ar w b 0 k xs) (p n:Nat) (hl:p+n≤xs.length):w.there b p n:=fun j hj=>by
 have:=h.2 (p+j) (by omega)
 rwa [Nat.zero_add] at this
theorem Ar.layG {w:World} {b:Nat} {xs:List Int} (h:Ar w b 0 .u8 xs) (p:Nat) (ys:List Int) (hl:p+ys.length≤xs.length):Ar (w.setCells b p (ys.map (Value.int .u8))) b 0 .u8 (laid xs p ys):=by
 have:=h.lay p ys hl
 rwa [Nat.zero_add] at this
section
variable {ops:Array Oper} {o:Oper} {a:Act} {Q:Exit→Act→World→Prop} {K:Act→World→Prop} {E:Prop}
end
theorem take_lawG {ops:Array Oper} {Q:Exit→Act→World→Prop} (i:Nat) {oi:Oper} (d:Option Tmp) (v:Value) {fuel:Nat} {listed:Array Bool} {a:Act} {w:World} (hi:ops[i]? =some oi) (hd:oi.dst=d)
  (hs:Region.noSelect ops=true) (hf:Region.free .any ops listed i=true) (hr:(Region.ready .any ops listed).contains i=true)
  (hQ:∀ c a w,Q (.panic c) (a.put d v) w→Q (.panic c) a w) (hy:Yields Tryz.prog ops oi v a)
  (h:wpAny Tryz.prog .any ops Q fuel (listed.setIfInBounds i true) (a.put d v) w):wpAny Tryz.prog .any ops Q (fuel+1) listed a w:=by
 subst hd
 exact wpAny_take hi hs hf hr hQ hy h
theorem take_lawH {ops:Array Oper} {Q:Exit→Act→World→Prop} {S:World→Prop} (i:Nat) {oi:Oper} (d:Option Tmp) (v:Value) {fuel:Nat} {listed:Array Bool} {a:Act} {w:World} (hi:ops[i]? =some oi) (hd:oi.dst=d)
  (hs:Region.noSelect ops=true) (hf:Region.free .any ops listed i=true) (hr:(Region.ready .any ops listed).contains i=true)
  (hQ:∀ c a w,Q (.panic c) (a.put d v) w→Q (.panic c) a w) (hy:YieldsIf Tryz.prog ops S oi v a) (hS:S w)
  (h:wpAnyH Tryz.prog .any ops Q S fuel (listed.setIfInBounds i true) (a.put d v) w):wpAnyH Tryz.prog .any ops Q S (fuel+1) listed a w:=by
 subst hd
 exact wpAnyH_take hi hs hf hr hQ hy hS h
section
variable {ops:Array Oper} {C:World→Prop} {K:Act→Prop} {o:Oper} {a:Act}
end
section
variable {ops:Array Oper} {rest:List Oper} {o:Oper} {a:Act} {Q:Exit→Act→World→Prop}
end
end Go.Proofs.YtmbgokmomkmgcaaGreatDoor
namespace Go.Proofs.YtmbgokmomkmgcaaGreatDoor
open Go.RowKit
theorem tkH {ops : Array Oper} {Q : Exit → Act → World → Prop} {S : World → Prop} (i : Nat) {oi : Oper} (d : Option Tmp) (v : Value) {fuel : Nat} {listed : Array Bool} {a : Act} {w : World} (hi : ops[i]? = some oi) (hd : oi.dst = d) (hy : YieldsIf Tryz.prog ops S oi v a) (hS : S w)
    (h : wpAnyH Tryz.prog .any ops Q S fuel (listed.setIfInBounds i true) (a.put d v) w)
    (hs : Region.noSelect ops = true := by kernel_rfl) (hf : Region.free .any ops listed i = true := by kernel_rfl) (hr : (Region.ready .any ops listed).contains i = true := by kernel_rfl)
    (hQ : ∀ c a w, Q (.panic c) (a.put d v) w → Q (.panic c) a w := by exact fun _ _ _ h => h) : wpAnyH Tryz.prog .any ops Q S (fuel + 1) listed a w := take_lawH i d v hi hd hs hf hr hQ hy hS h
end Go.Proofs.YtmbgokmomkmgcaaGreatDoor
namespace Go.Proofs.YtmbgokmomkmgcaaGreatDoor.fa
open Go.RowKit
set_option maxRecDepth 20000
def bn (b:Bool):Nat:=if b then 1 else 0
def wt (c:Nat→Bool) (j:Nat):Nat:=bn (c (8*j))+2*bn (c (8*j+1))+4*bn (c (8*j+2))+8*bn (c (8*j+3))+16*bn (c (8*j+4))+32*bn (c (8*j+5))+64*bn (c (8*j+6))+128*bn (c (8*j+7))
theorem bn_le (b:Bool):bn b≤1:=by cases b <;> simp [bn]
theorem wt_lt (c:Nat→Bool) (j:Nat):wt c j<256:=by
 unfold wt
 have:=bn_le (c (8*j));have:=bn_le (c (8*j+1));have:=bn_le (c (8*j+2));have:=bn_le (c (8*j+3))
 have:=bn_le (c (8*j+4));have:=bn_le (c (8*j+5));have:=bn_le (c (8*j+6));have:=bn_le (c (8*j+7))
 omega
def bit (b t:Nat):Bool:=decide (b/2 ^ t%2=1)
theorem bn_bit (b t:Nat):bn (bit b t)=b/2 ^ t%2:=by
 unfold bit bn
 by_cases h:b/2 ^ t%2=1
 ·simp [h]
 ·simp [h];omega
theorem bits_sum:∀ b,b<256→b/2 ^ 0%2+2*(b/2 ^ 1%2)+4*(b/2 ^ 2%2)+8*(b/2 ^ 3%2)+16*(b/2 ^ 4%2)+32*(b/2 ^ 5%2)+64*(b/2 ^ 6%2)+128*(b/2 ^ 7%2)=b:=by decide+kernel
theorem byte_bits (b:Nat) (h:b<256) (c:Nat→Bool) (j:Nat) (hc:∀ t,t<8→c (8*j+t)=bit b t):wt c j=b:=by
 have e:∀ t,t<8→bn (c (8*j+t))=b/2 ^ t%2:=fun t ht=>by rw [hc t ht,bn_bit]
 have h0:=e 0 (by omega);have h1:=e 1 (by omega);have h2:=e 2 (by omega);have h3:=e 3 (by omega)
 have h4:=e 4 (by omega);have h5:=e 5 (by omega);have h6:=e 6 (by omega);have h7:=e 7 (by omega)
 rw [Nat.add_zero] at h0
 unfold wt
 rw [h0,h1,h2,h3,h4,h5,h6,h7]
 exact bits_sum b h
def ofb (n:Nat) (c:Nat→Bool):List Int:=(List.range n).map fun j=>((wt c j:Nat):Int)
theorem ofb_len (n:Nat) (c:Nat→Bool):(ofb n c).length =n:=by simp [ofb]
theorem ofb_gb (n:Nat) (c:Nat→Bool) (j:Nat) (h:j<n):gb (ofb n c) j=((wt c j:Nat):Int):=by simp [gb,List.getD,ofb,h]
theorem ofb_all (n:Nat) (c:Nat→Bool):AllB (ofb n c):=allB_mem fun x hx=>by
 obtain ⟨j,_,rfl⟩:=List.mem_map.1 hx
 have:=wt_lt c j
 omega
def hs (xs:List Int) (i:Nat):Bool:=bit (gb xs (i/8)).toNat (i%8)
theorem hs_at (xs:List Int) (j t:Nat) (ht:t<8):hs xs (8*j+t)=bit (gb xs j).toNat t:=by
 unfold hs
 rw [show (8*j+t)/8=j by omega,show (8*j+t)%8=t by omega]
theorem bit_test (b t:Nat):bit b t=b.testBit t:=by rw [Nat.testBit_eq_decide_div_mod_eq];rfl
theorem and_wt (a b:Nat) (ha:a<256) (c:Nat→Bool) (j:Nat) (hc:∀ t,t<8→c (8*j+t)=(bit a t && bit b t)):a &&& b=wt c j:=by
 refine (byte_bits (a &&& b) (Nat.lt_of_le_of_lt Nat.and_le_left ha) c j fun t ht=>?_).symm
 rw [hc t ht,bit_test,bit_test,bit_test,Nat.testBit_and]
theorem ands_ofb (xs ys:List Int) (hx:AllB xs) (j:Nat):(((gb xs j).toNat &&& (gb ys j).toNat :Nat):Int)=((wt (fun i=>hs xs i && hs ys i) j:Nat):Int):=by
 have hb:=hx j
 rw [and_wt (gb xs j).toNat (gb ys j).toNat (by omega) (fun i=>hs xs i && hs ys i) j fun t ht=>by rw [hs_at xs j t ht,hs_at ys j t ht]]
def mk (m:List Int) (i:Nat):Bool:=m.length == 0 || bit (gb m (i/8%m.length)).toNat (i%8)
def due (was tz:List Int) (i:Nat):Bool:=hs was i && !hs tz i
def torn (was tz m:List Int) (i:Nat):Bool:=hs was i && !(due was tz i && mk m i)
def lst (was tz:List Int):Nat→Nat
 |0=>0
 |n+1=>if due was tz n then n+1 else lst was tz n
def failed (was tz m:List Int) (n i:Nat):Bool:=hs was i && !(due was tz i && mk m i && !(i+1 == lst was tz n))
end Go.Proofs.YtmbgokmomkmgcaaGreatDoor.fa
namespace Go.Proofs.YtmbgokmomkmgcaaGreatDoor
open Go.RowKit
set_option maxRecDepth 20000
def clamp (n m:Int):Nat:=(min (max n 0) m).toNat
theorem clamp_le (n m:Int) (h:0≤m):((clamp n m:Nat):Int)≤m:=by unfold clamp;omega
theorem within_any (n m:Int) (w:World) (hm:0≤m):
  Calls Tryz.prog 150 #[.int .i64 n,.int .i64 m] w fun e w'=>e=.returned (.int .i64 (clamp n m))∧w'=w:=by
 have hc:((clamp n m:Nat):Int)=min (max n 0) m:=by unfold clamp;omega
 have HC:=hdH (hc)
 clear hc
 go_enter Tryz.func150,Tryz.ntmps150
 go_wp2
 all_goals
  go_ret
  exact ⟨ret_int (by rw [HC.out];omega),rfl⟩
def fillAt (x:Int) (s k:Nat):List Int:=List.replicate k x ++ List.replicate (s-k) 0
theorem fillAt_set (x:Int) (s k:Nat) (h:k<s):(fillAt x s k).set k x=fillAt x s (k+1):=by
 unfold fillAt
 obtain ⟨d,hd⟩:∃ d,s-k=d+1:=⟨s-k-1,by omega⟩
 have e:s-(k+1)=d:=by omega
 rw [hd,e,List.set_append_right _ _ (by simp)]
 simp only [List.length_replicate,Nat.sub_self,List.replicate_succ,List.set_cons_zero]
 rw [←List.replicate_succ,List.replicate_succ',List.append_assoc];rfl
theorem fillAt_end (x:Int) (s:Nat):fillAt x s s=List.replicate s x:=by simp [fillAt]
theorem allB_replicate (x:Int) (n:Nat) (h:0≤x∧x≤255):AllB (List.replicate n x):=allB_mem fun y hy=>by
 rw [(List.mem_replicate.1 hy).2];exact h
theorem fill_any (x n:Int) (w:World) (hx:0≤x∧x≤255):
  Calls Tryz.prog 123 #[.int .u8 x,.int .i64 n] w fun e w'=>∃ v,e=.returned v∧Byt w' v (List.replicate (clamp n 65536) x)∧Below w.heap.size w w':=by
 have hs:=clamp_le n 65536 (by omega)
 generalize hsd:clamp n 65536=s at hs
 have HS:Hid (clamp n 65536=s):=hsd
 clear hsd
 go_enter Tryz.func123,Tryz.ntmps123
 go_wp2_with (first
  |(go_at_call 150;refine (within_any _ _ _ (by omega)).mono ?_;rintro e w' ⟨rfl,hw⟩;obtain rfl:=hw.symm;rw [HS.out])
  |(at_make;refine make_law _ rfl _ _ rfl w.heap.size (Nat.le_refl _) _ s rfl rfl rfl (by omega) ?_;intro w1 hown hbel hlt))
 go_loopw [13] (fun i wr=>∃ k:Nat,k≤s∧i=.int .i64 k∧OwnN w.heap.size wr w.heap.size s (fillAt x s k)∧Below w.heap.size w wr) (fun i _=>s-(intOf i).toNat)
 case atStart=>exact ⟨0,Nat.zero_le _,rfl,hown,hbel⟩
 case round=>
  clear hown hbel
  obtain ⟨k,hk,rfl,hown,hbel⟩:=hrel
  by_cases hlt':k<s
  ·have c1:=hown.cell hlt'
   have c2:=hown.free k
   have hown':=hown.set k x
   rw [fillAt_set x s k hlt'] at hown'
   go_wp2
   go_roundw
   case rel=>exact ⟨k+1,by omega,by go_num,hown',hbel.setCell (Nat.le_refl _) _⟩
   case measure=>simp [intOf];omega
  ·have:k=s:=by omega
   subst this
   rw [fillAt_end] at hown
   go_wp2
   go_ret
   exact ⟨_,rfl,hown.byt (allB_replicate _ _ hx),hbel⟩
theorem rfill_any (x n:Int) (w:World) (hx:0≤x∧x≤255):
  Calls Tryz.prog 89 #[.int .u8 x,.int .i64 n] w fun e w'=>∃ v,e=.returned v∧Byt w' v (List.replicate (clamp n 65536) x)∧Below w.heap.size w w':=by
 have hs:((clamp n 65536 :Nat):Int)=min (max n 0) 65536:=by unfold clamp;omega
 generalize hsd:clamp n 65536=s at hs
 have HS:=hdH (hs)
 have hs1:s≤65536:=by omega
 clear hsd hs
 go_enter Tryz.func89,Tryz.ntmps89
 go_wp2
 go_loopw [5,6] (fun v i wr=>∃ k:Nat,k≤s∧i=.int .i64 k∧Own w.heap.size wr v (List.replicate k x)∧Below w.heap.size w wr) (fun _ i _=>s-(intOf i).toNat)
 case atStart=>exact ⟨0,Nat.zero_le _,rfl,Own.empty w (Nat.le_refl _),(Below.refl _ _).alloc (Nat.le_refl _) _⟩
 case round=>
  obtain ⟨k,hk,rfl,hown,hbel⟩:=hrel
  have hsz:=hbel.size
  by_cases hlt:k<s
  ·have h1:(k:Int)<n:=by have:=HS.out;omega
   have h2:(k:Int)<65536:=by omega
   go_wp2_with (at_builtin;refine push_law wr rfl (.tmp 17) (.tmp 19) rfl w.heap.size (by omega) _ _ x rfl rfl hown (by simp;omega) ?_;intro v' w1 hown' hbel')
   rw [←List.replicate_succ'] at hown'
   go_roundw
   case rel=>exact ⟨k+1,by omega,by go_num,hown',hbel.trans hbel'⟩
   case measure=>simp [intOf];omega
  ·have hks:k=s:=by omega
   subst hks
   by_cases h1:(k:Int)<n
   ·have h2:¬(k:Int)<65536:=by have:=HS.out;omega
    go_wp2
    go_ret
    exact ⟨_,rfl,hown.byt (allB_replicate _ _ hx),hbel⟩
   ·go_wp2
    go_ret
    exact ⟨_,rfl,hown.byt (allB_replicate _ _ hx),hbel⟩
end Go.Proofs.YtmbgokmomkmgcaaGreatDoor
namespace Go.Proofs.YtmbgokmomkmgcaaGreatDoor.fa
open Go.RowKit
set_option maxRecDepth 20000
theorem byt_drawn {w:World} {v:Value} {xs:List Int} (h:Byt w v xs) (m:Nat):Byt (w.drewN m) v xs:=h
theorem below_drawn {B:Nat} {w w':World} (h:Below B w w') (n:Nat):Below B w (w'.drewN n):=⟨h.os,h.tape,h.output,h.size,h.block⟩
def Var (w:World) (c:Nat) (v:Value):Prop:=w.cell? ⟨c,0,none⟩=some v∧w.frozen? ⟨c,0,none⟩=false
theorem Var.new (w:World) (v:Value) (t:TypeId):Var (w.alloc (.cells #[v] t)) w.heap.size v:=⟨World.cell?_alloc_at _ _ _ _ rfl,World.frozen?_alloc_at _ _ _ _ rfl⟩
theorem Var.below {w w':World} {c B:Nat} {v:Value} (h:Var w c v) (hb:Below B w w') (hc:c<B):Var w' c v:=⟨by rw [hb.cell hc];exact h.1,by rw [hb.frozen hc];exact h.2⟩
theorem Var.set {w:World} {c:Nat} {v:Value} (h:Var w c v) (u:Value):Var (w.setCell ⟨c,0,none⟩ u) c u:=⟨World.cell?_setCell_same _ _ _ h.1,by rw [World.frozen?_setCell];exact h.2⟩
theorem byt_form {w:World} {v:Value} {xs:List Int} (h:Byt w v xs):∃ ao cap,v=.slice ao xs.length cap:=by
 obtain ⟨ao,cap,rfl,_⟩:=h
 exact ⟨ao,cap,rfl⟩
theorem byt_other {w:World} {v u old:Value} {xs:List Int} {p:Addr} (h:Byt w v xs) (hc:w.cell? p=some old) (ho:∀ x,old≠ .int .u8 x):Byt (w.setCell p u) v xs:=by
 obtain ⟨ao,cap,rfl,h1,h2,h3,h4,h5⟩:=h
 refine ⟨ao,cap,rfl,h1,h2,h3,h4,fun hp=>?_⟩
 obtain ⟨b,off,rfl,hb⟩:=h5 hp
 refine ⟨b,off,rfl,fun t ht=>?_⟩
 rw [World.cell?_setCell_other _ _ _ _ (by intro e;rw [e] at hc;rw [hb t ht] at hc;injection hc with hc;exact ho _ hc.symm)]
 exact hb t ht
def ms (m:List Int):List Int:=if m.length=0 then [255] else m
theorem ms_pos (m:List Int):0<(ms m).length :=by
 unfold ms
 split
 ·decide
 ·omega
theorem ms_all {m:List Int} (h:AllB m):AllB (ms m):=by
 unfold ms
 split
 ·exact allB_mem fun x hx=>by simp at hx;omega
 ·exact h
def mb (m:List Int) (i:Nat):Int:=gb (ms m) (i%(ms m).length)
theorem mb_bd {m:List Int} (h:AllB m) (i:Nat):0≤mb m i∧mb m i≤255:=ms_all h _
theorem bit255:∀ t,t<8→bit 255 t=true:=by decide
theorem mb_mk (m:List Int) (i:Nat):mk m i=bit (mb m (i/8)).toNat (i%8):=by
 unfold mk mb ms
 by_cases h:m.length=0
 ·rw [if_pos h,h,show [(255 :Int)].length =1 from rfl,Nat.mod_one]
  show (true || _)=bit 255 (i%8)
  rw [bit255 _ (by omega),Bool.true_or]
 ·rw [if_neg h,show (m.length == 0)=false by simpa using h,Bool.false_or]
def Say (w:World) (c:Nat) (m:List Int):Prop:=∃ sv,w.cell? ⟨c,0,none⟩=some sv∧Byt w sv (ms m)
theorem Say.lt {w:World} {c:Nat} {m:List Int} (h:Say w c m):c<w.heap.size:=by
 obtain ⟨sv,h1,_⟩:=h
 exact World.block_lt_of_cell? w _ h1
theorem Say.below {w w':World} {c:Nat} {m:List Int} (h:Say w c m) (hb:Below w.heap.size w w'):Say w' c m:=by
 have hl:=h.lt
 obtain ⟨sv,h1,h2⟩:=h
 exact ⟨sv,by rw [hb.cell hl];exact h1,h2.below hb⟩
theorem said_any (c:Nat) (m:List Int) (i:Nat) (w:World) (h:Say w c m) (hi:i≤9223372036854775807):
  Calls Tryz.prog 166 #[.int .i64 i,.pointer (some ⟨c,0,none⟩)] w fun e w'=>e=.returned (.int .u8 (mb m i))∧∃ n,w'=w.drewN n:=by
 obtain ⟨sv,h1,ao,cap,rfl,h2,h3,h4,h5,h6⟩:=h
 have hp:=ms_pos m
 obtain ⟨b,off,rfl,hc⟩:=h6 hp
 unfold mb
 generalize ms m=l at*
 generalize hn:l.length=n at*
 obtain ⟨j,hj⟩:∃ j,j=i%n:=⟨_,rfl⟩
 rw [←hj]
 have jl:j<n:=by rw [hj];exact Nat.mod_lt _ hp
 have c1:=hc j jl
 have r1:(i:Int).tmod (n:Int)=(j:Int):=by rw [Int.tmod_eq_emod_of_nonneg (by omega),hj];omega
 have n0:(n:Int)≠0:=by omega
 have r2:IntKind.i64.wrap (j:Int)=j:=by rw [IntKind.wrap_i64];omega
 have j1:(j:Int)<(n:Int):=by omega
 have j0:(0 :Int)≤(j:Int):=by omega
 clear hc h6 hp hn hj h4 h5
 generalize gb l j=x at*
 go_enter Tryz.func166,Tryz.ntmps166
 go_wp2
 go_quiet (fail)
 go_wp2
 go_ret
 exact ⟨rfl,_,rfl⟩
end Go.Proofs.YtmbgokmomkmgcaaGreatDoor.fa
namespace Go.Proofs.YtmbgokmomkmgcaaGreatDoor.fa
open Go.RowKit
set_option maxRecDepth 20000
def OwnC (B:Nat) (w:World) (g n cap:Nat) (xs:List Int):Prop:=xs.length=n∧B≤g∧w.ownsRow B 5 1 (.slice (some ⟨g,0,none⟩) n cap) n (xs.map (Value.int .u8))
theorem OwnC.free {B:Nat} {w:World} {g n cap:Nat} {xs:List Int} (h:OwnC B w g n cap xs) (k:Nat):w.frozen? ⟨g,k,none⟩=false:=h.2.2.frozenAt k
theorem own_row {B:Nat} {w:World} {v:Value} {xs:List Int} (h:Own B w v xs) (hp:0<xs.length):∃ g cap,v=.slice (some ⟨g,0,none⟩) xs.length cap∧OwnC B w g xs.length cap xs:=by
 rcases h.2 with ⟨_,hn⟩ | ⟨g,cap,cur,rfl,hg,hr⟩
 ·omega
 ·exact ⟨g,cap,rfl,rfl,hg,h⟩
theorem pushs_law {ops:Array Oper} {rest:List Oper} {o:Oper} {a:Act} {Q:Exit→Act→World→Prop} (w:World) (hg:o.guard=none) (s x:Operand) (hop:o.op=.call {callee:=.builtin .append,args:=#[s,x],argTypes:=#[26,26]})
  (B:Nat) (hB:B≤w.heap.size) (v vy:Value) (xs ys:List Int) (hs:a.eval s=v) (hx:a.eval x=vy) (hown:Own B w v xs) (hy:Byt w vy ys) (hm:xs.length+ys.length≤140737488355328)
  (hK:∀ v' w',Own B w' v' (xs ++ ys)→Below B w w'→wpList Tryz.prog ops Q rest (a.put o.dst v') w'):
  wpList Tryz.prog ops Q (o :: rest) a w:=by
 obtain ⟨i0,hi,hz0,hz1,hz2⟩:=info_parts info_u8
 obtain ⟨ao,cap,rfl,h1,h2,h3,h4,h5⟩:=hy
 cases ao with
 |none=>
  have hc:=h4 rfl
  subst hc
  have:ys= []:=List.eq_nil_of_length_eq_zero (by omega)
  subst this
  refine wpList_append_own_none hg s x 26 hop B 5 i0 1 Tryz.underlying26 hi v xs.length _ hs hown hx (hK v w ?_ (Below.refl _ _))
  rwa [List.append_nil]
 |some ad=>
  refine wpList_append_own _ hg s x 26 hop B 5 i0 (.int .u8 0) 1 1 Tryz.underlying26 hi hz0 hz1 hz2 rfl (by decide) v xs.length _ hs hown ad ys.length cap (ys.map (Value.int .u8)) hx (by simp) ?_ ?_ (by simp only [maxLen];omega) (by omega) hB fun v' w' h1 h2 _=>?_
  ·intro j u hj
   have hjl:j<ys.length:=by have:=(List.getElem?_eq_some_iff.1 hj).1;simpa using this
   obtain ⟨b,off,e,hc⟩:=h5 (by omega)
   cases e
   rw [Addr.add_mid,hc j hjl,←hj]
   simp [gb,List.getD,hjl]
  ·intro u hu
   simp only [List.mem_map] at hu
   obtain ⟨y,_,rfl⟩:=hu
   rfl
  ·refine hK v' w' ?_ ?_
   ·show w'.ownsRow B 5 1 v' (xs ++ ys).length ((xs ++ ys).map (Value.int .u8))
    simpa using h1
   ·exact (Below.refl B w).grown h2 hB fun k hk=>(World.ownsRow.lt hown k hk).1
end Go.Proofs.YtmbgokmomkmgcaaGreatDoor.fa
namespace Go.Proofs.YtmbgokmomkmgcaaGreatDoor
open Go.RowKit
set_option maxRecDepth 20000
def num:List Int→Int:=fun xs=>xs.foldl (fun n x=>(n*256)%18446744073709551616+x) 0
theorem num_snoc (xs:List Int) (x:Int):num (xs ++ [x])=(num xs*256)%18446744073709551616+x:=by simp [num]
def last8 (xs:List Int):List Int:=xs.drop (xs.length-8)
theorem take_snoc_gb (xs:List Int) (k:Nat) (h:k<xs.length):xs.take (k+1)=xs.take k ++ [gb xs k]:=by
 rw [List.take_succ_eq_append_getElem h];simp [gb,List.getD,h]
theorem shl_or (n x:Int) (hx:0≤x∧x≤255):bits .or .u64 (IntKind.u64.wrap (n*256)) (IntKind.u64.wrap x)=(n*256)%18446744073709551616+x:=by
 have hw:IntKind.u64.wrap x=x:=by rw [IntKind.wrap_u64];omega
 rw [hw,IntKind.wrap_u64]
 have h0:0≤n*256%18446744073709551616:=Int.emod_nonneg _ (by decide)
 have h1:n*256%18446744073709551616<18446744073709551616:=Int.emod_lt_of_pos _ (by decide)
 rw [u64_or _ _ h0 h1 hx.1 (by omega),nat_join 8 _ _ (by omega) (by omega)]
 omega
theorem num_any (v:Value) (xs:List Int) (w:World) (hb:Byt w v xs):
  Calls Tryz.prog 148 #[v] w fun e w'=>e=.returned (.int .u64 (num (last8 xs)))∧w'=w:=by
 have HB:=hb
 obtain ⟨ao,cap,rfl,h1,h2, -, -, -⟩:=hb
 have HBB:=hdH (HB)
 clear HB
 generalize hys:last8 xs=ys
 have hs:((clamp (xs.length:Int) 8 :Nat):Int)=min (max (xs.length:Int) 0) 8:=by unfold clamp;omega
 generalize hsd:clamp (xs.length:Int) 8=s at hs
 have HS:Hid (clamp (xs.length:Int) 8=s):=hsd
 have hs1:s≤8:=by omega
 have hs2:s≤xs.length:=by omega
 have HL:Hid (xs.drop (xs.length-s)=ys):=by
  show _=_
  rw [←hys];unfold last8;congr 1;omega
 clear hsd hs hys
 go_enter Tryz.func148,Tryz.ntmps148
 go_wp2_with (first
  |(go_at_call 150;refine (within_any _ _ _ (by omega)).mono ?_;rintro e w' ⟨rfl,hw⟩;obtain rfl:=hw.symm;rw [HS.out])
  |(refine cut_from _ rfl (.tmp 6) (.tmp 12) rfl _ xs _ (xs.length-s) rfl rfl (by omega) (by omega) HBB.out ?_;intro v' hv;rw [HL.out] at hv;obtain ⟨ao',cap',rfl,k1,k2,k3, -,k5⟩:=hv;have K3:=hdH (k3);have K5:=hdH (k5);clear k3 k5))
 go_loop [3,15] (fun n i=>∃ k:Nat,k≤ys.length∧i=.int .i64 k∧n=.int .u64 (num (ys.take k))) (fun _ i=>ys.length-(intOf i).toNat)
 case atStart=>exact ⟨0,Nat.zero_le _,rfl,rfl⟩
 case round=>
  obtain ⟨k,hk,rfl,rfl⟩:=hrel
  by_cases hlt:k<ys.length
  ·obtain ⟨b,off,rfl,hca⟩:=K5.out (by omega)
   have c0:=hca k hlt
   clear hca
   have SN:Hid (num (ys.take (k+1))=num (ys.take k)*256%18446744073709551616+gb ys k):=by
    show _=_
    rw [take_snoc_gb ys k hlt,num_snoc]
   go_wp2
   go_round
   case rel=>exact ⟨k+1,by omega,by go_num,by rw [SN.out,shl_or _ _ (K3.out k)]⟩
   case measure=>simp [intOf];omega
  ·have hks:k=ys.length:=by omega
   subst hks
   rw [List.take_length]
   go_wp2
   go_ret
   exact ⟨rfl,rfl⟩
end Go.Proofs.YtmbgokmomkmgcaaGreatDoor
namespace Go.Proofs.YtmbgokmomkmgcaaGreatDoor
open Go.RowKit
set_option maxRecDepth 20000
def sh (n:Int):Nat→Int
 |0=>n
 |k+1=>sh n k/256
theorem sh_succ (n:Int) (k:Nat):sh n (k+1)=sh n k/256:=rfl
theorem sh_bd (n:Int) (h:0≤n∧n≤18446744073709551615) (k:Nat):0≤sh n k∧sh n k≤18446744073709551615:=by
 induction k with
 |zero=>exact h
 |succ k ih=>rw [sh_succ];omega
def le (n:Int) (k:Nat):List Int:=(List.range k).map fun i=>sh n i%256
theorem le_snoc (n:Int) (k:Nat):le n (k+1)=le n k ++ [sh n k%256]:=by simp [le,List.range_succ]
theorem le_len (n:Int) (k:Nat):(le n k).length =k:=by simp [le]
theorem le_all (n:Int) (k:Nat):AllB (le n k):=allB_mem fun x hx=>by
 obtain ⟨i,_,rfl⟩:=List.mem_map.1 hx
 omega
theorem allB_reverse {xs:List Int} (h:AllB xs):AllB xs.reverse:=allB_mem fun x hx=>by
 obtain ⟨i,hi,rfl⟩:=List.getElem_of_mem (List.mem_reverse.1 hx)
 have:=h i
 simpa [gb,List.getD,hi] using this
end Go.Proofs.YtmbgokmomkmgcaaGreatDoor
