/- Parts of the proof: what ScanBlocks reaches. No claim of its own. -/
import Derived.Laws.StructEq
import Derived.Lib.MakeNoZero
import Derived.Deep.DeepCutAuto
import Derived.Deep.RegionHeld3
import Derived.Laws.AppendOwnNone
import Derived.Lib.AppendZeros
import Derived.Lib.SliceRun
import Derived.ArgAppend
import Derived.WalkKit
import Derived.WalkSmall
import Derived.ProofKit
import Derived.OpenShut
import Derived.BigQuiet
import Derived.Deep.QuietTactic
import Derived.Deep.WholeRow
import Derived.Deep.MidRow
import Derived.Deep.DeepHandedRow
import Derived.Lib.LaidTab
import Derived.Deep.Matrix
import Derived.Test.YtmbgokmomkmgcaaGreatDoorK00
import Derived.Test.YtmbgokmomkmgcaaGreatDoorK01
import Derived.Test.YtmbgokmomkmgcaaGreatDoorK02
import Derived.Test.YtmbgokmomkmgcaaGreatDoorK03
import Derived.Test.YtmbgokmomkmgcaaGreatDoorK04
import Derived.Test.YtmbgokmomkmgcaaGreatDoorK05
import Derived.Test.YtmbgokmomkmgcaaGreatDoorK06
import Derived.Test.YtmbgokmomkmgcaaGreatDoorK07
import Derived.Test.YtmbgokmomkmgcaaGreatDoorK08
import Derived.Test.YtmbgokmomkmgcaaGreatDoorK09
import Derived.Test.YtmbgokmomkmgcaaGreatDoorK10
import Derived.Test.YtmbgokmomkmgcaaGreatDoorK11
import Derived.Test.YtmbgokmomkmgcaaGreatDoorK12
import Derived.Test.YtmbgokmomkmgcaaGreatDoorK13
import Derived.Test.YtmbgokmomkmgcaaGreatDoorK14
import Derived.Test.YtmbgokmomkmgcaaGreatDoorK15
import Derived.Test.YtmbgokmomkmgcaaGreatDoorK16
import Derived.Test.YtmbgokmomkmgcaaGreatDoorK17
import Derived.Test.YtmbgokmomkmgcaaGreatDoorK18
import Derived.Test.YtmbgokmomkmgcaaGreatDoorK19
import Derived.Test.YtmbgokmomkmgcaaGreatDoorK20
set_option maxHeartbeats 8000000
namespace Go.Proofs.YtmbgokmomkmgcaaGreatDoor.sc
open Go.RowKit Go.Proofs.YtmbgokmomkmgcaaGreatDoor.fa Go.Proofs.YtmbgokmomkmgcaaGreatDoor.he Go.Proofs.YtmbgokmomkmgcaaGreatDoor.pa
set_option maxRecDepth 20000
instance (xs:List Int):Decidable (Tl xs):=by unfold Tl;infer_instance
def Cm (S:Nat) (xs:List Int):Bool:=decide (Tl (xs.drop S)) && decide ((xs.drop S).drop 80=List.replicate 8 0)
def hc (S:Nat) (xs:List Int):List Value:=hv (qk (xs.drop S)) (qn (xs.drop S)) (qc (xs.drop S)) (ql (xs.drop S)) (qe (xs.drop S)) (qt (xs.drop S))
def Kn (S:Nat) (xs:List Int):Bool:=Cm S xs && (decide (qk (xs.drop S)=3) && decide (qn (xs.drop S)<4))
def Sp (S:Nat) (n:Int) (xs:List Int):Bool:=Cm S xs && ((decide (qk (xs.drop S)=1) || decide (qk (xs.drop S)=2)) && decide (qn (xs.drop S)=n))
def sc14 (S:Nat) (b:Int) (f:Nat→List Int) (i:Nat):List Value:=[.int .i64 b,.int .i64 (i:Int)] ++ (hc S (f i) ++ hc S (f 0))
def sps (S:Nat) (b:Int) (f:Nat→List Int):Nat→List (List Value)
 |0=> []
 |k+1=>if Sp S (qn ((f 0).drop S)) (f (k+1))=true then sps S b f k ++ [sc14 S b f (k+1)] else sps S b f k
theorem sps_len (S:Nat) (b:Int) (f:Nat→List Int):∀ k,(sps S b f k).length ≤k
 |0=>Nat.le_refl _
 |k+1=>by
  have:=sps_len S b f k
  unfold sps
  split
  ·rw [List.length_append,List.length_singleton];omega
  ·omega
theorem sps_yes {S:Nat} {b:Int} {f:Nat→List Int} {k:Nat} (h:Sp S (qn ((f 0).drop S)) (f (k+1))=true):sps S b f (k+1)=sps S b f k ++ [sc14 S b f (k+1)]:=if_pos h
theorem sps_no {S:Nat} {b:Int} {f:Nat→List Int} {k:Nat} (h:Sp S (qn ((f 0).drop S)) (f (k+1))=false):sps S b f (k+1)=sps S b f k:=if_neg (by rw [h];simp)
def Z10t:List Value:=[.bool false,.int .i64 0,.int .i64 0] ++ (hv 0 0 0 0 0 0 ++ [.slice none 0 0])
def td9 (S:Nat) (xs:List Int):List Value:=[.bool true,.int .i64 (qn (xs.drop S)),.int .i64 (ql (xs.drop S))] ++ hc S xs
def td (S:Nat) (xs:List Int) (v:Value):List Value:=td9 S xs ++ [v]
def Tlds (S P:Nat) (b:Int) (f:Nat→List Int) (x:Ending) (w':World):Prop:=
 (Kn S (f 0)=false∧x=.returned (.agg Z10t.toArray))∨(Kn S (f 0)=true∧∃ v,x=.returned (.agg (td S (f 0) v).toArray)∧na.Rws w' v 14 (sps S b f (P-1)))
theorem zero_told:(Tryz.prog.info? 67).map (fun i=>(i.zero,i.size))=some (some (.agg Z10t.toArray),Z10t.length):=by kernel_rfl
theorem zero_rtold:(Tryz.prog.info? 75).map (fun i=>(i.zero,i.size))=some (some (.agg Z10t.toArray),Z10t.length):=by kernel_rfl
theorem rowy_told:Rowy 67 10:=⟨⟨_,Tryz.underlying67,rfl⟩,by kernel_rfl⟩
theorem rowy_rtold:Rowy 75 10:=⟨⟨_,Tryz.underlying75,rfl⟩,by kernel_rfl⟩
theorem rowy_geo6:Rowy 23 6:=⟨⟨_,Tryz.underlying23,rfl⟩,by kernel_rfl⟩
theorem one_bytess:One 69:=⟨⟨_,Tryz.underlying69,rfl⟩,by kernel_rfl⟩
theorem one_spots:One 65:=⟨⟨_,Tryz.underlying65,rfl⟩,by kernel_rfl⟩
theorem one_rspots:One 73:=⟨⟨_,Tryz.underlying73,rfl⟩,by kernel_rfl⟩
theorem info_spot:(Tryz.prog.info? 80).map (fun i=>(i.zero,i.size,i.bytes))=some (some (.agg (([.int .i64 0,.int .i64 0]:List Value) ++ (hv 0 0 0 0 0 0 ++ hv 0 0 0 0 0 0)).toArray),14,112):=by kernel_rfl
theorem info_rspot:(Tryz.prog.info? 81).map (fun i=>(i.zero,i.size,i.bytes))=some (some (.agg (([.int .i64 0,.int .i64 0]:List Value) ++ (hv 0 0 0 0 0 0 ++ hv 0 0 0 0 0 0)).toArray),14,112):=by kernel_rfl
theorem z10_one:∀ v ∈ Z10t,v.oneCell'=true:=by
 intro v h
 simp [Z10t,hv] at h
 rcases h with rfl | rfl | rfl | rfl | rfl | rfl <;> rfl
theorem und_rows:Tryz.prog.underlying 69=some (.slice (Tryz.prog.elem 69)):=by kernel_rfl
theorem elem_rows:Tryz.prog.elem 69=26:=by kernel_rfl
theorem run_size_rows (w:World):(sizeOf 26).run Tryz.prog w=.ok 1 w:=by kernel_rfl
section
variable {ev:Operand→Value} {o:Oper}
theorem exec_idxR (x y:Operand) (hop:o.op=Op.indexAddr 69 x y) (b off n cap i:Nat) (hx:ev x=.slice (some ⟨b,off,none⟩) n cap) (hy:ev y=.int .i64 (i:Int)) (hi:i<n) (w:World):(execOp ev o).run Tryz.prog w=.ok (.value (.pointer (some ⟨b,off+i,none⟩))) w:=by
 have hr:(Instr.indexAt 69 (.slice (some ⟨b,off,none⟩) n cap) (.int .i64 (i:Int))).run Tryz.prog w=.ok (.pointer (some ⟨b,off+i,none⟩)) w:=by
  rw [run_indexAt_slice _ _ _ _ _ _ _ und_rows,if_pos (by omega),elem_rows,run_size_rows]
  simp [Result.andThen,Addr.add]
 unfold execOp
 simp only [hop,hx,hy,Sem.run_bind,Sem.run_pure,Result.andThen_ok,hr]
end
theorem run_set1 {w:World} {c j:Nat} {t:TypeId} {cs:List Value} {v:Value} (hV:Vr w c cs) (hj:j<cs.length) (h1:v.oneCell'=true) (hc:v.cells=#[v]) (hi:(Tryz.prog.info? t).map (·.size)=some 1):(storeVar t ⟨c,j,none⟩ v).run Tryz.prog w=.ok () (w.setCell ⟨c,j,none⟩ v):=by
 have hcell:=hV.cell j _ (List.getElem?_eq_getElem hj)
 have hf:=hV.free j hj
 have e0:∀ i,i< [v].length →i=0:=fun i hi=>by simpa using hi
 have:=run_storeCells_cells (P:=Tryz.prog) c j [v] 0 w (fun i hi=>by rw [e0 i hi];simp [hcell]) (fun i hi=>by rw [e0 i hi];simpa using hf) (fun z hz=>by simp at hz;subst hz;exact h1)
 cases hq:Tryz.prog.info? t with
 |none=>simp [hq] at hi
 |some i=>
  have hs:i.size=1:=by simpa [hq] using hi
  simp only [Nat.add_zero] at this
  simp [storeVar,sizeOf,typeInfo,hq,hc,hs]
  simpa [World.setCells] using this
theorem grown_one (w:World) (c j:Nat) (v:Value):w.grownBy (w.setCell ⟨c,j,none⟩ v) (some c):=by
 have hb:=(Below.refl 0 w).setCell (p:=⟨c,j,none⟩) (Nat.zero_le _) v
 exact ⟨hb.os,hb.tape,hb.output,hb.size,fun k _ hr=>Below.heap_setCell w ⟨c,j,none⟩ v k (fun e=>hr (by rw [e]))⟩
section
variable {ops:Array Oper} {rest:List Oper} {o:Oper} {a:Act} {Q:Exit→Act→World→Prop}
theorem set_law1 (w:World) (hg:o.guard=none) (x y:Operand) (t:TypeId) (hop:o.op=Op.store t x y) (cs:List Value) (c j:Nat) (v:Value) (hx:a.eval x=.pointer (some ⟨c,j,none⟩)) (hy:a.eval y=v) (hV:Vr w c cs) (hj:j<cs.length) (h1:v.oneCell'=true) (hc:v.cells=#[v]) (hi:(Tryz.prog.info? t).map (·.size)=some 1)
  (hK:∀ w',Vr w' c (cs.set j v)→w.grownBy w' (some c)→wpList Tryz.prog ops Q rest (a.put o.dst undef) w'):wpList Tryz.prog ops Q (o :: rest) a w:=by
 refine wpList_plain hg fun K hK'=>?_
 unfold Oper.wp execOp
 simp only [hop,hx,hy,Instr.storeAt,Instr.sureAddr,Sem.run_bind,Sem.run_pure,Result.andThen_ok,run_set1 hV hj h1 hc hi]
 exact hK' _ _ (hK _ (hV.set j hj v) (grown_one w c j v))
end
theorem owr_grown {B g:Nat} {w w':World} {v:Value} {e:TypeId} {k:Nat} {ess:List (List Value)} (h:na.OwR B w v e k ess) (hg:w.grownBy w' (some g)) (hB:g<B):na.OwR B w' v e k ess:=by
 refine h.kept hg ?_
 cases q:v.ownBlock with
 |none=>exact .inl rfl
 |some x=>
  refine .inr fun z=>?_
  injection z with z
  have:=(World.ownsRow.lt h.1 x q).1
  omega
theorem push_heap {B c:Nat} {w w':World} {v:Value} {e:TypeId} {k:Nat} {ess:List (List Value)} (hg:w.grownBy w' v.ownBlock) (h:na.OwR B w v e k ess) (hB:c<B) (hc:c<w.heap.size):w'.heap[c]? =w.heap[c]? :=by
 refine hg.block c hc fun z=>?_
 have:=(World.ownsRow.lt h.1 c z.symm).1
 omega
theorem push_below {B D:Nat} {w w':World} {v:Value} {e:TypeId} {k:Nat} {ess:List (List Value)} (hg:w.grownBy w' v.ownBlock) (h:na.OwR B w v e k ess) (hB:D≤B) (hD:D≤w.heap.size):Below D w w':=
 ⟨hg.os,hg.tape,hg.output,hg.size,fun _ hj=>push_heap hg h (Nat.lt_of_lt_of_le hj hB) (Nat.lt_of_lt_of_le hj hD)⟩
theorem below_gr {D g:Nat} {w w':World} (hg:w.grownBy w' (some g)) (hD:D≤g) (hs:D≤w.heap.size):Below D w w':=
 ⟨hg.os,hg.tape,hg.output,hg.size,fun k hk=>hg.block k (Nat.lt_of_lt_of_le hk hs) fun e=>by injection e with e;omega⟩
theorem grown_cells (w:World) (c o:Nat) (cs:List Value):w.grownBy (w.setCells c o cs) (some c):=by
 have h:=below_cells c (Nat.le_refl _) cs o (Below.refl c w)
 have:∀ (cs:List Value) (o:Nat) (w:World) (k:Nat),k≠c→(w.setCells c o cs).heap[k]? =w.heap[k]? :=fun cs=>by
  induction cs with
  |nil=>exact fun _ _ _ _=>rfl
  |cons v r ih=>exact fun o w k hk=>(ih (o+1) (w.setCell ⟨c,o,none⟩ v) k hk).trans (Below.heap_setCell w ⟨c,o,none⟩ v k hk)
 exact ⟨h.os,h.tape,h.output,h.size,fun k _ q=>this cs o w k fun e=>q (by rw [e])⟩
theorem owr_slice {B:Nat} {w:World} {v:Value} {e:TypeId} {k:Nat} {ess:List (List Value)} (h:na.OwR B w v e k ess):v.oneCell'=true∧v.cells=#[v]∧∃ ao cap,v=.slice ao ess.length cap:=by
 rcases h.1.2 with ⟨rfl,hl⟩ | ⟨g,cap,cur,rfl,_⟩
 ·exact ⟨rfl,rfl,none,0,by rw [show ess.length=0 by omega]⟩
 ·exact ⟨rfl,rfl,_,_,rfl⟩
theorem one_lawT {ops:Array Oper} {rest:List Oper} {o:Oper} {a:Act} {Q:Exit→Act→World→Prop} (w:World) (hg:o.guard=none) (x:Operand) (t e:TypeId) (hop:o.op=Op.buildSlice t 1 #[(0,x)]) (cs:List Value) (hx:a.eval x=.agg cs.toArray)
  (hrun:∀ w:World,(Instr.buildSlice t 1 #[(0,.agg cs.toArray)]).run Tryz.prog w=.ok (.slice (some ⟨w.heap.size,0,none⟩) 1 1) (w.alloc (.cells cs.toArray e)))
  (hK:∀ w',na.Rws w' (.slice (some ⟨w.heap.size,0,none⟩) 1 1) cs.length [cs]→Below w.heap.size w w'→wpList Tryz.prog ops Q rest (a.put o.dst (.slice (some ⟨w.heap.size,0,none⟩) 1 1)) w'):wpList Tryz.prog ops Q (o :: rest) a w:=by
 refine wpList_step fun K hK'=>?_
 exact na.step_one w hg o.dst rfl x t e hop cs hx hrun fun w' h1 h2=>hK' _ _ (hK w' h1 h2)
theorem box_law1 {ops:Array Oper} {rest:List Oper} {a:Act} {Q:Exit→Act→World→Prop} {d:Option Tmp} {x:Operand} {t ty:TypeId} {pos:String} {af:Array Edge} (w:World) (v:Value) (hx:a.eval x=v) (hc:v.cells=#[v])
  (hK:∀ w',Vr w' w.heap.size [v]→Below w.heap.size w w'→w.heap.size<w'.heap.size→wpList Tryz.prog ops Q rest (a.put d (.pointer (some ⟨w.heap.size,0,none⟩))) w'):
  wpList Tryz.prog ops Q (⟨d,Op.box t x,ty,pos,af,none⟩ :: rest) a w:=by
 refine wpList_plain rfl fun K hK'=>?_
 unfold Oper.wp
 simp [execOp,hx,Instr.box,newVar,newRow,hc,Result.andThen]
 exact hK' _ _ (hK _ (Vr.new w t [v]) ((Below.refl _ _).alloc (Nat.le_refl _) _) (by simp))
theorem build_sp (b i k n c l e t k' n' c' l' e' t':Int) (w:World):(Instr.buildSlice 65 1 #[(0,.agg (([.int .i64 b,.int .i64 i]:List Value) ++ (hv k n c l e t ++ hv k' n' c' l' e' t')).toArray)]).run Tryz.prog w=.ok (.slice (some ⟨w.heap.size,0,none⟩) 1 1) (w.alloc (.cells (([.int .i64 b,.int .i64 i]:List Value) ++ (hv k n c l e t ++ hv k' n' c' l' e' t')).toArray 80)):=by kernel_rfl
theorem build_rsp (b i k n c l e t k' n' c' l' e' t':Int) (w:World):(Instr.buildSlice 73 1 #[(0,.agg (([.int .i64 b,.int .i64 i]:List Value) ++ (hv k n c l e t ++ hv k' n' c' l' e' t')).toArray)]).run Tryz.prog w=.ok (.slice (some ⟨w.heap.size,0,none⟩) 1 1) (w.alloc (.cells (([.int .i64 b,.int .i64 i]:List Value) ++ (hv k n c l e t ++ hv k' n' c' l' e' t')).toArray 81)):=by kernel_rfl
end Go.Proofs.YtmbgokmomkmgcaaGreatDoor.sc
