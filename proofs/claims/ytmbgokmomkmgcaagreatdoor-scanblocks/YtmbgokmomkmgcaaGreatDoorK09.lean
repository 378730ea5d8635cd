/- Parts of the proof: what ScanBlocks reaches. No claim of its own. -/
import Derived.WalkKit
import Derived.WalkSmall
import Derived.ProofKit
import Derived.OpenShut
import Derived.BigQuiet
import Derived.Deep.QuietTactic
import Derived.Laws.AppendOwnNone
import Derived.Deep.WholeRow
import Derived.Deep.MidRow
import Derived.Laws.StructEq
import Derived.Deep.RegionHeld3
import Derived.Lib.SliceRun
import Derived.Test.YtmbgokmomkmgcaaGreatDoorK00
import Derived.Test.YtmbgokmomkmgcaaGreatDoorK08
set_option maxHeartbeats 8000000
namespace Go.Proofs.YtmbgokmomkmgcaaGreatDoor.na
open Go.RowKit Go.Proofs.YtmbgokmomkmgcaaGreatDoor.fa
set_option maxRecDepth 20000
def Vr (w:World) (c:Nat) (cs:List Value):Prop:=w.rangeAt c 0 cs∧w.there c 0 cs.length
theorem range_heap {w w':World} {b p:Nat} {cs:List Value} (h:w.rangeAt b p cs) (e:w'.heap[b]? =w.heap[b]?):w'.rangeAt b p cs:=fun j v hv=>by
 rw [World.cell?_of_block (w:=w) (w':=w') (a:=⟨b,p+j,none⟩) e];exact h j v hv
theorem there_heap {w w':World} {b p n:Nat} (h:w.there b p n) (e:w'.heap[b]? =w.heap[b]?):w'.there b p n:=fun j hj=>by
 rw [World.cell?_of_block (w:=w) (w':=w') (a:=⟨b,p+j,none⟩) e,World.frozen?_of_block (w:=w) (w':=w') (a:=⟨b,p+j,none⟩) e]
 exact h j hj
theorem range_lt {w:World} {b p:Nat} {cs:List Value} (h:w.rangeAt b p cs) (hp:0<cs.length):b<w.heap.size:=World.block_lt_of_cell? w _ (h 0 _ (List.getElem?_eq_getElem hp))
theorem Vr.heap {w w':World} {c:Nat} {cs:List Value} (h:Vr w c cs) (e:w'.heap[c]? =w.heap[c]?):Vr w' c cs:=⟨range_heap h.1 e,there_heap h.2 e⟩
theorem Vr.below {w w':World} {c B:Nat} {cs:List Value} (h:Vr w c cs) (hb:Below B w w') (hc:c<B):Vr w' c cs:=h.heap (hb.block c hc)
theorem Vr.other {w:World} {c b o:Nat} {cs:List Value} (h:Vr w c cs) (u:Value) (hp:c≠b):Vr (w.setCell ⟨b,o,none⟩ u) c cs:=h.heap (Below.heap_setCell w ⟨b,o,none⟩ u c hp)
theorem Vr.cell {w:World} {c:Nat} {cs:List Value} (h:Vr w c cs) (j:Nat) (v:Value) (hv:cs[j]? =some v):w.cell? ⟨c,j,none⟩=some v:=by
 have:=h.1 j v hv
 rwa [Nat.zero_add] at this
theorem Vr.free {w:World} {c:Nat} {cs:List Value} (h:Vr w c cs) (j:Nat) (hj:j<cs.length):w.frozen? ⟨c,j,none⟩=false:=by
 have:=(h.2 j hj).2
 rwa [Nat.zero_add] at this
theorem Vr.set {w:World} {c:Nat} {cs:List Value} (h:Vr w c cs) (j:Nat) (hj:j<cs.length) (u:Value):Vr (w.setCell ⟨c,j,none⟩ u) c (cs.set j u):=by
 have hc:=h.cell j _ (List.getElem?_eq_getElem hj)
 refine ⟨fun i v hv=>?_,fun i hi=>?_⟩
 ·rw [Nat.zero_add]
  rw [List.getElem?_set] at hv
  by_cases e:j=i
  ·subst e
   rw [if_pos rfl,if_pos hj] at hv
   cases hv
   exact World.cell?_setCell_same _ _ _ hc
  ·rw [if_neg e] at hv
   rw [World.cell?_setCell_other _ _ _ _ (by intro q;injection q with _ q2;omega)]
   exact h.cell i v hv
 ·rw [List.length_set] at hi
  rw [Nat.zero_add]
  refine ⟨?_,by rw [World.frozen?_setCell];exact h.free i hi⟩
  by_cases e:j=i
  ·subst e
   rw [World.cell?_setCell_same _ _ _ hc];rfl
  ·rw [World.cell?_setCell_other _ _ _ _ (by intro q;injection q with _ q2;omega),h.cell i _ (List.getElem?_eq_getElem hi)];rfl
theorem Vr.new (w:World) (t:TypeId) (cs:List Value):Vr (w.alloc (.cells cs.toArray t)) w.heap.size cs:=by
 have e:=fun j=>cell_of_row (w.alloc (.cells cs.toArray t)) w.heap.size j _ t (0,0) (heap_alloc_last w _)
 refine ⟨fun j v hv=>by rw [Nat.zero_add,e];simpa using hv,fun j hj=>⟨?_,World.frozen?_alloc_at _ _ _ _ rfl⟩⟩
 rw [Nat.zero_add,e]
 simp [hj]
def Rowy (t:TypeId) (n:Nat):Prop:=(∃ d,Tryz.prog.underlying t=some d∧d.isRow=true)∧(Tryz.prog.info? t).map (·.size)=some n
theorem run_loadC {w:World} {b p:Nat} {t:TypeId} {cs:List Value} (ht:Rowy t cs.length) (h:w.rangeAt b p cs):(loadVar t ⟨b,p,none⟩).run Tryz.prog w=.ok (.agg cs.toArray) w:=by
 obtain ⟨⟨d,hu,hd⟩,hs⟩:=ht
 exact run_loadVar_mid (P:=Tryz.prog) w b p t _ _ h hu hd hs
theorem load_cells {w:World} {b p:Nat} {t:TypeId} {cs:List Value} (ht:Rowy t cs.length) (h:w.rangeAt b p cs):(Instr.loadAt t (.pointer (some ⟨b,p,none⟩))).run Tryz.prog w=.ok (.agg cs.toArray) w:=by
 simp only [Instr.loadAt,Instr.sureAddr,Sem.run_bind,Sem.run_pure,Result.andThen_ok,run_loadC ht h]
theorem results_c {fn:Func} {p:Tmp} {t:TypeId} (h:fn.results=#[.cell p t]) (tmps:Array Value) (w:World) (b:Nat) (cs:List Value) (ht:Rowy t cs.length) (hp:tmps.getD p undef=.pointer (some ⟨b,0,none⟩)) (ha:w.rangeAt b 0 cs):(results fn tmps).run Tryz.prog w=.ok (.agg cs.toArray) w:=by
 have hp':tmps[p]?.getD undef=.pointer (some ⟨b,0,none⟩):=by simpa using hp
 simp [results,h,hp',asAddr,run_loadC ht ha]
theorem results_cv {fn:Func} {p q:Tmp} {t:TypeId} (h:fn.results=#[.cell p t,.tmp q]) (tmps:Array Value) (w:World) (b:Nat) (cs:List Value) (v:Value) (ht:Rowy t cs.length) (hp:tmps.getD p undef=.pointer (some ⟨b,0,none⟩)) (hq:tmps.getD q undef=v) (ha:w.rangeAt b 0 cs):(results fn tmps).run Tryz.prog w=.ok (.tuple #[.agg cs.toArray,v]) w:=by
 have hp':tmps[p]?.getD undef=.pointer (some ⟨b,0,none⟩):=by simpa using hp
 have hq':tmps[q]?.getD undef=v:=by simpa using hq
 simp [results,h,hp',hq',asAddr,run_loadC ht ha]
section
variable {ops:Array Oper} {rest:List Oper} {a:Act} {Q:Exit→Act→World→Prop}
theorem box_lawC {d:Option Tmp} {x:Operand} {t ty:TypeId} {pos:String} {af:Array Edge} (w:World) (cs:List Value) (hx:a.eval x=.agg cs.toArray)
  (hK:∀ w',Vr w' w.heap.size cs→Below w.heap.size w w'→w.heap.size<w'.heap.size→wpList Tryz.prog ops Q rest (a.put d (.pointer (some ⟨w.heap.size,0,none⟩))) w'):
  wpList Tryz.prog ops Q (⟨d,Op.box t x,ty,pos,af,none⟩ :: rest) a w:=by
 refine wpList_plain rfl fun K hK'=>?_
 unfold Oper.wp
 simp [execOp,hx,Instr.box,newVar,newRow,Value.cells,Result.andThen]
 exact hK' _ _ (hK _ (Vr.new w t cs) ((Below.refl _ _).alloc (Nat.le_refl _) _) (by simp))
theorem new_lawC {d:Option Tmp} {t ty:TypeId} {pos:String} {af:Array Edge} (w:World) (cs:List Value) (hz:(Tryz.prog.info? t).map (fun i=>(i.zero,i.size))=some (some (.agg cs.toArray),cs.length))
  (hK:∀ w',Vr w' w.heap.size cs→Below w.heap.size w w'→w.heap.size<w'.heap.size→wpList Tryz.prog ops Q rest (a.put d (.pointer (some ⟨w.heap.size,0,none⟩))) w'):
  wpList Tryz.prog ops Q (⟨d,Op.alloc t,ty,pos,af,none⟩ :: rest) a w:=by
 refine wpList_plain rfl fun K hK'=>?_
 have hz':=(zero_of_info hz).1
 unfold Oper.wp
 simp [execOp,Instr.alloc,hz',newVar,newRow,Value.cells,Result.andThen]
 exact hK' _ _ (hK _ (Vr.new w t cs) ((Below.refl _ _).alloc (Nat.le_refl _) _) (by simp))
theorem store_lawC {d:Option Tmp} {x y:Operand} {t ty:TypeId} {pos:String} {af:Array Edge} (w:World) (cs:List Value) (b p:Nat) (hx:a.eval x=.pointer (some ⟨b,p,none⟩)) (hy:a.eval y=.agg cs.toArray) (ht:w.there b p cs.length) (hs:(Tryz.prog.info? t).map (·.size)=some cs.length) (h1:∀ v ∈ cs,v.oneCell'=true)
  (hK:∀ w',Hid (w'=w.setCells b p cs)→w'.rangeAt b p cs→w'.there b p cs.length→Below b w w'→wpList Tryz.prog ops Q rest (a.put d undef) w'):
  wpList Tryz.prog ops Q (⟨d,Op.store t x y,ty,pos,af,none⟩ :: rest) a w:=by
 refine wpList_store_mid rfl t x y rfl b p cs.toArray hx hy (by simpa using ht) (by simpa using hs) (all_oneCell_toArray h1) ?_
 exact hK _ rfl (World.rangeAt_setCells_same w b p cs ht) (World.there_setCells ht b p _) (below_cells _ (Nat.le_refl _) _ _ (Below.refl _ _))
end
def el (ess:List (List Value)) (t:Nat):List Value:=ess.getD t []
def Rws (w:World) (v:Value) (k:Nat) (ess:List (List Value)):Prop:=∃ ao cap,v=.slice ao ess.length cap∧ess.length≤cap∧cap≤9223372036854775807∧(ao=none→cap=0)∧(∀ t,t<ess.length→(el ess t).length =k)∧(0<ess.length→∃ b off,ao=some ⟨b,off,none⟩∧∀ t,t<ess.length→w.rangeAt b (off+t*k) (el ess t))
theorem Rws.below {w w':World} {v:Value} {k:Nat} {ess:List (List Value)} (h:Rws w v k ess) (hk:0<k) (hb:Below w.heap.size w w'):Rws w' v k ess:=by
 obtain ⟨ao,cap,rfl,h1,h2,h3,h4,h5⟩:=h
 refine ⟨ao,cap,rfl,h1,h2,h3,h4,fun hp=>?_⟩
 obtain ⟨b,off,rfl,hc⟩:=h5 hp
 refine ⟨b,off,rfl,fun t ht=>range_heap (hc t ht) (hb.block b (range_lt (hc t ht) (by rw [h4 t ht];exact hk)))⟩
theorem Rws.nil (w:World) (k:Nat):Rws w (.slice none 0 0) k []:=⟨none,0,rfl,by simp,by simp,fun _=>rfl,fun t ht=>by simp at ht,fun h=>by simp at h⟩
theorem Rws.form {w:World} {v:Value} {k:Nat} {ess:List (List Value)} (h:Rws w v k ess):∃ ao cap,v=.slice ao ess.length cap:=by
 obtain ⟨ao,cap,rfl,_⟩:=h
 exact ⟨ao,cap,rfl⟩
theorem flat_len {k:Nat} {ess:List (List Value)} (h:∀ t,t<ess.length→(el ess t).length =k):ess.flatten.length=ess.length*k:=by
 induction ess with
 |nil=>simp
 |cons e ess ih=>
  have h0:e.length=k:=h 0 (by simp)
  have:=ih fun t ht=>by have:=h (t+1) (by simpa using ht);simpa [el] using this
  rw [List.flatten_cons,List.length_append,this,h0,List.length_cons,Nat.succ_mul];omega
theorem flat_get {k:Nat}:∀ {ess:List (List Value)},(∀ t,t<ess.length→(el ess t).length =k)→∀ t i,t<ess.length→i<k→ess.flatten[t*k+i]? =(el ess t)[i]?
 |[],_,t,i,ht,_=>by simp at ht
 |e :: ess,h,t,i,ht,hi=>by
  have h0:e.length=k:=h 0 (by simp)
  rw [List.flatten_cons]
  match t,ht with
  |0,_=>rw [Nat.zero_mul,Nat.zero_add,List.getElem?_append_left (by omega)];rfl
  |t+1,ht=>
   rw [List.getElem?_append_right (by rw [Nat.succ_mul];omega),h0,show (t+1)*k+i-k=t*k+i by rw [Nat.succ_mul];omega]
   exact flat_get (fun t ht=>by have:=h (t+1) (by simpa using ht);simpa [el] using this) t i (by simpa using ht) hi
def OwR (B:Nat) (w:World) (v:Value) (e:TypeId) (k:Nat) (ess:List (List Value)):Prop:=w.ownsRow B e k v ess.length ess.flatten∧∀ t,t<ess.length→(el ess t).length =k
theorem OwR.empty (w:World) (e:TypeId) (k:Nat) {B:Nat} (hB:B≤w.heap.size):OwR B (w.alloc (.cells #[] e)) (.slice (some ⟨w.heap.size,0,none⟩) 0 0) e k []:=
 ⟨World.ownsRow_made w #[] 0 hB (by simp [maxLen]) (by simp),fun t ht=>by simp at ht⟩
theorem OwR.nil (w:World) (e:TypeId) (k:Nat) (B:Nat):OwR B w (.slice none 0 0) e k []:=⟨⟨by simp,Or.inl ⟨rfl,rfl⟩⟩,fun t ht=>by simp at ht⟩
theorem OwR.row {B:Nat} {w:World} {v:Value} {e:TypeId} {k:Nat} {ess:List (List Value)} (h:OwR B w v e k ess) (hp:0<ess.length):∃ g cap,v=.slice (some ⟨g,0,none⟩) ess.length cap∧B≤g∧∀ t,t<ess.length→w.rangeAt g (t*k) (el ess t)∧w.there g (t*k) k:=by
 have hx:=h.1
 rcases h.1.2 with ⟨_,hn⟩ | ⟨g,cap,cur,rfl,hg,hr⟩
 ·omega
 refine ⟨g,cap,rfl,hg,fun t ht=>?_⟩
 have hlt:t*k+k≤ess.length*k:=by have:=Nat.mul_le_mul_right k (show t+1≤ess.length by omega);rw [Nat.succ_mul] at this;exact this
 refine ⟨fun j u hj=>?_,fun j hj=>⟨?_,hx.frozenAt _⟩⟩
 ·have hjk:j<k:=by rw [←h.2 t ht];exact (List.getElem?_eq_some_iff.1 hj).1
  rw [hx.cellAt (t*k+j) (by omega),flat_get h.2 t j ht hjk];exact hj
 ·rw [hx.cellAt (t*k+j) (by omega),flat_get h.2 t j ht hj,List.getElem?_eq_getElem (by rw [h.2 t ht];exact hj)];rfl
theorem OwR.rws {B:Nat} {w:World} {v:Value} {e:TypeId} {k:Nat} {ess:List (List Value)} (h:OwR B w v e k ess):Rws w v k ess:=by
 rcases h.1.2 with ⟨rfl,hn⟩ | ⟨g,cap,cur,rfl,hg,hh,hc,hm,hs,ht⟩
 ·have:ess= []:=List.eq_nil_of_length_eq_zero hn
  subst this
  exact Rws.nil w k
 ·refine ⟨some ⟨g,0,none⟩,cap,rfl,hc,by simpa [maxLen] using hm,(by intro q;cases q),h.2,fun hp=>⟨g,0,rfl,fun t ht=>?_⟩⟩
  obtain ⟨g',cap',e',_,hr⟩:=h.row hp
  cases e'
  rw [Nat.zero_add]
  exact (hr t ht).1
theorem el_app (xs ys:List (List Value)) (t:Nat):el (xs ++ ys) t=if t<xs.length then el xs t else el ys (t-xs.length):=by
 unfold el
 rw [List.getD_eq_getElem?_getD]
 by_cases h:t<xs.length
 ·rw [if_pos h,List.getElem?_append_left h];rfl
 ·rw [if_neg h,List.getElem?_append_right (by omega)];rfl
def setL (xs:List Value) (o:Nat):List Value→List Value
 |[]=>xs
 |c :: r=>setL (xs.set o c) (o+1) r
theorem setL_get (cs:List Value):∀ (xs:List Value) (o i:Nat),o+cs.length≤xs.length→(setL xs o cs)[i]? =if o≤i∧i<o+cs.length then cs[i-o]? else xs[i]? :=by
 induction cs with
 |nil=>intro xs o i _;rw [if_neg (by simp)];rfl
 |cons c r ih=>
  intro xs o i h
  rw [List.length_cons] at h
  rw [setL,ih (xs.set o c) (o+1) i (by rw [List.length_set];omega),List.length_cons,List.getElem?_set]
  by_cases e:o=i
  ·subst e
   rw [if_neg (by omega),if_pos rfl,if_pos (by omega),if_pos (by omega),Nat.sub_self];rfl
  ·rw [if_neg e]
   by_cases q:o+1≤i∧i<o+1+r.length
   ·rw [if_pos q,if_pos (by omega),show i-o=i-(o+1)+1 by omega,List.getElem?_cons_succ]
   ·rw [if_neg q,if_neg (by omega)]
theorem ownsRow_setCells {B g n cap k:Nat} {e:TypeId} (cs:List Value):∀ (w:World) (xs:List Value) (o:Nat),w.ownsRow B e k (.slice (some ⟨g,0,none⟩) n cap) n xs→(w.setCells g o cs).ownsRow B e k (.slice (some ⟨g,0,none⟩) n cap) n (setL xs o cs):=by
 induction cs with
 |nil=>intro w xs o h;exact h
 |cons c r ih=>intro w xs o h;exact ih _ _ _ (h.stored o c).1
theorem el_set (ess:List (List Value)) (t s:Nat) (cs:List Value) (ht:t<ess.length):el (ess.set t cs) s=if s=t then cs else el ess s:=by
 unfold el
 rw [List.getD_eq_getElem?_getD,List.getD_eq_getElem?_getD,List.getElem?_set]
 by_cases e:t=s
 ·subst e;simp [ht]
 ·rw [if_neg e,if_neg (Ne.symm e)]
theorem OwR.put {B:Nat} {w:World} {g n cap k:Nat} {e:TypeId} {ess:List (List Value)} (h:OwR B w (.slice (some ⟨g,0,none⟩) n cap) e k ess) (hn:ess.length=n) (t:Nat) (ht:t<n) (cs:List Value) (hc:cs.length=k):OwR B (w.setCells g (t*k) cs) (.slice (some ⟨g,0,none⟩) n cap) e k (ess.set t cs):=by
 subst hn
 have hl:∀ s,s<(ess.set t cs).length →(el (ess.set t cs) s).length =k:=fun s hs=>by
  rw [List.length_set] at hs
  rw [el_set ess t s cs ht]
  split
  ·exact hc
  ·exact h.2 s hs
 refine ⟨?_,hl⟩
 have key:(ess.set t cs).flatten =setL ess.flatten (t*k) cs:=by
  have f1:=flat_len h.2
  have f2:=flat_len hl
  rw [List.length_set] at f2
  have hlt:t*k+k≤ess.length*k:=by have:=Nat.mul_le_mul_right k (show t+1≤ess.length by omega);rw [Nat.succ_mul] at this;exact this
  apply List.ext_getElem?
  intro i
  rw [setL_get cs _ _ _ (by rw [f1,hc];exact hlt),hc]
  rcases Nat.lt_or_ge i (ess.length*k) with hi | hi
  ·have hk:0<k:=by
    rcases Nat.eq_zero_or_pos k with q | q
    ·subst q;omega
    ·exact q
   have ei:i=i/k*k+i%k:=by rw [Nat.mul_comm];exact (Nat.div_add_mod i k).symm
   have hd:i/k<ess.length:=(Nat.div_lt_iff_lt_mul hk).2 hi
   have hm:i%k<k:=Nat.mod_lt _ hk
   have g1:=flat_get hl (i/k) (i%k) (by rw [List.length_set];exact hd) hm
   have g2:=flat_get h.2 (i/k) (i%k) hd hm
   rw [←ei] at g1 g2
   rw [g1,g2,el_set ess t _ cs ht]
   by_cases q:i/k=t
   ·rw [if_pos q,if_pos (by rw [←q];omega),show i-t*k=i%k by rw [←q];omega]
   ·rw [if_neg q,if_neg fun hh=>q ?_]
    exact Nat.div_eq_of_lt_le (by omega) (by rw [Nat.succ_mul];omega)
  ·rw [List.getElem?_eq_none (by omega),if_neg (by omega),List.getElem?_eq_none (by omega)]
 rw [List.length_set,key]
 exact ownsRow_setCells cs w _ _ h.1
end Go.Proofs.YtmbgokmomkmgcaaGreatDoor.na
namespace Go.Proofs.YtmbgokmomkmgcaaGreatDoor.na
open Go.RowKit Go.Proofs.YtmbgokmomkmgcaaGreatDoor.fa
set_option maxRecDepth 20000
def hid (M:Nat→Bool) (w:World):World:={w with heap:=w.heap.mapIdx fun b o=>if M b then Obj.cells #[] 0 else o}
theorem hid_size (M:Nat→Bool) (w:World):(hid M w).heap.size =w.heap.size:=by simp [hid]
theorem hid_heap (M:Nat→Bool) (w:World) (b:Nat):(hid M w).heap[b]? =(w.heap[b]?).map fun o=>if M b then Obj.cells #[] 0 else o:=by simp [hid]
theorem hid_at {M:Nat→Bool} {w:World} {b:Nat} (h:M b=false):(hid M w).heap[b]? =w.heap[b]? :=by
 rw [hid_heap]
 simp [h]
theorem hid_cell {M:Nat→Bool} {w:World} {a:Addr} {v:Value} (h:(hid M w).cell? a=some v):w.cell? a=some v∧M a.block=false:=by
 cases hM:M a.block with
 |false=>exact ⟨by rw [←World.cell?_of_block (w:=w) (w':=hid M w) (a:=a) (hid_at hM)];exact h,rfl⟩
 |true=>
  exfalso
  unfold World.cell? at h
  rw [hid_heap] at h
  cases hb:w.heap[a.block]? with
  |none=>simp [hb] at h
  |some o=>simp [hb,hM] at h
theorem cell_hid {M:Nat→Bool} {w:World} {a:Addr} {v:Value} (h:w.cell? a=some v) (hM:M a.block=false):(hid M w).cell? a=some v:=by
 rw [World.cell?_of_block (w:=w) (w':=hid M w) (a:=a) (hid_at hM)];exact h
theorem hid_range {M:Nat→Bool} {w:World} {b p:Nat} {cs:List Value} (h:(hid M w).rangeAt b p cs):w.rangeAt b p cs:=fun j v hv=>(hid_cell (h j v hv)).1
theorem range_hid {M:Nat→Bool} {w:World} {b p:Nat} {cs:List Value} (h:w.rangeAt b p cs) (hM:M b=false):(hid M w).rangeAt b p cs:=fun j v hv=>cell_hid (h j v hv) hM
theorem hid_byt {M:Nat→Bool} {w:World} {v:Value} {xs:List Int} (h:Byt (hid M w) v xs):Byt w v xs:=by
 obtain ⟨ao,cap,rfl,h1,h2,h3,h4,h5⟩:=h
 refine ⟨ao,cap,rfl,h1,h2,h3,h4,fun hp=>?_⟩
 obtain ⟨b,off,rfl,hc⟩:=h5 hp
 exact ⟨b,off,rfl,fun t ht=>(hid_cell (hc t ht)).1⟩
theorem hid_rws {M:Nat→Bool} {w:World} {v:Value} {k:Nat} {ess:List (List Value)} (h:Rws (hid M w) v k ess):Rws w v k ess:=by
 obtain ⟨ao,cap,rfl,h1,h2,h3,h4,h5⟩:=h
 refine ⟨ao,cap,rfl,h1,h2,h3,h4,fun hp=>?_⟩
 obtain ⟨b,off,rfl,hc⟩:=h5 hp
 exact ⟨b,off,rfl,fun t ht=>hid_range (hc t ht)⟩
theorem hid_fls {M:Nat→Bool} {w:World} {v:Value} {fs:List (Int × Bool × Value)} (h:Fls (hid M w) v fs):Fls w v fs:=by
 obtain ⟨ao,cap,rfl,h1,h2,h3,h5⟩:=h
 refine ⟨ao,cap,rfl,h1,h2,h3,fun hp=>?_⟩
 obtain ⟨b,off,rfl,hc⟩:=h5 hp
 exact ⟨b,off,rfl,fun t ht=>FlA.of (hid_range (hc t ht).range)⟩
theorem hid_mks {M:Nat→Bool} {w:World} {fs:List (Int × Bool × Value)} {ms:Nat→List Int} (h:Mks (hid M w) fs ms):Mks w fs ms:=fun t ht=>⟨hid_byt (h t ht).1,(h t ht).2⟩
theorem bow_hid {M:Nat→Bool} {B:Nat} {w:World} {v:Value} {xs:List Int} (h:Bow B w v xs) (hM:∀ b,M b=true→b<B):Byt (hid M w) v xs:=by
 obtain ⟨⟨ao,cap,rfl,h1,h2,h3,h4,h5⟩,ho⟩:=h
 refine ⟨ao,cap,rfl,h1,h2,h3,h4,fun hp=>?_⟩
 obtain ⟨b,off,rfl,hc⟩:=h5 hp
 obtain ⟨b',off',cap',e,hB,_⟩:=ho hp
 cases e
 refine ⟨b,off,rfl,fun t ht=>cell_hid (hc t ht) ?_⟩
 cases q:M b with
 |false=>rfl
 |true=>have:=hM b q;omega
theorem not_hid {M:Nat→Bool} {B b:Nat} (hM:∀ b,M b=true→b<B) (h:B≤b):M b=false:=by
 cases q:M b with
 |false=>rfl
 |true=>have:=hM b q;omega
theorem own_hid {M:Nat→Bool} {B:Nat} {w:World} {v:Value} {xs:List Int} (h:Own B w v xs) (ha:AllB xs) (hM:∀ b,M b=true→b<B):Byt (hid M w) v xs:=bow_hid (bow_own h ha) hM
theorem owr_hid {M:Nat→Bool} {B:Nat} {w:World} {v:Value} {e:TypeId} {k:Nat} {ess:List (List Value)} (h:OwR B w v e k ess) (hM:∀ b,M b=true→b<B):Rws (hid M w) v k ess:=by
 obtain ⟨ao,cap,rfl,h1,h2,h3,h4,h5⟩:=h.rws
 refine ⟨ao,cap,rfl,h1,h2,h3,h4,fun hp=>?_⟩
 obtain ⟨g,cap',e,hg,hr⟩:=h.row hp
 cases e
 exact ⟨g,0,rfl,fun t ht=>by rw [Nat.zero_add];exact range_hid (hr t ht).1 (not_hid hM hg)⟩
def Frm (M:Nat→Bool) (w w':World):Prop:=w'.os=w.os∧w'.tape=w.tape∧w'.output=w.output∧w.heap.size≤w'.heap.size∧∀ k,k<w.heap.size→M k=false→w'.heap[k]? =w.heap[k]?
theorem Frm.refl (M:Nat→Bool) (w:World):Frm M w w:=⟨rfl,rfl,rfl,Nat.le_refl _,fun _ _ _=>rfl⟩
theorem Frm.size {M:Nat→Bool} {w w':World} (h:Frm M w w'):w.heap.size≤w'.heap.size:=h.2.2.2.1
theorem Frm.of_below {M:Nat→Bool} {w w':World} (h:Below w.heap.size w w'):Frm M w w':=⟨h.os,h.tape,h.output,h.size,fun k hk _=>h.block k hk⟩
theorem Frm.trans {M M':Nat→Bool} {a b c:World} (h:Frm M a b) (h':Frm M' b c) (hM:∀ k,k<a.heap.size→M k=false→M' k=false):Frm M a c:=
 ⟨h'.1.trans h.1,h'.2.1.trans h.2.1,h'.2.2.1.trans h.2.2.1,Nat.le_trans h.size h'.size,fun k hk q=>(h'.2.2.2.2 k (Nat.lt_of_lt_of_le hk h.size) (hM k hk q)).trans (h.2.2.2.2 k hk q)⟩
theorem Frm.tr {M:Nat→Bool} {a b c:World} (h:Frm M a b) (h':Frm M b c):Frm M a c:=h.trans h' fun _ _ q=>q
theorem Frm.cells {M:Nat→Bool} {w:World} {b:Nat} (hb:M b=true) (o:Nat) (vs:List Value):Frm M w (w.setCells b o vs):=by
 have h:=below_cells b (Nat.le_refl _) vs o (Below.refl b w)
 refine ⟨h.os,h.tape,h.output,h.size,fun k hk q=>?_⟩
 have hne:k≠b:=by intro e;rw [e,hb] at q;cases q
 clear h hk
 induction vs generalizing o w with
 |nil=>rfl
 |cons v r ih=>exact (ih (w:=w.setCell ⟨b,o,none⟩ v) (o+1)).trans (Below.heap_setCell w ⟨b,o,none⟩ v k hne)
theorem Frm.set {M:Nat→Bool} {w:World} {b:Nat} (hb:M b=true) (o:Nat) (v:Value):Frm M w (w.setCell ⟨b,o,none⟩ v):=Frm.cells hb o [v]
theorem Frm.grown {M:Nat→Bool} {w w':World} {row:Option Nat} (h:w.grownBy w' row) (hr:∀ k,row=some k→M k=true):Frm M w w':=
 ⟨h.os,h.tape,h.output,h.size,fun k hk q=>h.block k hk fun e=>by rw [hr k e.symm] at q;cases q⟩
theorem Frm.below {M:Nat→Bool} {w w':World} {B:Nat} (h:Frm M w w') (hB:B≤w.heap.size) (hM:∀ k,M k=true→B≤k):Below B w w':=
 ⟨h.1,h.2.1,h.2.2.1,h.size,fun k hk=>h.2.2.2.2 k (by omega) (by
  cases q:M k with
  |false=>rfl
  |true=>have:=hM k q;omega)⟩
theorem Frm.hid {M M':Nat→Bool} {w w':World} (h:Frm M w w') (hM:∀ k,k<w.heap.size→M' k=M k):Below (na.hid M w).heap.size (na.hid M w) (na.hid M' w'):=by
 rw [hid_size]
 refine ⟨h.1,h.2.1,h.2.2.1,by rw [hid_size,hid_size];exact h.size,fun k hk=>?_⟩
 have e:=hM k hk
 cases q:M k with
 |false=>rw [hid_at q,hid_at (e.trans q)];exact h.2.2.2.2 k hk q
 |true=>
  have hk':=Nat.lt_of_lt_of_le hk h.size
  rw [hid_heap,hid_heap,e,q,Array.getElem?_eq_getElem hk,Array.getElem?_eq_getElem hk']
  rfl
theorem Frm.hid0 {M:Nat→Bool} {w w':World} (h:Frm M w w'):Below (na.hid M w).heap.size (na.hid M w) (na.hid M w'):=h.hid fun _ _=>rfl
theorem below_hid {M:Nat→Bool} {w w':World} (h:Below w.heap.size w w'):Below (na.hid M w).heap.size (na.hid M w) (na.hid M w'):=(Frm.of_below h).hid0
theorem Frm.block {M:Nat→Bool} {w w':World} (h:Frm M w w') {k:Nat} (hk:k<w.heap.size) (q:M k=false):w'.heap[k]? =w.heap[k]? :=h.2.2.2.2 k hk q
section
variable {ops:Array Oper} {rest:List Oper} {a:Act} {Q:Exit→Act→World→Prop}
theorem store_law1 {d:Option Tmp} {x y:Operand} {t ty:TypeId} {pos:String} {af:Array Edge} (w:World) (b j:Nat) (v:Value) (hx:a.eval x=.pointer (some ⟨b,j,none⟩)) (hy:a.eval y=v) (hc:(w.cell? ⟨b,j,none⟩).isSome =true) (hf:w.frozen? ⟨b,j,none⟩=false) (hi:(Tryz.prog.info? t).map (·.size)=some 1) (h1:v.oneCell'=true) (hcv:v.cells=#[v])
  (hK:∀ w',Hid (w'=w.setCell ⟨b,j,none⟩ v)→wpList Tryz.prog ops Q rest (a.put d undef) w'):
  wpList Tryz.prog ops Q (⟨d,Op.store t x y,ty,pos,af,none⟩ :: rest) a w:=by
 refine wpList_plain rfl fun K hK'=>?_
 have hr:(storeVar t ⟨b,j,none⟩ v).run Tryz.prog w=.ok () (w.setCell ⟨b,j,none⟩ v):=by
  have e0:∀ i,i< [v].length →i=0:=fun i hi=>by simpa using hi
  have:=run_storeCells_cells (P:=Tryz.prog) b j [v] 0 w (fun i hi=>by rw [e0 i hi];simpa using hc) (fun i hi=>by rw [e0 i hi];simpa using hf) (fun u hu=>by simp at hu;subst hu;exact h1)
  cases hq:Tryz.prog.info? t with
  |none=>simp [hq] at hi
  |some i=>
   have hs:i.size=1:=by simpa [hq] using hi
   simp only [Nat.add_zero] at this
   simp [storeVar,sizeOf,typeInfo,hq,hcv,hs]
   simpa [World.setCells] using this
 unfold Oper.wp execOp
 simp only [hx,hy,Instr.storeAt,Instr.sureAddr,Sem.run_bind,Sem.run_pure,Result.andThen_ok,hr]
 exact hK' _ _ (hK _ rfl)
end
theorem Vr.there1 {w:World} {c:Nat} {cs:List Value} (h:Vr w c cs) (j:Nat) (hj:j<cs.length):(w.cell? ⟨c,j,none⟩).isSome =true:=by
 rw [h.cell j _ (List.getElem?_eq_getElem hj)];rfl
end Go.Proofs.YtmbgokmomkmgcaaGreatDoor.na
