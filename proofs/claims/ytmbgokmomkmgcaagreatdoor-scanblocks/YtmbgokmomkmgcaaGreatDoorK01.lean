/- Parts of the proof: what ScanBlocks reaches. No claim of its own. -/
import Derived.WalkKit
import Derived.WalkSmall
import Derived.ProofKit
import Derived.OpenShut
import Derived.BigQuiet
import Derived.Deep.QuietTactic
import Derived.Laws.AppendOwnNone
import Derived.Deep.WholeRow
import Derived.Deep.MidRow
import Derived.Laws.StructEq
import Derived.Deep.RegionHeld3
import Derived.Test.YtmbgokmomkmgcaaGreatDoorK00
set_option maxHeartbeats 8000000
namespace Go.Proofs.YtmbgokmomkmgcaaGreatDoor.he
open Go.RowKit Go.Proofs.YtmbgokmomkmgcaaGreatDoor.fa
set_option maxRecDepth 20000
def Vr (w:World) (c:Nat) (cs:List Value):Prop:=w.rangeAt c 0 cs∧w.there c 0 cs.length
theorem range_heap {w w':World} {b p:Nat} {cs:List Value} (h:w.rangeAt b p cs) (e:w'.heap[b]? =w.heap[b]?):w'.rangeAt b p cs:=fun j v hv=>by
 rw [World.cell?_of_block (w:=w) (w':=w') (a:=⟨b,p+j,none⟩) e];exact h j v hv
theorem there_heap {w w':World} {b p n:Nat} (h:w.there b p n) (e:w'.heap[b]? =w.heap[b]?):w'.there b p n:=fun j hj=>by
 rw [World.cell?_of_block (w:=w) (w':=w') (a:=⟨b,p+j,none⟩) e,World.frozen?_of_block (w:=w) (w':=w') (a:=⟨b,p+j,none⟩) e]
 exact h j hj
theorem range_lt {w:World} {b p:Nat} {cs:List Value} (h:w.rangeAt b p cs) (hp:0<cs.length):b<w.heap.size:=World.block_lt_of_cell? w _ (h 0 _ (List.getElem?_eq_getElem hp))
theorem Vr.heap {w w':World} {c:Nat} {cs:List Value} (h:Vr w c cs) (e:w'.heap[c]? =w.heap[c]?):Vr w' c cs:=⟨range_heap h.1 e,there_heap h.2 e⟩
theorem Vr.below {w w':World} {c B:Nat} {cs:List Value} (h:Vr w c cs) (hb:Below B w w') (hc:c<B):Vr w' c cs:=h.heap (hb.block c hc)
theorem Vr.drewN {w:World} {c:Nat} {cs:List Value} (h:Vr w c cs) (n:Nat):Vr (w.drewN n) c cs:=h.heap rfl
theorem Vr.other {w:World} {c b o:Nat} {cs:List Value} (h:Vr w c cs) (u:Value) (hp:c≠b):Vr (w.setCell ⟨b,o,none⟩ u) c cs:=h.heap (Below.heap_setCell w ⟨b,o,none⟩ u c hp)
theorem Vr.cell {w:World} {c:Nat} {cs:List Value} (h:Vr w c cs) (j:Nat) (v:Value) (hv:cs[j]? =some v):w.cell? ⟨c,j,none⟩=some v:=by
 have:=h.1 j v hv
 rwa [Nat.zero_add] at this
theorem Vr.free {w:World} {c:Nat} {cs:List Value} (h:Vr w c cs) (j:Nat) (hj:j<cs.length):w.frozen? ⟨c,j,none⟩=false:=by
 have:=(h.2 j hj).2
 rwa [Nat.zero_add] at this
theorem Vr.set {w:World} {c:Nat} {cs:List Value} (h:Vr w c cs) (j:Nat) (hj:j<cs.length) (u:Value):Vr (w.setCell ⟨c,j,none⟩ u) c (cs.set j u):=by
 have hc:=h.cell j _ (List.getElem?_eq_getElem hj)
 refine ⟨fun i v hv=>?_,fun i hi=>?_⟩
 ·rw [Nat.zero_add]
  rw [List.getElem?_set] at hv
  by_cases e:j=i
  ·subst e
   rw [if_pos rfl,if_pos hj] at hv
   cases hv
   exact World.cell?_setCell_same _ _ _ hc
  ·rw [if_neg e] at hv
   rw [World.cell?_setCell_other _ _ _ _ (by intro q;injection q with _ q2;omega)]
   exact h.cell i v hv
 ·rw [List.length_set] at hi
  rw [Nat.zero_add]
  refine ⟨?_,by rw [World.frozen?_setCell];exact h.free i hi⟩
  by_cases e:j=i
  ·subst e
   rw [World.cell?_setCell_same _ _ _ hc];rfl
  ·rw [World.cell?_setCell_other _ _ _ _ (by intro q;injection q with _ q2;omega),h.cell i _ (List.getElem?_eq_getElem hi)];rfl
theorem Vr.new (w:World) (t:TypeId) (cs:List Value):Vr (w.alloc (.cells cs.toArray t)) w.heap.size cs:=by
 have e:=fun j=>cell_of_row (w.alloc (.cells cs.toArray t)) w.heap.size j _ t (0,0) (heap_alloc_last w _)
 refine ⟨fun j v hv=>by rw [Nat.zero_add,e];simpa using hv,fun j hj=>⟨?_,World.frozen?_alloc_at _ _ _ _ rfl⟩⟩
 rw [Nat.zero_add,e]
 simp [hj]
def Rowy (t:TypeId) (n:Nat):Prop:=(∃ d,Tryz.prog.underlying t=some d∧d.isRow=true)∧(Tryz.prog.info? t).map (·.size)=some n
theorem run_loadC {w:World} {b p:Nat} {t:TypeId} {cs:List Value} (ht:Rowy t cs.length) (h:w.rangeAt b p cs):(loadVar t ⟨b,p,none⟩).run Tryz.prog w=.ok (.agg cs.toArray) w:=by
 obtain ⟨⟨d,hu,hd⟩,hs⟩:=ht
 exact run_loadVar_mid (P:=Tryz.prog) w b p t _ _ h hu hd hs
theorem load_cells {w:World} {b p:Nat} {t:TypeId} {cs:List Value} (ht:Rowy t cs.length) (h:w.rangeAt b p cs):(Instr.loadAt t (.pointer (some ⟨b,p,none⟩))).run Tryz.prog w=.ok (.agg cs.toArray) w:=by
 simp only [Instr.loadAt,Instr.sureAddr,Sem.run_bind,Sem.run_pure,Result.andThen_ok,run_loadC ht h]
theorem results_c {fn:Func} {p:Tmp} {t:TypeId} (h:fn.results=#[.cell p t]) (tmps:Array Value) (w:World) (b:Nat) (cs:List Value) (ht:Rowy t cs.length) (hp:tmps.getD p undef=.pointer (some ⟨b,0,none⟩)) (ha:w.rangeAt b 0 cs):(results fn tmps).run Tryz.prog w=.ok (.agg cs.toArray) w:=by
 have hp':tmps[p]?.getD undef=.pointer (some ⟨b,0,none⟩):=by simpa using hp
 simp [results,h,hp',asAddr,run_loadC ht ha]
theorem results_cv {fn:Func} {p q:Tmp} {t:TypeId} (h:fn.results=#[.cell p t,.tmp q]) (tmps:Array Value) (w:World) (b:Nat) (cs:List Value) (v:Value) (ht:Rowy t cs.length) (hp:tmps.getD p undef=.pointer (some ⟨b,0,none⟩)) (hq:tmps.getD q undef=v) (ha:w.rangeAt b 0 cs):(results fn tmps).run Tryz.prog w=.ok (.tuple #[.agg cs.toArray,v]) w:=by
 have hp':tmps[p]?.getD undef=.pointer (some ⟨b,0,none⟩):=by simpa using hp
 have hq':tmps[q]?.getD undef=v:=by simpa using hq
 simp [results,h,hp',hq',asAddr,run_loadC ht ha]
section
variable {ops:Array Oper} {rest:List Oper} {a:Act} {Q:Exit→Act→World→Prop}
theorem box_lawC {d:Option Tmp} {x:Operand} {t ty:TypeId} {pos:String} {af:Array Edge} (w:World) (cs:List Value) (hx:a.eval x=.agg cs.toArray)
  (hK:∀ w',Vr w' w.heap.size cs→Below w.heap.size w w'→w.heap.size<w'.heap.size→wpList Tryz.prog ops Q rest (a.put d (.pointer (some ⟨w.heap.size,0,none⟩))) w'):
  wpList Tryz.prog ops Q (⟨d,Op.box t x,ty,pos,af,none⟩ :: rest) a w:=by
 refine wpList_plain rfl fun K hK'=>?_
 unfold Oper.wp
 simp [execOp,hx,Instr.box,newVar,newRow,Value.cells,Result.andThen]
 exact hK' _ _ (hK _ (Vr.new w t cs) ((Below.refl _ _).alloc (Nat.le_refl _) _) (by simp))
theorem new_lawC {d:Option Tmp} {t ty:TypeId} {pos:String} {af:Array Edge} (w:World) (cs:List Value) (hz:(Tryz.prog.info? t).map (fun i=>(i.zero,i.size))=some (some (.agg cs.toArray),cs.length))
  (hK:∀ w',Vr w' w.heap.size cs→Below w.heap.size w w'→w.heap.size<w'.heap.size→wpList Tryz.prog ops Q rest (a.put d (.pointer (some ⟨w.heap.size,0,none⟩))) w'):
  wpList Tryz.prog ops Q (⟨d,Op.alloc t,ty,pos,af,none⟩ :: rest) a w:=by
 refine wpList_plain rfl fun K hK'=>?_
 have hz':=(zero_of_info hz).1
 unfold Oper.wp
 simp [execOp,Instr.alloc,hz',newVar,newRow,Value.cells,Result.andThen]
 exact hK' _ _ (hK _ (Vr.new w t cs) ((Below.refl _ _).alloc (Nat.le_refl _) _) (by simp))
theorem store_lawC {d:Option Tmp} {x y:Operand} {t ty:TypeId} {pos:String} {af:Array Edge} (w:World) (cs:List Value) (b p:Nat) (hx:a.eval x=.pointer (some ⟨b,p,none⟩)) (hy:a.eval y=.agg cs.toArray) (ht:w.there b p cs.length) (hs:(Tryz.prog.info? t).map (·.size)=some cs.length) (h1:∀ v ∈ cs,v.oneCell'=true)
  (hK:∀ w',Hid (w'=w.setCells b p cs)→w'.rangeAt b p cs→w'.there b p cs.length→Below b w w'→wpList Tryz.prog ops Q rest (a.put d undef) w'):
  wpList Tryz.prog ops Q (⟨d,Op.store t x y,ty,pos,af,none⟩ :: rest) a w:=by
 refine wpList_store_mid rfl t x y rfl b p cs.toArray hx hy (by simpa using ht) (by simpa using hs) (all_oneCell_toArray h1) ?_
 exact hK _ rfl (World.rangeAt_setCells_same w b p cs ht) (World.there_setCells ht b p _) (below_cells _ (Nat.le_refl _) _ _ (Below.refl _ _))
end
theorem results_cvv {fn:Func} {p q r:Tmp} {t:TypeId} (h:fn.results=#[.cell p t,.tmp q,.tmp r]) (tmps:Array Value) (w:World) (b:Nat) (cs:List Value) (v u:Value) (ht:Rowy t cs.length) (hp:tmps.getD p undef=.pointer (some ⟨b,0,none⟩)) (hq:tmps.getD q undef=v) (hr:tmps.getD r undef=u) (ha:w.rangeAt b 0 cs):(results fn tmps).run Tryz.prog w=.ok (.tuple #[.agg cs.toArray,v,u]) w:=by
 have hp':tmps[p]?.getD undef=.pointer (some ⟨b,0,none⟩):=by simpa using hp
 have hq':tmps[q]?.getD undef=v:=by simpa using hq
 have hr':tmps[r]?.getD undef=u:=by simpa using hr
 simp [results,h,hp',hq',hr',asAddr,run_loadC ht ha]
def hv (k n c l e t:Int):List Value:=[.int .i64 k,.int .i64 n,.int .i64 c,.int .u32 l,.int .u64 e,.int .u64 t]
theorem rowy_head:Rowy 64 6:=⟨⟨_,Tryz.underlying64,rfl⟩,by kernel_rfl⟩
theorem zero_head:(Tryz.prog.info? 64).map (fun i=>(i.zero,i.size))=some (some (.agg (hv 0 0 0 0 0 0).toArray),6):=by kernel_rfl
theorem zero_nums:(Tryz.prog.info? 222).map (fun i=>(i.zero,i.size))=some (some (.agg (ints .u64 [0,0,0,0,0,0,0])),7):=by kernel_rfl
theorem hv_one (k n c l e t:Int):∀ v ∈ hv k n c l e t,v.oneCell'=true:=fun v hv'=>by
 simp [hv] at hv'
 rcases hv' with rfl | rfl | rfl | rfl | rfl | rfl <;> rfl
def Tab (w:World):Prop:=∀ i:Nat,i<7→w.cell? ⟨1,i,none⟩=some (.int .i64 (gb [1,1,1,1,4,8,8] i))
theorem Tab.below {w w':World} (h:Tab w) (hb:Below w.heap.size w w'):Tab w':=fun i hi=>by
 have:=h i hi
 rw [hb.cell (World.block_lt_of_cell? w _ this)];exact this
theorem Tab.range {w:World} (h:Tab w):w.rangeAt 1 0 (([1,1,1,1,4,8,8]:List Int).map (Value.int .i64)):=fun j v hv=>by
 have hj:j<7:=by have:=(List.getElem?_eq_some_iff.1 hv).1;simpa using this
 have key:∀ (l:List Int) j,j<l.length→(l.map (Value.int .i64))[j]? =some (.int .i64 (gb l j)):=fun l j h=>by simp [gb,List.getD,h]
 rw [Nat.zero_add,h j hj,←hv,key [1,1,1,1,4,8,8] j hj]
theorem rowy_sizes:Rowy 246 7:=⟨⟨_,Tryz.underlying246,rfl⟩,by kernel_rfl⟩
theorem rowy_nums:Rowy 222 7:=⟨⟨_,Tryz.underlying222,rfl⟩,by kernel_rfl⟩
theorem idx_law {ops:Array Oper} {rest:List Oper} {o:Oper} {a:Act} {Q:Exit→Act→World→Prop} (w:World) (hg:o.guard=none) (x y:Operand) (t:TypeId) (hop:o.op=Op.index t x y) (v i q:Value) (hx:a.eval x=v) (hy:a.eval y=i)
  (hr:(Instr.index t v i).run Tryz.prog w=.ok q w) (hK:wpList Tryz.prog ops Q rest (a.put o.dst q) w):wpList Tryz.prog ops Q (o :: rest) a w:=by
 refine wpList_plain hg fun K hK'=>?_
 unfold Oper.wp execOp
 simp only [hop,hx,hy,Sem.run_bind,Sem.run_pure,Result.andThen_ok,hr]
 exact hK' _ _ hK
end Go.Proofs.YtmbgokmomkmgcaaGreatDoor.he
namespace Go.Proofs.YtmbgokmomkmgcaaGreatDoor
open Go.RowKit
set_option maxRecDepth 20000
theorem rev_snoc (xs:List Int) (k:Nat) (h:k<xs.length):xs.reverse.take (k+1)=xs.reverse.take k ++ [gb xs (xs.length-1-k)]:=by
 rw [List.take_succ_eq_append_getElem (by simpa using h)]
 simp [gb,List.getD,show xs.length-1-k<xs.length by omega]
theorem rlittle_any (n k0:Int) (w:World) (hn:0≤n∧n≤18446744073709551615):
  Calls Tryz.prog 165 #[.int .u64 n,.int .i64 k0] w fun e w'=>∃ v,e=.returned v∧Byt w' v (le n (clamp k0 8))∧Below w.heap.size w w':=by
 have hs:((clamp k0 8 :Nat):Int)=min (max k0 0) 8:=by unfold clamp;omega
 generalize hsd:clamp k0 8=s at hs
 have HS:=hdH (hs)
 have hs1:s≤8:=by omega
 have hn':=hdH (hn)
 clear hsd hs hn
 go_enter Tryz.func165,Tryz.ntmps165
 go_wp2
 go_loopw [0,5,6] (fun m v i wr=>∃ k:Nat,k≤s∧i=.int .i64 k∧m=.int .u64 (sh n k)∧Own w.heap.size wr v (le n k)∧Below w.heap.size w wr) (fun _ _ i _=>s-(intOf i).toNat)
 case atStart=>exact ⟨0,Nat.zero_le _,rfl,rfl,Own.empty w (Nat.le_refl _),(Below.refl _ _).alloc (Nat.le_refl _) _⟩
 case round=>
  obtain ⟨k,hk,rfl,rfl,hown,hbel⟩:=hrel
  have hsz:=hbel.size
  by_cases hlt:k<s
  ·have h1:(k:Int)<k0:=by have:=HS.out;omega
   have h2:(k:Int)<8:=by omega
   have bd:=sh_bd n hn'.out k
   have e1:IntKind.u8.wrap (sh n k%256)=sh n k%256:=by rw [IntKind.wrap_u8'];omega
   go_wp2_with (at_builtin;refine push_law wr rfl (.tmp 17) (.tmp 21) rfl w.heap.size (by omega) _ _ (sh n k%256) rfl rfl hown (by rw [le_len];omega) ?_;intro v' w1 hown' hbel')
   rw [←le_snoc] at hown'
   go_roundw
   case rel=>exact ⟨k+1,by omega,by go_num,rfl,hown',hbel.trans hbel'⟩
   case measure=>simp [intOf];omega
  ·have hks:k=s:=by omega
   subst hks
   by_cases h1:(k:Int)<k0
   ·have h2:¬(k:Int)<8:=by have:=HS.out;omega
    go_wp2
    go_ret
    exact ⟨_,rfl,hown.byt (le_all _ _),hbel⟩
   ·go_wp2
    go_ret
    exact ⟨_,rfl,hown.byt (le_all _ _),hbel⟩
theorem bak_any (v:Value) (xs:List Int) (w:World) (hb:Byt w v xs) (hl:xs.length≤1048576):
  Calls Tryz.prog 152 #[v] w fun e w'=>∃ v',e=.returned v'∧Byt w' v' xs.reverse∧Below w.heap.size w w':=by
 obtain ⟨ao,cap,rfl,h1,h2,h3, -,h5⟩:=hb
 have H5:=hdH (h5)
 have HA:=hdH (h3)
 clear h5 h3
 go_enter Tryz.func152,Tryz.ntmps152
 go_wp2
 go_loopw [3,4] (fun v i wr=>∃ k:Nat,k≤xs.length∧i=.int .i64 ((xs.length:Int)-1-k)∧Own w.heap.size wr v (xs.reverse.take k)∧Below w.heap.size w wr) (fun _ i _=>(intOf i+1).toNat)
 case atStart=>exact ⟨0,Nat.zero_le _,by simp,Own.empty w (Nat.le_refl _),(Below.refl _ _).alloc (Nat.le_refl _) _⟩
 case round=>
  obtain ⟨k,hk,rfl,hown,hbel⟩:=hrel
  have hsz:=hbel.size
  by_cases hlt:k<xs.length
  ·obtain ⟨b,off,rfl,hca⟩:=H5.out (by omega)
   have c0:=hca (xs.length-1-k) (by omega)
   have c1:wr.cell? ⟨b,off+(xs.length-1-k),none⟩=some (.int .u8 (gb xs (xs.length-1-k))):=by rw [hbel.cell (World.block_lt_of_cell? w _ c0)];exact c0
   have e2:((xs.length:Int)-1-(k:Int)).toNat =xs.length-1-k:=by omega
   clear c0 hca
   go_wp2_with (at_builtin;refine push_law wr rfl (.tmp 13) (.tmp 18) rfl w.heap.size (by omega) _ _ (gb xs (xs.length-1-k)) rfl rfl hown (by simp;omega) ?_;intro v' w1 hown' hbel')
   rw [←rev_snoc xs k hlt] at hown'
   go_roundw
   case rel=>exact ⟨k+1,by omega,by go_num,hown',hbel.trans hbel'⟩
   case measure=>simp [intOf];omega
  ·have hks:k=xs.length:=by omega
   subst hks
   rw [List.take_of_length_le (by simp)] at hown
   go_wp2
   go_ret
   exact ⟨_,rfl,hown.byt (allB_reverse HA.out),hbel⟩
def numL (xs:List Int):Int:=num (xs.take 8).reverse
theorem numL_rev (xs:List Int):numL xs.reverse=num (last8 xs):=by
 unfold numL last8;rw [List.take_reverse,List.reverse_reverse]
theorem take8_snoc (xs:List Int) (s k:Nat) (hs:s=min xs.length 8) (h:k<s):(xs.take 8).reverse.take (k+1)=(xs.take 8).reverse.take k ++ [gb xs (s-1-k)]:=by
 have hl:(xs.take 8).length =s:=by simp;omega
 rw [rev_snoc (xs.take 8) k (by omega),hl]
 have:gb (xs.take 8) (s-1-k)=gb xs (s-1-k):=by simp [gb,List.getD,show s-1-k<8 by omega]
 rw [this]
theorem mul_add (n x:Int) (hx:0≤x∧x≤255):IntKind.u64.wrap (IntKind.u64.wrap (n*256)+x)=n*256%18446744073709551616+x:=by
 rw [IntKind.wrap_u64,IntKind.wrap_u64];omega
theorem rnumLittle_any (v:Value) (xs:List Int) (w:World) (hb:Byt w v xs):
  Calls Tryz.prog 151 #[v] w fun e w'=>e=.returned (.int .u64 (numL xs))∧w'=w:=by
 obtain ⟨ao,cap,rfl,h1,h2,h3, -,h5⟩:=hb
 have H5:=hdH (h5)
 have HA:=hdH (h3)
 clear h5 h3
 obtain ⟨s,hs⟩:∃ s,s=min xs.length 8:=⟨_,rfl⟩
 have HS2:=hdH (hs)
 have hs1:s≤8:=by omega
 have hs2:s≤xs.length:=by omega
 clear hs
 go_enter Tryz.func151,Tryz.ntmps151
 go_wp2
 all_goals
  go_loop [3,4] (fun n i=>∃ k:Nat,k≤s∧i=.int .i64 ((s:Int)-1-k)∧n=.int .u64 (num ((xs.take 8).reverse.take k))) (fun _ i=>(intOf i+1).toNat)
  case atStart=>exact ⟨0,Nat.zero_le _,by have:=HS2.out;congr 1;omega,rfl⟩
  case round=>
   obtain ⟨k,hk,rfl,rfl⟩:=hrel
   by_cases hlt:k<s
   ·obtain ⟨b,off,rfl,hca⟩:=H5.out (by omega)
    have c0:=hca (s-1-k) (by omega)
    have e2:((s:Int)-1-(k:Int)).toNat =s-1-k:=by omega
    clear hca
    have SN:Hid (num ((xs.take 8).reverse.take (k+1))=num ((xs.take 8).reverse.take k)*256%18446744073709551616+gb xs (s-1-k)):=by
     show _=_
     rw [take8_snoc xs s k HS2.out hlt,num_snoc]
    have gbd:=HA.out (s-1-k)
    go_wp2
    go_round
    case rel=>exact ⟨k+1,by omega,by go_num,by rw [SN.out,mul_add _ _ (HA.out _)]⟩
    case measure=>simp [intOf];omega
   ·have hks:k=s:=by omega
    have e:Hid ((xs.take 8).reverse.take k=(xs.take 8).reverse):=List.take_of_length_le (by have:=HS2.out;simp;omega)
    rw [e.out]
    go_wp2
    go_ret
    exact ⟨rfl,rfl⟩
theorem rbig_any (n k0:Int) (w:World) (hn:0≤n∧n≤18446744073709551615):
  Calls Tryz.prog 153 #[.int .u64 n,.int .i64 k0] w fun e w'=>∃ v,e=.returned v∧Byt w' v (le n (clamp k0 8)).reverse ∧Below w.heap.size w w':=by
 have hs:=clamp_le k0 8 (by omega)
 have hn':=hdH (hn)
 clear hn
 go_enter Tryz.func153,Tryz.ntmps153
 go_wp2_with (first
  |(go_at_call 165;refine (rlittle_any n k0 _ hn'.out).mono ?_;rintro e w1 ⟨v1,rfl,hv1,hb1⟩;have hz1:=hb1.size)
  |(go_at_call 152;refine (bak_any v1 _ _ hv1 (by rw [le_len];omega)).mono ?_;rintro e w2 ⟨v2,rfl,hv2,hb2⟩))
 go_ret
 exact ⟨_,rfl,hv2,hb1.trans (hb2.mono hz1)⟩
theorem rnum_any (v:Value) (xs:List Int) (w:World) (hb:Byt w v xs) (hl:xs.length≤1048576):
  Calls Tryz.prog 124 #[v] w fun e w'=>e=.returned (.int .u64 (num (last8 xs)))∧Below w.heap.size w w':=by
 rw [←numL_rev]
 go_enter Tryz.func124,Tryz.ntmps124
 go_wp2_with (first
  |(go_at_call 152;refine (bak_any v _ _ hb hl).mono ?_;rintro e w2 ⟨v2,rfl,hv2,hb2⟩)
  |(go_at_call 151;refine (rnumLittle_any v2 _ _ hv2).mono ?_;rintro e w3 ⟨rfl,hw⟩;obtain rfl:=hw.symm))
 go_ret
 exact ⟨rfl,hb2⟩
end Go.Proofs.YtmbgokmomkmgcaaGreatDoor
namespace Go.Proofs.YtmbgokmomkmgcaaGreatDoor
open Go.RowKit
set_option maxRecDepth 20000
def part (zs:List Int) (k:Nat):List Int:=zs.take k ++ List.replicate (zs.length-k) 0
theorem part_zero (zs:List Int):part zs 0=List.replicate zs.length 0:=by simp [part]
theorem part_end (zs:List Int):part zs zs.length=zs:=by simp [part]
theorem part_set (zs:List Int) (k:Nat) (h:k<zs.length):(part zs k).set k (gb zs k)=part zs (k+1):=by
 unfold part
 obtain ⟨d,hd⟩:∃ d,zs.length-k=d+1:=⟨zs.length-k-1,by omega⟩
 have e:zs.length-(k+1)=d:=by omega
 have hm:min k zs.length=k:=by omega
 rw [hd,e,List.set_append_right _ _ (by simp;omega),List.take_succ_eq_append_getElem h,List.append_assoc]
 simp only [List.length_take,hm,Nat.sub_self,List.replicate_succ,List.set_cons_zero,gb,List.getD,List.getElem?_eq_getElem h,Option.getD_some,List.cons_append,List.nil_append]
def xr (a b:Int):Int:=((a.toNat ^^^ b.toNat:Nat):Int)
theorem xr_of (a b:Int) (ha:0≤a∧a≤255) (hb:0≤b∧b≤255):bits .xor .u8 a b=xr a b:=u8_xor a b ha.1 (by omega) hb.1 (by omega)
theorem xr_bd (a b:Int) (ha:0≤a∧a≤255) (hb:0≤b∧b≤255):0≤xr a b∧xr a b≤255:=by
 unfold xr
 have:=Nat.xor_lt_two_pow (n:=8) (show a.toNat<2 ^ 8 by omega) (show b.toNat<2 ^ 8 by omega)
 omega
theorem xr_comm (a b:Int):xr a b=xr b a:=by unfold xr;rw [Nat.xor_comm]
theorem xr_zero (a b:Int) (ha:0≤a) (hb:0≤b):xr a b=0↔a=b:=by
 unfold xr
 constructor
 ·intro h
  have h1:a.toNat ^^^ b.toNat=0:=by omega
  have h2:a.toNat=b.toNat:=by
   have:=congrArg (· ^^^ b.toNat) h1
   simpa [Nat.xor_assoc] using this
  omega
 ·rintro rfl;simp
def xorl (xs ys:List Int):List Int:=List.zipWith xr xs ys
theorem xorl_len (xs ys:List Int) (h:xs.length=ys.length):(xorl xs ys).length =xs.length:=by simp [xorl];omega
theorem xorl_gb (xs ys:List Int) (h:xs.length=ys.length) (k:Nat) (hk:k<xs.length):gb (xorl xs ys) k=xr (gb xs k) (gb ys k):=by
 simp [gb,xorl,List.getD,List.getElem?_zipWith,hk,show k<ys.length by omega]
theorem xorl_all (xs ys:List Int) (h:xs.length=ys.length) (ha:AllB xs) (hb:AllB ys):AllB (xorl xs ys):=by
 intro k
 by_cases hk:k<xs.length
 ·rw [xorl_gb xs ys h k hk];exact xr_bd _ _ (ha k) (hb k)
 ·have:gb (xorl xs ys) k=0:=by simp only [gb,List.getD,List.getElem?_eq_none (show (xorl xs ys).length ≤k by rw [xorl_len xs ys h];omega)];rfl
  omega
theorem xorl_take (xs ys:List Int) (h:xs.length=ys.length) (k:Nat) (hk:k<xs.length):(xorl xs ys).take (k+1)=(xorl xs ys).take k ++ [xr (gb xs k) (gb ys k)]:=by
 have hl:=xorl_len xs ys h
 rw [List.take_succ_eq_append_getElem (by omega),←xorl_gb xs ys h k hk]
 simp [gb,List.getD,show k<(xorl xs ys).length by omega]
def unl:List Int→Int:=fun zs=>zs.foldl (fun u z=>bits .or .u8 u z) 0
theorem unl_snoc (zs:List Int) (z:Int):unl (zs ++ [z])=bits .or .u8 (unl zs) z:=by simp [unl]
theorem or_zero (u z:Int) (hu:0≤u∧u≤255) (hz:0≤z∧z≤255):(0≤bits .or .u8 u z∧bits .or .u8 u z≤255)∧(bits .or .u8 u z=0↔u=0∧z=0):=by
 rw [u8_or _ _ hu.1 (by omega) hz.1 (by omega)]
 have hlt:=Nat.or_lt_two_pow (n:=8) (show u.toNat<2 ^ 8 by omega) (show z.toNat<2 ^ 8 by omega)
 have h0:(u.toNat ||| z.toNat)=0↔u.toNat=0∧z.toNat=0:=Nat.or_eq_zero_iff
 omega
theorem unl_from (zs:List Int):∀ u:Int,(0≤u∧u≤255)→(∀ z ∈ zs,0≤z∧z≤255)→(zs.foldl (fun u z=>bits .or .u8 u z) u=0↔u=0∧∀ z ∈ zs,z=0):=by
 induction zs with
 |nil=>intro u hu h;simp
 |cons z zs ih=>
  intro u hu h
  have o:=or_zero u z hu (h z (by simp))
  rw [List.foldl_cons,ih _ o.1 (fun y hy=>h y (by simp [hy])),o.2]
  simp [and_assoc]
theorem unl_zero (zs:List Int) (h:∀ z ∈ zs,0≤z∧z≤255):unl zs=0↔∀ z ∈ zs,z=0:=by
 unfold unl;rw [unl_from zs 0 (by decide) h];simp
theorem mem_gb {xs:List Int} {z:Int} (h:z ∈ xs):∃ i,i<xs.length∧gb xs i=z:=by
 obtain ⟨i,hi,rfl⟩:=List.getElem_of_mem h
 exact ⟨i,hi,by simp [gb,List.getD,hi]⟩
theorem gb_mem {xs:List Int} {i:Nat} (h:i<xs.length):gb xs i ∈ xs:=by
 simp [gb,List.getD,h]
theorem unl_same (xs ys:List Int) (h:xs.length=ys.length) (ha:AllB xs) (hb:AllB ys):(unl (xorl xs ys) == 0)=decide (xs=ys):=by
 have hall:∀ z ∈ xorl xs ys,0≤z∧z≤255:=fun z hz=>by
  obtain ⟨i,hi,rfl⟩:=mem_gb hz
  exact xorl_all xs ys h ha hb i
 rw [Bool.eq_iff_iff]
 simp only [beq_iff_eq,decide_eq_true_eq]
 rw [unl_zero _ hall]
 constructor
 ·intro hz
  refine ext_gb h fun t ht=>?_
  have:=hz (gb (xorl xs ys) t) (gb_mem (by rw [xorl_len xs ys h];exact ht))
  rw [xorl_gb xs ys h t ht] at this
  exact (xr_zero _ _ (ha t).1 (hb t).1).1 this
 ·rintro rfl z hz
  obtain ⟨i,hi,rfl⟩:=mem_gb hz
  rw [xorl_len xs xs rfl] at hi
  rw [xorl_gb xs xs rfl i hi]
  exact (xr_zero _ _ (ha i).1 (ha i).1).2 rfl
theorem oSame_any (va vb:Value) (xs ys:List Int) (w:World) (ha:Byt w va xs) (hb:Byt w vb ys):
  Calls Tryz.prog 122 #[va,vb] w fun e w'=>e=.returned (.bool (decide (xs=ys)))∧∃ n,w'=w.drewN n:=by
 obtain ⟨ao,ca,rfl,ha1,ha2,ha3, -,ha5⟩:=ha
 obtain ⟨bo,cb,rfl,hb1,hb2,hb3, -,hb5⟩:=hb
 by_cases hl:xs.length=ys.length
 ·have HL:=hdH (hl)
  have HA5:=hdH (ha5)
  have HB5:Hid (0<xs.length→∃ b off,bo=some ⟨b,off,none⟩∧∀ t,t<xs.length→w.cell? ⟨b,off+t,none⟩=some (.int .u8 (gb ys t))):=by
   rw [hl];exact hb5
  have HA:=hdH (ha3)
  have HB:=hdH (hb3)
  rw [←hl] at hb1 ⊢
  clear hb5 ha5 ha3 hb3 hl
  rw [←unl_same xs ys HL.out HA.out HB.out]
  go_enter Tryz.func122,Tryz.ntmps122
  go_wp2
  go_loopw [5,14] (fun u i wr=>∃ k n:Nat,k≤xs.length∧i=.int .i64 k∧u=.int .u8 (unl ((xorl xs ys).take k))∧wr=w.drewN n) (fun _ i _=>xs.length-(intOf i).toNat)
  case atStart=>exact ⟨0,0,Nat.zero_le _,rfl,rfl,rfl⟩
  case round=>
   obtain ⟨k,n,hk,rfl,rfl,rfl⟩:=hrel
   by_cases hlt:k<xs.length
   ·obtain ⟨b,off,rfl,hca⟩:=HA5.out (by omega)
    obtain ⟨b',off',rfl,hcb⟩:=HB5.out (by omega)
    have c1:w.cell? ⟨b,off+k,none⟩=some (.int .u8 (gb xs k)):=hca k hlt
    have c2:w.cell? ⟨b',off'+k,none⟩=some (.int .u8 (gb ys k)):=hcb k hlt
    have lk:(k:Int)<(xs.length:Int):=by omega
    have hx:bits .xor .u8 (gb xs k) (gb ys k)=xr (gb xs k) (gb ys k):=xr_of _ _ (HA.out k) (HB.out k)
    have SN:Hid (unl ((xorl xs ys).take (k+1))=bits .or .u8 (unl ((xorl xs ys).take k)) (xr (gb xs k) (gb ys k))):=by
     show _=_
     rw [xorl_take xs ys HL.out k hlt,unl_snoc]
    clear hca hcb
    go_wp2
    go_quiet (fail)
    go_wp2
    go_roundw
    case rel=>exact ⟨k+1,n+nq,by omega,by go_num,by rw [SN.out],rfl⟩
    case measure=>simp [intOf];omega
   ·have hks:k=xs.length:=by omega
    have e:Hid ((xorl xs ys).take k=xorl xs ys):=List.take_of_length_le (by rw [xorl_len xs ys HL.out];omega)
    rw [e.out]
    go_wp2
    go_ret
    exact ⟨rfl,n,rfl⟩
 ·have:decide (xs=ys)=false:=by simp only [decide_eq_false_iff_not];intro e;exact hl (by rw [e])
  rw [this]
  have h2:((xs.length:Int) != (ys.length:Int))=true:=by simp;omega
  go_enter Tryz.func122,Tryz.ntmps122
  go_wp2
  go_ret
  exact ⟨rfl,0,rfl⟩
def inv (xs:List Int):List Int:=xs.map fun x=>xr 255 x
theorem inv_len (xs:List Int):(inv xs).length =xs.length:=by simp [inv]
theorem inv_gb (xs:List Int) (k:Nat) (hk:k<xs.length):gb (inv xs) k=xr 255 (gb xs k):=by simp [gb,inv,List.getD,hk]
theorem inv_all (xs:List Int) (ha:AllB xs):AllB (inv xs):=allB_mem fun z hz=>by
 obtain ⟨i,hi,rfl⟩:=mem_gb hz
 rw [inv_len] at hi
 rw [inv_gb xs i hi]
 exact xr_bd _ _ (by decide) (ha i)
theorem inv_xorl (xs:List Int):inv xs=xorl xs (List.replicate xs.length 255):=by
 refine ext_gb (by rw [inv_len,xorl_len _ _ (by simp)]) fun t ht=>?_
 rw [inv_len] at ht
 rw [inv_gb xs t ht,xorl_gb _ _ (by simp) t ht,xr_comm]
 simp [gb,List.getD,ht]
theorem invert_any (va:Value) (xs:List Int) (w:World) (ha:Byt w va xs) (hmax:xs.length≤1048576):
  Calls Tryz.prog 149 #[va] w fun e w'=>∃ v,e=.returned v∧Byt w' v (inv xs)∧Below w.heap.size w w':=by
 obtain ⟨ao,ca,rfl,ha1,ha2,ha3, -,ha5⟩:=ha
 have HA5:=hdH (ha5)
 have HA:=hdH (ha3)
 clear ha5 ha3
 have HZ:Hid ((inv xs).length =xs.length):=inv_len xs
 go_enter Tryz.func149,Tryz.ntmps149
 go_wp2_with (at_make;refine make_law _ rfl (.tmp 6) (.tmp 6) rfl w.heap.size (Nat.le_refl _) _ xs.length rfl rfl rfl (by omega) ?_;intro w1 hown hbel hlt)
 go_loopw [10] (fun i wr=>∃ k:Nat,k≤xs.length∧i=.int .i64 k∧OwnN w.heap.size wr w.heap.size xs.length (part (inv xs) k)∧Below w.heap.size w wr) (fun i _=>xs.length-(intOf i).toNat)
 case atStart=>exact ⟨0,Nat.zero_le _,rfl,by rw [part_zero,HZ.out];exact hown,hbel⟩
 case round=>
  clear hown hbel
  obtain ⟨k,hk,rfl,hown,hbel⟩:=hrel
  by_cases hlt':k<xs.length
  ·obtain ⟨b,off,rfl,hca⟩:=HA5.out (by omega)
   have n1:=World.block_lt_of_cell? w _ (hca k hlt')
   have c1:wr.cell? ⟨b,off+k,none⟩=some (.int .u8 (gb xs k)):=(hbel.cell n1).trans (hca k hlt')
   have c3:=hown.cell hlt'
   have c4:=hown.free k
   have HX:Hid (bits .xor .u8 (if IntKind.u8.signed=true then -1 else IntKind.u8.max) (gb xs k)=xr 255 (gb xs k)):=xr_of 255 _ (by decide) (HA.out k)
   have hown':OwnN w.heap.size (wr.setCell ⟨w.heap.size,k,none⟩ (.int .u8 (xr 255 (gb xs k)))) w.heap.size xs.length (part (inv xs) (k+1)):=by
    have h:=hown.set k (gb (inv xs) k)
    rw [part_set _ k (by rw [HZ.out];exact hlt'),inv_gb xs k hlt'] at h
    exact h
   clear hca
   go_wp2
   go_roundw
   case rel=>exact ⟨k+1,by omega,by go_num,by rw [HX.out];exact hown',hbel.setCell (Nat.le_refl _) _⟩
   case measure=>simp [intOf];omega
  ·have hks:k=xs.length:=by omega
   subst hks
   have hown2:OwnN w.heap.size wr w.heap.size xs.length (inv xs):=by
    have:=hown;rw [←HZ.out,part_end,HZ.out] at this;exact this
   go_wp2
   go_ret
   exact ⟨_,rfl,hown2.byt (inv_all _ HA.out),hbel⟩
theorem rxor_own (va vb:Value) (xs ys:List Int) (w:World) (ha:Byt w va xs) (hb:Byt w vb ys) (hl:xs.length=ys.length) (hmax:xs.length≤1048576):
  Calls Tryz.prog 154 #[va,vb] w fun e w'=>∃ v,e=.returned v∧Own w.heap.size w' v (xorl xs ys)∧Below w.heap.size w w':=by
 obtain ⟨ao,ca,rfl,ha1,ha2,ha3, -,ha5⟩:=ha
 obtain ⟨bo,cb,rfl,hb1,hb2,hb3, -,hb5⟩:=hb
 have HL:=hdH (hl)
 have HA5:=hdH (ha5)
 have HB5:Hid (0<xs.length→∃ b off,bo=some ⟨b,off,none⟩∧∀ t,t<xs.length→w.cell? ⟨b,off+t,none⟩=some (.int .u8 (gb ys t))):=by
  rw [hl];exact hb5
 have HA:=hdH (ha3)
 have HB:=hdH (hb3)
 rw [←hl] at hb1 ⊢
 clear hb5 ha5 ha3 hb3 hl
 have HZ:Hid ((xorl xs ys).length =xs.length):=xorl_len xs ys HL.out
 go_enter Tryz.func154,Tryz.ntmps154
 go_wp2
 go_loopw [5,6] (fun v i wr=>∃ k:Nat,k≤xs.length∧i=.int .i64 k∧Own w.heap.size wr v ((xorl xs ys).take k)∧Below w.heap.size w wr) (fun _ i _=>xs.length-(intOf i).toNat)
 case atStart=>exact ⟨0,Nat.zero_le _,rfl,Own.empty w (Nat.le_refl _),(Below.refl _ _).alloc (Nat.le_refl _) _⟩
 case round=>
  obtain ⟨k,hk,rfl,hown,hbel⟩:=hrel
  have hsz:=hbel.size
  by_cases hlt':k<xs.length
  ·obtain ⟨b,off,rfl,hca⟩:=HA5.out (by omega)
   obtain ⟨b',off',rfl,hcb⟩:=HB5.out (by omega)
   have n1:=World.block_lt_of_cell? w _ (hca k hlt')
   have n2:=World.block_lt_of_cell? w _ (hcb k hlt')
   have c1:wr.cell? ⟨b,off+k,none⟩=some (.int .u8 (gb xs k)):=(hbel.cell n1).trans (hca k hlt')
   have c2:wr.cell? ⟨b',off'+k,none⟩=some (.int .u8 (gb ys k)):=(hbel.cell n2).trans (hcb k hlt')
   have lk:(k:Int)<(xs.length:Int):=by omega
   have lk0:(0 :Int)≤(k:Int):=by omega
   have hx:bits .xor .u8 (gb xs k) (gb ys k)=xr (gb xs k) (gb ys k):=xr_of _ _ (HA.out k) (HB.out k)
   have hlen:((xorl xs ys).take k).length ≤1099511627776:=by simp;omega
   have SN:Hid ((xorl xs ys).take (k+1)=(xorl xs ys).take k ++ [xr (gb xs k) (gb ys k)]):=xorl_take xs ys HL.out k hlt'
   have HLEN:Hid (((xorl xs ys).take k).length ≤1099511627776):=hlen
   clear hca hcb hlen
   go_wp2
   go_region_held3 (fun w'=>w'.cell? ⟨b,off+k,none⟩=some (.int .u8 (gb xs k))∧w'.cell? ⟨b',off'+k,none⟩=some (.int .u8 (gb ys k)))
    (first
     |go_keep
     |(exact ⟨by rw [hbel'.cell n1];simpa using c1,by rw [hbel'.cell n2];simpa using c2⟩))
    ((refine step_push1 wr.drew rfl (.tmp 14) (.tmp 24) rfl w.heap.size (by simpa using hsz) _ _ (xr (gb xs k) (gb ys k)) rfl rfl hown HLEN.out ?_;intro v2 w2 hown' hbel'))
   go_wp2
   go_roundw
   case rel=>exact ⟨k+1,by omega,by go_num,by rw [SN.out];exact hown',hbel.drew.trans hbel'⟩
   case measure=>simp [intOf];omega
  ·have hks:k=xs.length:=by omega
   have e:Hid ((xorl xs ys).take k=xorl xs ys):=List.take_of_length_le (by rw [HZ.out];omega)
   rw [e.out] at hown
   go_wp2
   go_ret
   exact ⟨_,rfl,hown,hbel⟩
theorem rxor_any (va vb:Value) (xs ys:List Int) (w:World) (ha:Byt w va xs) (hb:Byt w vb ys) (hl:xs.length=ys.length) (hmax:xs.length≤1048576):
  Calls Tryz.prog 154 #[va,vb] w fun e w'=>∃ v,e=.returned v∧Byt w' v (xorl xs ys)∧Below w.heap.size w w':=
 (rxor_own va vb xs ys w ha hb hl hmax).mono fun _ _ ⟨v,he,ho,hbl⟩=>⟨v,he,ho.byt (xorl_all _ _ hl ha.all hb.all),hbl⟩
theorem rinvert_any (va:Value) (xs:List Int) (w:World) (ha:Byt w va xs) (hmax:xs.length≤65536):
  Calls Tryz.prog 127 #[va] w fun e w'=>∃ v,e=.returned v∧Byt w' v (inv xs)∧Below w.heap.size w w':=by
 have HA:=ha
 obtain ⟨ao,ca,rfl,ha1,ha2, -, -, -⟩:=ha
 have e:clamp (xs.length:Int) 65536=xs.length:=by unfold clamp;omega
 have E:=hdH (e)
 clear e
 rw [inv_xorl]
 go_enter Tryz.func127,Tryz.ntmps127
 go_wp2_with (first
  |(go_at_call 89;refine (rfill_any 255 _ _ (by decide)).mono ?_;rintro e w1 ⟨v1,rfl,hv1,hb1⟩;rw [E.out] at hv1;have hz1:=hb1.size)
  |(go_at_call 154;refine (rxor_any _ _ xs _ _ (HA.below hb1) hv1 (by simp) (by omega)).mono ?_;rintro e w2 ⟨v2,rfl,hv2,hb2⟩))
 go_ret
 exact ⟨_,rfl,hv2,hb1.trans (hb2.mono hz1)⟩
end Go.Proofs.YtmbgokmomkmgcaaGreatDoor
namespace Go.Proofs.YtmbgokmomkmgcaaGreatDoor.le
open Go.RowKit Go.Proofs.YtmbgokmomkmgcaaGreatDoor.he
set_option maxRecDepth 20000
structure Bk where
 o:Int
 u:Int
 l:Int
 e:Int
 h:Bool
 c:Bool
 b:Bool
 g:Bool
 k:Bool
def Bk.cs (x:Bk):List Value:=[.int .i64 x.o,.int .i64 x.u,.int .i64 x.l,.int .i64 x.e,.bool x.h,.bool x.c,.bool x.b,.bool x.g,.bool x.k]
theorem Bk.one (x:Bk):∀ v ∈ x.cs,v.oneCell'=true:=by
 intro v hv
 simp [Bk.cs] at hv
 rcases hv with rfl | rfl | rfl | rfl | rfl | rfl | rfl | rfl | rfl <;> rfl
def b0:Bk:=⟨0,0,0,0,false,false,false,false,false⟩
def bn:Bk:=⟨-1,0,0,0,false,false,false,false,false⟩
def up (f:Nat→Bk) (k:Nat) (x:Bk):Nat→Bk:=fun i=>if i=k then x else f i
section
variable {ops:Array Oper} {rest:List Oper} {a:Act} {Q:Exit→Act→World→Prop} {w:World} {d:Option Tmp} {ty:TypeId} {pos:String} {af:Array Edge} {gd:Option (Nat × Bool)}
theorem at_store {t:TypeId} {x y:Operand} (h:wpList Tryz.prog ops Q (⟨d,Op.store t x y,ty,pos,af,gd⟩ :: rest) a w):wpList Tryz.prog ops Q (⟨d,Op.store t x y,ty,pos,af,gd⟩ :: rest) a w:=h
theorem at_alloc {t:TypeId} (h:wpList Tryz.prog ops Q (⟨d,Op.alloc t,ty,pos,af,gd⟩ :: rest) a w):wpList Tryz.prog ops Q (⟨d,Op.alloc t,ty,pos,af,gd⟩ :: rest) a w:=h
end
theorem hdE {p:Prop} (h:p):Hid p:=h
def At (w:World) (d q:Nat) (cs:List Value):Prop:=w.rangeAt d q cs∧w.there d q cs.length
theorem At.heap {w w':World} {d q:Nat} {cs:List Value} (h:At w d q cs) (e:w'.heap[d]? =w.heap[d]?):At w' d q cs:=⟨range_heap h.1 e,there_heap h.2 e⟩
theorem At.cell {w:World} {d q:Nat} {cs:List Value} (h:At w d q cs) (j:Nat) (v:Value) (hv:cs[j]? =some v):w.cell? ⟨d,q+j,none⟩=some v:=h.1 j v hv
theorem At.free {w:World} {d q:Nat} {cs:List Value} (h:At w d q cs) (j:Nat) (hj:j<cs.length):w.frozen? ⟨d,q+j,none⟩=false:=(h.2 j hj).2
theorem At.lt {w:World} {d q:Nat} {cs:List Value} (h:At w d q cs) (hl:0<cs.length):d<w.heap.size:=range_lt h.1 hl
theorem At.set {w:World} {d q:Nat} {cs:List Value} (h:At w d q cs) (j:Nat) (hj:j<cs.length) (u:Value):At (w.setCell ⟨d,q+j,none⟩ u) d q (cs.set j u):=by
 have hc:=h.cell j _ (List.getElem?_eq_getElem hj)
 refine ⟨fun i v hv=>?_,fun i hi=>?_⟩
 ·rw [List.getElem?_set] at hv
  by_cases e:j=i
  ·subst e
   rw [if_pos rfl,if_pos hj] at hv
   cases hv
   exact World.cell?_setCell_same _ _ _ hc
  ·rw [if_neg e] at hv
   rw [World.cell?_setCell_other _ _ _ _ (by intro q;injection q with _ q2;omega)]
   exact h.cell i v hv
 ·rw [List.length_set] at hi
  refine ⟨?_,by rw [World.frozen?_setCell];exact h.free i hi⟩
  by_cases e:j=i
  ·subst e
   rw [World.cell?_setCell_same _ _ _ hc];rfl
  ·rw [World.cell?_setCell_other _ _ _ _ (by intro q;injection q with _ q2;omega),h.cell i _ (List.getElem?_eq_getElem hi)];rfl
theorem nine {w:World} {d q:Nat} {x:Bk} (h:w.rangeAt d q x.cs):w.cell? ⟨d,q,none⟩=some (.int .i64 x.o)∧w.cell? ⟨d,q+1,none⟩=some (.int .i64 x.u)∧w.cell? ⟨d,q+2,none⟩=some (.int .i64 x.l)∧w.cell? ⟨d,q+3,none⟩=some (.int .i64 x.e)∧w.cell? ⟨d,q+4,none⟩=some (.bool x.h)∧w.cell? ⟨d,q+5,none⟩=some (.bool x.c)∧w.cell? ⟨d,q+6,none⟩=some (.bool x.b)∧w.cell? ⟨d,q+7,none⟩=some (.bool x.g)∧w.cell? ⟨d,q+8,none⟩=some (.bool x.k):=
 ⟨h 0 _ rfl,h 1 _ rfl,h 2 _ rfl,h 3 _ rfl,h 4 _ rfl,h 5 _ rfl,h 6 _ rfl,h 7 _ rfl,h 8 _ rfl⟩
def Wrt (d q:Nat) (w w':World):Prop:=w.grownBy w' (some d)∧∀ j,(j<q∨q+9≤j)→w'.cell? ⟨d,j,none⟩=w.cell? ⟨d,j,none⟩∧w'.frozen? ⟨d,j,none⟩=w.frozen? ⟨d,j,none⟩
theorem Wrt.refl (d q:Nat) (w:World):Wrt d q w w:=⟨⟨rfl,rfl,rfl,Nat.le_refl _,fun _ _ _=>rfl⟩,fun _ _=>⟨rfl,rfl⟩⟩
theorem grown_trans {a b c:World} {r:Option Nat} (h:a.grownBy b r) (h':b.grownBy c r):a.grownBy c r:=
 ⟨h'.os.trans h.os,h'.tape.trans h.tape,h'.output.trans h.output,Nat.le_trans h.size h'.size,fun k hk hr=>(h'.block k (Nat.lt_of_lt_of_le hk h.size) hr).trans (h.block k hk hr)⟩
theorem grown_below {a b:World} {r:Option Nat} (h:Below a.heap.size a b):a.grownBy b r:=⟨h.os,h.tape,h.output,h.size,fun k hk _=>h.block k hk⟩
theorem grown_cell (w:World) (d j:Nat) (u:Value):w.grownBy (w.setCell ⟨d,j,none⟩ u) (some d):=by
 have hb:=(Below.refl 0 w).setCell (p:=⟨d,j,none⟩) (Nat.zero_le _) u
 exact ⟨hb.os,hb.tape,hb.output,hb.size,fun k _ hr=>Below.heap_setCell w ⟨d,j,none⟩ u k (fun e=>hr (by rw [e]))⟩
theorem Wrt.set {d q:Nat} {w w':World} (h:Wrt d q w w') (j:Nat) (hj:j<9) (u:Value):Wrt d q w (w'.setCell ⟨d,q+j,none⟩ u):=by
 refine ⟨grown_trans h.1 (grown_cell w' d (q+j) u),fun i hi=>?_⟩
 rw [World.cell?_setCell_other _ _ _ _ (by intro e;injection e with _ e2;omega),World.frozen?_setCell]
 exact h.2 i hi
def Rws (w:World) (d n:Nat) (f:Nat→Bk):Prop:=∀ i,i<n→At w d (i*9) (f i).cs
theorem Rws.below {w w':World} {d n:Nat} {f:Nat→Bk} (h:Rws w d n f) (hb:Below w.heap.size w w'):Rws w' d n f:=fun i hi=>(h i hi).heap (hb.block d ((h i hi).lt (Nat.succ_pos _)))
theorem Rws.put {w w':World} {d n:Nat} {f:Nat→Bk} (h:Rws w d n f) (k:Nat) (x:Bk) (hx:At w' d (k*9) x.cs) (hw:Wrt d (k*9) w w'):Rws w' d n (up f k x):=by
 intro i hi
 by_cases e:i=k
 ·subst e
  rw [show up f i x i=x by simp [up]]
  exact hx
 ·rw [show up f k x i=f i by simp [up,e]]
  have hl:∀ y:Bk,y.cs.length=9:=fun y=>rfl
  have ap:∀ j,j<9→(i*9+j<k*9∨k*9+9≤i*9+j):=fun j hj=>by omega
  refine ⟨fun j v hv=>?_,fun j hj=>?_⟩
  ·have hj:j<9:=by have:=(List.getElem?_eq_some_iff.1 hv).1;rwa [hl] at this
   rw [(hw.2 _ (ap j hj)).1];exact (h i hi).1 j v hv
  ·rw [hl] at hj
   rw [(hw.2 _ (ap j hj)).1,(hw.2 _ (ap j hj)).2];exact (h i hi).2 j (by rw [hl];exact hj)
def Led (w:World) (c d n:Nat) (f:Nat→Bk):Prop:=Vr w c [.slice (some ⟨d,0,none⟩) n n]∧Rws w d n f∧c≠d
abbrev pt (c:Nat):Value:=.pointer (some ⟨c,0,none⟩)
theorem Led.lt {w:World} {c d n:Nat} {f:Nat→Bk} (h:Led w c d n f):c<w.heap.size:=range_lt h.1.1 (Nat.succ_pos _)
theorem Led.cell {w:World} {c d n:Nat} {f:Nat→Bk} (h:Led w c d n f):w.cell? ⟨c,0,none⟩=some (.slice (some ⟨d,0,none⟩) n n):=h.1.cell 0 _ rfl
theorem Led.below {w w':World} {c d n:Nat} {f:Nat→Bk} (h:Led w c d n f) (hb:Below w.heap.size w w'):Led w' c d n f:=⟨h.1.below hb h.lt,h.2.1.below hb,h.2.2⟩
theorem Led.put {w w':World} {c d n:Nat} {f:Nat→Bk} (h:Led w c d n f) (k:Nat) (x:Bk) (hx:At w' d (k*9) x.cs) (hw:Wrt d (k*9) w w'):Led w' c d n (up f k x):=
 ⟨h.1.heap (hw.1.block c h.lt (by intro e;exact h.2.2 (Option.some.inj e))),h.2.1.put k x hx hw,h.2.2⟩
def Lq (w:World) (v:Value) (n:Nat) (f:Nat→Bk):Prop:=(v=.pointer none∧n=0)∨∃ c d,v=pt c∧Led w c d n f
end Go.Proofs.YtmbgokmomkmgcaaGreatDoor.le
namespace Go.Proofs.YtmbgokmomkmgcaaGreatDoor.le
open Go.RowKit Go.Proofs.YtmbgokmomkmgcaaGreatDoor.he
set_option maxRecDepth 20000
theorem len_any (v:Value) (n:Nat) (f:Nat→Bk) (w:World) (h:Lq w v n f):Calls Tryz.prog 19 #[v] w fun e w'=>e=.returned (.int .i64 n)∧w'=w:=by
 rcases h with ⟨rfl,rfl⟩ | ⟨c,d,rfl,hl⟩
 ·go_enter Tryz.func19,Tryz.ntmps19
  go_wp2
  go_ret
  exact ⟨rfl,rfl⟩
 ·have hc:=hl.cell
  clear hl
  go_enter Tryz.func19,Tryz.ntmps19
  go_wp2
  go_ret
  exact ⟨rfl,rfl⟩
theorem has_any (v:Value) (n:Nat) (f:Nat→Bk) (w:World) (b:Int) (h:Lq w v n f) (q:Bool) (hq:q=decide (0≤b∧b<n)):Calls Tryz.prog 51 #[v,.int .i64 b] w fun e w'=>e=.returned (.bool q)∧w'=w:=by
 have S:Hid (Calls Tryz.prog 19 #[v] w fun e w'=>e=.returned (.int .i64 n)∧w'=w):=len_any v n f w h
 clear h
 by_cases h0:0≤b
 ·by_cases h1:b<(n:Int)
  ·have e:q=true:=by rw [hq];exact decide_eq_true ⟨h0,h1⟩
   subst e
   clear hq
   go_enter Tryz.func51,Tryz.ntmps51
   go_wp2_with (go_at_call 19;refine S.out.mono ?_;rintro e w' ⟨rfl,hw⟩;obtain rfl:=hw.symm)
   go_ret
   exact ⟨rfl,rfl⟩
  ·have e:q=false:=by rw [hq];exact decide_eq_false (by omega)
   have h2:(n:Int)≤b:=by omega
   have h3:decide (b<(n:Int))=false:=decide_eq_false (by omega)
   subst e
   clear hq h1
   go_enter Tryz.func51,Tryz.ntmps51
   go_wp2_with (go_at_call 19;refine S.out.mono ?_;rintro e w' ⟨rfl,hw⟩;obtain rfl:=hw.symm)
   go_ret
   exact ⟨rfl,rfl⟩
 ·have e:q=false:=by rw [hq];exact decide_eq_false (by omega)
  subst e
  clear hq
  go_enter Tryz.func51,Tryz.ntmps51
  go_wp2_with (go_at_call 19;refine S.out.mono ?_;rintro e w' ⟨rfl,hw⟩;obtain rfl:=hw.symm)
  go_ret
  exact ⟨rfl,rfl⟩
theorem rowy_lblk:Rowy 92 9:=⟨⟨_,Tryz.underlying92,rfl⟩,by kernel_rfl⟩
theorem zero_lblk:(Tryz.prog.info? 92).map (fun i=>(i.zero,i.size))=some (some (.agg b0.cs.toArray),b0.cs.length):=by kernel_rfl
theorem size_lblk:(Tryz.prog.info? 92).map (·.size)=some 9:=by kernel_rfl
section
variable {ops:Array Oper} {C:World→Prop} {K:Act→Prop} {o:Oper} {a:Act}
end
end Go.Proofs.YtmbgokmomkmgcaaGreatDoor.le
namespace Go.Proofs.YtmbgokmomkmgcaaGreatDoor.le
open Go.RowKit Go.Proofs.YtmbgokmomkmgcaaGreatDoor.he
set_option maxRecDepth 20000
section
variable {ops:Array Oper} {rest:List Oper} {o:Oper} {a:Act} {Q:Exit→Act→World→Prop}
theorem make_lawE (w:World) (hg:o.guard=none) (l c:Operand) (hop:o.op=Op.makeSlice 141 l c)
  (L:Int) (n:Nat) (hl:a.eval l=.int .i64 L) (hc:a.eval c=.int .i64 L) (hL:L=(n:Int)) (hn:n≤64)
  (hK:∀ w',Rws w' w.heap.size n (fun _=>b0)→Below w.heap.size w w'→w.heap.size<w'.heap.size→wpList Tryz.prog ops Q rest (a.put o.dst (.slice (some ⟨w.heap.size,0,none⟩) n n)) w'):
  wpList Tryz.prog ops Q (o :: rest) a w:=by
 obtain ⟨i0,hi,hz0,hz1,hz2⟩:=info_parts (show (Tryz.prog.info? 92).map (fun i=>(i.zero,i.size,i.bytes))=some (some (.agg b0.cs.toArray),9,40) by kernel_rfl)
 refine wpList_make_full w hg l c 141 hop w.heap.size 92 i0 (.agg b0.cs.toArray) 9 Tryz.underlying141 hi hz0 hz1 .i64 .i64 L L n hl hc hL hL (by rw [hz2];omega) (by simp only [maxLen];omega) (Nat.le_refl _) fun w' h1 h2=>?_
 have hlt:w.heap.size<w'.heap.size:=(h1.lt w.heap.size rfl).2
 have hcell:∀ i j,i<n→j<9→∀ v,b0.cs[j]? =some v→w'.cell? ⟨w.heap.size,i*9+j,none⟩=some v:=fun i j hi hj v hv=>by
  rw [h1.cellAt (i*9+j) (by omega)]
  have hm:(i*9+j)%9=j:=by omega
  have hs:(Value.agg b0.cs.toArray).cells.size =9:=rfl
  rw [Array.getElem?_toList]
  unfold madeCells
  rw [Array.getElem?_map,Array.getElem?_range,if_pos (by omega)]
  simp only [Option.map_some,hs,hm]
  show some (b0.cs.toArray[j]!)=some v
  rw [←hv]
  have:j=0∨j=1∨j=2∨j=3∨j=4∨j=5∨j=6∨j=7∨j=8:=by omega
  rcases this with rfl | rfl | rfl | rfl | rfl | rfl | rfl | rfl | rfl <;> rfl
 refine hK w' (fun i hi=>⟨fun j v hv=>?_,fun j hj=>⟨?_,h1.frozenAt _⟩⟩) ((Below.refl _ w).grown h2 (Nat.le_refl _) (fun k hk=>by cases hk)) hlt
 ·exact hcell i j hi (List.getElem?_eq_some_iff.1 hv).1 v hv
 ·rw [hcell i j hi hj _ (List.getElem?_eq_getElem hj)];rfl
end
def nk (k:Nat):Nat→Bk:=fun i=>if i<k then bn else b0
theorem nk_up (k:Nat):up (nk k) k bn=nk (k+1):=by
 funext i
 unfold up nk
 by_cases h:i=k
 ·subst h;simp
 ·by_cases h2:i<k
  ·rw [if_neg h,if_pos h2,if_pos (by omega)]
  ·rw [if_neg h,if_neg h2,if_neg (by omega)]
theorem new_yes (n:Nat) (w:World) (hn:n≤64):Calls Tryz.prog 69 #[.int .i64 n] w fun e w'=>∃ c d,e=.returned (.tuple #[pt c,.int .i64 0])∧Led w' c d n (fun _=>bn)∧w.heap.size≤c∧w.heap.size≤d∧d<w'.heap.size∧Below w.heap.size w w':=by
 have n0:¬(n:Int)<0:=by omega
 have n1:¬(n:Int)>64:=by omega
 have t0:=tR
 go_enter Tryz.func69,Tryz.ntmps69
 go_wp2_with (first
  |(have qq:=t1;refine box_lawC _ [.slice (some ⟨w.heap.size,0,none⟩) n n] rfl ?_;intro w2 X2 B2 l2;have V2:=hdH (X2);have HR:=hdH (HR1.out.below B2);have c2:=X2.cell 0 _ rfl;clear X2 t1)
  |(have qq:=t0;refine make_lawE _ rfl (.tmp 12) (.tmp 12) rfl n n rfl rfl rfl hn ?_;intro w1 R1 B1 l1;have HR1:=hdH (R1);clear R1 t0;have t1:=tR))
 go_loopw [21] (fun i wr=>∃ k:Nat,k≤n∧i=.int .i64 k∧Vr wr w1.heap.size [.slice (some ⟨w.heap.size,0,none⟩) n n]∧Rws wr w.heap.size n (nk k)∧Below w.heap.size w wr∧w2.heap.size≤wr.heap.size) (fun i _=>n-(intOf i).toNat)
 case atStart=>exact ⟨0,Nat.zero_le _,rfl,V2.out,HR.out,B1.trans (B2.mono (by omega)),Nat.le_refl _⟩
 case round=>
  clear c2 HR V2
  obtain ⟨k,hk,rfl,v2,hr,hb,hs⟩:=hrel
  have HB:=hdH (hb)
  have V2:=hdH (v2)
  have HR:=hdH (hr)
  have c2:=v2.cell 0 _ rfl
  have k0:(0 :Int)≤(k:Int):=by omega
  clear hb v2 hr
  by_cases hlt:k<n
  ·have k1:(k:Int)<(n:Int):=by omega
   have HA:Hid (At wr w.heap.size (k*9) b0.cs):=by have:=HR.out k hlt;rwa [show nk k k=b0 by simp [nk]] at this
   have nn:=nine HA.out.1
   have fz:=HA.out.free 0 (by decide)
   rw [Nat.add_zero] at fz
   go_wp2
   go_roundw
   case rel=>
    refine ⟨k+1,by omega,by go_num,V2.out.other _ (by show w1.heap.size≠w.heap.size;omega),?_,HB.out.setCell (p:=⟨w.heap.size,k*9,none⟩) (Nat.le_refl _) _,by rw [World.size_setCell];exact hs⟩
    rw [←nk_up]
    exact HR.out.put k bn (HA.out.set 0 (by decide) _) ((Wrt.refl _ _ _).set 0 (by omega) _)
   case measure=>simp [intOf];omega
  ·have e:k=n:=by omega
   subst e
   go_wp2
   go_ret2
   refine ⟨_,_,rfl,⟨V2.out,fun i hi=>?_,by omega⟩,by omega,Nat.le_refl _,by omega,HB.out⟩
   have:=HR.out i hi
   rwa [show nk k i=bn by simp [nk,hi]] at this
theorem ns_any (s:Int) (w:World) (q:Bool) (hq:q=decide (0≤s∧s<4)):Calls Tryz.prog 147 #[.int .i64 s] w fun e w'=>e=.returned (.bool q)∧w'=w:=by
 by_cases h0:0≤s
 ·by_cases h1:s<4
  ·have e:q=true:=by rw [hq];exact decide_eq_true ⟨h0,h1⟩
   subst e
   clear hq
   go_enter Tryz.func147,Tryz.ntmps147
   go_wp2
   go_ret
   exact ⟨rfl,rfl⟩
  ·have e:q=false:=by rw [hq];exact decide_eq_false (by omega)
   subst e
   clear hq
   go_enter Tryz.func147,Tryz.ntmps147
   go_wp2
   go_ret
   exact ⟨rfl,rfl⟩
 ·have e:q=false:=by rw [hq];exact decide_eq_false (by omega)
  subst e
  clear hq
  go_enter Tryz.func147,Tryz.ntmps147
  go_wp2
  go_ret
  exact ⟨rfl,rfl⟩
theorem change_yes (c d n k:Nat) (f:Nat→Bk) (w:World) (h:Led w c d n f) (hk:k<n) (y:Bk) (K:FuncId) (p:Array Value) (h1:∀ (q:Array Value) (w:World),(callFunc K q).run Tryz.prog w=.ok (.enter K q) w)
  (hm:Calls Tryz.prog K (#[.pointer (some ⟨d,k*9,none⟩)] ++ p) w fun e w'=>e=.returned (.tuple #[])∧At w' d (k*9) y.cs∧Wrt d (k*9) w w'):
  Calls Tryz.prog 113 #[pt c,.int .i64 k,.func (.func K) #[] p] w fun e w'=>e=.returned (.int .i64 0)∧Led w' c d n (up f k y)∧w.grownBy w' (some d):=by
 have S:Hid (Calls Tryz.prog 51 #[pt c,.int .i64 k] w fun e w'=>e=.returned (.bool true)∧w'=w):=has_any (pt c) n f w k (.inr ⟨c,d,rfl,h⟩) true (decide_eq_true (by omega)).symm
 have HM:=hdH (hm)
 have HL:=hdH (h)
 have c0:=h.cell
 have k0:(0 :Int)≤(k:Int):=by omega
 have k1:(k:Int)<(n:Int):=by omega
 clear h hm
 have t0:=tR
 go_enter Tryz.func113,Tryz.ntmps113
 go_wp2_with (first
  |(have qq:=t1;refine HM.out.mono ?_;rintro e w2 ⟨rfl,A2,W2⟩;clear t1)
  |(have qq:=t0;go_at_call 51;refine S.out.mono ?_;rintro e w' ⟨rfl,hw⟩;obtain rfl:=hw.symm;clear t0;have t1:=tR))
 go_ret
 exact ⟨rfl,HL.out.put k y A2 W2,W2.1⟩
end Go.Proofs.YtmbgokmomkmgcaaGreatDoor.le
