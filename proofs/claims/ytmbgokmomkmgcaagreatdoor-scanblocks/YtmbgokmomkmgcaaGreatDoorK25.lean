/- Parts of the proof: what ScanBlocks reaches. No claim of its own. -/
import Derived.Lib.MakeNoZero
import Derived.Laws.AppendOwnNone
import Derived.Deep.DeepCutAuto
import Derived.ArgAppend
import Derived.WalkKit
import Derived.WalkSmall
import Derived.ProofKit
import Derived.OpenShut
import Derived.BigQuiet
import Derived.Deep.QuietTactic
import Derived.Deep.RegionHeld3
import Derived.Lib.SliceRun
import Derived.Deep.WholeRow
import Derived.Deep.MidRow
import Derived.Laws.StructEq
import Derived.Test.YtmbgokmomkmgcaaGreatDoorK00
import Derived.Test.YtmbgokmomkmgcaaGreatDoorK01
import Derived.Test.YtmbgokmomkmgcaaGreatDoorK02
import Derived.Test.YtmbgokmomkmgcaaGreatDoorK03
import Derived.Test.YtmbgokmomkmgcaaGreatDoorK08
import Derived.Test.YtmbgokmomkmgcaaGreatDoorK09
import Derived.Test.YtmbgokmomkmgcaaGreatDoorK10
import Derived.Test.YtmbgokmomkmgcaaGreatDoorK11
import Derived.Test.YtmbgokmomkmgcaaGreatDoorK12
import Derived.Test.YtmbgokmomkmgcaaGreatDoorK13
import Derived.Test.YtmbgokmomkmgcaaGreatDoorK14
import Derived.Test.YtmbgokmomkmgcaaGreatDoorK15
import Derived.Test.YtmbgokmomkmgcaaGreatDoorK18
set_option maxHeartbeats 8000000
namespace Go.Proofs.YtmbgokmomkmgcaaGreatDoor.na
open Go.RowKit Go.Proofs.YtmbgokmomkmgcaaGreatDoor.fa
set_option maxRecDepth 20000
section
variable {M:Nat→Bool} {w:World} {c r d:Nat} {q:Nat→Nat} {pv tv:Value} {g:List Int} {N P S:Nat} {pl:Pln} {s:St} {l:List Opn}
theorem raw_s (N P:Nat) (s:St) (l:List Opn):xs (raw N P s l)=scr s:=rfl
theorem pprog_no (h:Lay M w c r d q pv tv g N P S pl (raw N P s l)) (hLs:Lsp N P s) (b p:Int) (vb:Value) (ys:List Int) (hy:Byt w vb ys) (x:Int) (hx:pno N P S s b p ys=some x):
  Calls Tryz.prog 56 #[.pointer (some ⟨c,0,none⟩),.agg (ints .i64 [b,p]),vb] w fun e w'=>e=.returned (.int .i64 x)∧Below w.heap.size w w':=by
 unfold pno at hx
 cases ho:off s with
 |true=>
  rw [if_pos ho] at hx
  cases hx
  exact program_off h [b,p] vb ys hy (by rw [raw_o,ho];rfl)
 |false=>
  have hon:xo (raw N P s l)=true:=by rw [raw_o,ho];rfl
  rw [if_neg (by rw [ho];simp)] at hx
  by_cases hg:0≤b∧b<N∧0≤p∧p<P
  ·obtain ⟨q1,q2,q3,q4⟩:=hg
   obtain ⟨b',rfl⟩:∃ b':Nat,b=b':=⟨b.toNat,by omega⟩
   obtain ⟨p',rfl⟩:∃ p':Nat,p=p':=⟨p.toNat,by omega⟩
   have hb':b'<N:=by omega
   have hp':p'<P:=by omega
   by_cases hl:ys.length=S
   ·rw [if_neg (by simp;omega)] at hx
    simp only [Int.toNat_natCast] at hx
    have hx0:x≠0:=by
     intro z
     subst z
     split at hx
     ·cases hx
     ·split at hx <;> cases hx
    refine program_ref h [(b':Int),(p':Int)] rfl vb ys hy hon b' p' rfl rfl hb' hp' hl x hx0 (fun z=>?_) (fun z1 z2 z3=>?_) (fun z1 z2 z3=>?_)
    ·rw [raw_s,raw_p N P s l b' p' hp'] at z
     rw [if_pos z] at hx
     cases hx;rfl
    ·rw [raw_s] at z1
     rw [raw_p N P s l b' p' hp'] at z2
     rw [bhd_lsp hLs l b' p' hb'] at z3
     rw [if_neg (by rw [z1,z2];simp),if_pos ⟨z2,z3⟩] at hx
     cases hx;rfl
    ·rw [raw_s] at z1
     rw [raw_p N P s l b' p' hp'] at z2 z3
     rw [bhd_lsp hLs l b' p' hb'] at z3
     rw [if_neg (by rw [z1];simp;omega),if_neg z3] at hx
     cases hx
   ·rw [if_pos (by simp;omega)] at hx
    cases hx
    exact program_len h [(b':Int),(p':Int)] rfl vb ys hy hon b' p' rfl rfl hb' hp' hl
  ·rw [if_pos (by intro z;exact hg ⟨z.1,z.2.1,z.2.2.1,z.2.2.2.1⟩)] at hx
   cases hx
   exact program_no h [b,p] rfl vb ys hy hon hg
theorem pprog_do (h:Lay M w c r d q pv tv g N P S pl (raw N P s l)) (hM:Mlt M w) (hW:Wf N P S s) (hLs:Lsp N P s) (hll:l.length=ops s) (hn:ops s≤1000000) (b p:Nat) (vb:Value) (ys:List Int) (hy:Byt (hid M w) vb ys) (hx:pno N P S s b p ys=none):
  Calls Tryz.prog 56 #[.pointer (some ⟨c,0,none⟩),.agg (ints .i64 [(b:Int),(p:Int)]),vb] w (Done M w c r d q pv g N P S pl (ans (pl (ops s))) (raw N P (pdo S pl s b p ys) (l ++ [opn 1 b p ys (ans (pl (ops s)))]))):=by
 obtain ⟨q0,⟨q1,q2,q3,q4,q5⟩,q6,q7,q8⟩:=pno_none hx
 simp only [Int.toNat_natCast] at q6 q7 q8
 have hb:b<N:=by omega
 have hp:p<P:=by omega
 have hu:=((hW b hb).1 p hp).2.2.1
 have z:=program_do h hM vb ys hy (by rw [raw_o,q0];rfl) b p hb hp q5 q6 (by rw [raw_p N P s l b p hp];omega) (by rw [raw_p N P s l b p hp,bhd_lsp hLs l b p hb];exact q8) (by rw [raw_t,hll];exact hn)
 rw [raw_pdo hW pl b p hb hp ys l _ hll,raw_t,hll] at z
 exact z
end
end Go.Proofs.YtmbgokmomkmgcaaGreatDoor.na
namespace Go.Proofs.YtmbgokmomkmgcaaGreatDoor.na
open Go.RowKit Go.Proofs.YtmbgokmomkmgcaaGreatDoor.fa
set_option maxRecDepth 20000
theorem byt_put {M:Nat→Bool} {w w':World} {v:Value} {xs:List Int} {x:Nat} (h:Byt (hid M w) v xs) (hx:∀ j y,w.cell? ⟨x,j,none⟩≠some (.int .u8 y)) (hg:w.grownBy w' (some x)):Byt (hid M w') v xs:=by
 obtain ⟨ao,cap,rfl,h1,h2,h3,h4,h5⟩:=h
 refine ⟨ao,cap,rfl,h1,h2,h3,h4,fun hp=>?_⟩
 obtain ⟨b,off,rfl,hc⟩:=h5 hp
 refine ⟨b,off,rfl,fun t ht=>?_⟩
 obtain ⟨c1,c2⟩:=hid_cell (hc t ht)
 have hb:b≠x:=fun e=>by rw [e] at c1;exact hx _ _ c1
 have hl:b<w.heap.size:=World.block_lt_of_cell? w _ c1
 refine cell_hid ?_ c2
 rw [World.cell?_of_block (w:=w) (w':=w') (a:=⟨b,off+t,none⟩) (hg.block b hl (by simpa using hb))]
 exact c1
section
variable {M:Nat→Bool} {w:World} {c r d:Nat} {q:Nat→Nat} {pv tv:Value} {g:List Int} {N P S:Nat} {pl:Pln} {X:Raw}
theorem Lay.put {w':World} {x:Nat} (h:Lay M w c r d q pv tv g N P S pl X) (hg:w.grownBy w' (some x)) (hx:M x=false) (hb:∀ j y,w.cell? ⟨x,j,none⟩≠some (.int .u8 y)) (hP:Pla (hid M w') pv pl):Lay M w' c r d q pv tv g N P S pl X:=by
 obtain ⟨h1,h2,h3,h4,h5,h6,h7,⟨dv,t1,t2,t3⟩,h9,h10⟩:=h
 have ne:∀ k,M k=true→some k≠some x:=fun k hk e=>by
  have e:k=x:=by injection e
  rw [e,hx] at hk
  cases hk
 refine ⟨h1,h2,h3,h4.kept hg h10.1 (ne _ h2.1.1),h5.kept hg h10.2.2.1 (ne _ h2.1.2.2.1),h6.kept hg h10.2.1 (ne _ h2.1.2.1),h7.kept hg h10.2.2.2 (fun b hb=>ne _ (h2.1.2.2.2 b hb)),⟨dv,t1.kept hg (own_ne fun k hk e=>?_),fun i hi=>byt_put (t2 i hi) hb hg,t3⟩,hP,h10.up hg.size⟩
 have:=t3 k hk
 rw [e,hx] at this
 cases this
end
end Go.Proofs.YtmbgokmomkmgcaaGreatDoor.na
namespace Go.Proofs.YtmbgokmomkmgcaaGreatDoor.sc
open Go.RowKit Go.Proofs.YtmbgokmomkmgcaaGreatDoor.fa Go.Proofs.YtmbgokmomkmgcaaGreatDoor.he
set_option maxRecDepth 20000
theorem hid_more {M M':Nat→Bool} (w:World) (hM:∀ k,M' k=true→M k=true):na.hid M (na.hid M' w)=na.hid M w:=by
 unfold na.hid
 congr 1
 apply Array.ext
 ·simp
 ·intro i h1 h2
  simp
  cases q:M i with
  |true=>simp
  |false=>
   cases q':M' i with
   |false=>simp
   |true=>rw [hM i q'] at q;cases q
theorem hid_ref {M:Nat→Bool} {w:World} {v:Value} {g:List Int} {N P:Nat} {pl:na.Pln} {s:na.St} (h:na.Ref (na.hid M w) v g N P pl s):na.Ref w v g N P pl s:=by
 obtain ⟨bv,pv,gv,uv,rfl,h1,h2,h3⟩:=h
 exact ⟨bv,pv,gv,uv,rfl,na.hid_rws h1,fun b hb=>na.hid_blk (h2 b hb),na.hid_pla h3⟩
theorem ref_less {M M':Nat→Bool} {w:World} {v:Value} {g:List Int} {N P:Nat} {pl:na.Pln} {s:na.St} (h:na.Ref (na.hid M w) v g N P pl s) (hM:∀ k,M' k=true→M k=true):na.Ref (na.hid M' w) v g N P pl s:=by
 rw [←hid_more w hM] at h
 exact hid_ref h
def M6 (M:Nat→Bool) (g6:Nat):Nat→Bool:=fun k=>M k || decide (k=g6)
theorem m6_lt {M:Nat→Bool} {w:World} {g6:Nat} {w3:World} (hM:na.Mlt M w) (h:w.heap.size≤w3.heap.size) (h6:g6<w3.heap.size):na.Mlt (M6 M g6) w3:=fun k hk=>by
 simp [M6] at hk
 rcases hk with hk | hk
 ·have:=hM k hk;omega
 ·omega
def Kp (R:World→Prop):Prop:=∀ a b,Below a.heap.size a b→R a→R b
def vk (L:List (Nat × List Value)) (i:Nat):Nat:=(L.getD i (0,[])).1
def vc (L:List (Nat × List Value)) (i:Nat):List Value:=(L.getD i (0,[])).2
def Vs (R:World→Prop) (w0:World) (M0:Nat→Bool) (w:World) (L:List (Nat × List Value)):Prop:=
 ∃ M,R (na.hid M w)∧na.Mlt M w∧(∀ k,M0 k=true→M k=true)∧Kp R∧Below w0.heap.size w0 w∧
  (∀ i,i<L.length→Vr w (vk L i) (vc L i)∧M (vk L i)=true∧w0.heap.size≤vk L i∧vk L i<w.heap.size)∧∀ i j,i<j→j<L.length→vk L i<vk L j
section
variable {R:World→Prop} {w0 w w':World} {M0:Nat→Bool} {L L':List (Nat × List Value)}
theorem Vs.vr (h:Vs R w0 M0 w L) (i:Nat) {b:Nat} {cs:List Value} (hb:vk L i=b) (hc:vc L i=cs) (hi:i<L.length):Vr w b cs:=by
 subst hb;subst hc
 obtain ⟨M, -, -, -, -, -,h5, -⟩:=h
 exact (h5 i hi).1
theorem Vs.below (h:Vs R w0 M0 w L) (hb:Below w.heap.size w w'):Vs R w0 M0 w' L:=by
 obtain ⟨M,h1,h2,h3,h4,hB,h5,h6⟩:=h
 exact ⟨M,h4 _ _ (na.below_hid hb) h1,fun k hk=>Nat.lt_of_lt_of_le (h2 k hk) hb.size,h3,h4,hB.trans (hb.mono hB.size),fun i hi=>⟨(h5 i hi).1.below hb (h5 i hi).2.2.2,(h5 i hi).2.1,(h5 i hi).2.2.1,Nat.lt_of_lt_of_le (h5 i hi).2.2.2 hb.size⟩,h6⟩
theorem vk_old {x:Nat × List Value} {i:Nat} (h:i<L.length):vk (L ++ [x]) i=vk L i∧vc (L ++ [x]) i=vc L i:=by
 simp [vk,vc,List.getD,List.getElem?_append_left h]
theorem vk_new {x:Nat × List Value}:vk (L ++ [x]) L.length=x.1∧vc (L ++ [x]) L.length=x.2:=by
 simp [vk,vc,List.getD]
theorem Vs.new (h:Vs R w0 M0 w L) {cs:List Value} (hV:Vr w' w.heap.size cs) (hb:Below w.heap.size w w') (hl:w.heap.size<w'.heap.size):Vs R w0 M0 w' (L ++ [(w.heap.size,cs)]):=by
 obtain ⟨M,h1,h2,h3,h4,hB,h5,h6⟩:=h
 have h1':R (na.hid (M6 M w.heap.size) w'):=h4 _ _ ((na.Frm.of_below hb).hid fun k hk=>by
  have:k≠w.heap.size:=by omega
  simp [M6,this]) h1
 refine ⟨M6 M w.heap.size,h1',m6_lt h2 hb.size hl,fun k hk=>by simp [M6,h3 k hk],h4,hB.trans (hb.mono hB.size),fun i hi=>?_,fun i j hij hj=>?_⟩
 ·rw [List.length_append,List.length_singleton] at hi
  by_cases e:i<L.length
  ·rw [(vk_old e).1,(vk_old e).2]
   obtain ⟨a,b,c,d⟩:=h5 i e
   exact ⟨a.below hb d,by simp [M6,b],c,Nat.lt_of_lt_of_le d hb.size⟩
  ·obtain rfl:i=L.length:=by omega
   rw [vk_new.1,vk_new.2]
   exact ⟨hV,by simp [M6],hB.size,hl⟩
 ·rw [List.length_append,List.length_singleton] at hj
  by_cases e:j<L.length
  ·rw [(vk_old e).1,(vk_old (by omega)).1];exact h6 i j hij e
  ·obtain rfl:j=L.length:=by omega
   rw [vk_new.1,(vk_old hij).1];exact (h5 i hij).2.2.2
theorem Vs.kept (h:Vs R w0 M0 w L):Kp R:=by
 obtain ⟨M, -, -, -,h4, -⟩:=h
 exact h4
end
section
variable {ops:Array Oper} {rest:List Oper} {a:Act} {Q:Exit→Act→World→Prop} {R:World→Prop} {w0 w:World} {M0:Nat→Bool} {L:List (Nat × List Value)} {d:Option Tmp} {x y:Operand} {t ty:TypeId} {pos:String} {af:Array Edge}
end
end Go.Proofs.YtmbgokmomkmgcaaGreatDoor.sc
