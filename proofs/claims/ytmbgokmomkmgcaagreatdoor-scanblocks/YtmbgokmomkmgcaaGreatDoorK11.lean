/- Parts of the proof: what ScanBlocks reaches. No claim of its own. -/
import Derived.Deep.RegionHeld3
import Derived.Laws.AppendOwnNone
import Derived.Lib.SliceRun
import Derived.WalkKit
import Derived.WalkSmall
import Derived.ProofKit
import Derived.OpenShut
import Derived.BigQuiet
import Derived.Deep.QuietTactic
import Derived.Deep.WholeRow
import Derived.Deep.MidRow
import Derived.Laws.StructEq
import Derived.ArgAppend
import Derived.Deep.DeepCutAuto
import Derived.Test.YtmbgokmomkmgcaaGreatDoorK00
import Derived.Test.YtmbgokmomkmgcaaGreatDoorK02
import Derived.Test.YtmbgokmomkmgcaaGreatDoorK08
import Derived.Test.YtmbgokmomkmgcaaGreatDoorK09
import Derived.Test.YtmbgokmomkmgcaaGreatDoorK10
set_option maxHeartbeats 8000000
namespace Go.Proofs.YtmbgokmomkmgcaaGreatDoor.na
open Go.RowKit Go.Proofs.YtmbgokmomkmgcaaGreatDoor.fa
set_option maxRecDepth 20000
def Pla (w:World) (pv:Value) (pl:Pln):Prop:=∃ fs ms,Fls w pv fs∧Mks w fs ms∧fs.length≤64∧Okp fs ms fs.length∧∀ n:Nat,(∀ t,Fst fs n t→pl n=some ((gf fs t).2.1,ms t))∧((∀ s,s<fs.length→(gf fs s).1≠n)→pl n=none)
theorem Pla.below {w w':World} {pv:Value} {pl:Pln} (h:Pla w pv pl) (hb:Below w.heap.size w w'):Pla w' pv pl:=by
 obtain ⟨fs,ms,h1,h2,h3⟩:=h
 exact ⟨fs,ms,h1.below hb,h2.below hb,h3⟩
theorem hid_pla {M:Nat→Bool} {w:World} {pv:Value} {pl:Pln} (h:Pla (hid M w) pv pl):Pla w pv pl:=by
 obtain ⟨fs,ms,h1,h2,h3⟩:=h
 exact ⟨fs,ms,hid_fls h1,hid_mks h2,h3⟩
def plnOf (fs:List (Int × Bool × Value)) (ms:Nat→List Int):Pln:=fun n=>((List.range fs.length).find? fun t=>(gf fs t).1 == (n:Int)).map fun t=>((gf fs t).2.1,ms t)
theorem plnOf_is (fs:List (Int × Bool × Value)) (ms:Nat→List Int) (n:Nat):(∀ t,Fst fs n t→plnOf fs ms n=some ((gf fs t).2.1,ms t))∧((∀ s,s<fs.length→(gf fs s).1≠n)→plnOf fs ms n=none):=by
 refine ⟨fun t ⟨h1,h2,h3⟩=>?_,fun h=>?_⟩
 ·have:(List.range fs.length).find? (fun t=>(gf fs t).1 == (n:Int))=some t:=by
   rw [List.find?_range_eq_some]
   exact ⟨by simpa using h2,by simpa using h1,fun j hj=>by simpa using h3 j hj⟩
  unfold plnOf
  rw [this];rfl
 ·have:(List.range fs.length).find? (fun t=>(gf fs t).1 == (n:Int))=none:=by
   rw [List.find?_eq_none]
   intro t ht
   simpa using h t (List.mem_range.1 ht)
  unfold plnOf
  rw [this];rfl
def gO (tr:List Opn) (i:Nat):Opn:=tr.getD i (opn 0 0 0 [] 0)
def opc (o:Opn) (dv:Value):List Value:=[.int .i64 o.1,.int .i64 o.2.1,.int .i64 o.2.2.1,dv,.int .i64 o.2.2.2.2]
def opcs (tr:List Opn) (dv:Nat→Value):List (List Value):=(List.range tr.length).map fun i=>opc (gO tr i) (dv i)
theorem opcs_len (tr:List Opn) (dv:Nat→Value):(opcs tr dv).length =tr.length:=by simp [opcs]
theorem gO_app (tr:List Opn) (o:Opn) (i:Nat) (h:i<tr.length):gO (tr ++ [o]) i=gO tr i:=by
 unfold gO
 rw [List.getD_eq_getElem?_getD,List.getD_eq_getElem?_getD,List.getElem?_append_left h]
theorem gO_last (tr:List Opn) (o:Opn):gO (tr ++ [o]) tr.length=o:=by
 unfold gO
 rw [List.getD_eq_getElem?_getD,List.getElem?_append_right (Nat.le_refl _),Nat.sub_self];rfl
theorem opcs_app (tr:List Opn) (o:Opn) (dv:Nat→Value) (v:Value):opcs (tr ++ [o]) (fun i=>if i<tr.length then dv i else v)=opcs tr dv ++ [opc o v]:=by
 have e:∀ i,i<tr.length→opc (gO (tr ++ [o]) i) (if i<tr.length then dv i else v)=opc (gO tr i) (dv i):=fun i h=>by rw [gO_app tr o i h,if_pos h]
 unfold opcs
 rw [List.length_append,List.length_singleton,List.range_succ,List.map_append,List.map_congr_left (fun i hi=>e i (List.mem_range.1 hi))]
 simp [gO_last]
def Trv (M:Nat→Bool) (w:World) (tv:Value) (tr:List Opn):Prop:=∃ dv:Nat→Value,OwR 0 w tv 197 5 (opcs tr dv)∧(∀ i,i<tr.length→Byt (hid M w) (dv i) (gO tr i).2.2.2.1)∧∀ k,tv.ownBlock=some k→M k=true
def Raw:Type:=List Int × (Nat→List Int) × (Nat→Int) × (Nat→Bool) × Bool × List Opn
def xi (X:Raw):List Int:=X.1
def xp (X:Raw):Nat→List Int:=X.2.1
def xe (X:Raw):Nat→Int:=X.2.2.1
def xs (X:Raw):Nat→Bool:=X.2.2.2.1
def xo (X:Raw):Bool:=X.2.2.2.2.1
def xt (X:Raw):List Opn:=X.2.2.2.2.2
def mkX (a:List Int) (b:Nat→List Int) (c:Nat→Int) (d:Nat→Bool) (e:Bool) (f:List Opn):Raw:=(a,b,c,d,e,f)
def Shp (g:List Int) (N P S:Nat):Prop:=g.length=6∧ge.Rt g∧gb g 0=N∧gb g 1=P∧gb g 2+88=S
def Sep (M:Nat→Bool) (c r d:Nat) (q:Nat→Nat) (N:Nat):Prop:=(M c=true∧M r=true∧M d=true∧∀ b,b<N→M (q b)=true)∧(c≠r∧c≠d∧r≠d)∧(∀ b,b<N→q b≠c∧q b≠r∧q b≠d)∧∀ b b',b<N→b'<N→b≠b'→q b≠q b'
def Tsp (tv:Value) (c r d:Nat) (q:Nat→Nat) (N:Nat):Prop:=∀ k,tv.ownBlock=some k→k≠c∧k≠r∧k≠d∧∀ b,b<N→q b≠k
def chc (g:List Int) (pv:Value) (on:Bool) (n d r N:Nat) (tv:Value):List Value:=g.map (Value.int .i64) ++ [pv,.bool on,.slice (some ⟨d,0,none⟩) n n,.slice (some ⟨r,0,none⟩) N N,tv]
def stc (q P:Nat) (e:Int) (s:Bool):List Value:=[.slice (some ⟨q,0,none⟩) P P,.int .i64 e,.bool s]
def Imr (w:World) (d n:Nat) (im:List Int):Prop:=Ar w d 0 .u8 im∧im.length=n∧AllB im
def Sts (w:World) (r:Nat) (q:Nat→Nat) (N P:Nat) (e:Nat→Int) (s:Nat→Bool):Prop:=∀ b,b<N→w.rangeAt r (b*3) (stc (q b) P (e b) (s b))∧w.there r (b*3) 3
def Prs (w:World) (q:Nat→Nat) (N P:Nat) (p:Nat→List Int):Prop:=∀ b,b<N→Ar w (q b) 0 .i64 (p b)∧(p b).length =P
def Mlt (M:Nat→Bool) (w:World):Prop:=∀ k,M k=true→k<w.heap.size
def Blt (w:World) (c r d:Nat) (q:Nat→Nat) (N:Nat):Prop:=c<w.heap.size∧r<w.heap.size∧d<w.heap.size∧∀ b,b<N→q b<w.heap.size
theorem Blt.up {w w':World} {c r d:Nat} {q:Nat→Nat} {N:Nat} (h:Blt w c r d q N) (hs:w.heap.size≤w'.heap.size):Blt w' c r d q N:=⟨Nat.lt_of_lt_of_le h.1 hs,Nat.lt_of_lt_of_le h.2.1 hs,Nat.lt_of_lt_of_le h.2.2.1 hs,fun b hb=>Nat.lt_of_lt_of_le (h.2.2.2 b hb) hs⟩
def Lay (M:Nat→Bool) (w:World) (c r d:Nat) (q:Nat→Nat) (pv tv:Value) (g:List Int) (N P S:Nat) (pl:Pln) (X:Raw):Prop:=
 Shp g N P S∧Sep M c r d q N∧Tsp tv c r d q N∧Vr w c (chc g pv (xo X) (N*(P*S)) d r N tv)∧Imr w d (N*(P*S)) (xi X)∧Sts w r q N P (xe X) (xs X)∧Prs w q N P (xp X)∧Trv M w tv (xt X)∧Pla (hid M w) pv pl∧Blt w c r d q N
theorem keep_cells (w:World) (b o:Nat) (vs:List Value):w.grownBy (w.setCells b o vs) (some b):=by
 have h:Below 0 w (w.setCells b o vs):=below_cells b (Nat.zero_le _) vs o (Below.refl _ _)
 refine ⟨h.os,h.tape,h.output,h.size,fun k hk hne=>?_⟩
 have hne':k≠b:=fun e=>hne (by rw [e])
 clear h hk hne
 induction vs generalizing w o with
 |nil=>rfl
 |cons v r ih=>exact (ih (w.setCell ⟨b,o,none⟩ v) (o+1)).trans (Below.heap_setCell w ⟨b,o,none⟩ v k hne')
theorem keep_set (w:World) (b o:Nat) (v:Value):w.grownBy (w.setCell ⟨b,o,none⟩ v) (some b):=keep_cells w b o [v]
theorem keep_below {w w':World} (h:Below w.heap.size w w'):w.grownBy w' none:=⟨h.os,h.tape,h.output,h.size,fun j hj _=>h.block j hj⟩
theorem OwR.kept {B:Nat} {w w':World} {v:Value} {e:TypeId} {k:Nat} {ess:List (List Value)} {row:Option Nat} (h:OwR B w v e k ess) (hg:w.grownBy w' row) (hne:v.ownBlock=none∨v.ownBlock≠row):OwR B w' v e k ess:=⟨h.1.kept hg hne,h.2⟩
theorem Vr.kept {w w':World} {c:Nat} {cs:List Value} {row:Option Nat} (h:Vr w c cs) (hg:w.grownBy w' row) (hl:c<w.heap.size) (hne:some c≠row):Vr w' c cs:=h.heap (hg.block c hl hne)
theorem Imr.kept {w w':World} {d n:Nat} {im:List Int} {row:Option Nat} (h:Imr w d n im) (hg:w.grownBy w' row) (hl:d<w.heap.size) (hne:some d≠row):Imr w' d n im:=⟨h.1.heap (hg.block d hl hne),h.2⟩
theorem Sts.kept {w w':World} {r:Nat} {q:Nat→Nat} {N P:Nat} {e:Nat→Int} {s:Nat→Bool} {row:Option Nat} (h:Sts w r q N P e s) (hg:w.grownBy w' row) (hl:r<w.heap.size) (hne:some r≠row):Sts w' r q N P e s:=fun b hb=>⟨range_heap (h b hb).1 (hg.block r hl hne),there_heap (h b hb).2 (hg.block r hl hne)⟩
theorem Prs.kept {w w':World} {q:Nat→Nat} {N P:Nat} {p:Nat→List Int} {row:Option Nat} (h:Prs w q N P p) (hg:w.grownBy w' row) (hl:∀ b,b<N→q b<w.heap.size) (hne:∀ b,b<N→some (q b)≠row):Prs w' q N P p:=fun b hb=>⟨(h b hb).1.heap (hg.block (q b) (hl b hb) (hne b hb)),(h b hb).2⟩
theorem Trv.kept {M:Nat→Bool} {w w':World} {tv:Value} {tr:List Opn} {row:Option Nat} (h:Trv M w tv tr) (hg:w.grownBy w' row) (hM:∀ k,row=some k→M k=true) (hne:tv.ownBlock=none∨tv.ownBlock≠row):Trv M w' tv tr:=by
 obtain ⟨dv,h1,h2,h3⟩:=h
 exact ⟨dv,h1.kept hg hne,fun i hi=>(h2 i hi).below (Frm.grown hg hM).hid0,h3⟩
theorem own_ne {v:Value} {x:Nat} (h:∀ k,v.ownBlock=some k→k≠x):v.ownBlock=none∨v.ownBlock≠some x:=by
 cases hv:v.ownBlock with
 |none=>exact Or.inl rfl
 |some k=>exact Or.inr fun e=>h k hv (by injection e)
section
variable {M:Nat→Bool} {w w':World} {c r d:Nat} {q:Nat→Nat} {pv tv:Value} {g:List Int} {N P S:Nat} {pl:Pln} {X:Raw}
theorem Lay.below (h:Lay M w c r d q pv tv g N P S pl X) (hb:Below w.heap.size w w'):Lay M w' c r d q pv tv g N P S pl X:=by
 obtain ⟨h1,h2,h3,h4,h5,h6,h7,h8,h9,h10⟩:=h
 have hg:=keep_below hb
 have hn:∀ k,(none:Option Nat)=some k→M k=true:=fun k e=>by cases e
 refine ⟨h1,h2,h3,h4.kept hg (h10.1) (by simp),h5.kept hg (h10.2.2.1) (by simp),h6.kept hg (h10.2.1) (by simp),h7.kept hg h10.2.2.2 (by simp),h8.kept hg hn ?_,h9.below (below_hid hb),h10.up hb.size⟩
 cases hv:tv.ownBlock with
 |none=>exact Or.inl rfl
 |some k=>exact Or.inr (by simp)
theorem Lay.drewN (h:Lay M w c r d q pv tv g N P S pl X) (n:Nat):Lay M (w.drewN n) c r d q pv tv g N P S pl X:=h.below (below_drawn (Below.refl _ _) n)
theorem chc_len (h:g.length=6) (on:Bool) (n d r N:Nat) (pv tv:Value):(chc g pv on n d r N tv).length =11:=by simp [chc,h]
theorem Lay.cells (h:Lay M w c r d q pv tv g N P S pl X):w.cell? ⟨c,6,none⟩=some pv∧w.cell? ⟨c,7,none⟩=some (.bool (xo X))∧w.cell? ⟨c,8,none⟩=some (.slice (some ⟨d,0,none⟩) (N*(P*S)) (N*(P*S)))∧w.cell? ⟨c,9,none⟩=some (.slice (some ⟨r,0,none⟩) N N)∧w.cell? ⟨c,10,none⟩=some tv:=by
 obtain ⟨h1,h2,h3,h4, -⟩:=h
 have e:∀ j,(chc g pv (xo X) (N*(P*S)) d r N tv)[6+j]? =([pv,.bool (xo X),.slice (some ⟨d,0,none⟩) (N*(P*S)) (N*(P*S)),.slice (some ⟨r,0,none⟩) N N,tv]:List Value)[j]? :=fun j=>by
  unfold chc
  rw [List.getElem?_append_right (by simp [h1.1])]
  simp [h1.1]
 exact ⟨h4.cell 6 _ ((e 0).trans rfl),h4.cell 7 _ ((e 1).trans rfl),h4.cell 8 _ ((e 2).trans rfl),h4.cell 9 _ ((e 3).trans rfl),h4.cell 10 _ ((e 4).trans rfl)⟩
theorem Lay.geo (h:Lay M w c r d q pv tv g N P S pl X):w.rangeAt c 0 (g.map (Value.int .i64)):=fun j v hv=>by
 obtain ⟨h1,h2,h3,h4, -⟩:=h
 have:=h4.1 j v (by unfold chc;rw [List.getElem?_append_left (List.getElem?_eq_some_iff.1 hv).1];exact hv)
 exact this
theorem Lay.free (h:Lay M w c r d q pv tv g N P S pl X) (j:Nat) (hj:j<11):(w.cell? ⟨c,j,none⟩).isSome =true∧w.frozen? ⟨c,j,none⟩=false:=by
 obtain ⟨h1,h2,h3,h4, -⟩:=h
 have hl:=chc_len h1.1 (xo X) (N*(P*S)) d r N pv tv
 exact ⟨h4.there1 j (by omega),h4.free j (by omega)⟩
theorem chc_set7 (h:g.length=6) (on on':Bool) (n d r N:Nat) (pv tv:Value):(chc g pv on n d r N tv).set 7 (.bool on')=chc g pv on' n d r N tv:=by
 unfold chc
 rw [List.set_append_right _ _ (by simp [h])]
 simp [h]
theorem chc_set10 (h:g.length=6) (on:Bool) (n d r N:Nat) (pv tv tv':Value):(chc g pv on n d r N tv).set 10 tv'=chc g pv on n d r N tv':=by
 unfold chc
 rw [List.set_append_right _ _ (by simp [h])]
 simp [h]
theorem Lay.on (h:Lay M w c r d q pv tv g N P S pl X) (b:Bool):Lay M (w.setCell ⟨c,7,none⟩ (.bool b)) c r d q pv tv g N P S pl (mkX (xi X) (xp X) (xe X) (xs X) b (xt X)):=by
 obtain ⟨h1,h2,h3,h4,h5,h6,h7,h8,h9,h10⟩:=h
 have hg:=keep_set w c 7 (.bool b)
 have hM:∀ k,some c=some k→M k=true:=fun k e=>by injection e with e;rw [←e];exact h2.1.1
 have hl:=chc_len h1.1 (xo X) (N*(P*S)) d r N pv tv
 refine ⟨h1,h2,h3,?_,h5.kept hg (h10.2.2.1) (by simp;exact fun e=>h2.2.1.2.1 e.symm),h6.kept hg (h10.2.1) (by simp;exact fun e=>h2.2.1.1 e.symm),h7.kept hg h10.2.2.2 (fun b hb=>by simp;exact (h2.2.2.1 b hb).1),h8.kept hg hM (own_ne fun k hk=>(h3 k hk).1),h9.below (Frm.grown hg hM).hid0,h10.up hg.size⟩
 have:=h4.set 7 (by omega) (.bool b)
 rw [chc_set7 h1.1] at this
 exact this
theorem Lay.prs (h:Lay M w c r d q pv tv g N P S pl X) (b:Nat) (hb:b<N) (hg:w.grownBy w' (some (q b))) (l:List Int) (hA:Ar w' (q b) 0 .i64 l) (hl:l.length=P):Lay M w' c r d q pv tv g N P S pl (mkX (xi X) (at1 (xp X) b l) (xe X) (xs X) (xo X) (xt X)):=by
 obtain ⟨h1,h2,h3,h4,h5,h6,h7,h8,h9,h10⟩:=h
 have hM:∀ k,some (q b)=some k→M k=true:=fun k e=>by injection e with e;rw [←e];exact h2.1.2.2.2 b hb
 have hq:=h2.2.2.1 b hb
 refine ⟨h1,h2,h3,h4.kept hg (h10.1) (by simp;exact fun e=>hq.1 e.symm),h5.kept hg (h10.2.2.1) (by simp;exact fun e=>hq.2.2 e.symm),h6.kept hg (h10.2.1) (by simp;exact fun e=>hq.2.1 e.symm),fun k hk=>?_,h8.kept hg hM (own_ne fun k hk e=>(h3 k hk).2.2.2 b hb e.symm),h9.below (Frm.grown hg hM).hid0,h10.up hg.size⟩
 show Ar w' (q k) 0 .i64 (at1 (xp X) b l k)∧(at1 (xp X) b l k).length =P
 by_cases e:k=b
 ·subst e
  rw [at1_same];exact ⟨hA,hl⟩
 ·rw [at1_other _ _ _ _ e]
  exact ⟨(h7 k hk).1.heap (hg.block (q k) (h10.2.2.2 k hk) (by simp;exact h2.2.2.2 k b hk hb e)),(h7 k hk).2⟩
theorem Lay.img (h:Lay M w c r d q pv tv g N P S pl X) (hg:w.grownBy w' (some d)) (l:List Int) (hA:Ar w' d 0 .u8 l) (hl:l.length=N*(P*S)) (ha:AllB l):Lay M w' c r d q pv tv g N P S pl (mkX l (xp X) (xe X) (xs X) (xo X) (xt X)):=by
 obtain ⟨h1,h2,h3,h4,h5,h6,h7,h8,h9,h10⟩:=h
 have hM:∀ k,some d=some k→M k=true:=fun k e=>by injection e with e;rw [←e];exact h2.1.2.2.1
 exact ⟨h1,h2,h3,h4.kept hg (h10.1) (by simp;exact h2.2.1.2.1),⟨hA,hl,ha⟩,h6.kept hg (h10.2.1) (by simp;exact h2.2.1.2.2),h7.kept hg h10.2.2.2 (fun b hb=>by simp;exact (h2.2.2.1 b hb).2.2),h8.kept hg hM (own_ne fun k hk=>(h3 k hk).2.2.1),h9.below (Frm.grown hg hM).hid0,h10.up hg.size⟩
theorem Lay.loc (h:Lay M w c r d q pv tv g N P S pl X) {x:Nat} (hg:w.grownBy w' (some x)) (hx:M x=true) (n1:c≠x) (n2:r≠x) (n3:d≠x) (n4:∀ b,b<N→q b≠x) (n5:∀ k,tv.ownBlock=some k→k≠x):Lay M w' c r d q pv tv g N P S pl X:=by
 obtain ⟨h1,h2,h3,h4,h5,h6,h7,h8,h9,h10⟩:=h
 have hM:∀ k,some x=some k→M k=true:=fun k e=>by injection e with e;rw [←e];exact hx
 exact ⟨h1,h2,h3,h4.kept hg h10.1 (by simp;exact n1),h5.kept hg h10.2.2.1 (by simp;exact n3),h6.kept hg h10.2.1 (by simp;exact n2),h7.kept hg h10.2.2.2 (fun b hb=>by simp;exact n4 b hb),h8.kept hg hM (own_ne n5),h9.below (Frm.grown hg hM).hid0,h10.up hg.size⟩
theorem Lay.more {M':Nat→Bool} (h:Lay M w c r d q pv tv g N P S pl X) (hM:∀ k,k<w.heap.size→M' k=M k):Lay M' w c r d q pv tv g N P S pl X:=by
 obtain ⟨h1,h2,h3,h4,h5,h6,h7,⟨dv,t1,t2,t3⟩,h9,h10⟩:=h
 have hb:=(Frm.refl M w).hid hM
 exact ⟨h1,⟨⟨(hM _ h10.1).trans h2.1.1,(hM _ h10.2.1).trans h2.1.2.1,(hM _ h10.2.2.1).trans h2.1.2.2.1,fun b hb=>(hM _ (h10.2.2.2 b hb)).trans (h2.1.2.2.2 b hb)⟩,h2.2⟩,h3,h4,h5,h6,h7,⟨dv,t1,fun i hi=>(t2 i hi).below hb,fun k hk=>(hM k (t1.1.lt k hk).2).trans (t3 k hk)⟩,h9.below hb,h10⟩
theorem byt_less {M':Nat→Bool} {v:Value} {xs:List Int} (h:Byt (hid M w) v xs) (hM:∀ k,M' k=true→M k=true):Byt (hid M' w) v xs:=by
 obtain ⟨ao,cap,rfl,h1,h2,h3,h4,h5⟩:=h
 refine ⟨ao,cap,rfl,h1,h2,h3,h4,fun hp=>?_⟩
 obtain ⟨b,off,rfl,hc⟩:=h5 hp
 refine ⟨b,off,rfl,fun t ht=>?_⟩
 obtain ⟨e1,e2⟩:=hid_cell (hc t ht)
 refine cell_hid e1 ?_
 cases e:M' b with
 |false=>rfl
 |true=>rw [hM b e] at e2;cases e2
theorem range_less {M':Nat→Bool} {b p:Nat} {cs:List Value} (h:(hid M w).rangeAt b p cs) (hM:∀ k,M' k=true→M k=true):(hid M' w).rangeAt b p cs:=fun j v hv=>by
 obtain ⟨e1,e2⟩:=hid_cell (h j v hv)
 refine cell_hid e1 ?_
 cases e:M' b with
 |false=>rfl
 |true=>rw [hM b e] at e2;cases e2
theorem pla_less {M':Nat→Bool} {pv:Value} {pl:Pln} (h:Pla (hid M w) pv pl) (hM:∀ k,M' k=true→M k=true):Pla (hid M' w) pv pl:=by
 obtain ⟨fs,ms,⟨ao,cap,rfl,h1,h2,h3,h5⟩,h6,h7⟩:=h
 refine ⟨fs,ms,⟨ao,cap,rfl,h1,h2,h3,fun hp=>?_⟩,fun t ht=>⟨byt_less (h6 t ht).1 hM,(h6 t ht).2⟩,h7⟩
 obtain ⟨b,off,rfl,hc⟩:=h5 hp
 exact ⟨b,off,rfl,fun t ht=>FlA.of (range_less (hc t ht).range hM)⟩
theorem Lay.less {M':Nat→Bool} (h:Lay M w c r d q pv tv g N P S pl X) (hM:∀ k,M' k=true→M k=true) (n1:M' c=true) (n2:M' r=true) (n3:M' d=true) (n4:∀ b,b<N→M' (q b)=true) (n5:∀ k,tv.ownBlock=some k→M' k=true):Lay M' w c r d q pv tv g N P S pl X:=by
 obtain ⟨h1,h2,h3,h4,h5,h6,h7,⟨dv,t1,t2,t3⟩,h9,h10⟩:=h
 exact ⟨h1,⟨⟨n1,n2,n3,n4⟩,h2.2⟩,h3,h4,h5,h6,h7,⟨dv,t1,fun i hi=>byt_less (t2 i hi) hM,n5⟩,pla_less h9 hM,h10⟩
theorem Lay.trc (h:Lay M w c r d q pv tv g N P S pl X) (o:Opn) (dv:Value) (tv':Value) (hg:w.grownBy w' tv.ownBlock) (hw:tv'.ownBlock=tv.ownBlock∨∃ k,tv'.ownBlock=some k∧w.heap.size≤k) (hd:Byt (hid M w) dv o.2.2.2.1) (dvs:Nat→Value) (t2:∀ i,i<(xt X).length →Byt (hid M w) (dvs i) (gO (xt X) i).2.2.2.1) (hO':OwR 0 w' tv' 197 5 (opcs (xt X) dvs ++ [opc o dv])):
  Lay (fun k=>M k || decide (tv'.ownBlock=some k)) (w'.setCell ⟨c,10,none⟩ tv') c r d q pv tv' g N P S pl (mkX (xi X) (xp X) (xe X) (xs X) (xo X) (xt X ++ [o]))∧(∀ k,k<w.heap.size→(M k || decide (tv'.ownBlock=some k))=M k)∧Frm M w (w'.setCell ⟨c,10,none⟩ tv')∧∀ k,tv'.ownBlock=some k→k<(w'.setCell ⟨c,10,none⟩ tv').heap.size :=by
 obtain ⟨h1,h2,h3,h4,h5,h6,h7,h8,h9,h10⟩:=h
 obtain ⟨-, -, -,t3⟩:=h8
 have hlt:∀ k,tv'.ownBlock=some k→k<w'.heap.size:=fun k hk=>(hO'.1.lt k hk).2
 have hsame:∀ k,k<w.heap.size→(M k || decide (tv'.ownBlock=some k))=M k:=fun k hk=>by
  by_cases e:tv'.ownBlock=some k
  ·rcases hw with q | ⟨k',q,hk'⟩
   ·rw [q] at e
    simp [t3 k e]
   ·rw [q] at e
    injection e with e
    omega
  ·simp [e]
 have hsep:Tsp tv' c r d q N:=fun k hk=>by
  rcases hw with e | ⟨k',e,hk'⟩
  ·rw [e] at hk
   exact h3 k hk
  ·rw [hk] at e
   injection e with e
   subst e
   exact ⟨fun e=>by have:=h10.1;omega,fun e=>by have:=h10.2.1;omega,fun e=>by have:=h10.2.2.1;omega,fun b hb e=>by have:=h10.2.2.2 b hb;omega⟩
 have hne:∀ x,(∀ k,tv.ownBlock=some k→k≠x)→some x≠tv.ownBlock:=fun x hx e=>hx x e.symm rfl
 have n1:=hne c fun k hk=>(h3 k hk).1
 have n2:=hne r fun k hk=>(h3 k hk).2.1
 have n3:=hne d fun k hk=>(h3 k hk).2.2.1
 have n4:∀ b,b<N→some (q b)≠tv.ownBlock:=fun b hb=>hne (q b) fun k hk e=>(h3 k hk).2.2.2 b hb e.symm
 have hg2:=keep_set w' c 10 tv'
 have F1:Frm M w w':=Frm.grown hg t3
 have F2:Frm M w (w'.setCell ⟨c,10,none⟩ tv'):=F1.tr (Frm.set h2.1.1 10 tv')
 have hl:=chc_len h1.1 (xo X) (N*(P*S)) d r N pv tv
 have z:=hg.size
 have hb:Below (hid M w).heap.size (hid M w) (hid (fun k=>M k || decide (tv'.ownBlock=some k)) (w'.setCell ⟨c,10,none⟩ tv')):=F2.hid hsame
 refine ⟨⟨h1,⟨⟨?_,?_,?_,fun b hb=>?_⟩,h2.2⟩,hsep,?_,?_,?_,?_,⟨fun i=>if i<(xt X).length then dvs i else dv,?_,fun i hi=>?_,fun k hk=>?_⟩,h9.below hb,h10.up F2.size⟩,hsame,F2,fun k hk=>Nat.lt_of_lt_of_le (hlt k hk) hg2.size⟩
 ·simp [h2.1.1]
 ·simp [h2.1.2.1]
 ·simp [h2.1.2.2.1]
 ·simp [h2.1.2.2.2 b hb]
 ·have:=(h4.kept hg (h10.1) n1).set 10 (by omega) tv'
  rw [chc_set10 h1.1] at this
  exact this
 ·exact (h5.kept hg (h10.2.2.1) n3).kept hg2 (Nat.lt_of_lt_of_le (h10.2.2.1) z) (by simp;exact fun e=>h2.2.1.2.1 e.symm)
 ·exact (h6.kept hg (h10.2.1) n2).kept hg2 (Nat.lt_of_lt_of_le (h10.2.1) z) (by simp;exact fun e=>h2.2.1.1 e.symm)
 ·exact (h7.kept hg h10.2.2.2 n4).kept hg2 (fun b hb=>Nat.lt_of_lt_of_le (h10.2.2.2 b hb) z) (fun b hb=>by simp;exact (h2.2.2.1 b hb).1)
 ·show OwR 0 _ tv' 197 5 (opcs (xt X ++ [o]) _)
  rw [opcs_app]
  exact hO'.kept hg2 (own_ne fun k hk=>(hsep k hk).1)
 ·have hi':i<(xt X ++ [o]).length :=hi
  rw [List.length_append,List.length_singleton] at hi'
  show Byt _ (if i<(xt X).length then dvs i else dv) (gO (xt X ++ [o]) i).2.2.2.1
  by_cases e:i<(xt X).length
  ·rw [if_pos e,gO_app _ _ _ e]
   exact (t2 i e).below hb
  ·rw [if_neg e,show i=(xt X).length by omega,gO_last]
   exact hd.below hb
 ·simp [hk]
end
end Go.Proofs.YtmbgokmomkmgcaaGreatDoor.na
namespace Go.Proofs.YtmbgokmomkmgcaaGreatDoor.na
open Go.RowKit Go.Proofs.YtmbgokmomkmgcaaGreatDoor.fa
set_option maxRecDepth 20000
def One (t:TypeId):Prop:=(∃ d,Tryz.prog.underlying t=some d∧d.isRow=false)∧(Tryz.prog.info? t).map (·.size)=some 1
theorem one_int:One 3:=⟨⟨_,Tryz.underlying3,rfl⟩,by kernel_rfl⟩
theorem one_bool:One 4:=⟨⟨_,Tryz.underlying4,rfl⟩,by kernel_rfl⟩
theorem one_bytes:One 26:=⟨⟨_,Tryz.underlying26,rfl⟩,by kernel_rfl⟩
theorem one_errno:One 46:=⟨⟨_,Tryz.underlying46,rfl⟩,by kernel_rfl⟩
theorem one_faults:One 36:=⟨⟨_,Tryz.underlying36,rfl⟩,by kernel_rfl⟩
theorem one_oprs:One 105:=⟨⟨_,Tryz.underlying105,rfl⟩,by kernel_rfl⟩
theorem one_states:One 104:=⟨⟨_,Tryz.underlying104,rfl⟩,by kernel_rfl⟩
theorem one_ints:One 70:=⟨⟨_,Tryz.underlying70,rfl⟩,by kernel_rfl⟩
theorem one_pages:One 69:=⟨⟨_,Tryz.underlying69,rfl⟩,by kernel_rfl⟩
theorem one_blks:One 35:=⟨⟨_,Tryz.underlying35,rfl⟩,by kernel_rfl⟩
theorem rowy_geo:Rowy 23 6:=⟨⟨_,Tryz.underlying23,rfl⟩,by kernel_rfl⟩
theorem rowy_place:Rowy 78 2:=⟨⟨_,Tryz.underlying78,rfl⟩,by kernel_rfl⟩
theorem rowy_op:Rowy 197 5:=⟨⟨_,Tryz.underlying197,rfl⟩,by kernel_rfl⟩
theorem rowy_deed:Rowy 200 2:=⟨⟨_,Tryz.underlying200,rfl⟩,by kernel_rfl⟩
theorem rowy_blk:Rowy 72 5:=⟨⟨_,Tryz.underlying72,rfl⟩,by kernel_rfl⟩
theorem rowy_chipR:Rowy 38 10:=⟨⟨_,Tryz.underlying38,rfl⟩,by kernel_rfl⟩
theorem load_one {t:TypeId} (ht:One t) {w:World} {b p:Nat} {v:Value} (h:w.cell? ⟨b,p,none⟩=some v):(Instr.loadAt t (.pointer (some ⟨b,p,none⟩))).run Tryz.prog w=.ok v w:=by
 obtain ⟨⟨d,hd,hr⟩, -⟩:=ht
 have:(loadVar t ⟨b,p,none⟩).run Tryz.prog w=.ok v w:=by
  cases d <;> first | (simp [TypeDesc.isRow] at hr;done) | simp [loadVar,isAgg,run_underlying hd,h]
 simp only [Instr.loadAt,Instr.sureAddr,Sem.run_bind,Sem.run_pure,Result.andThen_ok,this]
theorem run_appT (w:World) {t ty e:TypeId} {z:Value} {k m0:Nat} (hu:Tryz.prog.underlying t=some (.slice e)) (hi:(Tryz.prog.info? e).map (fun i=>(i.zero,i.size,i.bytes))=some (some z,k,m0)) (hz:z.cells.size=k) (hk:0<k)
  (v vy:Value) (es ys:List (List Value)) (hown:OwR 0 w v e k es) (hy:Rws w vy k ys) (h1:∀ u ∈ ys.flatten,u.oneCell'=true) (hn:es.length+ys.length≤9223372036854775807) (hm:(es.length+ys.length)*m0≤140737488355328) (hp:0<ys.length):
  ∃ v' w',(Builtin.append_ #[t,t] ty #[v,vy]).run Tryz.prog w=.ok v' w'∧OwR 0 w' v' e k (es ++ ys)∧w.grownBy w' v.ownBlock∧(v'.ownBlock=v.ownBlock∨∃ k,v'.ownBlock=some k∧w.heap.size≤k):=by
 obtain ⟨i0,hi0,hz0,hz1,hz2⟩:=info_parts hi
 have hell:∀ t,t<(es ++ ys).length →(el (es ++ ys) t).length =k:=fun t ht=>by
  rw [List.length_append] at ht
  obtain ⟨_,_,_,_,_,_,q4,_⟩:=hy
  rw [el_app]
  split
  ·rename_i h;exact hown.2 t h
  ·exact q4 _ (by omega)
 obtain ⟨ao,cap,rfl,q1,q2,q3,q4,q5⟩:=hy
 obtain ⟨b,off,rfl,hc⟩:=q5 hp
 have hnews:∀ j u,ys.flatten[j]? =some u→w.cell? ((⟨b,off,none⟩:Addr).add j)=some u:=fun j u hj=>by
  have hjl:j<ys.length*k:=by rw [←flat_len q4];exact (List.getElem?_eq_some_iff.1 hj).1
  have ej:j=j/k*k+j%k:=by rw [Nat.mul_comm];exact (Nat.div_add_mod j k).symm
  have ht:j/k<ys.length:=(Nat.div_lt_iff_lt_mul hk).2 hjl
  have hmod:j%k<k:=Nat.mod_lt _ hk
  rw [ej,flat_get q4 (j/k) (j%k) ht hmod] at hj
  have:=hc (j/k) ht (j%k) u hj
  rw [Addr.add_mid,show off+j=off+j/k*k+j%k by omega]
  exact this
 have hb1:es.length+ys.length≤maxLen:=by simp only [maxLen];omega
 have fin:∀ v' w',w'.ownsRow 0 e k v' (es.length+ys.length) (es.flatten ++ ys.flatten)→OwR 0 w' v' e k (es ++ ys):=fun v' w' h=>⟨by rw [List.length_append,List.flatten_append];exact h,hell⟩
 rcases hown.1.2 with ⟨rfl,hn0⟩ | ⟨gg,cp,cur,rfl,hbg,hg,hnc,hcm,hcs,htake⟩
 ·have he:es= []:=List.eq_nil_of_length_eq_zero hn0
  subst he
  obtain ⟨v',w',hrun,r1,r2,r3⟩:=run_append_own (P:=Tryz.prog) w w.heap.size t ty e i0 z k m0 hu hi0 hz0 hz1 hz2 hz hk (.slice none 0 0) 0 [] (World.ownsRow_nil w _ e k) ⟨b,off,none⟩ ys.length cap ys.flatten (flat_len q4) hnews h1 (by simpa using hb1) (by simpa using hm) (Nat.le_refl _)
  refine ⟨v',w',hrun,fin v' w' ?_,r2,?_⟩
  ·obtain ⟨a1,a2⟩:=r1
   refine ⟨by simpa using a1,?_⟩
   rcases a2 with ⟨e1,e2⟩ | ⟨g',c',u',e1,e2,e3⟩
   ·exact Or.inl ⟨e1,by simpa using e2⟩
   ·exact Or.inr ⟨g',c',u',by simpa using e1,Nat.zero_le _,by simpa using e3⟩
  ·have hlt:=r1.lt
   cases hv:v'.ownBlock with
   |none=>exact Or.inl rfl
   |some kk=>exact Or.inr ⟨kk,rfl,(hlt kk hv).1⟩
 ·by_cases hroom:es.length+ys.length≤cp
  ·obtain ⟨v',w',hrun,r1,r2,r3⟩:=run_append_own (P:=Tryz.prog) w 0 t ty e i0 z k m0 hu hi0 hz0 hz1 hz2 hz hk _ es.length es.flatten hown.1 ⟨b,off,none⟩ ys.length cap ys.flatten (flat_len q4) hnews h1 hb1 hm (Nat.zero_le _)
   have hr2:=run_append_room (P:=Tryz.prog) w t ty e i0 hu hi0 gg es.length cp cur hg ⟨b,off,none⟩ ys.length cap ys.flatten (by rw [hz1];exact flat_len q4) hnews h1 hroom (by
    rw [hz1,flat_len q4,hcs,←Nat.add_mul]
    exact Nat.mul_le_mul_right k hroom)
   rw [hr2] at hrun
   injection hrun with e1 e2
   refine ⟨v',w',by rw [hr2,e1,e2],fin v' w' r1,r2,Or.inl ?_⟩
   rw [←e1];rfl
  ·obtain ⟨v',w',hrun,r1,r2⟩:=run_append_arg_grows (P:=Tryz.prog) w t ty e i0 z k m0 hu hi0 hz0 hz1 hz2 hz hk ⟨gg,0,none⟩ es.length cp es.flatten (flat_len hown.2) (fun j u hj=>hown.1.cells rfl j u hj) ⟨b,off,none⟩ ys.length cap ys.flatten (flat_len q4) hnews (by omega) hb1 hm
   refine ⟨v',w',hrun,fin v' w' ?_,⟨r2.os,r2.tape,r2.output,r2.size,fun j hj _=>r2.block j hj (by simp)⟩,?_⟩
   ·obtain ⟨a1,a2⟩:=r1
    refine ⟨a1,?_⟩
    rcases a2 with e1 | ⟨g',c',u',e1,e2,e3⟩
    ·exact Or.inl e1
    ·exact Or.inr ⟨g',c',u',e1,Nat.zero_le _,e3⟩
   ·have hlt:=r1.lt
    rcases r1.2 with ⟨rfl,e2⟩ | ⟨g',c',u',rfl,e2,e3⟩
    ·omega
    ·exact Or.inr ⟨g',rfl,e2⟩
section
variable {ops:Array Oper} {o:Oper} {a:Act} {Q:Exit→Act→World→Prop} {K:Act→World→Prop} {E:Prop}
theorem step_appT (w:World) (hg:o.guard=none) (d:Option Tmp) (hd:o.dst=d) (s x:Operand) (t e:TypeId) (hop:o.op=.call {callee:=.builtin .append,args:=#[s,x],argTypes:=#[t,t]})
  (hu:Tryz.prog.underlying t=some (.slice e)) (z:Value) (k m0:Nat) (hi:(Tryz.prog.info? e).map (fun i=>(i.zero,i.size,i.bytes))=some (some z,k,m0)) (hz:z.cells.size=k) (hk:0<k)
  (v vy:Value) (es ys:List (List Value)) (hs:a.eval s=v) (hx:a.eval x=vy) (hown:OwR 0 w v e k es) (hy:Rws w vy k ys) (h1:∀ u ∈ ys.flatten,u.oneCell'=true) (hn:es.length+ys.length≤9223372036854775807) (hm:(es.length+ys.length)*m0≤140737488355328) (hp:0<ys.length)
  (hK:∀ v' w',OwR 0 w' v' e k (es ++ ys)→w.grownBy w' v.ownBlock→(v'.ownBlock=v.ownBlock∨∃ k,v'.ownBlock=some k∧w.heap.size≤k)→K (a.put d v') w'):
  if Region.wanted o (yielded ops a.tmps)=true then Oper.wp Tryz.prog o a w K Q else E:=by
 have hw:Region.wanted o (yielded ops a.tmps)=true:=by simp [Region.wanted,hg]
 rw [if_pos hw]
 subst hd
 obtain ⟨v',w',hrun,r1,r2,r3⟩:=run_appT w (ty:=o.type) hu hi hz hk v vy es ys hown hy h1 hn hm hp
 unfold Oper.wp
 simp [execOp,hop,resolve,invoke,builtin,hs,hx,hrun,Result.andThen]
 exact hK v' w' r1 r2 r3
theorem step_load (w:World) (hg:o.guard=none) (d:Option Tmp) (hd:o.dst=d) (x:Operand) (t:TypeId) (hop:o.op=Op.load t x) (p v:Value) (hx:a.eval x=p) (h:(Instr.loadAt t p).run Tryz.prog w=.ok v w)
  (hK:K (a.put d v) w):if Region.wanted o (yielded ops a.tmps)=true then Oper.wp Tryz.prog o a w K Q else E:=by
 have hw:Region.wanted o (yielded ops a.tmps)=true:=by simp [Region.wanted,hg]
 rw [if_pos hw]
 subst hd
 unfold Oper.wp execOp
 simp only [hop,hx,Sem.run_bind,Result.andThen_ok,h]
 exact hK
theorem step_one (w:World) (hg:o.guard=none) (d:Option Tmp) (hd:o.dst=d) (x:Operand) (t e:TypeId) (hop:o.op=Op.buildSlice t 1 #[(0,x)]) (cs:List Value) (hx:a.eval x=.agg cs.toArray)
  (hrun:∀ w:World,(Instr.buildSlice t 1 #[(0,.agg cs.toArray)]).run Tryz.prog w=.ok (.slice (some ⟨w.heap.size,0,none⟩) 1 1) (w.alloc (.cells cs.toArray e)))
  (hK:∀ w',Rws w' (.slice (some ⟨w.heap.size,0,none⟩) 1 1) cs.length [cs]→Below w.heap.size w w'→K (a.put d (.slice (some ⟨w.heap.size,0,none⟩) 1 1)) w'):
  if Region.wanted o (yielded ops a.tmps)=true then Oper.wp Tryz.prog o a w K Q else E:=by
 have hw:Region.wanted o (yielded ops a.tmps)=true:=by simp [Region.wanted,hg]
 rw [if_pos hw]
 subst hd
 unfold Oper.wp execOp
 simp only [hop,List.map_toArray,List.map_cons,List.map_nil,hx,Sem.run_bind,Sem.run_pure,Result.andThen_ok,hrun]
 refine hK _ ⟨_,1,rfl,by simp,by omega,(by intro h;cases h),fun t ht=>?_,fun _=>⟨w.heap.size,0,rfl,fun t ht=>?_⟩⟩ ((Below.refl _ _).alloc (Nat.le_refl _) _)
 ·have:t=0:=by simpa using ht
  subst this;rfl
 ·have:t=0:=by simpa using ht
  subst this
  have:=(Vr.new w e cs).1
  simpa [el] using this
theorem step_newC (w:World) (hg:o.guard=none) (d:Option Tmp) (hd:o.dst=d) (t:TypeId) (hop:o.op=Op.alloc t) (cs:List Value) (hz:(Tryz.prog.info? t).map (fun i=>(i.zero,i.size))=some (some (.agg cs.toArray),cs.length))
  (hK:∀ w',Vr w' w.heap.size cs→Below w.heap.size w w'→w.heap.size<w'.heap.size→K (a.put d (.pointer (some ⟨w.heap.size,0,none⟩))) w'):if Region.wanted o (yielded ops a.tmps)=true then Oper.wp Tryz.prog o a w K Q else E:=by
 have hw:Region.wanted o (yielded ops a.tmps)=true:=by simp [Region.wanted,hg]
 rw [if_pos hw]
 subst hd
 have hz':=(zero_of_info hz).1
 unfold Oper.wp
 simp [execOp,hop,Instr.alloc,hz',newVar,newRow,Value.cells,Result.andThen]
 exact hK _ (Vr.new w t cs) ((Below.refl _ _).alloc (Nat.le_refl _) _) (by simp)
theorem step_boxC (w:World) (hg:o.guard=none) (d:Option Tmp) (hd:o.dst=d) (x:Operand) (t:TypeId) (hop:o.op=Op.box t x) (cs:List Value) (hx:a.eval x=.agg cs.toArray)
  (hK:∀ w',Vr w' w.heap.size cs→Below w.heap.size w w'→w.heap.size<w'.heap.size→K (a.put d (.pointer (some ⟨w.heap.size,0,none⟩))) w'):if Region.wanted o (yielded ops a.tmps)=true then Oper.wp Tryz.prog o a w K Q else E:=by
 have hw:Region.wanted o (yielded ops a.tmps)=true:=by simp [Region.wanted,hg]
 rw [if_pos hw]
 subst hd
 unfold Oper.wp
 simp [execOp,hop,hx,Instr.box,newVar,newRow,Value.cells,Result.andThen]
 exact hK _ (Vr.new w t cs) ((Below.refl _ _).alloc (Nat.le_refl _) _) (by simp)
theorem step_store1 (w:World) (hg:o.guard=none) (d:Option Tmp) (hd:o.dst=d) (x y:Operand) (t:TypeId) (hop:o.op=Op.store t x y) (b j:Nat) (v:Value) (hx:a.eval x=.pointer (some ⟨b,j,none⟩)) (hy:a.eval y=v) (hc:(w.cell? ⟨b,j,none⟩).isSome =true) (hf:w.frozen? ⟨b,j,none⟩=false) (hi:(Tryz.prog.info? t).map (·.size)=some 1) (h1:v.oneCell'=true) (hcv:v.cells=#[v])
  (hK:∀ w',Hid (w'=w.setCell ⟨b,j,none⟩ v)→K (a.put d undef) w'):if Region.wanted o (yielded ops a.tmps)=true then Oper.wp Tryz.prog o a w K Q else E:=by
 have hw:Region.wanted o (yielded ops a.tmps)=true:=by simp [Region.wanted,hg]
 rw [if_pos hw]
 subst hd
 have hr:(storeVar t ⟨b,j,none⟩ v).run Tryz.prog w=.ok () (w.setCell ⟨b,j,none⟩ v):=by
  have e0:∀ i,i< [v].length →i=0:=fun i hi=>by simpa using hi
  have:=run_storeCells_cells (P:=Tryz.prog) b j [v] 0 w (fun i hi=>by rw [e0 i hi];simpa using hc) (fun i hi=>by rw [e0 i hi];simpa using hf) (fun u hu=>by simp at hu;subst hu;exact h1)
  cases hq:Tryz.prog.info? t with
  |none=>simp [hq] at hi
  |some i=>
   have hs:i.size=1:=by simpa [hq] using hi
   simp only [Nat.add_zero] at this
   simp [storeVar,sizeOf,typeInfo,hq,hcv,hs]
   simpa [World.setCells] using this
 unfold Oper.wp execOp
 simp only [hop,hx,hy,Instr.storeAt,Instr.sureAddr,Sem.run_bind,Sem.run_pure,Result.andThen_ok,hr]
 exact hK _ rfl
end
theorem exec_loadN {ev:Operand→Value} {o:Oper} (t:TypeId) (x:Operand) (hop:o.op=Op.load t x) (p:Value) (hx:ev x=p) (v:Value) (w:World) (hr:(Instr.loadAt t p).run Tryz.prog w=.ok v w):(execOp ev o).run Tryz.prog w=.ok (.value v) w:=by
 unfold execOp
 simp only [hop,hx,Sem.run_bind,Result.andThen_ok,hr]
 rfl
theorem ld_geo {w:World} {b p:Nat} {g:List Int} (hl:g.length=6) (h:w.rangeAt b p (g.map (Value.int .i64))):(Instr.loadAt 23 (.pointer (some ⟨b,p,none⟩))).run Tryz.prog w=.ok (.agg (ints .i64 g)) w:=load_cells (cs:=g.map (Value.int .i64)) (by rw [List.length_map,hl];exact rowy_geo) h
theorem ld_place {w:World} {b p:Nat} {g:List Int} (hl:g.length=2) (h:w.rangeAt b p (g.map (Value.int .i64))):(Instr.loadAt 78 (.pointer (some ⟨b,p,none⟩))).run Tryz.prog w=.ok (.agg (ints .i64 g)) w:=load_cells (cs:=g.map (Value.int .i64)) (by rw [List.length_map,hl];exact rowy_place) h
end Go.Proofs.YtmbgokmomkmgcaaGreatDoor.na
namespace Go.Proofs.YtmbgokmomkmgcaaGreatDoor.na
open Go.RowKit Go.Proofs.YtmbgokmomkmgcaaGreatDoor.fa
set_option maxRecDepth 20000
theorem on_any (c:Nat) (on:Bool) (w:World) (h:w.cell? ⟨c,7,none⟩=some (.bool on)):
  Calls Tryz.prog 23 #[.pointer (some ⟨c,0,none⟩)] w fun e w'=>e=.returned (.bool on)∧w'=w:=by
 go_enter Tryz.func23,Tryz.ntmps23
 go_wp2
 go_ret
 exact ⟨rfl,rfl⟩
theorem part_any (d L n sz:Nat) (w:World) (hs:0<sz) (hL:(n+1)*sz≤L) (hm:L≤16777216) (hn:n≤16777216) (hz:sz≤16777216):
  Calls Tryz.prog 135 #[.slice (some ⟨d,0,none⟩) L L,.int .i64 (n:Int),.int .i64 (sz:Int)] w fun e w'=>e=.returned (.slice (some ⟨d,n*sz,none⟩) sz (L-n*sz))∧w'=w:=by
 obtain ⟨k,hk⟩:∃ k,k=n*sz:=⟨_,rfl⟩
 rw [Nat.succ_mul] at hL
 rw [←hk] at hL ⊢
 have q1:IntKind.i64.wrap ((n:Int)*(sz:Int))=(k:Int):=by
  have:(n:Int)*(sz:Int)=(k:Int):=by rw [hk];simp
  rw [this,IntKind.wrap_i64];omega
 have q2:IntKind.i64.wrap ((n:Int)+1)=(n:Int)+1:=by rw [IntKind.wrap_i64];omega
 have q3:IntKind.i64.wrap (((n:Int)+1)*(sz:Int))=((k+sz:Nat):Int):=by
  have:((n:Int)+1)*(sz:Int)=((k+sz:Nat):Int):=by rw [hk,Int.add_mul];simp
  rw [this,IntKind.wrap_i64];omega
 have HE:Hid (k+sz-k=sz):=by show _=_;omega
 have hne:¬(L=k):=by omega
 have i0:(0 :Int)≤(k:Int):=by omega
 have i1:(k:Int)≤((k+sz:Nat):Int):=by omega
 have i2:((k+sz:Nat):Int)≤(L:Int):=by omega
 clear hk
 obtain ⟨m,hm'⟩:∃ m,m=k+sz:=⟨_,rfl⟩
 rw [←hm'] at q3 i1 i2 HE
 clear hm'
 go_enter Tryz.func135,Tryz.ntmps135
 go_wp2
 go_ret
 refine ⟨?_,rfl⟩
 rw [HE.out]
 rfl
def Mx (xs:List Int) (m:Int):Prop:=(∀ i,i<xs.length→gb xs i≤m)∧∃ i,i<xs.length∧gb xs i=m
theorem max_any (b o n cap:Nat) (xs:List Int) (w:World) (h:Ar w b o .i64 xs) (hl:xs.length=n) (h0:0<n) (hn:n≤cap) (hc:cap≤9223372036854775807):
  Calls Tryz.prog 136 #[.slice (some ⟨b,o,none⟩) n cap] w fun e w'=>∃ m,e=.returned (.int .i64 m)∧Mx xs m∧w'=w:=by
 have H:=hdH (h)
 have c0:w.cell? ⟨b,o,none⟩=some (.int .i64 (gb xs 0)):=by have:=h.cell 0 (by omega);rwa [Nat.add_zero] at this
 have i0:¬((n:Int)<1):=by omega
 have i1:(0 :Int)<(n:Int):=by omega
 clear h
 go_enter Tryz.func136,Tryz.ntmps136
 go_wp2
 go_loopw [3,4] (fun m i wr=>∃ (k:Nat) (x:Int),1≤k∧k≤n∧m=.int .i64 x∧i=.int .i64 k∧Hid ((∀ i,i<k→gb xs i≤x)∧∃ i,i<n∧gb xs i=x)∧wr=w) (fun _ i _=>n-(intOf i).toNat)
 case atStart=>exact ⟨1,gb xs 0,by omega,by omega,rfl,rfl,⟨fun i hi=>by rw [show i=0 by omega];exact Int.le_refl _,0,h0,rfl⟩,rfl⟩
 case round=>
  obtain ⟨k,x,hk1,hk,rfl,rfl,HX,hw⟩:=hrel
  subst hw
  have k0:(0 :Int)≤(k:Int):=by omega
  by_cases hlt:k<n
  ·have k1:(k:Int)<(n:Int):=by omega
   have ck:=H.out.cell k (by omega)
   obtain ⟨y,hy⟩:∃ y,gb xs k=y:=⟨_,rfl⟩
   rw [hy] at ck
   have HY:=hdH (hy)
   clear hy c0
   go_wp2
   go_roundw
   case rel=>
    refine ⟨k+1,_,by omega,by omega,rfl,by go_num,⟨fun i hi=>?_,?_⟩,trivial⟩
    ·have hm:x≤(if x<y then y else x)∧y≤(if x<y then y else x):=by split <;> omega
     rcases Nat.lt_or_ge i k with q | q
     ·exact Int.le_trans (HX.out.1 i q) hm.1
     ·rw [show i=k by omega,HY.out];exact hm.2
    ·by_cases hxy:x<y
     ·rw [if_pos hxy];exact ⟨k,hlt,HY.out⟩
     ·rw [if_neg hxy];exact HX.out.2
   case measure=>simp [intOf];omega
  ·have e:k=n:=by omega
   subst e
   go_wp2
   go_ret
   exact ⟨_,rfl,⟨fun i hi=>HX.out.1 i (by omega),by rw [hl];exact HX.out.2⟩,rfl⟩
section
variable {M:Nat→Bool} {w:World} {c r d:Nat} {q:Nat→Nat} {pv tv:Value} {g:List Int} {N P S:Nat} {pl:Pln} {X:Raw}
theorem Lay.st (h:Lay M w c r d q pv tv g N P S pl X) {b:Nat} (hb:b<N):w.cell? ⟨r,b*3,none⟩=some (.slice (some ⟨q b,0,none⟩) P P)∧w.cell? ⟨r,b*3+1,none⟩=some (.int .i64 (xe X b))∧w.cell? ⟨r,b*3+2,none⟩=some (.bool (xs X b)):=by
 obtain ⟨-, -, -, -, -,h6, -⟩:=h
 have:=(h6 b hb).1
 exact ⟨this 0 _ rfl,this 1 _ rfl,this 2 _ rfl⟩
theorem Lay.num (h:Lay M w c r d q pv tv g N P S pl X):7≤N∧N≤64∧4≤P∧P≤32∧120≤S∧S≤4184:=by
 obtain ⟨⟨-,hr,e1,e2,e3⟩, -⟩:=h
 obtain ⟨k1,k2,k3, -⟩:=hr.1
 omega
theorem Lay.bytes (h:Lay M w c r d q pv tv g N P S pl X):P*S≤133888∧N*(P*S)≤8568832∧0<P*S:=by
 obtain ⟨a1,a2,a3,a4,a5,a6⟩:=h.num
 have b1:P*S≤32*4184:=Nat.mul_le_mul a4 a6
 have b2:N*(P*S)≤64*(32*4184):=Nat.mul_le_mul a2 b1
 have b3:4*120≤P*S:=Nat.mul_le_mul a3 a5
 omega
end
end Go.Proofs.YtmbgokmomkmgcaaGreatDoor.na
namespace Go.Proofs.YtmbgokmomkmgcaaGreatDoor.na
open Go.RowKit Go.Proofs.YtmbgokmomkmgcaaGreatDoor.fa
set_option maxRecDepth 20000
theorem index_nat (g p:List Int) (hl:g.length=6) (hp:p.length=2) (h:ge.Rt g) (N P b j:Nat) (g0:gb g 0=N) (g1:gb g 1=P) (e0:gb p 0=b) (e1:gb p 1=j) (hb:b<N) (hj:j<P) (w:World):
  Calls Tryz.prog 134 #[.agg (ints .i64 g),.agg (ints .i64 p)] w fun x w'=>x=.returned (.tuple #[.int .i64 ((b*P+j:Nat):Int),.int .i64 0])∧Below w.heap.size w w':=by
 have:=ge.index_yes g p hl hp h (by omega) (by omega) (by omega) (by omega) w
 rw [e0,e1,g1] at this
 have e:((b*P+j:Nat):Int)=(b:Int)*(P:Int)+(j:Int):=by simp
 rw [e];exact this
theorem index_none (g p:List Int) (hl:g.length=6) (hp:p.length=2) (N P:Nat) (g0:gb g 0=N) (g1:gb g 1=P) (h:¬(0≤gb p 0∧gb p 0<N∧0≤gb p 1∧gb p 1<P)) (w:World):
  Calls Tryz.prog 134 #[.agg (ints .i64 g),.agg (ints .i64 p)] w fun x w'=>x=.returned (.tuple #[.int .i64 0,.int .i64 2])∧Below w.heap.size w w':=
 ge.index_no g p hl hp (fun q=>h (by obtain ⟨-,a,b,c,d⟩:=q;omega)) w
theorem idx_fits {N P S b j:Nat} (hb:b<N) (hj:j<P):(b*P+j+1)*S≤N*(P*S)∧b*P+j<N*P:=by
 have h1:b*P+j+1≤N*P:=by
  have:=Nat.mul_le_mul_right P (show b+1≤N by omega)
  rw [Nat.succ_mul] at this;omega
 have:=Nat.mul_le_mul_right S h1
 rw [Nat.mul_assoc] at this
 exact ⟨this,by omega⟩
theorem psize_nat (g:List Int) (hl:g.length=6) (h:ge.Rt g) (S:Nat) (e:gb g 2+88=S) (w:World):
  Calls Tryz.prog 50 #[.agg (ints .i64 g)] w fun x w'=>x=.returned (.int .i64 (S:Int))∧Below w.heap.size w w':=by
 have:=ge.psize_yes g hl h w
 rw [e] at this;exact this
section
variable {M:Nat→Bool} {w:World} {c r d:Nat} {q:Nat→Nat} {pv tv:Value} {g:List Int} {N P S:Nat} {pl:Pln} {X:Raw}
theorem pageCells_no (h:Lay M w c r d q pv tv g N P S pl X) (p:List Int) (hp:p.length=2) (hn:¬(0≤gb p 0∧gb p 0<N∧0≤gb p 1∧gb p 1<P)):
  Calls Tryz.prog 96 #[.pointer (some ⟨c,0,none⟩),.agg (ints .i64 p)] w fun e w'=>e=.returned (.tuple #[.slice none 0 0,.int .i64 2])∧Below w.heap.size w w':=by
 have HL:=hdH (h)
 obtain ⟨gl,hr,g0,g1,g2⟩:=h.1
 have SI:Hid (∀ w,Calls Tryz.prog 134 #[.agg (ints .i64 g),.agg (ints .i64 p)] w fun x w'=>x=.returned (.tuple #[.int .i64 0,.int .i64 2])∧Below w.heap.size w w'):=index_none g p gl hp N P g0 g1 hn
 clear hn
 clear h
 have t0:=tR
 go_enter Tryz.func96,Tryz.ntmps96
 go_wp2_with (have q0:=t0;refine box_lawF _ rfl (.tmp 1) 78 rfl .i64 p rfl ?_;intro w1 X1 B1 l1;have HP:=hdH (X1);have HL:=hdH (HL.out.below B1);have BB:=hdH (B1);clear X1 B1 t0)
 refine wp_region_held_drew (S:=fun w'=>Below w1.heap.size w1 w') (by kernel_rfl) (Below.refl _ _).drew (fun hS=>?_)
 obtain ⟨x1,hx0⟩:∃ x,x=w1.drew:=⟨_,rfl⟩
 rw [←hx0] at hS ⊢
 clear hx0
 refine tkH 0 (some 9) (.pointer (some ⟨c,0,none⟩)) rfl rfl (Or.inl ⟨by rfl,fun w' hw'=>by rfl⟩) hS ?_
 simp only [Act.put,zE1,zE2,zE3]
 refine tkH 1 (some 10) (.pointer (some ⟨c,0,none⟩)) rfl rfl (Or.inl ⟨by rfl,fun w' hw'=>by go_simp⟩) hS ?_
 simp only [Act.put,zE1,zE2,zE3]
 refine tkH 2 (some 11) (.pointer (some ⟨c,0,none⟩)) rfl rfl (Or.inl ⟨by rfl,fun w' hw'=>by go_simp⟩) hS ?_
 simp only [Act.put,zE1,zE2,zE3]
 refine tkH 3 (some 12) (.agg (ints .i64 g)) rfl rfl (Or.inl ⟨by rfl,fun w' hw'=>by exact exec_loadN 23 (.tmp 11) rfl _ rfl _ _ (ld_geo gl (HL.out.below hw').geo)⟩) hS ?_
 simp only [Act.put,zE1,zE2,zE3]
 refine tkH 4 (some 13) (.agg (ints .i64 p)) rfl rfl (Or.inl ⟨by rfl,fun w' hw'=>by exact exec_loadN 78 (.tmp 3) rfl _ rfl _ _ (ld_place hp (HP.out.below hw' l1).1)⟩) hS ?_
 simp only [Act.put,zE1,zE2,zE3]
 refine wpAnyH_ready (rs:=[5]) (by kernel_rfl) (by simp) ?_
 refine AllReadyH.cons rfl (fun K hK=>?_) AllReadyH.nil
 refine ge.step_callW _ (by rfl) (some 14) rfl 134 #[.tmp 12,.tmp 13] #[23,78] rfl (fun q w'=>by rfl) #[.agg (ints .i64 g),.agg (ints .i64 p)] (by simp only [List.map_toArray,List.map_cons,List.map_nil];rfl) (fun v w'=>v=(.tuple #[.int .i64 (0),.int .i64 2])∧Below x1.heap.size x1 w') ?_ ?_
 ·exact (SI.out x1).mono fun e w' ⟨h1,h2⟩=>⟨_,h1,rfl,h2⟩
 rintro _ x2 ⟨rfl,hb⟩
 have hS:Below w1.heap.size w1 x2:=hS.trans (hb.mono hS.size)
 clear hb
 refine hK.out _ _ hS (fun _=>?_)
 simp only [Act.put,zE1,zE2,zE3]
 clear hK K
 refine tkH 6 (some 8) ((.tuple #[.int .i64 (0),.int .i64 2])) rfl rfl (Or.inl ⟨by rfl,fun w' hw'=>by rfl⟩) hS ?_
 simp only [Act.put,zE1,zE2,zE3]
 refine tkH 7 (some 15) (.int .i64 (0)) rfl rfl (Or.inl ⟨by rfl,fun w' hw'=>by rfl⟩) hS ?_
 simp only [Act.put,zE1,zE2,zE3]
 refine tkH 8 (some 16) (.int .i64 2) rfl rfl (Or.inl ⟨by rfl,fun w' hw'=>by rfl⟩) hS ?_
 simp only [Act.put,zE1,zE2,zE3]
 refine tkH 9 (some 6) (.int .i64 (0)) rfl rfl (Or.inl ⟨by rfl,fun w' hw'=>by rfl⟩) hS ?_
 simp only [Act.put,zE1,zE2,zE3]
 refine tkH 10 (some 7) (.int .i64 2) rfl rfl (Or.inl ⟨by rfl,fun w' hw'=>by rfl⟩) hS ?_
 simp only [Act.put,zE1,zE2,zE3]
 refine wpAnyH_done (by kernel_rfl) ?_ _
 have BB:=hdH (BB.out.trans (hS.mono BB.out.size))
 have HL:=hdH (HL.out.below hS)
 clear hS
 go_wp2
 go_ret2
 exact ⟨rfl,BB.out⟩
theorem pageCells_yes (h:Lay M w c r d q pv tv g N P S pl X) (p:List Int) (hp:p.length=2) (b j n:Nat) (e0:gb p 0=b) (e1:gb p 1=j) (hb:b<N) (hj:j<P) (hn:n=b*P+j):
  Calls Tryz.prog 96 #[.pointer (some ⟨c,0,none⟩),.agg (ints .i64 p)] w fun e w'=>e=.returned (.tuple #[.slice (some ⟨d,n*S,none⟩) S (N*(P*S)-n*S),.int .i64 0])∧Below w.heap.size w w':=by
 have HL:=hdH (h)
 obtain ⟨gl,hr,g0,g1,g2⟩:=h.1
 have SI:Hid (∀ w,Calls Tryz.prog 134 #[.agg (ints .i64 g),.agg (ints .i64 p)] w fun x w'=>x=.returned (.tuple #[.int .i64 ((n:Nat):Int),.int .i64 0])∧Below w.heap.size w w'):=by
  subst hn;exact index_nat g p gl hp hr N P b j g0 g1 e0 e1 hb hj
 have SP:Hid (∀ w,Calls Tryz.prog 50 #[.agg (ints .i64 g)] w fun x w'=>x=.returned (.int .i64 (S:Int))∧Below w.heap.size w w'):=psize_nat g gl hr S g2
 have SQ:Hid (∀ w,Calls Tryz.prog 135 #[.slice (some ⟨d,0,none⟩) (N*(P*S)) (N*(P*S)),.int .i64 (n:Int),.int .i64 (S:Int)] w fun e w'=>e=.returned (.slice (some ⟨d,n*S,none⟩) S (N*(P*S)-n*S))∧Below w.heap.size w w'):=fun w=>by
  obtain ⟨a1,a2,a3,a4,a5,a6⟩:=h.num
  obtain ⟨b1,b2,b3⟩:=h.bytes
  have f:=idx_fits (S:=S) hb hj
  rw [←hn] at f
  have f3:n<N*P:=f.2
  have f4:N*P≤64*32:=Nat.mul_le_mul a2 a4
  exact (part_any d (N*(P*S)) n S w (by omega) f.1 (by omega) (by omega) (by omega)).mono fun e w' ⟨h1,h2⟩=>⟨h1,by rw [h2];exact Below.refl _ _⟩
 clear hb hj e0 e1 hn
 clear h
 have t0:=tR
 go_enter Tryz.func96,Tryz.ntmps96
 go_wp2_with (have q0:=t0;refine box_lawF _ rfl (.tmp 1) 78 rfl .i64 p rfl ?_;intro w1 X1 B1 l1;have HP:=hdH (X1);have HL:=hdH (HL.out.below B1);have BB:=hdH (B1);clear X1 B1 t0)
 refine wp_region_held_drew (S:=fun w'=>Below w1.heap.size w1 w') (by kernel_rfl) (Below.refl _ _).drew (fun hS=>?_)
 obtain ⟨x1,hx0⟩:∃ x,x=w1.drew:=⟨_,rfl⟩
 rw [←hx0] at hS ⊢
 clear hx0
 refine tkH 0 (some 9) (.pointer (some ⟨c,0,none⟩)) rfl rfl (Or.inl ⟨by rfl,fun w' hw'=>by rfl⟩) hS ?_
 simp only [Act.put,zE1,zE2,zE3]
 refine tkH 1 (some 10) (.pointer (some ⟨c,0,none⟩)) rfl rfl (Or.inl ⟨by rfl,fun w' hw'=>by go_simp⟩) hS ?_
 simp only [Act.put,zE1,zE2,zE3]
 refine tkH 2 (some 11) (.pointer (some ⟨c,0,none⟩)) rfl rfl (Or.inl ⟨by rfl,fun w' hw'=>by go_simp⟩) hS ?_
 simp only [Act.put,zE1,zE2,zE3]
 refine tkH 3 (some 12) (.agg (ints .i64 g)) rfl rfl (Or.inl ⟨by rfl,fun w' hw'=>by exact exec_loadN 23 (.tmp 11) rfl _ rfl _ _ (ld_geo gl (HL.out.below hw').geo)⟩) hS ?_
 simp only [Act.put,zE1,zE2,zE3]
 refine tkH 4 (some 13) (.agg (ints .i64 p)) rfl rfl (Or.inl ⟨by rfl,fun w' hw'=>by exact exec_loadN 78 (.tmp 3) rfl _ rfl _ _ (ld_place hp (HP.out.below hw' l1).1)⟩) hS ?_
 simp only [Act.put,zE1,zE2,zE3]
 refine wpAnyH_ready (rs:=[5]) (by kernel_rfl) (by simp) ?_
 refine AllReadyH.cons rfl (fun K hK=>?_) AllReadyH.nil
 refine ge.step_callW _ (by rfl) (some 14) rfl 134 #[.tmp 12,.tmp 13] #[23,78] rfl (fun q w'=>by rfl) #[.agg (ints .i64 g),.agg (ints .i64 p)] (by simp only [List.map_toArray,List.map_cons,List.map_nil];rfl) (fun v w'=>v=(.tuple #[.int .i64 (((n:Nat):Int)),.int .i64 0])∧Below x1.heap.size x1 w') ?_ ?_
 ·exact (SI.out x1).mono fun e w' ⟨h1,h2⟩=>⟨_,h1,rfl,h2⟩
 rintro _ x2 ⟨rfl,hb⟩
 have hS:Below w1.heap.size w1 x2:=hS.trans (hb.mono hS.size)
 clear hb
 refine hK.out _ _ hS (fun _=>?_)
 simp only [Act.put,zE1,zE2,zE3]
 clear hK K
 refine tkH 6 (some 8) ((.tuple #[.int .i64 (((n:Nat):Int)),.int .i64 0])) rfl rfl (Or.inl ⟨by rfl,fun w' hw'=>by rfl⟩) hS ?_
 simp only [Act.put,zE1,zE2,zE3]
 refine tkH 7 (some 15) (.int .i64 (((n:Nat):Int))) rfl rfl (Or.inl ⟨by rfl,fun w' hw'=>by rfl⟩) hS ?_
 simp only [Act.put,zE1,zE2,zE3]
 refine tkH 8 (some 16) (.int .i64 0) rfl rfl (Or.inl ⟨by rfl,fun w' hw'=>by rfl⟩) hS ?_
 simp only [Act.put,zE1,zE2,zE3]
 refine tkH 9 (some 6) (.int .i64 (((n:Nat):Int))) rfl rfl (Or.inl ⟨by rfl,fun w' hw'=>by rfl⟩) hS ?_
 simp only [Act.put,zE1,zE2,zE3]
 refine tkH 10 (some 7) (.int .i64 0) rfl rfl (Or.inl ⟨by rfl,fun w' hw'=>by rfl⟩) hS ?_
 simp only [Act.put,zE1,zE2,zE3]
 refine wpAnyH_done (by kernel_rfl) ?_ _
 have BB:=hdH (BB.out.trans (hS.mono BB.out.size))
 have HL:=hdH (HL.out.below hS)
 clear hS
 go_wp2
 refine wp_region_held_drew (S:=fun w'=>Below x2.heap.size x2 w') (by kernel_rfl) (Below.refl _ _).drew (fun hS=>?_)
 obtain ⟨y1,hx0⟩:∃ x,x=x2.drew:=⟨_,rfl⟩
 rw [←hx0] at hS ⊢
 clear hx0
 refine tkH 0 (some 20) (.pointer (some ⟨c,0,none⟩)) rfl rfl (Or.inl ⟨by rfl,fun w' hw'=>by rfl⟩) hS ?_
 simp only [Act.put,zE1,zE2,zE3]
 refine tkH 1 (some 21) (.pointer (some ⟨c,0,none⟩)) rfl rfl (Or.inl ⟨by rfl,fun w' hw'=>by go_simp⟩) hS ?_
 simp only [Act.put,zE1,zE2,zE3]
 refine tkH 2 (some 22) (.pointer (some ⟨c,8,none⟩)) rfl rfl (Or.inl ⟨by rfl,fun w' hw'=>by go_simp⟩) hS ?_
 simp only [Act.put,zE1,zE2,zE3]
 refine tkH 3 (some 23) (.slice (some ⟨d,0,none⟩) (N*(P*S)) (N*(P*S))) rfl rfl (Or.inl ⟨by rfl,fun w' hw'=>by exact exec_loadN 26 (.tmp 22) rfl _ rfl _ _ (load_one one_bytes (HL.out.below hw').cells.2.2.1)⟩) hS ?_
 simp only [Act.put,zE1,zE2,zE3]
 refine tkH 4 (some 24) (.int .i64 (n:Int)) rfl rfl (Or.inl ⟨by rfl,fun w' hw'=>by rfl⟩) hS ?_
 simp only [Act.put,zE1,zE2,zE3]
 refine tkH 5 (some 25) (.pointer (some ⟨c,0,none⟩)) rfl rfl (Or.inl ⟨by rfl,fun w' hw'=>by rfl⟩) hS ?_
 simp only [Act.put,zE1,zE2,zE3]
 refine tkH 6 (some 26) (.pointer (some ⟨c,0,none⟩)) rfl rfl (Or.inl ⟨by rfl,fun w' hw'=>by go_simp⟩) hS ?_
 simp only [Act.put,zE1,zE2,zE3]
 refine tkH 7 (some 27) (.pointer (some ⟨c,0,none⟩)) rfl rfl (Or.inl ⟨by rfl,fun w' hw'=>by go_simp⟩) hS ?_
 simp only [Act.put,zE1,zE2,zE3]
 refine tkH 8 (some 28) (.agg (ints .i64 g)) rfl rfl (Or.inl ⟨by rfl,fun w' hw'=>by exact exec_loadN 23 (.tmp 27) rfl _ rfl _ _ (ld_geo gl (HL.out.below hw').geo)⟩) hS ?_
 simp only [Act.put,zE1,zE2,zE3]
 refine wpAnyH_ready (rs:=[9]) (by kernel_rfl) (by simp) ?_
 refine AllReadyH.cons rfl (fun K hK=>?_) AllReadyH.nil
 refine ge.step_callW _ (by rfl) (some 29) rfl 50 #[.tmp 28] #[23] rfl (fun q w'=>by rfl) #[.agg (ints .i64 g)] (by simp only [List.map_toArray,List.map_cons,List.map_nil];rfl) (fun v w'=>v=(.int .i64 (S:Int))∧Below y1.heap.size y1 w') ?_ ?_
 ·exact (SP.out y1).mono fun e w' ⟨h1,h2⟩=>⟨_,h1,rfl,h2⟩
 rintro _ y2 ⟨rfl,hb⟩
 have hS:Below x2.heap.size x2 y2:=hS.trans (hb.mono hS.size)
 clear hb
 refine hK.out _ _ hS (fun _=>?_)
 simp only [Act.put,zE1,zE2,zE3]
 clear hK K
 refine wpAnyH_ready (rs:=[10]) (by kernel_rfl) (by simp) ?_
 refine AllReadyH.cons rfl (fun K hK=>?_) AllReadyH.nil
 refine ge.step_callW _ (by rfl) (some 30) rfl 135 #[.tmp 23,.tmp 24,.tmp 29] #[26,3,3] rfl (fun q w'=>by rfl) #[.slice (some ⟨d,0,none⟩) (N*(P*S)) (N*(P*S)),.int .i64 (n:Int),.int .i64 (S:Int)] (by simp only [List.map_toArray,List.map_cons,List.map_nil];rfl) (fun v w'=>v=(.slice (some ⟨d,n*S,none⟩) S (N*(P*S)-n*S))∧Below y2.heap.size y2 w') ?_ ?_
 ·exact (SQ.out y2).mono fun e w' ⟨h1,h2⟩=>⟨_,h1,rfl,h2⟩
 rintro _ y3 ⟨rfl,hb⟩
 have hS:Below x2.heap.size x2 y3:=hS.trans (hb.mono hS.size)
 clear hb
 refine hK.out _ _ hS (fun _=>?_)
 simp only [Act.put,zE1,zE2,zE3]
 clear hK K
 refine tkH 11 (some 4) ((.slice (some ⟨d,n*S,none⟩) S (N*(P*S)-n*S))) rfl rfl (Or.inl ⟨by rfl,fun w' hw'=>by rfl⟩) hS ?_
 simp only [Act.put,zE1,zE2,zE3]
 refine tkH 12 (some 5) (.int .i64 0) rfl rfl (Or.inl ⟨by rfl,fun w' hw'=>by rfl⟩) hS ?_
 simp only [Act.put,zE1,zE2,zE3]
 refine wpAnyH_done (by kernel_rfl) ?_ _
 have BB:=hdH (BB.out.trans (hS.mono BB.out.size))
 clear hS
 go_wp2
 go_ret2
 exact ⟨rfl,BB.out⟩
end
end Go.Proofs.YtmbgokmomkmgcaaGreatDoor.na
namespace Go.Proofs.YtmbgokmomkmgcaaGreatDoor.na
open Go.RowKit Go.Proofs.YtmbgokmomkmgcaaGreatDoor.fa
set_option maxRecDepth 20000
theorem exec_mul {ev:Operand→Value} {o:Oper} {w:World} (x y:Operand) (hop:o.op=Op.binOp .mul 3 x y 3) (A B q:Int) (hx:ev x=.int .i64 A) (hy:ev y=.int .i64 B) (hq:IntKind.i64.wrap (A*B)=q):(execOp ev o).run Tryz.prog w=.ok (.value (.int .i64 q)) w:=by
 subst hq
 unfold execOp
 simp only [hop,hx,hy]
 rfl
theorem wrap_mul (P S:Nat) (h:P*S≤16777216):IntKind.i64.wrap ((P:Int)*(S:Int))=((P*S:Nat):Int):=by
 have:(P:Int)*(S:Int)=((P*S:Nat):Int):=by simp
 rw [this,IntKind.wrap_i64];omega
section
variable {M:Nat→Bool} {w:World} {c r d:Nat} {q:Nat→Nat} {pv tv:Value} {g:List Int} {N P S:Nat} {pl:Pln} {X:Raw}
def Bhd (l:List Int) (p:Nat):Prop:=∃ i,p≤i∧i<l.length∧0<gb l i
theorem gb_drop (l:List Int) (p i:Nat):gb (l.drop p) i=gb l (p+i):=by simp [gb,List.getD]
theorem refuses_any (rb ro qb:Nat) (s:Bool) (l:List Int) (p P:Nat) (w:World) (c0:w.cell? ⟨rb,ro,none⟩=some (.slice (some ⟨qb,0,none⟩) P P)) (c2:w.cell? ⟨rb,ro+2,none⟩=some (.bool s)) (hA:Ar w qb 0 .i64 l) (hl:l.length=P) (hp:p<P) (hP:P≤32) (x:Int)
  (h7:s=true∨2≤gb l p→x=7) (h6:s=false→gb l p=0→Bhd l p→x=6) (h0:s=false→gb l p<2→¬(gb l p=0∧Bhd l p)→x=0):
  Calls Tryz.prog 97 #[.pointer (some ⟨rb,ro,none⟩),.int .i64 (p:Int)] w fun e w'=>e=.returned (.int .i64 x)∧w'=w:=by
 cases s with
 |true=>
  have hx:=h7 (Or.inl rfl)
  subst hx
  clear h7 h6 h0
  go_enter Tryz.func97,Tryz.ntmps97
  go_wp2
  go_ret
  exact ⟨rfl,rfl⟩
 |false=>
  have cp:=hA.cell0 p (by omega)
  have i0:(0 :Int)≤(p:Int):=by omega
  have i1:(p:Int)<(P:Int):=by omega
  have i2:(p:Int)≤(P:Int):=by omega
  have hne:¬(P=p):=by omega
  have HA:=hdH (hA)
  by_cases h2:2≤gb l p
  ·have hx:=h7 (Or.inr h2)
   subst hx
   clear h7 h6 h0 hA
   generalize gb l p=u at*
   go_enter Tryz.func97,Tryz.ntmps97
   go_wp2
   go_ret
   exact ⟨rfl,rfl⟩
  ·by_cases hu:gb l p=0
   ·have SM:Hid (∀ w0,w0=w→Calls Tryz.prog 136 #[.slice (some ⟨qb,p,none⟩) (P-p) (P-p)] w0 fun e w'=>∃ m,e=.returned (.int .i64 m)∧Mx (l.drop p) m∧w'=w0):=fun w0 e=>by
     subst e
     have hd:Ar w0 qb p .i64 (l.drop p):=by
      have:=hA.subG p (l.drop p) (by simp;omega) (fun t _=>gb_drop l p t)
      rwa [Nat.zero_add] at this
     exact max_any qb p (P-p) (P-p) (l.drop p) w0 hd (by simp;omega) (by omega) (Nat.le_refl _) (by omega)
    have H6:Hid (Bhd l p→x=6):=fun hb=>h6 rfl hu hb
    have H0:Hid (¬Bhd l p→x=0):=fun hb=>h0 rfl (by omega) fun q=>hb q.2
    rw [hu] at cp
    have HL:=hdH (hl)
    clear h7 h6 h0 hA h2 hu hl
    go_enter Tryz.func97,Tryz.ntmps97
    go_wp2_with (go_at_call 136;refine (SM.out _ rfl).mono ?_;rintro e w' ⟨m,rfl,hm,hw⟩;obtain rfl:=hw.symm;have HM:=hdH (hm);clear hm)
    ·rename_i hpos
     have hx:=H6.out (by
      obtain ⟨i,hi,e⟩:=HM.out.2
      rw [gb_drop] at e
      rw [List.length_drop] at hi
      exact ⟨p+i,by omega,by omega,by omega⟩)
     subst hx
     go_ret
     exact ⟨rfl,rfl⟩
    ·rename_i hpos
     have hx:=H0.out (fun ⟨i,h1,h2,h3⟩=>by
      have:=HM.out.1 (i-p) (by rw [List.length_drop];omega)
      rw [gb_drop,show p+(i-p)=i by omega] at this
      omega)
     subst hx
     go_ret
     exact ⟨rfl,rfl⟩
   ·have hx:=h0 rfl (by omega) (fun q=>hu q.1)
    subst hx
    clear h7 h6 h0 hA
    generalize gb l p=u at*
    have hu':(u == 0)=false:=beq_eq_false_iff_ne.2 hu
    go_enter Tryz.func97,Tryz.ntmps97
    go_wp2
    go_ret
    exact ⟨rfl,rfl⟩
theorem zero_geo:(Tryz.prog.info? 23).map (fun i=>(i.zero,i.size))=some (some (.agg ([.int .i64 0,.int .i64 0,.int .i64 0,.int .i64 0,.int .i64 0,.int .i64 0]:List Value).toArray),6):=by kernel_rfl
theorem geometry_any (h:Lay M w c r d q pv tv g N P S pl X):
  Calls Tryz.prog 25 #[.pointer (some ⟨c,0,none⟩)] w fun e w'=>e=.returned (.agg (ints .i64 g))∧Below w.heap.size w w':=by
 have HL:=hdH (h)
 have hl:=h.1.1
 clear h
 have t0:=tR
 go_enter Tryz.func25,Tryz.ntmps25
 go_wp2_with (first
  |(have q2:=t2;refine store_lawC _ (g.map (Value.int .i64)) w.heap.size 0 rfl rfl (by rw [List.length_map,hl];exact HV.out.2) (by rw [List.length_map,hl];exact rowy_geo.2) (fun v hv=>by obtain ⟨z, -,rfl⟩:=List.mem_map.1 hv;rfl) ?_;intro w2 E2 R2 T2 B2;have HR:=hdH (R2);have BB:=hdH (BB.out.trans B2);clear R2 T2 E2 B2 t2)
  |(have q1:=t1;refine load_lawS _ (by rfl) _ _ rfl (ld_geo hl (HL.out.below BB.out).geo) ?_;clear t1;have t2:=tR)
  |(have q0:=t0;refine new_lawC _ _ zero_geo ?_;intro w1 V1 B1 l1;have HV:=hdH (V1);have f0:=(HL.out.below B1).cells.1;have BB:=hdH (B1);clear V1 B1 t0;have t1:=tR))
 exact bodyPost_ret (v:=.agg (ints .i64 g)) (results_c rfl _ _ w.heap.size (g.map (Value.int .i64)) (by rw [List.length_map,hl];exact rowy_geo) rfl HR.out) rfl ⟨rfl,BB.out⟩
end
end Go.Proofs.YtmbgokmomkmgcaaGreatDoor.na
