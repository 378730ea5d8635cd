/- Parts of the proof: what ScanBlocks reaches. No claim of its own. -/
import Derived.Laws.AppendOwnNone
import Derived.WalkKit
import Derived.WalkSmall
import Derived.ProofKit
import Derived.OpenShut
import Derived.BigQuiet
import Derived.Deep.QuietTactic
import Derived.Deep.RegionHeld3
import Derived.Laws.StructEq
import Derived.Lib.AppendZeros
import Derived.Lib.SliceRun
import Derived.Deep.DeepHandedRow
import Derived.Lib.LaidTab
import Derived.Deep.Matrix
import Derived.Deep.WholeRow
import Derived.Deep.MidRow
import Derived.Deep.DeepCutAuto
import Derived.Lib.MakeNoZero
import Derived.ArgAppend
import Derived.Test.YtmbgokmomkmgcaaGreatDoorK00
import Derived.Test.YtmbgokmomkmgcaaGreatDoorK01
import Derived.Test.YtmbgokmomkmgcaaGreatDoorK02
import Derived.Test.YtmbgokmomkmgcaaGreatDoorK03
import Derived.Test.YtmbgokmomkmgcaaGreatDoorK04
import Derived.Test.YtmbgokmomkmgcaaGreatDoorK05
import Derived.Test.YtmbgokmomkmgcaaGreatDoorK06
import Derived.Test.YtmbgokmomkmgcaaGreatDoorK07
import Derived.Test.YtmbgokmomkmgcaaGreatDoorK08
import Derived.Test.YtmbgokmomkmgcaaGreatDoorK09
import Derived.Test.YtmbgokmomkmgcaaGreatDoorK10
import Derived.Test.YtmbgokmomkmgcaaGreatDoorK11
import Derived.Test.YtmbgokmomkmgcaaGreatDoorK12
import Derived.Test.YtmbgokmomkmgcaaGreatDoorK13
import Derived.Test.YtmbgokmomkmgcaaGreatDoorK14
set_option maxHeartbeats 8000000
namespace Go.Proofs.YtmbgokmomkmgcaaGreatDoor.pa
open Go.RowKit Go.Proofs.YtmbgokmomkmgcaaGreatDoor.fa Go.Proofs.YtmbgokmomkmgcaaGreatDoor.he
set_option maxRecDepth 20000
section
variable {ops:Array Oper} {rest:List Oper} {a:Act} {Q:Exit→Act→World→Prop} {w:World} {d:Option Tmp} {ty:TypeId} {pos:String} {af:Array Edge} {gd:Option (Nat × Bool)}
theorem at_store {t:TypeId} {x y:Operand} (h:wpList Tryz.prog ops Q (⟨d,Op.store t x y,ty,pos,af,gd⟩ :: rest) a w):wpList Tryz.prog ops Q (⟨d,Op.store t x y,ty,pos,af,gd⟩ :: rest) a w:=h
theorem at_alloc {t:TypeId} (h:wpList Tryz.prog ops Q (⟨d,Op.alloc t,ty,pos,af,gd⟩ :: rest) a w):wpList Tryz.prog ops Q (⟨d,Op.alloc t,ty,pos,af,gd⟩ :: rest) a w:=h
end
def plo (S:Nat) (p:List Int):List Int:=if p.length=0 then List.replicate S 255 else p
theorem sec_of {g0 g1 g2 g3 g4 g5:Int} (h:ge.Rt [g0,g1,g2,g3,g4,g5]):∃ S:Nat,g2=S∧32≤S∧S≤4096:=by
 obtain ⟨⟨-, -,a2, -⟩, -⟩:=h
 simp only [gb,List.getD,List.getElem?_cons_zero,List.getElem?_cons_succ,Option.getD_some] at a2
 exact ⟨g2.toNat,by omega,by omega,by omega⟩
theorem sec_le {g0 g1 g3 g4 g5:Int} {S:Nat} (h:ge.Rt [g0,g1,(S:Int),g3,g4,g5]):32≤S∧S≤4096:=by
 obtain ⟨T,h1,h2,h3⟩:=sec_of h
 omega
theorem own_form {B:Nat} {w:World} {v:Value} {xs:List Int} (h:Own B w v xs) (ha:AllB xs):∃ ao cap,v=.slice ao xs.length cap:=by
 obtain ⟨ao,cap,e, -⟩:=h.byt ha
 exact ⟨ao,cap,e⟩
theorem hend_all {k n c l e t:Int} (h:Rh k n c) {tag mk:List Int} (h1:AllB tag) (h2:AllB mk):AllB (hend (hb k n c l e t) tag mk):=by
 have hb1:=hb_all h l e t
 exact allB_app hb1 (allB_app (inv_all _ hb1) (allB_app h1 h2))
theorem tgo_all {tag:List Int} (h:AllB tag):AllB (tgo tag):=by
 unfold tgo
 split
 ·exact allB_replicate 255 _ (by omega)
 ·exact h
end Go.Proofs.YtmbgokmomkmgcaaGreatDoor.pa
namespace Go.Proofs.YtmbgokmomkmgcaaGreatDoor.pa
open Go.RowKit Go.Proofs.YtmbgokmomkmgcaaGreatDoor.fa Go.Proofs.YtmbgokmomkmgcaaGreatDoor.he
set_option maxRecDepth 20000
theorem rfill_own (x n:Int) (w:World):
  Calls Tryz.prog 89 #[.int .u8 x,.int .i64 n] w fun e w'=>∃ v,e=.returned v∧Own w.heap.size w' v (List.replicate (clamp n 65536) x)∧Below w.heap.size w w':=by
 have hs:((clamp n 65536 :Nat):Int)=min (max n 0) 65536:=by unfold clamp;omega
 generalize hsd:clamp n 65536=s at hs
 have HS:=hdH (hs)
 have hs1:s≤65536:=by omega
 clear hsd hs
 go_enter Tryz.func89,Tryz.ntmps89
 go_wp2
 go_loopw [5,6] (fun v i wr=>∃ k:Nat,k≤s∧i=.int .i64 k∧Own w.heap.size wr v (List.replicate k x)∧Below w.heap.size w wr) (fun _ i _=>s-(intOf i).toNat)
 case atStart=>exact ⟨0,Nat.zero_le _,rfl,Own.empty w (Nat.le_refl _),(Below.refl _ _).alloc (Nat.le_refl _) _⟩
 case round=>
  obtain ⟨k,hk,rfl,hown,hbel⟩:=hrel
  have hsz:=hbel.size
  by_cases hlt:k<s
  ·have h1:(k:Int)<n:=by have:=HS.out;omega
   have h2:(k:Int)<65536:=by omega
   go_wp2_with (at_builtin;refine push_law wr rfl (.tmp 17) (.tmp 19) rfl w.heap.size (by omega) _ _ x rfl rfl hown (by simp;omega) ?_;intro v' w1 hown' hbel')
   rw [←List.replicate_succ'] at hown'
   go_roundw
   case rel=>exact ⟨k+1,by omega,by go_num,hown',hbel.trans hbel'⟩
   case measure=>simp [intOf];omega
  ·have hks:k=s:=by omega
   subst hks
   by_cases h1:(k:Int)<n
   ·have h2:¬(k:Int)<65536:=by have:=HS.out;omega
    go_wp2
    go_ret
    exact ⟨_,rfl,hown,hbel⟩
   ·go_wp2
    go_ret
    exact ⟨_,rfl,hown,hbel⟩
end Go.Proofs.YtmbgokmomkmgcaaGreatDoor.pa
namespace Go.Proofs.YtmbgokmomkmgcaaGreatDoor.na
open Go.RowKit Go.Proofs.YtmbgokmomkmgcaaGreatDoor.fa
set_option maxRecDepth 20000
def pgc (P:Nat) (xv:Nat→Value):List (List Value):=(List.range P).map fun p=> [xv p]
def usc (P:Nat) (us:Nat→Int):List (List Value):=(List.range P).map fun p=> [.int .i64 (us p)]
theorem pgc_len (P:Nat) (xv:Nat→Value):(pgc P xv).length =P:=by simp [pgc]
theorem usc_len (P:Nat) (us:Nat→Int):(usc P us).length =P:=by simp [usc]
theorem pgc_el (P:Nat) (xv:Nat→Value) (p:Nat) (h:p<P):el (pgc P xv) p= [xv p]:=by simp [el,pgc,List.getD,h]
theorem usc_el (P:Nat) (us:Nat→Int) (p:Nat) (h:p<P):el (usc P us) p= [.int .i64 (us p)]:=by simp [el,usc,List.getD,h]
theorem pgc_succ (P:Nat) (xv:Nat→Value):pgc (P+1) xv=pgc P xv ++ [[xv P]]:=by simp [pgc,List.range_succ]
theorem usc_succ (P:Nat) (us:Nat→Int):usc (P+1) us=usc P us ++ [[.int .i64 (us P)]]:=by simp [usc,List.range_succ]
theorem pgc_congr {P:Nat} {xv yv:Nat→Value} (h:∀ p,p<P→xv p=yv p):pgc P xv=pgc P yv:=by
 unfold pgc
 exact List.map_congr_left fun p hp=>by rw [h p (List.mem_range.1 hp)]
theorem usc_congr {P:Nat} {u v:Nat→Int} (h:∀ p,p<P→u p=v p):usc P u=usc P v:=by
 unfold usc
 exact List.map_congr_left fun p hp=>by rw [h p (List.mem_range.1 hp)]
theorem pgc_set (P:Nat) (xv:Nat→Value) (p:Nat) (x:Value) (h:p<P):(pgc P xv).set p [x]=pgc P (at1 xv p x):=by
 apply List.ext_getElem?
 intro i
 rw [List.getElem?_set]
 by_cases e:p=i
 ·subst e
  simp [pgc,at1,h]
 ·rw [if_neg e]
  by_cases hi:i<P
  ·simp [pgc,hi,at1,Ne.symm e]
  ·simp [pgc,hi]
theorem usc_set (P:Nat) (us:Nat→Int) (p:Nat) (x:Int) (h:p<P):(usc P us).set p [.int .i64 x]=usc P (at1 us p x):=by
 apply List.ext_getElem?
 intro i
 rw [List.getElem?_set]
 by_cases e:p=i
 ·subst e
  simp [usc,at1,h]
 ·rw [if_neg e]
  by_cases hi:i<P
  ·simp [usc,hi,at1,Ne.symm e]
  ·simp [usc,hi]
def Blk (w:World) (gv uv:Value) (P:Nat) (pg:Nat→List Int) (us:Nat→Int):Prop:=(∃ xv:Nat→Value,Rws w gv 1 (pgc P xv)∧∀ p,p<P→Byt w (xv p) (pg p))∧Rws w uv 1 (usc P us)
theorem Blk.below {w w':World} {gv uv:Value} {P:Nat} {pg:Nat→List Int} {us:Nat→Int} (h:Blk w gv uv P pg us) (hb:Below w.heap.size w w'):Blk w' gv uv P pg us:=by
 obtain ⟨⟨xv,h1,h2⟩,h3⟩:=h
 exact ⟨⟨xv,h1.below (by omega) hb,fun p hp=>(h2 p hp).below hb⟩,h3.below (by omega) hb⟩
theorem hid_blk {M:Nat→Bool} {w:World} {gv uv:Value} {P:Nat} {pg:Nat→List Int} {us:Nat→Int} (h:Blk (hid M w) gv uv P pg us):Blk w gv uv P pg us:=by
 obtain ⟨⟨xv,h1,h2⟩,h3⟩:=h
 exact ⟨⟨xv,hid_rws h1,fun p hp=>hid_byt (h2 p hp)⟩,hid_rws h3⟩
theorem Blk.congr {w:World} {gv uv:Value} {P:Nat} {pg pg':Nat→List Int} {us us':Nat→Int} (h:Blk w gv uv P pg us) (e1:∀ p,p<P→pg p=pg' p) (e2:∀ p,p<P→us p=us' p):Blk w gv uv P pg' us':=by
 obtain ⟨⟨xv,h1,h2⟩,h3⟩:=h
 exact ⟨⟨xv,h1,fun p hp=>by rw [←e1 p hp];exact h2 p hp⟩,by rw [←usc_congr e2];exact h3⟩
def BlkO (B:Nat) (w:World) (gv uv:Value) (P:Nat) (pg:Nat→List Int) (us:Nat→Int):Prop:=(∃ xv:Nat→Value,OwR B w gv 26 1 (pgc P xv)∧∀ p,p<P→Own B w (xv p) (pg p))∧OwR B w uv 3 1 (usc P us)
theorem own_apart {w:World} {B B' n n' k k':Nat} {v v':Value} {e e':TypeId} {xs ys:List Value} (h:w.ownsRow B e k v n xs) (h':w.ownsRow B' e' k' v' n' ys) (hne:e≠e'):v.ownBlock=none∨v.ownBlock≠v'.ownBlock:=by
 rcases h.2 with ⟨rfl, -⟩ | ⟨g,cap,cur,rfl, -,hg, -⟩
 ·exact Or.inl rfl
 ·right
  intro e1
  rcases h'.2 with ⟨rfl, -⟩ | ⟨g',cap',cur',rfl, -,hg', -⟩
  ·cases e1
  ·have:g=g':=by injection e1
   subst this
   rw [hg] at hg'
   injection hg' with hg'
   injection hg' with _ h2
   exact hne h2
theorem OwR.ap {w w':World} {B:Nat} {v:Value} {e:TypeId} {k:Nat} {ess:List (List Value)} {B' n' k':Nat} {v':Value} {e':TypeId} {ys:List Value} (h:OwR B w v e k ess) (h':w.ownsRow B' e' k' v' n' ys) (hne:e≠e') (hg:w.grownBy w' v'.ownBlock):OwR B w' v e k ess:=h.kept hg (own_apart h.1 h' hne)
theorem own_ap {w w':World} {B:Nat} {v:Value} {xs:List Int} {B' n' k':Nat} {v':Value} {e':TypeId} {ys:List Value} (h:Own B w v xs) (h':w.ownsRow B' e' k' v' n' ys) (hne:5≠e') (hg:w.grownBy w' v'.ownBlock):Own B w' v xs:=World.ownsRow.kept h hg (own_apart h h' hne)
theorem BlkO.ap {w w':World} {B:Nat} {gv uv:Value} {P:Nat} {pg:Nat→List Int} {us:Nat→Int} {B' n' k':Nat} {v':Value} {e':TypeId} {ys:List Value} (h:BlkO B w gv uv P pg us) (h':w.ownsRow B' e' k' v' n' ys) (h1:26≠e') (h2:3≠e') (h3:5≠e') (hg:w.grownBy w' v'.ownBlock):BlkO B w' gv uv P pg us:=by
 obtain ⟨⟨xv,a1,a2⟩,a3⟩:=h
 exact ⟨⟨xv,a1.ap h' h1 hg,fun p hp=>own_ap (a2 p hp) h' h3 hg⟩,a3.ap h' h2 hg⟩
theorem OwR.low {w w':World} {B:Nat} {v:Value} {e:TypeId} {k:Nat} {ess:List (List Value)} (h:OwR B w v e k ess) (hb:Below w.heap.size w w'):OwR B w' v e k ess:=h.kept (keep_below hb) (by cases hv:v.ownBlock <;> simp)
theorem own_low {w w':World} {B:Nat} {v:Value} {xs:List Int} (h:Own B w v xs) (hb:Below w.heap.size w w'):Own B w' v xs:=World.ownsRow.kept h (keep_below hb) (by cases hv:v.ownBlock <;> simp)
theorem BlkO.low {w w':World} {B:Nat} {gv uv:Value} {P:Nat} {pg:Nat→List Int} {us:Nat→Int} (h:BlkO B w gv uv P pg us) (hb:Below w.heap.size w w'):BlkO B w' gv uv P pg us:=by
 obtain ⟨⟨xv,a1,a2⟩,a3⟩:=h
 exact ⟨⟨xv,a1.low hb,fun p hp=>own_low (a2 p hp) hb⟩,a3.low hb⟩
theorem OwR.base {w:World} {B B':Nat} {v:Value} {e:TypeId} {k:Nat} {ess:List (List Value)} (h:OwR B w v e k ess) (hB:B'≤B):OwR B' w v e k ess:=by
 obtain ⟨⟨a1,a2⟩,a3⟩:=h
 refine ⟨⟨a1,?_⟩,a3⟩
 rcases a2 with e1 | ⟨g',c',u',e1,e2,e3⟩
 ·exact Or.inl e1
 ·exact Or.inr ⟨g',c',u',e1,by omega,e3⟩
theorem own_base {w:World} {B B':Nat} {v:Value} {xs:List Int} (h:Own B w v xs) (hB:B'≤B):Own B' w v xs:=by
 obtain ⟨a1,a2⟩:=h
 refine ⟨a1,?_⟩
 rcases a2 with e1 | ⟨g',c',u',e1,e2,e3⟩
 ·exact Or.inl e1
 ·exact Or.inr ⟨g',c',u',e1,by omega,e3⟩
theorem BlkO.base {w:World} {B B':Nat} {gv uv:Value} {P:Nat} {pg:Nat→List Int} {us:Nat→Int} (h:BlkO B w gv uv P pg us) (hB:B'≤B):BlkO B' w gv uv P pg us:=by
 obtain ⟨⟨xv,a1,a2⟩,a3⟩:=h
 exact ⟨⟨xv,a1.base hB,fun p hp=>own_base (a2 p hp) hB⟩,a3.base hB⟩
theorem BlkO.hid {M:Nat→Bool} {w:World} {B:Nat} {gv uv:Value} {P:Nat} {pg:Nat→List Int} {us:Nat→Int} (h:BlkO B w gv uv P pg us) (hM:∀ k,M k=true→k<B) (ha:∀ p,p<P→AllB (pg p)):Blk (na.hid M w) gv uv P pg us:=by
 obtain ⟨⟨xv,a1,a2⟩,a3⟩:=h
 exact ⟨⟨xv,owr_hid a1 hM,fun p hp=>own_hid (a2 p hp) (ha p hp) hM⟩,owr_hid a3 hM⟩
def bkc (gv uv:Value) (l:Int) (s:Bool) (e:Int):List Value:=[gv,uv,.int .i64 l,.bool s,.int .i64 e]
def chr (g:List Int) (bv pv:Value) (off:Bool) (n:Int):List Value:=g.map (Value.int .i64) ++ [bv,pv,.bool off,.int .i64 n]
def bks (N:Nat) (gv uv:Nat→Value) (l:Nat→Int) (s:Nat→Bool) (e:Nat→Int):List (List Value):=(List.range N).map fun b=>bkc (gv b) (uv b) (l b) (s b) (e b)
theorem bks_len (N:Nat) (gv uv:Nat→Value) (l:Nat→Int) (s:Nat→Bool) (e:Nat→Int):(bks N gv uv l s e).length =N:=by simp [bks]
theorem bks_el (N:Nat) (gv uv:Nat→Value) (l:Nat→Int) (s:Nat→Bool) (e:Nat→Int) (b:Nat) (h:b<N):el (bks N gv uv l s e) b=bkc (gv b) (uv b) (l b) (s b) (e b):=by simp [el,bks,List.getD,h]
theorem bks_succ (N:Nat) (gv uv:Nat→Value) (l:Nat→Int) (s:Nat→Bool) (e:Nat→Int):bks (N+1) gv uv l s e=bks N gv uv l s e ++ [bkc (gv N) (uv N) (l N) (s N) (e N)]:=by simp [bks,List.range_succ]
theorem bks_set (N:Nat) (gv uv:Nat→Value) (l:Nat→Int) (s:Nat→Bool) (e:Nat→Int) (b:Nat) (g' u':Value) (l':Int) (s':Bool) (e':Int) (h:b<N):(bks N gv uv l s e).set b (bkc g' u' l' s' e')=bks N (at1 gv b g') (at1 uv b u') (at1 l b l') (at1 s b s') (at1 e b e'):=by
 apply List.ext_getElem?
 intro i
 rw [List.getElem?_set]
 by_cases q:b=i
 ·subst q
  simp [bks,at1,h]
 ·rw [if_neg q]
  by_cases hi:i<N
  ·simp [bks,hi,at1,Ne.symm q]
  ·simp [bks,hi]
def Ref (w:World) (v:Value) (g:List Int) (N P:Nat) (pl:Pln) (s:St):Prop:=∃ bv pv gv uv,v=.agg (chr g bv pv (off s) (ops s)).toArray ∧Rws w bv 5 (bks N gv uv (lsp s) (scr s) (ers s))∧(∀ b,b<N→Blk w (gv b) (uv b) P (pgs s b) (usd s b))∧Pla w pv pl
theorem Ref.below {w w':World} {v:Value} {g:List Int} {N P:Nat} {pl:Pln} {s:St} (h:Ref w v g N P pl s) (hb:Below w.heap.size w w'):Ref w' v g N P pl s:=by
 obtain ⟨bv,pv,gv,uv,e,h1,h2,h3⟩:=h
 exact ⟨bv,pv,gv,uv,e,h1.below (by omega) hb,fun b hb'=>(h2 b hb').below hb,h3.below hb⟩
theorem rws_form {w:World} {v:Value} {k n:Nat} {ess:List (List Value)} (h:Rws w v k ess) (hn:ess.length=n):∃ ao cap,v=.slice ao n cap:=by
 obtain ⟨ao,cap,e⟩:=h.form
 rw [hn] at e
 exact ⟨ao,cap,e⟩
theorem Rws.at {w:World} {ao:Option Addr} {n cap k:Nat} {ess:List (List Value)} (h:Rws w (.slice ao n cap) k ess) {t:Nat} (ht:t<ess.length):∃ b off,ao=some ⟨b,off,none⟩∧w.rangeAt b (off+t*k) (el ess t):=by
 obtain ⟨ao',cap',e,h1,h2,h3,h4,h5⟩:=h
 cases e
 obtain ⟨b,off,rfl,hc⟩:=h5 (by omega)
 exact ⟨b,off,rfl,hc t ht⟩
end Go.Proofs.YtmbgokmomkmgcaaGreatDoor.na
namespace Go.Proofs.YtmbgokmomkmgcaaGreatDoor.na
open Go.RowKit Go.Proofs.YtmbgokmomkmgcaaGreatDoor.fa
set_option maxRecDepth 20000
theorem cut_of_jnd (P S:Nat) (f:Nat→List Int) (h:∀ p,p<P→(f p).length =S) (p:Nat) (hp:p<P):cut S (jnd P f) p=f p:=by
 induction P with
 |zero=>omega
 |succ P ih=>
  have hl:=jnd_len P S f (fun p hp=>h p (by omega))
  rw [jnd_succ]
  unfold cut at ih ⊢
  by_cases e:p=P
  ·subst e
   rw [List.drop_append_of_le_length (by omega),show (jnd p f).drop (p*S)= [] from List.drop_eq_nil_of_le (by omega),List.nil_append]
   exact List.take_of_length_le (by rw [h p hp];exact Nat.le_refl _)
  ·have hm:=Nat.mul_le_mul_right S (show p+1≤P by omega)
   rw [Nat.succ_mul] at hm
   rw [List.drop_append_of_le_length (by omega),List.take_append_of_le_length (by rw [List.length_drop];omega)]
   exact ih (fun p hp=>h p (by omega)) (by omega)
theorem cut_blk (N P S:Nat) (s:St) (h:∀ b,b<N→∀ p,p<P→(pgs s b p).length =S) (b:Nat) (hb:b<N):cut (P*S) (img N P s) b=jnd P (pgs s b):=
 cut_of_jnd N (P*S) (fun b=>jnd P (pgs s b)) (fun b hb=>jnd_len P S _ (h b hb)) b hb
theorem cut_cut (P S:Nat) (l:List Int) (b p:Nat) (hp:p<P):cut S l (b*P+p)=cut S (cut (P*S) l b) p:=by
 unfold cut
 have hm:=Nat.mul_le_mul_right S (show p+1≤P by omega)
 rw [Nat.succ_mul] at hm
 rw [List.drop_take,List.drop_drop,List.take_take,Nat.min_eq_left (by omega)]
 congr 2
 rw [Nat.add_mul,Nat.mul_assoc]
theorem cut_page (N P S:Nat) (s:St) (h:∀ b,b<N→∀ p,p<P→(pgs s b p).length =S) (b p:Nat) (hb:b<N) (hp:p<P):cut S (img N P s) (b*P+p)=pgs s b p:=by
 rw [cut_cut P S _ b p hp,cut_blk N P S s h b hb,cut_of_jnd P S _ (h b hb) p hp]
theorem laid_right (A B:List Int) (o:Nat) (y:List Int):laid (A ++ B) (A.length+o) y=A ++ laid B o y:=by
 unfold laid
 rw [List.take_length_add_append,Nat.add_assoc,List.drop_length_add_append]
 simp only [List.append_assoc]
theorem laid_left (A B:List Int) (o:Nat) (y:List Int) (h:o+y.length≤A.length):laid (A ++ B) o y=laid A o y ++ B:=by
 unfold laid
 rw [List.take_append_of_le_length (by omega),List.drop_append_of_le_length h]
 simp only [List.append_assoc]
theorem laid_jnd (S o:Nat) (y:List Int) (p:Nat) (f:Nat→List Int):∀ P,(∀ p,p<P→(f p).length =S)→p<P→o+y.length≤S→laid (jnd P f) (p*S+o) y=jnd P (at1 f p (laid (f p) o y))
 |0,_,hp,_=>by omega
 |P+1,h,hp,hy=>by
  have hl:=jnd_len P S f (fun p hp=>h p (by omega))
  rw [jnd_succ,jnd_succ]
  by_cases e:p=P
  ·subst e
   rw [←hl,laid_right,at1_same,jnd_congr (fun q hq=>(at1_other f p _ q (by omega)).symm)]
  ·have hm:=Nat.mul_le_mul_right S (show p+1≤P by omega)
   rw [Nat.succ_mul] at hm
   rw [laid_left _ _ _ _ (by omega),laid_jnd S o y p f P (fun p hp=>h p (by omega)) (by omega) hy,at1_other f p _ P (Ne.symm e)]
theorem laid_whole (xs y:List Int) (h:y.length=xs.length):laid xs 0 y=y:=by
 unfold laid
 rw [List.take_zero,List.nil_append,Nat.zero_add,List.drop_eq_nil_of_le (by omega),List.append_nil]
theorem laid_page (N P S:Nat) (s:St) (h:∀ b,b<N→∀ p,p<P→(pgs s b p).length =S) (b p o:Nat) (hb:b<N) (hp:p<P) (y:List Int) (hy:o+y.length≤S):laid (img N P s) ((b*P+p)*S+o) y=jnd N fun k=>jnd P fun j=>at2 (pgs s) b p (laid (pgs s b p) o y) k j:=by
 have hm:=Nat.mul_le_mul_right S (show p+1≤P by omega)
 rw [Nat.succ_mul] at hm
 rw [Nat.add_mul,Nat.mul_assoc,Nat.add_assoc]
 refine (laid_jnd (P*S) (p*S+o) y b (fun b=>jnd P (pgs s b)) N (fun b hb=>jnd_len P S _ (h b hb)) hb (by omega)).trans ?_
 refine jnd_congr fun k hk=>?_
 by_cases e:k=b
 ·subst e
  rw [at1_same,laid_jnd S o y p (pgs s k) P (h k hk) hp hy]
  refine jnd_congr fun j hj=>?_
  by_cases q:j=p
  ·subst q;rw [at1_same,at2_same]
  ·rw [at1_other _ _ _ _ q];exact (if_neg (fun z=>q z.2)).symm
 ·rw [at1_other _ _ _ _ e]
  exact jnd_congr fun j hj=>(if_neg (fun z=>e z.1)).symm
end Go.Proofs.YtmbgokmomkmgcaaGreatDoor.na
namespace Go.Proofs.YtmbgokmomkmgcaaGreatDoor.na
open Go.RowKit Go.Proofs.YtmbgokmomkmgcaaGreatDoor.fa
set_option maxRecDepth 20000
def raw (N P:Nat) (s:St) (l:List Opn):Raw:=mkX (img N P s) (fun b=>(List.range P).map (usd s b)) (ers s) (scr s) (!off s) l
theorem raw_i (N P:Nat) (s:St) (l:List Opn):xi (raw N P s l)=img N P s:=rfl
theorem raw_t (N P:Nat) (s:St) (l:List Opn):xt (raw N P s l)=l:=rfl
theorem raw_o (N P:Nat) (s:St) (l:List Opn):xo (raw N P s l)= !off s:=rfl
theorem raw_p (N P:Nat) (s:St) (l:List Opn) (b p:Nat) (hp:p<P):gb (xp (raw N P s l) b) p=usd s b p:=by
 simp [gb,List.getD,raw,xp,mkX,hp]
theorem raw_plen (N P:Nat) (s:St) (l:List Opn) (b:Nat):(xp (raw N P s l) b).length =P:=by simp [raw,xp,mkX]
theorem wf_len {N P S:Nat} {s:St} (h:Wf N P S s):∀ b,b<N→∀ p,p<P→(pgs s b p).length =S:=fun b hb p hp=>((h b hb).1 p hp).1
theorem map_set (P:Nat) (f:Nat→Int) (p:Nat) (x:Int) (hp:p<P):((List.range P).map f).set p x=(List.range P).map (at1 f p x):=by
 apply List.ext_getElem?
 intro i
 rw [List.getElem?_set]
 by_cases e:p=i
 ·subst e
  simp [at1,hp]
 ·rw [if_neg e]
  by_cases hi:i<P
  ·simp [hi,at1,Ne.symm e]
  ·simp [hi]
theorem raw_pdo {N P S:Nat} {s:St} (h:Wf N P S s) (pl:Pln) (b p:Nat) (hb:b<N) (hp:p<P) (d:List Int) (l l':List Opn) (hl:l.length=ops s):
  mkX (laid (xi (raw N P s l)) ((b*P+p)*S) (pgm S (pl (xt (raw N P s l)).length) (cut S (xi (raw N P s l)) (b*P+p)) d)) (at1 (xp (raw N P s l)) b ((xp (raw N P s l) b).set p (gb (xp (raw N P s l) b) p+1))) (xe (raw N P s l)) (xs (raw N P s l)) (!crs (pl (xt (raw N P s l)).length)) l'=raw N P (pdo S pl s b p d) l':=by
 have hg:=((h b hb).1 p hp)
 have e1:laid (img N P s) ((b*P+p)*S) (pgm S (pl (ops s)) (pgs s b p) d)=img N P (pdo S pl s b p d):=by
  have z:=laid_page N P S s (wf_len h) b p 0 hb hp (pgm S (pl (ops s)) (pgs s b p) d) (by rw [(pgm_wf S _ hg.2.1 hg.1).1];omega)
  rw [Nat.add_zero,laid_whole _ _ (by rw [(pgm_wf S _ hg.2.1 hg.1).1,hg.1])] at z
  exact z
 have e2:at1 (fun b=>(List.range P).map (usd s b)) b (((List.range P).map (usd s b)).set p (usd s b p+1))=fun k=>(List.range P).map (usd (pdo S pl s b p d) k):=by
  funext k
  by_cases e:k=b
  ·subst e
   rw [at1_same,map_set P _ p _ hp]
   refine List.map_congr_left fun j _=>?_
   by_cases q:j=p
   ·subst q;rw [at1_same];exact (at2_same (usd s) k j _).symm
   ·rw [at1_other _ _ _ _ q];exact (if_neg (fun z=>q z.2)).symm
  ·rw [at1_other _ _ _ _ e]
   exact List.map_congr_left fun j _=>(if_neg (fun z=>e z.1)).symm
 rw [raw_i,raw_t,hl,cut_page N P S s (wf_len h) b p hb hp,e1,raw_p N P s l b p hp]
 show mkX _ (at1 (fun b=>(List.range P).map (usd s b)) b (((List.range P).map (usd s b)).set p (usd s b p+1))) _ _ _ _=_
 rw [e2]
 rfl
end Go.Proofs.YtmbgokmomkmgcaaGreatDoor.na
namespace Go.Proofs.YtmbgokmomkmgcaaGreatDoor.na
open Go.RowKit Go.Proofs.YtmbgokmomkmgcaaGreatDoor.fa
set_option maxRecDepth 20000
def Lsp (N P:Nat) (s:St):Prop:=∀ b,b<N→(∀ p,p<P→0<usd s b p→(p:Int)≤lsp s b)∧(0≤lsp s b→∃ p,p<P∧lsp s b=p∧0<usd s b p)
theorem lsp_new (N P S:Nat):Lsp N P (new S):=fun b _=>⟨fun p _ h=>by have:(0 :Int)<0:=h;omega,fun h=>by have:(0 :Int)≤ -1:=h;omega⟩
theorem lsp_pdo {N P S:Nat} {s:St} (hw:Wf N P S s) (h:Lsp N P s) (pl:Pln) (b p:Nat) (hp:p<P) (d:List Int):Lsp N P (pdo S pl s b p d):=fun k hk=>by
 have e1:∀ q,usd (pdo S pl s b p d) k q=at2 (usd s) b p (usd s b p+1) k q:=fun _=>rfl
 have e2:lsp (pdo S pl s b p d) k=at1 (lsp s) b (max (lsp s b) p) k:=rfl
 by_cases e:k=b
 ·subst e
  have hu:=((hw k hk).1 p hp).2.2.1
  rw [e2,at1_same]
  refine ⟨fun q hq h0=>?_,fun h0=>?_⟩
  ·by_cases z:q=p
   ·subst z;omega
   ·rw [e1,show at2 (usd s) k p (usd s k p+1) k q=usd s k q from if_neg (fun c=>z c.2)] at h0
    have:=(h k hk).1 q hq h0
    omega
  ·by_cases z:lsp s k≤(p:Int)
   ·exact ⟨p,hp,by omega,by rw [e1,at2_same];omega⟩
   ·obtain ⟨q,q1,q2,q3⟩:=(h k hk).2 (by omega)
    refine ⟨q,q1,by omega,?_⟩
    by_cases y:q=p
    ·subst y;omega
    ·rw [e1,show at2 (usd s) k p (usd s k p+1) k q=usd s k q from if_neg (fun c=>y c.2)]
     exact q3
 ·rw [e2,at1_other _ _ _ _ e]
  have e3:∀ q,usd (pdo S pl s b p d) k q=usd s k q:=fun q=>if_neg (fun c=>e c.1)
  exact ⟨fun q hq h0=>(h k hk).1 q hq (by rw [←e3 q];exact h0),fun h0=>by
   obtain ⟨q,q1,q2,q3⟩:=(h k hk).2 h0
   exact ⟨q,q1,q2,by rw [e3 q];exact q3⟩⟩
theorem bhd_lsp {N P:Nat} {s:St} (h:Lsp N P s) (l:List Opn) (b p:Nat) (hb:b<N):Bhd (xp (raw N P s l) b) p↔(p:Int)≤lsp s b:=by
 constructor
 ·rintro ⟨i,h1,h2,h3⟩
  rw [raw_plen] at h2
  rw [raw_p N P s l b i h2] at h3
  have:=(h b hb).1 i h2 h3
  omega
 ·intro h0
  obtain ⟨q,q1,q2,q3⟩:=(h b hb).2 (by omega)
  exact ⟨q,by omega,by rw [raw_plen];exact q1,by rw [raw_p N P s l b q q1];exact q3⟩
end Go.Proofs.YtmbgokmomkmgcaaGreatDoor.na
namespace Go.Proofs.YtmbgokmomkmgcaaGreatDoor.ck
open Go.RowKit Go.Proofs.YtmbgokmomkmgcaaGreatDoor.fa Go.Proofs.YtmbgokmomkmgcaaGreatDoor.he Go.Proofs.YtmbgokmomkmgcaaGreatDoor.pa
set_option maxRecDepth 20000
theorem rmake_own (g0 g1 g3 g4 g5:Int) (S:Nat) (k n c l e t:Int) (pv tv:Value) (p tag:List Int) (w:World) (hp:Byt w pv p) (ht:Byt w tv tag) (hH:Hb l e t) (hS:32≤S∧S≤4096) (hk:Rh k n c) (hl:p.length=S) (hn:tag.length=0∨tag.length=32):
  Calls Tryz.prog 53 #[.agg (ints .i64 [g0,g1,(S:Int),g3,g4,g5]),.agg (hv k n c l e t).toArray,pv,tv] w fun x w'=>∃ v,x=.returned v∧Own w.heap.size w' v (plo S p ++ hend (hb k n c l e t) (tgo tag) (List.replicate 8 255))∧Below w.heap.size w w':=by
 have SE:Hid (∀ w0,Below w.heap.size w w0→Calls Tryz.prog 90 #[.agg (hv k n c l e t).toArray,tv] w0 fun x w'=>∃ v,x=.returned v∧Byt w' v (hend (hb k n c l e t) (tgo tag) (List.replicate 8 255))∧Below w0.heap.size w0 w'):=fun w0 hb=>rend_any k n c l e t tv tag w0 (ht.below hb) hk hH.1 hH.2.1 hH.2.2 hn
 have EL:Hid ((hend (hb k n c l e t) (tgo tag) (List.replicate 8 255)).length =88):=hend_len (hb_len _ _ _ _ _ _) (tgo_len hn) (by simp)
 have EA:Hid (AllB (hend (hb k n c l e t) (tgo tag) (List.replicate 8 255))):=pa.hend_all hk (pa.tgo_all ht.all) (allB_replicate 255 _ (by omega))
 have ez:plo S p=p:=if_neg (by omega)
 rw [ez]
 have ZL:Hid (p.length≤10000):=(by show p.length≤10000;omega)
 have ZA:Hid (AllB (p ++ hend (hb k n c l e t) (tgo tag) (List.replicate 8 255))):=allB_app hp.all EA.out
 generalize hend (hb k n c l e t) (tgo tag) (List.replicate 8 255)=E at SE EL EA ZA ⊢
 obtain ⟨po,pc,rfl⟩:∃ po pc,pv=.slice po S pc:=(by obtain ⟨ao,cap,e,_⟩:=hp;rw [hl] at e;exact ⟨ao,cap,e⟩)
 have HP:=hdH (hp)
 have n0:((S:Int) == 0)=false:=beq_eq_false_iff_ne.2 (by omega)
 clear hk hn hS hl ez hH hp ht
 have t0:=tR
 go_enter Tryz.func53,Tryz.ntmps53
 go_wp2_with (first
  |(have q1:=t1;refine box_lawC _ (hv k n c l e t) rfl ?_;intro w2 X9 B9 l9;have HB0:=hdH (HB0.out.below B9 (range_lt HB0.out.1 (Nat.succ_pos _)));have HB1:=hdH (X9);have BB:=hdH (BB.out.trans (B9.mono BB.out.size));have hb0_0:=HB0.out.cell 0 _ rfl;have hb0_1:=HB0.out.cell 1 _ rfl;have hb0_2:=HB0.out.cell 2 _ rfl;have hb0_3:=HB0.out.cell 3 _ rfl;have hb0_4:=HB0.out.cell 4 _ rfl;have hb0_5:=HB0.out.cell 5 _ rfl;have hb1_0:=HB1.out.cell 0 _ rfl;have hb1_1:=HB1.out.cell 1 _ rfl;have hb1_2:=HB1.out.cell 2 _ rfl;have hb1_3:=HB1.out.cell 3 _ rfl;have hb1_4:=HB1.out.cell 4 _ rfl;have hb1_5:=HB1.out.cell 5 _ rfl;clear X9 B9 l9;clear t1;have t2:=tR)
  |(have q0:=t0;refine box_lawC _ [.int .i64 g0,.int .i64 g1,.int .i64 (S:Int),.int .i64 g3,.int .i64 g4,.int .i64 g5] rfl ?_;intro w1 X9 B9 l9;have HB0:=hdH (X9);have BB:=hdH (B9);clear X9 B9 l9;clear t0;have t1:=tR))
 refine wp_region_held_drew (S:=fun w'=>Below w2.heap.size w2 w') (by kernel_rfl) (Below.refl _ _).drew (fun hS=>?_)
 obtain ⟨x1,hx0⟩:∃ x,x=w2.drew:=⟨_,rfl⟩
 rw [←hx0] at hS ⊢
 clear hx0
 refine tkH 1 (some 16) (.slice po S pc) rfl rfl (Or.inl ⟨by rfl,fun w' hw'=>by rfl⟩) hS ?_
 simp only [Act.put,zE1,zE2,zE3]
 refine tkH 3 (some 18) (.agg (hv k n c l e t).toArray) rfl rfl (Or.inl ⟨by rfl,fun w' hw'=>by exact exec_loadN 64 (.tmp 5) rfl _ rfl _ _ (load_cells rowy_head (HB1.out.below hw' (range_lt HB1.out.1 (Nat.succ_pos _))).1)⟩) hS ?_
 simp only [Act.put,zE1,zE2,zE3]
 refine tkH 4 (some 19) (tv) rfl rfl (Or.inl ⟨by rfl,fun w' hw'=>by rfl⟩) hS ?_
 simp only [Act.put,zE1,zE2,zE3]
 refine wpAnyH_ready (rs:=[0]) (by kernel_rfl) (by simp) ?_
 refine AllReadyH.cons rfl (fun K hK=>?_) AllReadyH.nil
 refine step_nil _ rfl (some 15) rfl rfl ?_
 intro nv x2 O9 hb
 have z0:w2.heap.size≤x1.heap.size:=hS.size
 have ON:Hid (Own w2.heap.size x2 nv []):=own_less O9 z0
 have hS:Below w2.heap.size w2 x2:=hS.trans (hb.mono hS.size)
 clear hb O9 z0
 refine hK.out _ _ hS (fun _=>?_)
 simp only [Act.put,zE1,zE2,zE3]
 clear hK K
 refine wpAnyH_ready (rs:=[2]) (by kernel_rfl) (by simp) ?_
 refine AllReadyH.cons rfl (fun K hK=>?_) AllReadyH.nil
 refine step_pushs _ rfl (some 17) rfl (.tmp 15) (.tmp 16) rfl w2.heap.size hS.size _ _ [] p rfl rfl ON.out (HP.out.below (BB.out.trans (hS.mono BB.out.size))) (by simp) (by have:=ZL.out;omega) ?_
 intro pv1 x3 O9 hb
 have ON:Hid (Own w2.heap.size x3 pv1 p):=(by rw [List.nil_append] at O9;exact O9)
 have hS:Below w2.heap.size w2 x3:=hS.trans hb
 clear hb O9
 refine hK.out _ _ hS (fun _=>?_)
 simp only [Act.put,zE1,zE2,zE3]
 clear hK K
 refine wpAnyH_ready (rs:=[5]) (by kernel_rfl) (by simp) ?_
 refine AllReadyH.cons rfl (fun K hK=>?_) AllReadyH.nil
 refine step_callW _ (by rfl) (some 20) rfl 90 #[.tmp 18,.tmp 19] #[64,26] rfl (fun q w'=>by rfl) #[.agg (hv k n c l e t).toArray,tv] (by simp only [List.map_toArray,List.map_cons,List.map_nil];rfl) (fun u w'=>Byt w' u E∧Below x3.heap.size x3 w') ?_ ?_
 ·exact SE.out _ (BB.out.trans (hS.mono BB.out.size))
 rintro ev x4 ⟨y9,hb⟩
 have HE:=hdH (y9)
 have ON:=hdH (own_low ON.out hb)
 have hS:Below w2.heap.size w2 x4:=hS.trans (hb.mono hS.size)
 clear hb y9
 refine hK.out _ _ hS (fun _=>?_)
 simp only [Act.put,zE1,zE2,zE3]
 clear hK K
 refine wpAnyH_ready (rs:=[6]) (by kernel_rfl) (by simp) ?_
 refine AllReadyH.cons rfl (fun K hK=>?_) AllReadyH.nil
 refine step_pushs _ rfl (some 21) rfl (.tmp 17) (.tmp 20) rfl w2.heap.size hS.size _ _ p E rfl rfl ON.out HE.out (by have:=ZL.out;omega) (by have:=EL.out;omega) ?_
 intro rv x5 O9 hb
 have HR:=hdH (O9)
 have hS:Below w2.heap.size w2 x5:=hS.trans hb
 clear hb O9
 refine hK.out _ _ hS (fun _=>?_)
 simp only [Act.put,zE1,zE2,zE3]
 clear hK K
 refine tkH 7 (some 8) (rv) rfl rfl (Or.inl ⟨by rfl,fun w' hw'=>by rfl⟩) hS ?_
 simp only [Act.put,zE1,zE2,zE3]
 refine wpAnyH_done (by kernel_rfl) ?_ _
 have BZ:=hdH (BB.out.trans (hS.mono BB.out.size))
 clear hS
 go_wp2
 go_ret
 exact ⟨_,rfl,own_less HR.out BB.out.size,BZ.out⟩
end Go.Proofs.YtmbgokmomkmgcaaGreatDoor.ck
