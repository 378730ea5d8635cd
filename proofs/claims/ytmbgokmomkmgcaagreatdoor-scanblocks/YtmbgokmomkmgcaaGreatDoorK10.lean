/- Parts of the proof: what ScanBlocks reaches. No claim of its own. -/
import Derived.WalkKit
import Derived.WalkSmall
import Derived.ProofKit
import Derived.OpenShut
import Derived.BigQuiet
import Derived.Deep.QuietTactic
import Derived.Laws.AppendOwnNone
import Derived.Deep.WholeRow
import Derived.Deep.MidRow
import Derived.Laws.StructEq
import Derived.Deep.RegionHeld3
import Derived.Test.YtmbgokmomkmgcaaGreatDoorK00
import Derived.Test.YtmbgokmomkmgcaaGreatDoorK02
set_option maxHeartbeats 8000000
namespace Go.Proofs.YtmbgokmomkmgcaaGreatDoor.fa
open Go.RowKit
set_option maxRecDepth 20000
def dn (m:List Int) (p z i:Nat):Int:=if i=p then (((mb m i).toNat &&& (255-z):Nat):Int) else mb m i
theorem dn_bd {m:List Int} (h:AllB m) (p z i:Nat):0≤dn m p z i∧dn m p z i≤255:=by
 have hb:=mb_bd h i
 unfold dn
 split
 ·have:(mb m i).toNat &&& (255-z)≤(mb m i).toNat :=Nat.and_le_left
  omega
 ·exact hb
def Dn (w:World) (cp cs cl c p z:Nat) (m:List Int):Prop:=w.cell? ⟨cp,0,none⟩=some (.int .i64 p)∧w.cell? ⟨cs,0,none⟩=some (.func (.func 166) #[] #[.pointer (some ⟨c,0,none⟩)])∧w.cell? ⟨cl,0,none⟩=some (.int .u8 z)∧Say w c m
theorem Dn.below {w w':World} {cp cs cl c p z:Nat} {m:List Int} (h:Dn w cp cs cl c p z m) (hb:Below w.heap.size w w'):Dn w' cp cs cl c p z m:=
 ⟨by rw [hb.cell (World.block_lt_of_cell? w _ h.1)];exact h.1,by rw [hb.cell (World.block_lt_of_cell? w _ h.2.1)];exact h.2.1,by rw [hb.cell (World.block_lt_of_cell? w _ h.2.2.1)];exact h.2.2.1,h.2.2.2.below hb⟩
theorem done_any (cp cs cl c p z:Nat) (m:List Int) (i:Nat) (w:World) (h:Dn w cp cs cl c p z m) (hm:AllB m) (hz:z<256) (hi:i≤9223372036854775807):
  Calls Tryz.prog 158 #[.int .i64 i,.pointer (some ⟨cp,0,none⟩),.pointer (some ⟨cs,0,none⟩),.pointer (some ⟨cl,0,none⟩)] w fun e w'=>e=.returned (.int .u8 (dn m p z i))∧∃ n,w'=w.drewN n:=by
 obtain ⟨h1,h2,h3,h4⟩:=h
 have S:Hid (∀ n,Calls Tryz.prog 166 #[.int .i64 i,.pointer (some ⟨c,0,none⟩)] (w.drewN n) fun e w'=>e=.returned (.int .u8 (mb m i))∧∃ m,w'=(w.drewN n).drewN m):=fun n=>said_any c m i (w.drewN n) h4 hi
 have S0:Hid (Calls Tryz.prog 166 #[.int .i64 i,.pointer (some ⟨c,0,none⟩)] w fun e w'=>e=.returned (.int .u8 (mb m i))∧∃ m,w'=w.drewN m):=said_any c m i w h4 hi
 have hb:=mb_bd hm i
 unfold dn
 generalize mb m i=x at*
 clear h4 hm
 by_cases e:i=p
 ·rw [if_pos e]
  subst e
  have e2:bits .andNot .u8 x (z:Int)=((x.toNat &&& (255-z):Nat):Int):=by
   have:=u8_andNot x z hb.1 (by omega) (by omega) (by omega)
   rwa [Int.toNat_natCast] at this
  clear hb
  generalize ((x.toNat &&& (255-z):Nat):Int)=y at*
  go_enter Tryz.func158,Tryz.ntmps158
  go_wp2
  go_quiet ((go_at_call 166;exact Calls.quiet_of (S.out _)))
  go_wp2
  go_ret
  exact ⟨rfl,_,rfl⟩
 ·rw [if_neg e]
  have e2:((i:Int) == (p:Int))=false:=by simpa using (show (i:Int)≠(p:Int) by omega)
  go_enter Tryz.func158,Tryz.ntmps158
  go_wp2_with (go_at_call 166;refine S0.out.mono ?_;rintro e w1 ⟨rfl,n,hw⟩;obtain rfl:=hw.symm)
  go_ret
  exact ⟨rfl,_,rfl⟩
theorem done_tells {w:World} {cp cs cl c p z:Nat} {m:List Int} (h:Dn w cp cs cl c p z m) (hm:AllB m) (hz:z<256) (n:Nat) (hn:n≤9223372036854775807):
  Tells w (.func (.func 158) #[] #[.pointer (some ⟨cp,0,none⟩),.pointer (some ⟨cs,0,none⟩),.pointer (some ⟨cl,0,none⟩)]) (dn m p z) n:=
 ⟨158,#[.pointer (some ⟨cp,0,none⟩),.pointer (some ⟨cs,0,none⟩),.pointer (some ⟨cl,0,none⟩)],rfl,fun _ _=>rfl,dn_bd hm p z,fun _ hb i hi=>done_any cp cs cl c p z m i _ (h.below hb) hm hz (by omega)⟩
theorem isL_lt {xs ys:List Int} {p z:Nat} (h:IsL xs ys p z):z<256∧p≤xs.length:=by
 rcases h with ⟨rfl,rfl,_⟩ | ⟨t,ht,hp,rfl,_⟩
 ·omega
 ·have:2 ^ t≤128:=Nat.pow_le_pow_right (by omega) (show t≤7 by omega)
  omega
theorem dn_laid (w0:World) (c p z nn:Nat) (m:List Int) (h:Say w0 c m):Dn ((((w0.alloc (.cells #[.func (.func 166) #[] #[.pointer (some ⟨c,0,none⟩)]] 248)).drewN nn).alloc (.cells #[.int .i64 p] 3)).alloc (.cells #[.int .u8 z] 5)) (w0.heap.size+1) w0.heap.size (w0.heap.size+1+1) c p z m∧
  Below w0.heap.size w0 ((((w0.alloc (.cells #[.func (.func 166) #[] #[.pointer (some ⟨c,0,none⟩)]] 248)).drewN nn).alloc (.cells #[.int .i64 p] 3)).alloc (.cells #[.int .u8 z] 5)):=by
 have V1:=Var.new w0 (.func (.func 166) #[] #[.pointer (some ⟨c,0,none⟩)]) 248
 have B1:Below w0.heap.size w0 (w0.alloc (.cells #[.func (.func 166) #[] #[.pointer (some ⟨c,0,none⟩)]] 248)):=(Below.refl _ _).alloc (Nat.le_refl _) _
 have z1:(w0.alloc (.cells #[.func (.func 166) #[] #[.pointer (some ⟨c,0,none⟩)]] 248)).heap.size =w0.heap.size+1:=by simp
 generalize w0.alloc (.cells #[.func (.func 166) #[] #[.pointer (some ⟨c,0,none⟩)]] 248)=w1 at*
 have V2:Var (w1.drewN nn) w0.heap.size _:=V1
 have B2:=below_drawn B1 nn
 have z2:(w1.drewN nn).heap.size =w0.heap.size+1:=z1
 generalize w1.drewN nn=w2 at*
 have V3:=Var.new w2 (.int .i64 p) 3
 have B3:Below w2.heap.size w2 (w2.alloc (.cells #[.int .i64 p] 3)):=(Below.refl _ _).alloc (Nat.le_refl _) _
 have z3:(w2.alloc (.cells #[.int .i64 p] 3)).heap.size =w2.heap.size+1:=by simp
 generalize w2.alloc (.cells #[.int .i64 p] 3)=w3 at*
 have V4:=Var.new w3 (.int .u8 z) 5
 have B4:Below w3.heap.size w3 (w3.alloc (.cells #[.int .u8 z] 5)):=(Below.refl _ _).alloc (Nat.le_refl _) _
 generalize w3.alloc (.cells #[.int .u8 z] 5)=w4 at*
 rw [z3,z2] at V4
 have BB:Below w0.heap.size w0 w4:=(B2.trans (B3.mono (by omega))).trans (B4.mono (by omega))
 rw [z2] at V3
 exact ⟨⟨(V3.below B4 (by omega)).1,((V2.below B3 (by omega)).below B4 (by omega)).1,V4.1,h.below BB⟩,BB⟩
theorem fail_any (va vb vm:Value) (xs ys m:List Int) (w:World) (ha:Byt w va xs) (hb:Byt w vb ys) (hm:Byt w vm m) (hl:xs.length=ys.length) (hmax:xs.length≤1048576):
  Calls Tryz.prog 141 #[va,vb,vm] w fun e w'=>∃ v p z,e=.returned (.tuple #[v,.int .i64 0])∧IsL xs ys p z∧Byt w' v (pgl xs ys (dn m p z))∧Below w.heap.size w w':=by
 have SB:Hid (Calls Tryz.prog 156 #[vm] w fun e w'=>e=.returned (.func (.func 166) #[] #[.pointer (some ⟨w.heap.size,0,none⟩)])∧Say w' w.heap.size m∧Below w.heap.size w w'):=bitsOf_any vm m w hm
 have SL:Hid (∀ w1,Below w.heap.size w w1→Calls Tryz.prog 157 #[va,vb] w1 fun e w'=>∃ p z:Nat,e=.returned (.tuple #[.int .i64 p,.int .u8 z])∧IsL xs ys p z∧∃ n,w'=w1.drewN n):=fun w1 h=>last_any va vb xs ys w1 (ha.below h) (hb.below h) hl
 have SP:Hid (∀ w1 cp cs cl c p z,Dn w1 cp cs cl c p z m→z<256→Below w.heap.size w w1→Calls Tryz.prog 159 #[va,vb,.func (.func 158) #[] #[.pointer (some ⟨cp,0,none⟩),.pointer (some ⟨cs,0,none⟩),.pointer (some ⟨cl,0,none⟩)]] w1 fun e w'=>∃ v,e=.returned v∧Byt w' v (pgl xs ys (dn m p z))∧Below w1.heap.size w1 w'):=fun w1 cp cs cl c p z h1 h2 h3=>prog_any va vb _ xs ys (dn m p z) w1 (ha.below h3) (hb.below h3) hl hmax (done_tells h1 hm.all h2 _ (by omega))
 obtain ⟨ao,ca,rfl,ha1,ha2, -⟩:=ha
 obtain ⟨bo,cb,rfl,hb1,hb2, -⟩:=hb
 rw [←hl] at hb1 SP SL ⊢
 clear hl hm
 have hmf:=makeFn
 have hst:=fun (w:World) (a:Addr) (fn:Fn) (x y:Array Value)=>run_store Tryz.prog w a (.func fn x y) .plain rfl
 go_enter Tryz.func141,Tryz.ntmps141
 go_wp2_with (first
  |(have q3:=PZ;go_at_call 159;refine (SP.out _ _ _ _ w.heap.size p z (dn_laid w0 w.heap.size p z nn m Y0.out).1 (isL_lt PZ).1 (B0.trans ((dn_laid w0 w.heap.size p z nn m Y0.out).2.mono B0.size))).mono ?_;rintro e w2 ⟨v2,rfl,y2,B2⟩;have Y2:=hdH (y2);clear y2)
  |(have q2:=B0;go_at_call 157;refine (SL.out _ (B0.alloc (by have:=B0.size;omega) _)).mono ?_;rintro e w1 ⟨p,z,rfl,PZ,nn,hw⟩;obtain rfl:=hw.symm)
  |(go_at_call 156;refine SB.out.mono ?_;rintro e w0 ⟨rfl,y0,B0⟩;have Y0:=hdH (y0);clear y0))
 go_ret2
 have D:=dn_laid w0 w.heap.size p z nn m Y0.out
 exact ⟨_,p,z,rfl,PZ,Y2.out,B0.trans ((D.2.mono B0.size).trans (B2.mono (Nat.le_trans B0.size D.2.size)))⟩
end Go.Proofs.YtmbgokmomkmgcaaGreatDoor.fa
namespace Go.Proofs.YtmbgokmomkmgcaaGreatDoor.fa
open Go.RowKit
set_option maxRecDepth 20000
theorem mb_bit (m:List Int) (k t:Nat) (ht:t<8):bit (mb m k).toNat t=mk m (8*k+t):=by
 rw [mb_mk,show (8*k+t)/8=k by omega,show (8*k+t)%8=t by omega]
theorem pgl_ofb (xs ys:List Int) (D:Nat→Int) (c:Nat→Bool) (hx:AllB xs) (hy:AllB ys) (hc:∀ k t,k<xs.length→t<8→c (8*k+t)=(hs xs (8*k+t) && !(due xs ys (8*k+t) && bit (D k).toNat t))):pgl xs ys D=ofb xs.length c:=by
 refine ext_gb (by rw [pgl_len,ofb_len]) fun k hk=>?_
 rw [pgl_len] at hk
 have b1:=hx k
 have b2:=tc_bd xs ys hx k
 have l1:(tc xs ys k).toNat &&& (D k).toNat ≤(tc xs ys k).toNat :=Nat.and_le_left
 have l2:(gb xs k).toNat &&& (255-((tc xs ys k).toNat &&& (D k).toNat))≤(gb xs k).toNat :=Nat.and_le_left
 rw [pgl_gb xs ys D k hk,ofb_gb _ _ k hk]
 have:=byte_bits ((gb xs k).toNat &&& (255-((tc xs ys k).toNat &&& (D k).toNat))) (by omega) c k fun t ht=>by
  rw [hc k t hk ht,bit_and,bit_not _ (by omega) t ht,bit_and,tc_bit xs ys hy k t ht,hs_at xs k t ht]
 rw [this]
theorem pgl_torn (xs ys m:List Int) (hx:AllB xs) (hy:AllB ys):pgl xs ys (mb m)=ofb xs.length (torn xs ys m):=
 pgl_ofb xs ys _ _ hx hy fun k t _ ht=>by rw [mb_bit m k t ht];rfl
theorem pgl_failed (xs ys m:List Int) (p z:Nat) (hx:AllB xs) (hy:AllB ys) (h:IsL xs ys p z):pgl xs ys (dn m p z)=ofb xs.length (failed xs ys m (8*xs.length)):=
 pgl_ofb xs ys _ _ hx hy fun k t _ ht=>by
  have key:bit (dn m p z k).toNat t=(mk m (8*k+t) && !(8*k+t+1 == lst xs ys (8*xs.length))):=by
   unfold dn
   rcases h with ⟨rfl,rfl,hl⟩ | ⟨t0,ht0,hp,rfl,hl⟩
   ·rw [hl]
    by_cases e:k=0
    ·rw [if_pos e,Int.toNat_natCast,bit_and,bit_not 0 (by omega) t ht,bit_zero,mb_bit m k t ht];simp
    ·rw [if_neg e,mb_bit m k t ht];simp
   ·rw [hl]
    have l2:2 ^ t0≤128:=Nat.pow_le_pow_right (by omega) (show t0≤7 by omega)
    by_cases e:k=p
    ·subst e
     rw [if_pos rfl,Int.toNat_natCast,bit_and,bit_not _ (by omega) t ht,bit_pow t0 ht0 t ht,mb_bit m k t ht]
     congr 2
     rw [Bool.eq_iff_iff]
     simp
    ·rw [if_neg e,mb_bit m k t ht,show (8*k+t+1 == 8*p+t0+1)=false by simp;omega];simp
  rw [key]
  unfold failed
  cases hs xs (8*k+t) <;> cases due xs ys (8*k+t) <;> cases mk m (8*k+t) <;> simp
end Go.Proofs.YtmbgokmomkmgcaaGreatDoor.fa
namespace Go.Proofs.YtmbgokmomkmgcaaGreatDoor.na
open Go.RowKit Go.Proofs.YtmbgokmomkmgcaaGreatDoor.fa
set_option maxRecDepth 20000
def St:Type:=(Nat→Nat→List Int) × (Nat→Nat→Int) × (Nat→Int) × (Nat→Bool) × (Nat→Int) × Bool × Nat
def pgs (s:St):Nat→Nat→List Int:=s.1
def usd (s:St):Nat→Nat→Int:=s.2.1
def lsp (s:St):Nat→Int:=s.2.2.1
def scr (s:St):Nat→Bool:=s.2.2.2.1
def ers (s:St):Nat→Int:=s.2.2.2.2.1
def off (s:St):Bool:=s.2.2.2.2.2.1
def ops (s:St):Nat:=s.2.2.2.2.2.2
def at1 {α:Type} (f:Nat→α) (b:Nat) (x:α) (k:Nat):α:=if k=b then x else f k
def at2 {α:Type} (f:Nat→Nat→α) (b p:Nat) (x:α) (k j:Nat):α:=if k=b∧j=p then x else f k j
theorem at1_same {α:Type} (f:Nat→α) (b:Nat) (x:α):at1 f b x b=x:=if_pos rfl
theorem at1_other {α:Type} (f:Nat→α) (b:Nat) (x:α) (k:Nat) (h:k≠b):at1 f b x k=f k:=if_neg h
theorem at2_same {α:Type} (f:Nat→Nat→α) (b p:Nat) (x:α):at2 f b p x b p=x:=if_pos ⟨rfl,rfl⟩
theorem at2_other {α:Type} (f:Nat→Nat→α) (b p:Nat) (x:α) (k j:Nat) (h:¬(k=b∧j=p)):at2 f b p x k j=f k j:=if_neg h
def Pln:Type:=Nat→Option (Bool × List Int)
def ans:Option (Bool × List Int)→Int
 |none=>0
 |some (c,_)=>if c then 4 else 5
def crs:Option (Bool × List Int)→Bool
 |none=>false
 |some (c,_)=>c
def pgm (S:Nat) (o:Option (Bool × List Int)) (was b:List Int):List Int:=match o with
 |none=>andl was b
 |some (true,m)=>ofb S (torn was b m)
 |some (false,m)=>ofb S (failed was b m (8*S))
def jnd (P:Nat) (f:Nat→List Int):List Int:=(List.range P).flatMap f
def cut (S:Nat) (l:List Int) (p:Nat):List Int:=(l.drop (p*S)).take S
def pno (N P S:Nat) (s:St) (b p:Int) (d:List Int):Option Int:=
 if off s=true then some 4
 else if ¬(0≤b∧b<N∧0≤p∧p<P∧d.length=S) then some 2
 else if scr s b.toNat=true∨2≤usd s b.toNat p.toNat then some 7
 else if usd s b.toNat p.toNat=0∧p≤lsp s b.toNat then some 6
 else none
def pdo (S:Nat) (pl:Pln) (s:St) (b p:Nat) (d:List Int):St:=
 (at2 (pgs s) b p (pgm S (pl (ops s)) (pgs s b p) d),at2 (usd s) b p (usd s b p+1),at1 (lsp s) b (max (lsp s b) p),scr s,ers s,crs (pl (ops s)),ops s+1)
def new (S:Nat):St:=(fun _ _=>List.replicate S 255,fun _ _=>0,fun _=> -1,fun _=>false,fun _=>0,false,0)
def img (N P:Nat) (s:St):List Int:=(List.range N).flatMap fun b=>jnd P (pgs s b)
def Wf (N P S:Nat) (s:St):Prop:=∀ b,b<N→(∀ p,p<P→(pgs s b p).length =S∧AllB (pgs s b p)∧0≤usd s b p∧usd s b p≤2)∧ -1≤lsp s b∧lsp s b<P∧0≤ers s b∧ers s b≤ops s
theorem jnd_len (P S:Nat) (f:Nat→List Int) (h:∀ p,p<P→(f p).length =S):(jnd P f).length =P*S:=by
 induction P with
 |zero=>simp [jnd]
 |succ P ih=>
  unfold jnd at ih ⊢
  rw [List.range_succ,List.flatMap_append,List.length_append,ih (fun p hp=>h p (by omega))]
  simp [h P (by omega),Nat.succ_mul]
theorem jnd_succ (P:Nat) (f:Nat→List Int):jnd (P+1) f=jnd P f ++ f P:=by
 unfold jnd
 rw [List.range_succ,List.flatMap_append]
 simp
theorem cut_gb (S:Nat) (l:List Int) (p j:Nat) (hj:j<S):gb (cut S l p) j=gb l (p*S+j):=by
 simp [gb,List.getD,cut,hj]
theorem cut_all (S:Nat) (l:List Int) (p:Nat) (h:AllB l):AllB (cut S l p):=fun j=>by
 by_cases hj:j<S
 ·rw [cut_gb S l p j hj];exact h _
 ·have:gb (cut S l p) j=0:=by
   simp only [gb,List.getD,List.getElem?_eq_none (show (cut S l p).length ≤j by simp [cut];omega)];rfl
  omega
theorem pgm_wf {was b:List Int} (S:Nat) (o:Option (Bool × List Int)) (hw:AllB was) (hl:was.length=S):(pgm S o was b).length =S∧AllB (pgm S o was b):=by
 match o with
 |none=>exact ⟨by rw [pgm,andl_len];exact hl,andl_all _ _ hw⟩
 |some (true,m)=>exact ⟨ofb_len _ _,ofb_all _ _⟩
 |some (false,m)=>exact ⟨ofb_len _ _,ofb_all _ _⟩
end Go.Proofs.YtmbgokmomkmgcaaGreatDoor.na
namespace Go.Proofs.YtmbgokmomkmgcaaGreatDoor.na
open Go.RowKit Go.Proofs.YtmbgokmomkmgcaaGreatDoor.fa
set_option maxRecDepth 20000
theorem new_wf (N P S:Nat):Wf N P S (new S):=fun b _=>⟨fun p _=>⟨by simp [new,pgs],allB_replicate 255 S (by omega),by simp [new,usd],by simp [new,usd]⟩,by simp [new,lsp],by simp [new,lsp];omega,by simp [new,ers],by simp [new,ers,ops]⟩
theorem pno_none {N P S:Nat} {s:St} {b p:Int} {d:List Int} (h:pno N P S s b p d=none):off s=false∧(0≤b∧b<N∧0≤p∧p<P∧d.length=S)∧scr s b.toNat=false∧usd s b.toNat p.toNat<2∧¬(usd s b.toNat p.toNat=0∧p≤lsp s b.toNat):=by
 unfold pno at h
 split at h
 ·cases h
 rename_i h1
 split at h
 ·cases h
 rename_i h2
 split at h
 ·cases h
 rename_i h3
 split at h
 ·cases h
 rename_i h4
 exact ⟨Bool.eq_false_iff.2 h1,Classical.not_not.1 h2,Bool.eq_false_iff.2 fun e=>h3 (Or.inl e),by have:¬ 2≤usd s b.toNat p.toNat:=fun e=>h3 (Or.inr e);omega,h4⟩
theorem pdo_wf {N P S:Nat} {s:St} (h:Wf N P S s) (pl:Pln) (b p:Nat) (d:List Int) (hp:p<P) (hu:usd s b p<2):Wf N P S (pdo S pl s b p d):=fun k hk=>by
 obtain ⟨h1,h2,h3,h4,h5⟩:=h k hk
 refine ⟨fun j hj=>?_,?_,?_,h4,?_⟩
 ·obtain ⟨q1,q2,q3,q4⟩:=h1 j hj
  by_cases e:k=b∧j=p
  ·obtain ⟨rfl,rfl⟩:=e
   have w:=pgm_wf (b:=d) S (pl (ops s)) q2 q1
   refine ⟨?_,?_,?_,?_⟩
   ·show (at2 (α:=List Int) _ _ _ _ k j).length =S
    rw [at2_same];exact w.1
   ·show AllB (at2 _ _ _ _ k j)
    rw [at2_same];exact w.2
   ·show 0≤at2 _ _ _ _ k j
    rw [at2_same];omega
   ·show at2 _ _ _ _ k j≤2
    rw [at2_same];omega
  ·refine ⟨?_,?_,?_,?_⟩
   ·show (at2 (α:=List Int) _ _ _ _ k j).length =S
    rw [at2_other _ _ _ _ _ _ e];exact q1
   ·show AllB (at2 _ _ _ _ k j)
    rw [at2_other _ _ _ _ _ _ e];exact q2
   ·show 0≤at2 _ _ _ _ k j
    rw [at2_other _ _ _ _ _ _ e];exact q3
   ·show at2 _ _ _ _ k j≤2
    rw [at2_other _ _ _ _ _ _ e];exact q4
 ·show -1≤at1 _ _ _ k
  unfold at1
  split
  ·rename_i e;subst e;omega
  ·exact h2
 ·show at1 _ _ _ k<(P:Int)
  unfold at1
  split
  ·rename_i e;subst e;omega
  ·exact h3
 ·show ers s k≤((ops s+1 :Nat):Int)
  omega
theorem jnd_congr {f g:Nat→List Int}:∀ {P:Nat},(∀ p,p<P→f p=g p)→jnd P f=jnd P g
 |0,_=>rfl
 |P+1,h=>by rw [jnd_succ,jnd_succ,jnd_congr (P:=P) fun p hp=>h p (by omega),h P (by omega)]
def Opn:Type:=Int × Int × Int × List Int × Int
def opn (k b p:Int) (d:List Int) (e:Int):Opn:=(k,b,p,d,e)
end Go.Proofs.YtmbgokmomkmgcaaGreatDoor.na
namespace Go.Proofs.YtmbgokmomkmgcaaGreatDoor.ge
open Go.RowKit
set_option maxRecDepth 20000
theorem place_cells {w:World} {b:Nat} {g:List Int} (h:Ar w b 0 .i64 g) (hl:g.length=2):w.cell? ⟨b,0,none⟩=some (.int .i64 (gb g 0))∧w.cell? ⟨b,1,none⟩=some (.int .i64 (gb g 1)):=
 ⟨h.cell0 0 (by omega),h.cell0 1 (by omega)⟩
theorem index_wrong (g p:List Int) (hl:g.length=6) (hp:p.length=2) (h:¬Rt g) (w:World):
  Calls Tryz.prog 134 #[.agg (ints .i64 g),.agg (ints .i64 p)] w fun x w'=>x=.returned (.tuple #[.int .i64 0,.int .i64 2])∧Below w.heap.size w w':=by
 have S:Hid (∀ w,Calls Tryz.prog 24 #[.agg (ints .i64 g)] w fun x w'=>x=.returned (.int .i64 2)∧Below w.heap.size w w'):=check_no g hl h
 clear h
 have t0:=tR
 go_enter Tryz.func134,Tryz.ntmps134
 go_wp2_with (first
  |(have q2:=t2;go_at_call 24;refine (S.out _).mono ?_;rintro e w3 ⟨rfl,B3⟩;have HX:=hdH (HX.out.below B3 (HX.out.lt (by omega)));obtain ⟨e0,e1,e2,e3,e4,e5⟩:=geo_cells HX.out hl;have HP:=hdH (HP.out.below B3 (HP.out.lt (by omega)));obtain ⟨p0,p1⟩:=place_cells HP.out hp;have BB:=hdH (BB.out.trans (B3.mono BB.out.size));clear B3 t2)
  |(have q9:=HX;refine load_lawS _ (by rfl) _ _ rfl (load_geo HX.out hl) ?_)
  |(have q1:=t1;refine box_lawF _ rfl (.tmp 1) 78 rfl .i64 p rfl ?_;intro w2 X2 B2 L2;have HP:=hdH (X2);have HX:=hdH (HX.out.below B2 L1);have BB:=hdH (BB.out.trans (B2.mono BB.out.size));have t2:=tR;clear X2 t1 B2)
  |(have q0:=t0;refine box_lawF _ rfl (.tmp 0) 23 rfl .i64 g rfl ?_;intro w1 X1 B1 L1;have HX:=hdH (X1);have BB:=hdH (B1);have t1:=tR;clear X1 t0 B1))
 go_ret2
 exact ⟨rfl,BB.out⟩
theorem index_n0 (g p:List Int) (hl:g.length=6) (hp:p.length=2) (h:Rt g) (h0:gb p 0<0) (w:World):
  Calls Tryz.prog 134 #[.agg (ints .i64 g),.agg (ints .i64 p)] w fun x w'=>x=.returned (.tuple #[.int .i64 0,.int .i64 2])∧Below w.heap.size w w':=by
 have S:Hid (∀ w,Calls Tryz.prog 24 #[.agg (ints .i64 g)] w fun x w'=>x=.returned (.int .i64 0)∧Below w.heap.size w w'):=check_yes g hl h
 clear h
 have t0:=tR
 go_enter Tryz.func134,Tryz.ntmps134
 go_wp2_with (first
  |(have q2:=t2;go_at_call 24;refine (S.out _).mono ?_;rintro e w3 ⟨rfl,B3⟩;have HX:=hdH (HX.out.below B3 (HX.out.lt (by omega)));obtain ⟨e0,e1,e2,e3,e4,e5⟩:=geo_cells HX.out hl;have HP:=hdH (HP.out.below B3 (HP.out.lt (by omega)));obtain ⟨p0,p1⟩:=place_cells HP.out hp;have BB:=hdH (BB.out.trans (B3.mono BB.out.size));clear B3 t2)
  |(have q9:=HX;refine load_lawS _ (by rfl) _ _ rfl (load_geo HX.out hl) ?_)
  |(have q1:=t1;refine box_lawF _ rfl (.tmp 1) 78 rfl .i64 p rfl ?_;intro w2 X2 B2 L2;have HP:=hdH (X2);have HX:=hdH (HX.out.below B2 L1);have BB:=hdH (BB.out.trans (B2.mono BB.out.size));have t2:=tR;clear X2 t1 B2)
  |(have q0:=t0;refine box_lawF _ rfl (.tmp 0) 23 rfl .i64 g rfl ?_;intro w1 X1 B1 L1;have HX:=hdH (X1);have BB:=hdH (B1);have t1:=tR;clear X1 t0 B1))
 go_ret2
 exact ⟨rfl,BB.out⟩
theorem index_n1 (g p:List Int) (hl:g.length=6) (hp:p.length=2) (h:Rt g) (h0:¬gb p 0<0) (h1:gb g 0≤gb p 0) (w:World):
  Calls Tryz.prog 134 #[.agg (ints .i64 g),.agg (ints .i64 p)] w fun x w'=>x=.returned (.tuple #[.int .i64 0,.int .i64 2])∧Below w.heap.size w w':=by
 have S:Hid (∀ w,Calls Tryz.prog 24 #[.agg (ints .i64 g)] w fun x w'=>x=.returned (.int .i64 0)∧Below w.heap.size w w'):=check_yes g hl h
 clear h
 have t0:=tR
 go_enter Tryz.func134,Tryz.ntmps134
 go_wp2_with (first
  |(have q2:=t2;go_at_call 24;refine (S.out _).mono ?_;rintro e w3 ⟨rfl,B3⟩;have HX:=hdH (HX.out.below B3 (HX.out.lt (by omega)));obtain ⟨e0,e1,e2,e3,e4,e5⟩:=geo_cells HX.out hl;have HP:=hdH (HP.out.below B3 (HP.out.lt (by omega)));obtain ⟨p0,p1⟩:=place_cells HP.out hp;have BB:=hdH (BB.out.trans (B3.mono BB.out.size));clear B3 t2)
  |(have q9:=HX;refine load_lawS _ (by rfl) _ _ rfl (load_geo HX.out hl) ?_)
  |(have q1:=t1;refine box_lawF _ rfl (.tmp 1) 78 rfl .i64 p rfl ?_;intro w2 X2 B2 L2;have HP:=hdH (X2);have HX:=hdH (HX.out.below B2 L1);have BB:=hdH (BB.out.trans (B2.mono BB.out.size));have t2:=tR;clear X2 t1 B2)
  |(have q0:=t0;refine box_lawF _ rfl (.tmp 0) 23 rfl .i64 g rfl ?_;intro w1 X1 B1 L1;have HX:=hdH (X1);have BB:=hdH (B1);have t1:=tR;clear X1 t0 B1))
 go_ret2
 exact ⟨rfl,BB.out⟩
theorem index_n2 (g p:List Int) (hl:g.length=6) (hp:p.length=2) (h:Rt g) (h0:¬gb p 0<0) (h1:¬gb g 0≤gb p 0) (h2:gb p 1<0) (w:World):
  Calls Tryz.prog 134 #[.agg (ints .i64 g),.agg (ints .i64 p)] w fun x w'=>x=.returned (.tuple #[.int .i64 0,.int .i64 2])∧Below w.heap.size w w':=by
 have S:Hid (∀ w,Calls Tryz.prog 24 #[.agg (ints .i64 g)] w fun x w'=>x=.returned (.int .i64 0)∧Below w.heap.size w w'):=check_yes g hl h
 clear h
 have t0:=tR
 go_enter Tryz.func134,Tryz.ntmps134
 go_wp2_with (first
  |(have q2:=t2;go_at_call 24;refine (S.out _).mono ?_;rintro e w3 ⟨rfl,B3⟩;have HX:=hdH (HX.out.below B3 (HX.out.lt (by omega)));obtain ⟨e0,e1,e2,e3,e4,e5⟩:=geo_cells HX.out hl;have HP:=hdH (HP.out.below B3 (HP.out.lt (by omega)));obtain ⟨p0,p1⟩:=place_cells HP.out hp;have BB:=hdH (BB.out.trans (B3.mono BB.out.size));clear B3 t2)
  |(have q9:=HX;refine load_lawS _ (by rfl) _ _ rfl (load_geo HX.out hl) ?_)
  |(have q1:=t1;refine box_lawF _ rfl (.tmp 1) 78 rfl .i64 p rfl ?_;intro w2 X2 B2 L2;have HP:=hdH (X2);have HX:=hdH (HX.out.below B2 L1);have BB:=hdH (BB.out.trans (B2.mono BB.out.size));have t2:=tR;clear X2 t1 B2)
  |(have q0:=t0;refine box_lawF _ rfl (.tmp 0) 23 rfl .i64 g rfl ?_;intro w1 X1 B1 L1;have HX:=hdH (X1);have BB:=hdH (B1);have t1:=tR;clear X1 t0 B1))
 go_ret2
 exact ⟨rfl,BB.out⟩
theorem index_n3 (g p:List Int) (hl:g.length=6) (hp:p.length=2) (h:Rt g) (h0:¬gb p 0<0) (h1:¬gb g 0≤gb p 0) (h2:¬gb p 1<0) (h3:gb g 1≤gb p 1) (w:World):
  Calls Tryz.prog 134 #[.agg (ints .i64 g),.agg (ints .i64 p)] w fun x w'=>x=.returned (.tuple #[.int .i64 0,.int .i64 2])∧Below w.heap.size w w':=by
 have S:Hid (∀ w,Calls Tryz.prog 24 #[.agg (ints .i64 g)] w fun x w'=>x=.returned (.int .i64 0)∧Below w.heap.size w w'):=check_yes g hl h
 clear h
 have t0:=tR
 go_enter Tryz.func134,Tryz.ntmps134
 go_wp2_with (first
  |(have q2:=t2;go_at_call 24;refine (S.out _).mono ?_;rintro e w3 ⟨rfl,B3⟩;have HX:=hdH (HX.out.below B3 (HX.out.lt (by omega)));obtain ⟨e0,e1,e2,e3,e4,e5⟩:=geo_cells HX.out hl;have HP:=hdH (HP.out.below B3 (HP.out.lt (by omega)));obtain ⟨p0,p1⟩:=place_cells HP.out hp;have BB:=hdH (BB.out.trans (B3.mono BB.out.size));clear B3 t2)
  |(have q9:=HX;refine load_lawS _ (by rfl) _ _ rfl (load_geo HX.out hl) ?_)
  |(have q1:=t1;refine box_lawF _ rfl (.tmp 1) 78 rfl .i64 p rfl ?_;intro w2 X2 B2 L2;have HP:=hdH (X2);have HX:=hdH (HX.out.below B2 L1);have BB:=hdH (BB.out.trans (B2.mono BB.out.size));have t2:=tR;clear X2 t1 B2)
  |(have q0:=t0;refine box_lawF _ rfl (.tmp 0) 23 rfl .i64 g rfl ?_;intro w1 X1 B1 L1;have HX:=hdH (X1);have BB:=hdH (B1);have t1:=tR;clear X1 t0 B1))
 go_ret2
 exact ⟨rfl,BB.out⟩
theorem index_yes (g p:List Int) (hl:g.length=6) (hp:p.length=2) (h:Rt g) (h0:¬gb p 0<0) (h1:¬gb g 0≤gb p 0) (h2:¬gb p 1<0) (h3:¬gb g 1≤gb p 1) (w:World):
  Calls Tryz.prog 134 #[.agg (ints .i64 g),.agg (ints .i64 p)] w fun x w'=>x=.returned (.tuple #[.int .i64 (gb p 0*gb g 1+gb p 1),.int .i64 0])∧Below w.heap.size w w':=by
 have S:Hid (∀ w,Calls Tryz.prog 24 #[.agg (ints .i64 g)] w fun x w'=>x=.returned (.int .i64 0)∧Below w.heap.size w w'):=check_yes g hl h
 obtain ⟨m,hm⟩:∃ m,m=gb p 0*gb g 1:=⟨_,rfl⟩
 have m0:0≤m:=by rw [hm];exact Int.mul_nonneg (by omega) (by obtain ⟨⟨-,h, -⟩, -⟩:=h;omega)
 have m1:m≤64*32:=by rw [hm];exact Int.mul_le_mul (by obtain ⟨⟨h, -⟩, -⟩:=h;omega) (by obtain ⟨⟨-,h, -⟩, -⟩:=h;omega) (by obtain ⟨⟨-,h, -⟩, -⟩:=h;omega) (by omega)
 have qm:gb p 0*gb g 1=m:=hm.symm
 rw [qm]
 have q1:IntKind.i64.wrap m=m:=by rw [IntKind.wrap_i64];omega
 have q2:IntKind.i64.wrap (m+gb p 1)=m+gb p 1:=by obtain ⟨⟨-,h, -⟩, -⟩:=h;rw [IntKind.wrap_i64];omega
 obtain ⟨z,hz⟩:∃ z,m+gb p 1=z:=⟨_,rfl⟩
 rw [hz] at q2 ⊢
 clear h hm m0 m1
 have t0:=tR
 go_enter Tryz.func134,Tryz.ntmps134
 go_wp2_with (first
  |(have q2:=t2;go_at_call 24;refine (S.out _).mono ?_;rintro e w3 ⟨rfl,B3⟩;have HX:=hdH (HX.out.below B3 (HX.out.lt (by omega)));obtain ⟨e0,e1,e2,e3,e4,e5⟩:=geo_cells HX.out hl;have HP:=hdH (HP.out.below B3 (HP.out.lt (by omega)));obtain ⟨p0,p1⟩:=place_cells HP.out hp;have BB:=hdH (BB.out.trans (B3.mono BB.out.size));clear B3 t2)
  |(have q9:=HX;refine load_lawS _ (by rfl) _ _ rfl (load_geo HX.out hl) ?_)
  |(have q1:=t1;refine box_lawF _ rfl (.tmp 1) 78 rfl .i64 p rfl ?_;intro w2 X2 B2 L2;have HP:=hdH (X2);have HX:=hdH (HX.out.below B2 L1);have BB:=hdH (BB.out.trans (B2.mono BB.out.size));have t2:=tR;clear X2 t1 B2)
  |(have q0:=t0;refine box_lawF _ rfl (.tmp 0) 23 rfl .i64 g rfl ?_;intro w1 X1 B1 L1;have HX:=hdH (X1);have BB:=hdH (B1);have t1:=tR;clear X1 t0 B1))
 go_ret2
 exact ⟨rfl,BB.out⟩
def Pg (g p:List Int):Prop:=¬gb p 0<0∧¬gb g 0≤gb p 0∧¬gb p 1<0∧¬gb g 1≤gb p 1
theorem index_no (g p:List Int) (hl:g.length=6) (hp:p.length=2) (h:¬(Rt g∧Pg g p)) (w:World):
  Calls Tryz.prog 134 #[.agg (ints .i64 g),.agg (ints .i64 p)] w fun x w'=>x=.returned (.tuple #[.int .i64 0,.int .i64 2])∧Below w.heap.size w w':=by
 by_cases hr:Rt g
 ·by_cases h0:gb p 0<0
  ·exact index_n0 g p hl hp hr h0 w
  ·by_cases h1:gb g 0≤gb p 0
   ·exact index_n1 g p hl hp hr h0 h1 w
   ·by_cases h2:gb p 1<0
    ·exact index_n2 g p hl hp hr h0 h1 h2 w
    ·exact index_n3 g p hl hp hr h0 h1 h2 (Int.not_lt.1 fun h3=>h ⟨hr,h0,h1,h2,fun h4=>by omega⟩) w
 ·exact index_wrong g p hl hp hr w
end Go.Proofs.YtmbgokmomkmgcaaGreatDoor.ge
namespace Go.Proofs.YtmbgokmomkmgcaaGreatDoor.fa
open Go.RowKit
set_option maxRecDepth 20000
theorem rand_own (va vb:Value) (xs ys:List Int) (w:World) (ha:Byt w va xs) (hb:Byt w vb ys) (hl:xs.length=ys.length) (hmax:xs.length≤1048576):
  Calls Tryz.prog 93 #[va,vb] w fun e w'=>∃ v,e=.returned v∧Own w.heap.size w' v (andl xs ys)∧Below w.heap.size w w':=by
 obtain ⟨ao,ca,rfl,ha1,ha2,ha3, -,ha5⟩:=ha
 obtain ⟨bo,cb,rfl,hb1,hb2,hb3, -,hb5⟩:=hb
 have HL:=hdH (hl)
 have HA5:=hdH (ha5)
 have HB5:Hid (0<xs.length→∃ b off,bo=some ⟨b,off,none⟩∧∀ t,t<xs.length→w.cell? ⟨b,off+t,none⟩=some (.int .u8 (gb ys t))):=by
  rw [hl];exact hb5
 have HA:=hdH (ha3)
 have HB:=hdH (hb3)
 rw [←hl] at hb1 ⊢
 clear hb5 ha5 ha3 hb3 hl
 have HZ:Hid ((andl xs ys).length =xs.length):=andl_len xs ys
 go_enter Tryz.func93,Tryz.ntmps93
 go_wp2
 go_loopw [5,6] (fun v i wr=>∃ k:Nat,k≤xs.length∧i=.int .i64 k∧Own w.heap.size wr v ((andl xs ys).take k)∧Below w.heap.size w wr) (fun _ i _=>xs.length-(intOf i).toNat)
 case atStart=>exact ⟨0,Nat.zero_le _,rfl,Own.empty w (Nat.le_refl _),(Below.refl _ _).alloc (Nat.le_refl _) _⟩
 case round=>
  obtain ⟨k,hk,rfl,hown,hbel⟩:=hrel
  have hsz:=hbel.size
  by_cases hlt':k<xs.length
  ·obtain ⟨b,off,rfl,hca⟩:=HA5.out (by omega)
   obtain ⟨b',off',rfl,hcb⟩:=HB5.out (by omega)
   have n1:=World.block_lt_of_cell? w _ (hca k hlt')
   have n2:=World.block_lt_of_cell? w _ (hcb k hlt')
   have c1:wr.cell? ⟨b,off+k,none⟩=some (.int .u8 (gb xs k)):=(hbel.cell n1).trans (hca k hlt')
   have c2:wr.cell? ⟨b',off'+k,none⟩=some (.int .u8 (gb ys k)):=(hbel.cell n2).trans (hcb k hlt')
   have lk:(k:Int)<(xs.length:Int):=by omega
   have lk0:(0 :Int)≤(k:Int):=by omega
   have a1:=HA.out k
   have a2:=HB.out k
   have hx:bits .and .u8 (gb xs k) (gb ys k)=gb (andl xs ys) k:=by rw [andl_gb xs ys k hlt'];exact u8_and _ _ a1.1 (by omega) a2.1 (by omega)
   have SN:Hid ((andl xs ys).take (k+1)=(andl xs ys).take k ++ [gb (andl xs ys) k]):=andl_take xs ys k hlt'
   have HLEN:Hid (((andl xs ys).take k).length ≤1099511627776):=by show _≤_;simp;omega
   clear hca hcb a1 a2
   go_wp2
   go_region_held3 (fun w'=>w'.cell? ⟨b,off+k,none⟩=some (.int .u8 (gb xs k))∧w'.cell? ⟨b',off'+k,none⟩=some (.int .u8 (gb ys k)))
    (first
     |go_keep
     |(exact ⟨by rw [hbel'.cell n1];simpa using c1,by rw [hbel'.cell n2];simpa using c2⟩))
    ((refine step_push1 wr.drew rfl (.tmp 14) (.tmp 24) rfl w.heap.size (by simpa using hsz) _ _ (gb (andl xs ys) k) rfl rfl hown HLEN.out ?_;intro v2 w2 hown' hbel'))
   go_wp2
   go_roundw
   case rel=>exact ⟨k+1,by omega,by go_num,by rw [SN.out];exact hown',hbel.drew.trans hbel'⟩
   case measure=>simp [intOf];omega
  ·have hks:k=xs.length:=by omega
   have e:Hid ((andl xs ys).take k=andl xs ys):=List.take_of_length_le (by rw [HZ.out];omega)
   rw [e.out] at hown
   go_wp2
   go_ret
   exact ⟨_,rfl,hown,hbel⟩
theorem rfill_own (x n:Int) (w:World):
  Calls Tryz.prog 89 #[.int .u8 x,.int .i64 n] w fun e w'=>∃ v,e=.returned v∧Own w.heap.size w' v (List.replicate (clamp n 65536) x)∧Below w.heap.size w w':=by
 have hs:((clamp n 65536 :Nat):Int)=min (max n 0) 65536:=by unfold clamp;omega
 generalize hsd:clamp n 65536=s at hs
 have HS:=hdH (hs)
 have hs1:s≤65536:=by omega
 clear hsd hs
 go_enter Tryz.func89,Tryz.ntmps89
 go_wp2
 go_loopw [5,6] (fun v i wr=>∃ k:Nat,k≤s∧i=.int .i64 k∧Own w.heap.size wr v (List.replicate k x)∧Below w.heap.size w wr) (fun _ i _=>s-(intOf i).toNat)
 case atStart=>exact ⟨0,Nat.zero_le _,rfl,Own.empty w (Nat.le_refl _),(Below.refl _ _).alloc (Nat.le_refl _) _⟩
 case round=>
  obtain ⟨k,hk,rfl,hown,hbel⟩:=hrel
  have hsz:=hbel.size
  by_cases hlt:k<s
  ·have h1:(k:Int)<n:=by have:=HS.out;omega
   have h2:(k:Int)<65536:=by omega
   go_wp2_with (at_builtin;refine push_law wr rfl (.tmp 17) (.tmp 19) rfl w.heap.size (by omega) _ _ x rfl rfl hown (by simp;omega) ?_;intro v' w1 hown' hbel')
   rw [←List.replicate_succ'] at hown'
   go_roundw
   case rel=>exact ⟨k+1,by omega,by go_num,hown',hbel.trans hbel'⟩
   case measure=>simp [intOf];omega
  ·have hks:k=s:=by omega
   subst hks
   by_cases h1:(k:Int)<n
   ·have h2:¬(k:Int)<65536:=by have:=HS.out;omega
    go_wp2
    go_ret
    exact ⟨_,rfl,hown,hbel⟩
   ·go_wp2
    go_ret
    exact ⟨_,rfl,hown,hbel⟩
end Go.Proofs.YtmbgokmomkmgcaaGreatDoor.fa
