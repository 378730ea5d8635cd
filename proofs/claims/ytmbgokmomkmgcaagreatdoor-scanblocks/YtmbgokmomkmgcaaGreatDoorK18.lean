/- Parts of the proof: what ScanBlocks reaches. No claim of its own. -/
import Derived.Lib.MakeNoZero
import Derived.Laws.AppendOwnNone
import Derived.Deep.DeepCutAuto
import Derived.ArgAppend
import Derived.WalkKit
import Derived.WalkSmall
import Derived.ProofKit
import Derived.OpenShut
import Derived.BigQuiet
import Derived.Deep.QuietTactic
import Derived.Deep.RegionHeld3
import Derived.Lib.SliceRun
import Derived.Deep.WholeRow
import Derived.Deep.MidRow
import Derived.Laws.StructEq
import Derived.Test.YtmbgokmomkmgcaaGreatDoorK00
import Derived.Test.YtmbgokmomkmgcaaGreatDoorK02
import Derived.Test.YtmbgokmomkmgcaaGreatDoorK08
import Derived.Test.YtmbgokmomkmgcaaGreatDoorK09
import Derived.Test.YtmbgokmomkmgcaaGreatDoorK10
import Derived.Test.YtmbgokmomkmgcaaGreatDoorK11
import Derived.Test.YtmbgokmomkmgcaaGreatDoorK12
import Derived.Test.YtmbgokmomkmgcaaGreatDoorK13
import Derived.Test.YtmbgokmomkmgcaaGreatDoorK14
set_option maxHeartbeats 8000000
namespace Go.Proofs.YtmbgokmomkmgcaaGreatDoor.na
open Go.RowKit Go.Proofs.YtmbgokmomkmgcaaGreatDoor.fa
set_option maxRecDepth 20000
section
variable {M:Nat→Bool} {w:World} {c r d:Nat} {q:Nat→Nat} {pv tv:Value} {g:List Int} {N P S:Nat} {pl:Pln} {X:Raw}
theorem perform_any (h:Lay M w c r d q pv tv g N P S pl X) (hM:Mlt M w) (hon:xo X=true) (o:Opn) (ho:o.2.2.2.2=0) (dv:Value) (off len cap:Nat) (deed:Value) (R:Option (Bool × List Int)→List Int)
  (hD:Deed w deed (.slice (some ⟨d,off,none⟩) len cap) R) (hd:Byt (hid M w) dv o.2.2.2.1) (hf:off+len≤N*(P*S)) (hR:∀ po,(R po).length =len∧AllB (R po)) (htr:(xt X).length ≤1000000):
  Calls Tryz.prog 98 #[.pointer (some ⟨c,0,none⟩),.agg (opc o dv).toArray,.slice (some ⟨d,off,none⟩) len cap,deed] w (Perf M w c r d q pv g N P S pl X off (R (pl (xt X).length)) o (pl (xt X).length)):=by
 cases e:pl (xt X).length with
 |none=>exact perform_none h hM hon o ho dv off len cap deed R e hD hd hf (hR _) htr
 |some y=>
  obtain ⟨cr,mm⟩:=y
  cases cr with
  |false=>exact perform_fail h hM hon o ho dv off len cap deed R mm e hD hd hf (hR _) htr
  |true=>exact perform_crash h hM hon o ho dv off len cap deed R mm e hD hd hf (hR _) htr
theorem Lay.part (h:Lay M w c r d q pv tv g N P S pl X) (k sz:Nat) (hk:k*sz+sz≤N*(P*S)) (cap:Nat) (hc:sz≤cap) (hm:cap≤9223372036854775807):Byt w (.slice (some ⟨d,k*sz,none⟩) sz cap) (cut sz (xi X) k):=by
 obtain ⟨hA,hl,ha⟩:=h.2.2.2.2.1
 have hlen:(cut sz (xi X) k).length =sz:=by simp [cut];omega
 have:=hA.subG (k*sz) (cut sz (xi X) k) (by rw [hlen,hl];exact hk) (fun t ht=>cut_gb sz (xi X) k t (by omega))
 rw [Nat.zero_add] at this
 exact this.bytG (cut_all sz (xi X) k ha) sz cap hlen hc hm
theorem cut_len2 (h:Lay M w c r d q pv tv g N P S pl X) (k sz:Nat) (hk:k*sz+sz≤N*(P*S)):(cut sz (xi X) k).length =sz:=by
 obtain ⟨hA,hl,ha⟩:=h.2.2.2.2.1
 simp [cut];omega
theorem program_off (h:Lay M w c r d q pv tv g N P S pl X) (p:List Int) (vb:Value) (ys:List Int) (hy:Byt w vb ys) (ho:xo X=false):
  Calls Tryz.prog 56 #[.pointer (some ⟨c,0,none⟩),.agg (ints .i64 p),vb] w fun e w'=>e=.returned (.int .i64 4)∧Below w.heap.size w w':=by
 have HL:=hdH (h)
 obtain ⟨bo,bc,rfl⟩:=byt_form hy
 have HON:=hdH (ho)
 clear ho
 clear h hy
 have t0:=tR
 go_enter Tryz.func56,Tryz.ntmps56
 go_wp2_with (first
  |(have q1:=t1;go_at_call 23;refine (on_any c _ _ HL.out.cells.2.1).mono ?_;rintro e w' ⟨rfl,hw⟩;obtain rfl:=hw.symm;rw [HON.out];clear t1;have t2:=tR)
  |(have q0:=t0;refine box_lawF _ rfl (.tmp 1) 78 rfl .i64 p rfl ?_;intro w1 X1 B1 l1;have HP:=hdH (X1);have HL:=hdH (HL.out.below B1);have BB:=hdH (B1);clear X1 B1 t0;have t1:=tR))
 go_ret
 exact ⟨rfl,BB.out⟩
theorem program_no (h:Lay M w c r d q pv tv g N P S pl X) (p:List Int) (hp:p.length=2) (vb:Value) (ys:List Int) (hy:Byt w vb ys) (ho:xo X=true) (hn:¬(0≤gb p 0∧gb p 0<N∧0≤gb p 1∧gb p 1<P)):
  Calls Tryz.prog 56 #[.pointer (some ⟨c,0,none⟩),.agg (ints .i64 p),vb] w fun e w'=>e=.returned (.int .i64 2)∧Below w.heap.size w w':=by
 have HL:=hdH (h)
 obtain ⟨bo,bc,rfl⟩:=byt_form hy
 have HON:=hdH (ho)
 have HN:=hdH (hn)
 clear ho hn
 clear h hy
 have t0:=tR
 go_enter Tryz.func56,Tryz.ntmps56
 go_wp2_with (first
  |(have q3:=t3;go_at_call 96;refine (pageCells_no HL.out p hp HN.out).mono ?_;rintro e w3 ⟨rfl,B3⟩;have HP:=hdH (HP.out.below B3 (HP.out.lt (by omega)));have HL:=hdH (HL.out.below B3);have BB:=hdH (BB.out.trans (B3.mono BB.out.size));clear B3 t3;have t4:=tR)
  |(have q2:=t2;refine load_lawS _ (by rfl) _ _ rfl (ld_place hp HP.out.1) ?_;clear t2;have t3:=tR)
  |(have q1:=t1;go_at_call 23;refine (on_any c _ _ HL.out.cells.2.1).mono ?_;rintro e w' ⟨rfl,hw⟩;obtain rfl:=hw.symm;rw [HON.out];clear t1;have t2:=tR)
  |(have q0:=t0;refine box_lawF _ rfl (.tmp 1) 78 rfl .i64 p rfl ?_;intro w1 X1 B1 l1;have HP:=hdH (X1);have HL:=hdH (HL.out.below B1);have BB:=hdH (B1);clear X1 B1 t0;have t1:=tR))
 go_ret
 exact ⟨rfl,BB.out⟩
theorem program_len (h:Lay M w c r d q pv tv g N P S pl X) (p:List Int) (hp:p.length=2) (vb:Value) (ys:List Int) (hy:Byt w vb ys) (ho:xo X=true) (b j:Nat) (e0:gb p 0=b) (e1:gb p 1=j) (hb:b<N) (hj:j<P) (hl:ys.length≠S):
  Calls Tryz.prog 56 #[.pointer (some ⟨c,0,none⟩),.agg (ints .i64 p),vb] w fun e w'=>e=.returned (.int .i64 2)∧Below w.heap.size w w':=by
 have HL:=hdH (h)
 obtain ⟨bo,bc,rfl⟩:=byt_form hy
 have HON:=hdH (ho)
 obtain ⟨n,hn⟩:∃ n,n=b*P+j:=⟨_,rfl⟩
 have HPG:Hid (gb p 0=b∧gb p 1=j∧b<N∧j<P∧n=b*P+j):=⟨e0,e1,hb,hj,hn⟩
 have hl':¬((ys.length:Int)=(S:Int)):=by omega
 have hl2:((ys.length:Int) == (S:Int))=false:=beq_eq_false_iff_ne.2 hl'
 clear ho e0 e1 hb hj hn hl
 clear h hy
 have t0:=tR
 go_enter Tryz.func56,Tryz.ntmps56
 go_wp2_with (first
  |(have q3:=t3;go_at_call 96;refine (pageCells_yes HL.out p hp b j n HPG.out.1 HPG.out.2.1 HPG.out.2.2.1 HPG.out.2.2.2.1 HPG.out.2.2.2.2).mono ?_;rintro e w3 ⟨rfl,B3⟩;have HP:=hdH (HP.out.below B3 (HP.out.lt (by omega)));have HL:=hdH (HL.out.below B3);have BB:=hdH (BB.out.trans (B3.mono BB.out.size));clear B3 t3;have t4:=tR)
  |(have q2:=t2;refine load_lawS _ (by rfl) _ _ rfl (ld_place hp HP.out.1) ?_;clear t2;have t3:=tR)
  |(have q1:=t1;go_at_call 23;refine (on_any c _ _ HL.out.cells.2.1).mono ?_;rintro e w' ⟨rfl,hw⟩;obtain rfl:=hw.symm;rw [HON.out];clear t1;have t2:=tR)
  |(have q0:=t0;refine box_lawF _ rfl (.tmp 1) 78 rfl .i64 p rfl ?_;intro w1 X1 B1 l1;have HP:=hdH (X1);have HL:=hdH (HL.out.below B1);have BB:=hdH (B1);clear X1 B1 t0;have t1:=tR))
 go_ret
 exact ⟨rfl,BB.out⟩
theorem program_ref (h:Lay M w c r d q pv tv g N P S pl X) (p:List Int) (hp:p.length=2) (vb:Value) (ys:List Int) (hy:Byt w vb ys) (ho:xo X=true) (b j:Nat) (e0:gb p 0=b) (e1:gb p 1=j) (hb:b<N) (hj:j<P) (hl:ys.length=S) (x:Int) (hx0:x≠0)
  (h7:xs X b=true∨2≤gb (xp X b) j→x=7) (h6:xs X b=false→gb (xp X b) j=0→Bhd (xp X b) j→x=6) (h0:xs X b=false→gb (xp X b) j<2→¬(gb (xp X b) j=0∧Bhd (xp X b) j)→x=0):
  Calls Tryz.prog 56 #[.pointer (some ⟨c,0,none⟩),.agg (ints .i64 p),vb] w fun e w'=>e=.returned (.int .i64 x)∧Below w.heap.size w w':=by
 have HL:=hdH (h)
 obtain ⟨bo,bc,rfl⟩:=byt_form hy
 have HON:=hdH (ho)
 obtain ⟨n,hn⟩:∃ n,n=b*P+j:=⟨_,rfl⟩
 have HPG:Hid (gb p 0=b∧gb p 1=j∧b<N∧j<P∧n=b*P+j):=⟨e0,e1,hb,hj,hn⟩
 have HX:Hid ((xs X b=true∨2≤gb (xp X b) j→x=7)∧(xs X b=false→gb (xp X b) j=0→Bhd (xp X b) j→x=6)∧(xs X b=false→gb (xp X b) j<2→¬(gb (xp X b) j=0∧Bhd (xp X b) j)→x=0)):=⟨h7,h6,h0⟩
 have hx1:(x == 0)=false:=beq_eq_false_iff_ne.2 hx0
 rw [hl]
 clear h hy ho e0 e1 hb hj hn h7 h6 h0 hl
 have t0:=tR
 go_enter Tryz.func56,Tryz.ntmps56
 go_wp2_with (first
  |(have q3:=t3;go_at_call 96;refine (pageCells_yes HL.out p hp b j n HPG.out.1 HPG.out.2.1 HPG.out.2.2.1 HPG.out.2.2.2.1 HPG.out.2.2.2.2).mono ?_;rintro e w3 ⟨rfl,B3⟩;have HP:=hdH (HP.out.below B3 (HP.out.lt (by omega)));have HL:=hdH (HL.out.below B3);have BB:=hdH (BB.out.trans (B3.mono BB.out.size));clear B3 t3;have t4:=tR)
  |(have q2:=t2;refine load_lawS _ (by rfl) _ _ rfl (ld_place hp HP.out.1) ?_;clear t2;have t3:=tR)
  |(have q1:=t1;go_at_call 23;refine (on_any c _ _ HL.out.cells.2.1).mono ?_;rintro e w' ⟨rfl,hw⟩;obtain rfl:=hw.symm;rw [HON.out];clear t1;have t2:=tR)
  |(have q0:=t0;refine box_lawF _ rfl (.tmp 1) 78 rfl .i64 p rfl ?_;intro w1 X1 B1 l1;have HP:=hdH (X1);have HL:=hdH (HL.out.below B1);have BB:=hdH (B1);clear X1 B1 t0;have t1:=tR))
 have f9:=HL.out.cells.2.2.2.1
 have fp0:w3.cell? ⟨w.heap.size,0,none⟩=some (.int .i64 (b:Int)):=by rw [←HPG.out.1];exact HP.out.cell0 0 (by omega)
 have i0:(0 :Int)≤(b:Int):=by omega
 have i1:(b:Int)<(N:Int):=by have:=HPG.out.2.2.1;omega
 go_quiet (fail)
 have HL:Hid (Lay M (w3.drewN nq) c r d q pv tv g N P S pl X):=HL.out.drewN nq
 have HP:Hid (Ar (w3.drewN nq) w.heap.size 0 .i64 p):=HP.out.drewN nq
 have BB:Hid (Below w.heap.size w (w3.drewN nq)):=below_drawn BB.out nq
 clear f9 fp0
 generalize w3.drewN nq=w4 at*
 have fp1:w4.cell? ⟨w.heap.size,1,none⟩=some (.int .i64 (j:Int)):=by rw [←HPG.out.2.1];exact HP.out.cell0 1 (by omega)
 have t6:=tR
 go_wp2_with (first
  |(have q6:=t6;go_at_call 97;refine (refuses_any r (b*3) (q b) (xs X b) (xp X b) j P _ (HL.out.st HPG.out.2.2.1).1 (HL.out.st HPG.out.2.2.1).2.2 (HL.out.2.2.2.2.2.2.1 b HPG.out.2.2.1).1 (HL.out.2.2.2.2.2.2.1 b HPG.out.2.2.1).2 HPG.out.2.2.2.1 (by have:=HL.out.num;omega) x HX.out.1 HX.out.2.1 HX.out.2.2).mono ?_;rintro e w' ⟨rfl,hw⟩;obtain rfl:=hw.symm;clear t6;have t7:=tR))
 go_ret
 exact ⟨rfl,BB.out⟩
def Done (M:Nat→Bool) (w:World) (c r d:Nat) (q:Nat→Nat) (pv:Value) (g:List Int) (N P S:Nat) (pl:Pln) (x:Int) (Y:Raw) (e:Ending) (w':World):Prop:=
 ∃ M' tv',e=.returned (.int .i64 x)∧Lay M' w' c r d q pv tv' g N P S pl Y∧(∀ k,k<w.heap.size→M' k=M k)∧Frm M w w'∧Mlt M' w'
theorem program_do (h:Lay M w c r d q pv tv g N P S pl X) (hM:Mlt M w) (vb:Value) (ys:List Int) (hy:Byt (hid M w) vb ys) (ho:xo X=true) (b j:Nat) (hb:b<N) (hj:j<P) (hl:ys.length=S) (hs:xs X b=false) (hu:0≤gb (xp X b) j∧gb (xp X b) j<2) (hB:¬(gb (xp X b) j=0∧Bhd (xp X b) j)) (htr:(xt X).length ≤1000000):
  Calls Tryz.prog 56 #[.pointer (some ⟨c,0,none⟩),.agg (ints .i64 [(b:Int),(j:Int)]),vb] w (Done M w c r d q pv g N P S pl (ans (pl (xt X).length)) (mkX (laid (xi X) ((b*P+j)*S) (pgm S (pl (xt X).length) (cut S (xi X) (b*P+j)) ys)) (at1 (xp X) b ((xp X b).set j (gb (xp X b) j+1))) (xe X) (xs X) (!crs (pl (xt X).length)) (xt X ++ [opn 1 b j ys (ans (pl (xt X).length))]))):=by
 have HL:=hdH (h)
 have HM:=hdH (hM)
 obtain ⟨bo,bc,rfl⟩:=byt_form hy
 have HYV:=hdH (hy)
 have HON:=hdH (ho)
 obtain ⟨n,hn⟩:∃ n,n=b*P+j:=⟨_,rfl⟩
 obtain ⟨p,hpe⟩:∃ p:List Int,p= [(b:Int),(j:Int)]:=⟨_,rfl⟩
 have hp:p.length=2:=by rw [hpe];rfl
 have HPE:Hid (p= [(b:Int),(j:Int)]):=hpe
 have HPG:Hid (gb p 0=b∧gb p 1=j∧b<N∧j<P∧n=b*P+j):=⟨by rw [hpe];rfl,by rw [hpe];rfl,hb,hj,hn⟩
 obtain ⟨u,hue⟩:∃ u,u=gb (xp X b) j:=⟨_,rfl⟩
 rw [←hue] at hu hB ⊢
 obtain ⟨po,hpo⟩:∃ po,po=pl (xt X).length :=⟨_,rfl⟩
 rw [←hpo,←hn,←hpe]
 have HPO:Hid (po=pl (xt X).length):=hpo
 have HU:Hid (gb (xp X b) j=u):=hue.symm
 have HX:Hid (¬(xs X b=true∨2≤gb (xp X b) j)∧¬(gb (xp X b) j=0∧Bhd (xp X b) j)):=by
  rw [←hue]
  refine ⟨fun q=>?_,hB⟩
  rcases q with q | q
  ·rw [hs] at q;cases q
  ·omega
 have qw:IntKind.i64.wrap (u+1)=u+1:=by rw [IntKind.wrap_i64];omega
 have HLS:=hdH (hl)
 have HLM:Hid (S≤1048576∧n*S+S≤N*(P*S)):=by
  refine ⟨by have:=h.num;omega,?_⟩
  have:=(idx_fits (S:=S) hb hj).1
  rw [←hn,Nat.succ_mul] at this
  exact this
 have SB:Hid (∀ w0,Byt w0 (.slice bo S bc) ys→Calls Tryz.prog 81 #[.slice bo S bc] w0 fun e w'=>∃ v',e=.returned v'∧Bow w0.heap.size w' v' ys∧Below w0.heap.size w0 w'):=fun w0 hw=>bclone_any _ ys w0 hw (by have:=h.num;omega)
 rw [hl] at HYV ⊢
 clear h hM hy ho hb hj hn hue hs hu hB hl hpe hpo
 have t0:=tR
 go_enter Tryz.func56,Tryz.ntmps56
 go_wp2_with (first
  |(have q3:=t3;go_at_call 96;refine (pageCells_yes HL.out p hp b j n HPG.out.1 HPG.out.2.1 HPG.out.2.2.1 HPG.out.2.2.2.1 HPG.out.2.2.2.2).mono ?_;rintro e w3 ⟨rfl,B3⟩;have HP:=hdH (HP.out.below B3 (HP.out.lt (by omega)));have HL:=hdH (HL.out.below B3);have BB:=hdH (BB.out.trans (B3.mono BB.out.size));clear B3 t3;have t4:=tR)
  |(have q2:=t2;refine load_lawS _ (by rfl) _ _ rfl (ld_place hp HP.out.1) ?_;clear t2;have t3:=tR)
  |(have q1:=t1;go_at_call 23;refine (on_any c _ _ HL.out.cells.2.1).mono ?_;rintro e w' ⟨rfl,hw⟩;obtain rfl:=hw.symm;rw [HON.out];clear t1;have t2:=tR)
  |(have q0:=t0;refine box_lawF _ rfl (.tmp 1) 78 rfl .i64 p rfl ?_;intro w1 X1 B1 l1;have HP:=hdH (X1);have HL:=hdH (HL.out.below B1);have BB:=hdH (B1);clear X1 B1 t0;have t1:=tR))
 have f9:=HL.out.cells.2.2.2.1
 have fp0:w3.cell? ⟨w.heap.size,0,none⟩=some (.int .i64 (b:Int)):=by rw [←HPG.out.1];exact HP.out.cell0 0 (by omega)
 have i0:(0 :Int)≤(b:Int):=by omega
 have i1:(b:Int)<(N:Int):=by have:=HPG.out.2.2.1;omega
 go_quiet (fail)
 have HL:Hid (Lay M (w3.drewN nq) c r d q pv tv g N P S pl X):=HL.out.drewN nq
 have HP:Hid (Ar (w3.drewN nq) w.heap.size 0 .i64 p):=HP.out.drewN nq
 have BB:Hid (Below w.heap.size w (w3.drewN nq)):=below_drawn BB.out nq
 clear f9 fp0
 generalize w3.drewN nq=w4 at*
 have fp1:w4.cell? ⟨w.heap.size,1,none⟩=some (.int .i64 (j:Int)):=by rw [←HPG.out.2.1];exact HP.out.cell0 1 (by omega)
 have t6:=tR
 go_wp2_with (first
  |(have q6:=t6;go_at_call 97;refine (refuses_any r (b*3) (q b) (xs X b) (xp X b) j P _ (HL.out.st HPG.out.2.2.1).1 (HL.out.st HPG.out.2.2.1).2.2 (HL.out.2.2.2.2.2.2.1 b HPG.out.2.2.1).1 (HL.out.2.2.2.2.2.2.1 b HPG.out.2.2.1).2 HPG.out.2.2.2.1 (by have:=HL.out.num;omega) 0 (fun q=>absurd q HX.out.1) (fun _ q1 q2=>absurd ⟨q1,q2⟩ HX.out.2) (fun _ _ _=>rfl)).mono ?_;rintro e w' ⟨rfl,hw⟩;obtain rfl:=hw.symm;clear t6;have t7:=tR))
 obtain ⟨s0,s1,s2⟩:=HL.out.st HPG.out.2.2.1
 have cu:w4.cell? ⟨q b,j,none⟩=some (.int .i64 u):=by rw [←HU.out];exact (HL.out.2.2.2.2.2.2.1 b HPG.out.2.2.1).1.cell0 j (by rw [(HL.out.2.2.2.2.2.2.1 b HPG.out.2.2.1).2];exact HPG.out.2.2.2.1)
 have i2:(0 :Int)≤(j:Int):=by omega
 have i3:(j:Int)<(P:Int):=by have:=HPG.out.2.2.2.1;omega
 refine wp_region_any (by kernel_rfl) ?_
 change wpAny _ _ _ _ _ _ _ (World.drew _)
 refine wpAny_quiet_then (C:=fun w'=>∃ n,w'=w4.drewN n) 0 10 1 _ (by kernel_rfl) rfl (by kernel_rfl) (by kernel_rfl) ⟨1,rfl⟩ ?_
 simp only [List.take_succ_cons,List.take_zero,List.drop_zero]
 repeat (quiet_step (fail))
 refine wpQuiet_nil ?_
 rintro f _ ⟨nr,rfl⟩
 have HL:Hid (Lay M (w4.drewN nr) c r d q pv tv g N P S pl X):=HL.out.drewN nr
 have HP:Hid (Ar (w4.drewN nr) w.heap.size 0 .i64 p):=HP.out.drewN nr
 have BB:Hid (Below w.heap.size w (w4.drewN nr)):=below_drawn BB.out nr
 clear s0 s1 s2 cu fp1 i0 i1
 generalize w4.drewN nr=w5 at*
 have HQ:Hid (Ar w5 (q b) 0 .i64 (xp X b)∧(xp X b).length =P):=HL.out.2.2.2.2.2.2.1 b HPG.out.2.2.1
 refine wpAny_ready (rs:=[10]) (by kernel_rfl) (by simp) ?_
 refine AllReady.cons rfl (fun K hK=>?_) AllReady.nil
 refine step_store1 _ rfl none rfl (.tmp 52) (.tmp 51) 3 rfl (q b) j (.int .i64 (u+1)) rfl rfl (by rw [HQ.out.1.cell0 j (by rw [HQ.out.2];exact HPG.out.2.2.2.1)];rfl) (HQ.out.1.free0 j (by rw [HQ.out.2];exact HPG.out.2.2.2.1)) one_int.2 rfl rfl ?_
 intro w6 e6
 have g6:w5.grownBy w6 (some (q b)):=by rw [e6.out];exact keep_set _ _ _ _
 have HL:Hid (Lay M w6 c r d q pv tv g N P S pl (mkX (xi X) (at1 (xp X) b ((xp X b).set j (u+1))) (xe X) (xs X) (xo X) (xt X))):=by
  refine HL.out.prs b HPG.out.2.2.1 g6 _ ?_ (by rw [List.length_set];exact HQ.out.2)
  rw [e6.out]
  exact HQ.out.1.set0 j (by rw [HQ.out.2];exact HPG.out.2.2.2.1) _
 have mq:M (q b)=true:=HL.out.2.1.1.2.2.2 b HPG.out.2.2.1
 have hbM:Hid (M w.heap.size=false):=not_hid HM.out (Nat.le_refl _)
 have HP:=hdH (HP.out.heap (g6.block _ (HP.out.lt (by omega)) (by simp;intro e;have:=hbM.out;rw [e,mq] at this;cases this)))
 have FF:Hid (Frm M w w6):=(Frm.of_below BB.out).tr (Frm.grown g6 (fun k e=>by injection e with e;subst e;exact mq))
 have HMw:Hid (Mlt M w6):=fun k hk=>Nat.lt_of_lt_of_le (HM.out k hk) FF.out.size
 refine hK _ _ ?_
 simp only [Act.put]
 clear e6 g6 mq HQ
 refine wpAny_done (by kernel_rfl) ?_ _
 go_wp2
 have HL:Hid (Lay M w6.drew c r d q pv tv g N P S pl (mkX (xi X) (at1 (xp X) b ((xp X b).set j (u+1))) (xe X) (xs X) (xo X) (xt X))):=HL.out.below (Below.refl _ _).drew
 have FF:Hid (Frm M w w6.drew):=FF.out
 have HMw:Hid (Mlt M w6.drew):=HMw.out
 refine wp_region_held_drew (S:=fun w'=>Ar w' w.heap.size 0 .i64 p) (by kernel_rfl) (HP.out.drewN 1) (fun hS=>?_)
 obtain ⟨x1,hx0⟩:∃ x,x=w6.drew:=⟨_,rfl⟩
 rw [←hx0] at hS HL FF HMw ⊢
 clear hx0
 refine tkH 0 (some 53) (.pointer (some ⟨c,0,none⟩)) rfl rfl (Or.inl ⟨by rfl,fun w' hw'=>by rfl⟩) hS ?_
 simp only [Act.put,zE1,zE2,zE3]
 refine tkH 1 (some 54) (.agg (ints .i64 p)) rfl rfl (Or.inl ⟨by rfl,fun w' hw'=>by exact exec_loadN 78 (.tmp 4) rfl _ rfl _ _ (ld_place hp hw'.1)⟩) hS ?_
 simp only [Act.put,zE1,zE2,zE3]
 refine tkH 2 (some 55) (.slice bo S bc) rfl rfl (Or.inl ⟨by rfl,fun w' hw'=>by rfl⟩) hS ?_
 simp only [Act.put,zE1,zE2,zE3]
 refine tkH 5 (some 58) (.slice (some ⟨d,n*S,none⟩) S (N*(P*S)-n*S)) rfl rfl (Or.inl ⟨by rfl,fun w' hw'=>by rfl⟩) hS ?_
 simp only [Act.put,zE1,zE2,zE3]
 refine tkH 6 (some 59) (.slice bo S bc) rfl rfl (Or.inl ⟨by rfl,fun w' hw'=>by rfl⟩) hS ?_
 simp only [Act.put,zE1,zE2,zE3]
 refine wpAnyH_ready (rs:=[3]) (by kernel_rfl) (by simp) ?_
 refine AllReadyH.cons rfl (fun K hK=>?_) AllReadyH.nil
 refine ge.step_callW _ (by rfl) (some 56) rfl 81 #[.tmp 55] #[26] rfl (fun q w'=>by rfl) #[.slice bo S bc] (by simp only [List.map_toArray,List.map_cons,List.map_nil];rfl) (fun v w'=>Bow x1.heap.size w' v ys∧Below x1.heap.size x1 w') ?_ ?_
 ·exact SB.out x1 (hid_byt (HYV.out.below FF.out.hid0))
 rintro dv x2 ⟨y9,hb9⟩
 obtain ⟨dq,dc,rfl⟩:=byt_form y9.1
 have hdv:=bow_hid y9 HMw.out
 have HL:=hdH (HL.out.below hb9)
 have FF:Hid (Frm M w x2):=FF.out.tr (Frm.of_below hb9)
 have HMw:Hid (Mlt M x2):=fun k hk=>Nat.lt_of_lt_of_le (HMw.out k hk) hb9.size
 have hS:Ar x2 w.heap.size 0 .i64 p:=hS.below hb9 (hS.lt (by omega))
 have HDV:Hid (Byt (hid M x2) (.slice dq ys.length dc) ys):=hdv
 clear y9 hb9 hdv
 refine hK.out _ _ hS (fun _=>?_)
 simp only [Act.put,zE1,zE2,zE3]
 clear hK K
 refine tkH 4 (some 57) (.agg (opc (opn 1 b j ys 0) (.slice dq ys.length dc)).toArray) rfl rfl (Or.inl ⟨by rfl,fun w' hw'=>by (rw [HPE.out];kernel_rfl)⟩) hS ?_
 simp only [Act.put,zE1,zE2,zE3]
 refine wpAnyH_ready (rs:=[7]) (by kernel_rfl) (by simp) ?_
 refine AllReadyH.cons rfl (fun K hK=>?_) AllReadyH.nil
 refine ge.step_callW _ (by rfl) (some 60) rfl 99 #[.tmp 59] #[26] rfl (fun q w'=>by rfl) #[.slice bo S bc] (by simp only [List.map_toArray,List.map_cons,List.map_nil];rfl) (fun v w'=>Below x2.heap.size x2 w'∧∀ w0 va xs,Below w'.heap.size w' w0→Byt w0 va xs→xs.length=ys.length→xs.length≤1048576→Deed w0 v va (fun o=>pgm xs.length o xs ys)) ?_ ?_
 ·refine (programming_any _ ys x2 (hid_byt (HYV.out.below FF.out.hid0))).mono ?_
  rintro e w' ⟨v,rfl,z⟩
  exact ⟨_,rfl,z⟩
 rintro deed x3 ⟨hb9,z9⟩
 have HL:=hdH (HL.out.below hb9)
 have FF:Hid (Frm M w x3):=FF.out.tr (Frm.of_below hb9)
 have HMw:Hid (Mlt M x3):=fun k hk=>Nat.lt_of_lt_of_le (HMw.out k hk) hb9.size
 have hS:Ar x3 w.heap.size 0 .i64 p:=hS.below hb9 (hS.lt (by omega))
 have HDV:=hdH (HDV.out.below (below_hid hb9))
 have HDE:=hdH (z9)
 have HBD:Hid (Below x3.heap.size x3 x3):=Below.refl _ _
 clear z9 hb9
 refine hK.out _ _ hS (fun _=>?_)
 simp only [Act.put,zE1,zE2,zE3]
 clear hK K
 refine wpAnyH_ready (rs:=[8]) (by kernel_rfl) (by simp) ?_
 refine AllReadyH.cons rfl (fun K hK=>?_) AllReadyH.nil
 have cb:=HL.out.part n S HLM.out.2 (N*(P*S)-n*S) (by have:=HLM.out.2;omega) (by have:=HL.out.bytes;omega)
 have cl:=cut_len2 HL.out n S HLM.out.2
 have hdd:Deed x3 deed (.slice (some ⟨d,n*S,none⟩) S (N*(P*S)-n*S)) (fun o=>pgm S o (cut S (xi X) n) ys):=by
  have:=HDE.out x3 _ _ HBD.out cb (by rw [HLS.out];exact cl) (by have:=HLM.out.1;omega)
  have e9:(cut S (xi (mkX (xi X) (at1 (xp X) b ((xp X b).set j (u+1))) (xe X) (xs X) (xo X) (xt X))) n).length =S:=cl
  rw [e9] at this
  exact this
 refine ge.step_callW _ (by rfl) (some 61) rfl 98 #[.tmp 53,.tmp 57,.tmp 58,.tmp 60] #[34,197,26,200] rfl (fun q w'=>by rfl) #[.pointer (some ⟨c,0,none⟩),.agg (opc (opn 1 b j ys 0) (.slice dq ys.length dc)).toArray,(.slice (some ⟨d,n*S,none⟩) S (N*(P*S)-n*S)),deed] (by simp only [List.map_toArray,List.map_cons,List.map_nil];rfl) (fun v w'=>Perf M x3 c r d q pv g N P S pl (mkX (xi X) (at1 (xp X) b ((xp X b).set j (u+1))) (xe X) (xs X) (xo X) (xt X)) (n*S) (pgm S (pl (xt X).length) (cut S (xi X) n) ys) (opn 1 b j ys 0) (pl (xt X).length) (.returned v) w') ?_ ?_
 ·refine (perform_any HL.out HMw.out HON.out (opn 1 b j ys 0) rfl (.slice dq ys.length dc) (n*S) S (N*(P*S)-n*S) deed (fun o=>pgm S o (cut S (xi X) n) ys) hdd HDV.out HLM.out.2 (fun o=>pgm_wf S o (cut_all S (xi X) n HL.out.2.2.2.2.1.2.2) cl) htr).mono ?_
  intro e w' z
  obtain ⟨M',tv',e1,z1⟩:=z
  exact ⟨_,e1,M',tv',rfl,z1⟩
 rintro v9 x4 ⟨M',tv',e9,L9,S9,F9,T9⟩
 injection e9 with e9
 subst e9
 rw [←HPO.out] at L9 ⊢
 have HL9:=hdH (L9)
 have hz:x3.heap.size<x3.heap.size+1:=by omega
 have FF9:Hid ((∀ k,k<w.heap.size→M' k=M k)∧Frm M w x4∧Mlt M' x4):=⟨fun k hk=>S9 k (Nat.lt_of_lt_of_le hk FF.out.size),FF.out.tr F9,T9⟩
 have hS:Ar x4 w.heap.size 0 .i64 p:=hS.heap (F9.block (hS.lt (by omega)) hbM.out)
 clear L9 S9 F9 T9 cb cl hdd hz
 refine hK.out _ _ hS (fun _=>?_)
 simp only [Act.put,zE1,zE2,zE3]
 clear hK K
 refine tkH 9 (some 6) ((.int .i64 (ans po))) rfl rfl (Or.inl ⟨by rfl,fun w' hw'=>by rfl⟩) hS ?_
 simp only [Act.put,zE1,zE2,zE3]
 refine wpAnyH_done (by kernel_rfl) ?_ _
 clear hS
 go_wp2
 go_ret
 exact ⟨M',tv',rfl,HL9.out,FF9.out⟩
end
end Go.Proofs.YtmbgokmomkmgcaaGreatDoor.na
namespace Go.Proofs.YtmbgokmomkmgcaaGreatDoor.na
open Go.RowKit Go.Proofs.YtmbgokmomkmgcaaGreatDoor.fa
set_option maxRecDepth 20000
theorem info_int:(Tryz.prog.info? 3).map (fun i=>(i.zero,i.size,i.bytes))=some (some (.int .i64 0),1,8):=by kernel_rfl
end Go.Proofs.YtmbgokmomkmgcaaGreatDoor.na
namespace Go.Proofs.YtmbgokmomkmgcaaGreatDoor.na
open Go.RowKit Go.Proofs.YtmbgokmomkmgcaaGreatDoor.fa
set_option maxRecDepth 20000
theorem bclone_own (v:Value) (xs:List Int) (w:World) (h:Byt w v xs) (hl:xs.length≤140737488355328):
  Calls Tryz.prog 81 #[v] w fun e w'=>∃ v',e=.returned v'∧Own w.heap.size w' v' xs∧Below w.heap.size w w':=by
 have HV:Hid (Byt (w.alloc (.cells #[] 5)) v xs):=h.below ((Below.refl _ _).alloc (Nat.le_refl _) _)
 obtain ⟨ao,cap,rfl,h1,h2,h3,h4,h5⟩:=h
 cases ao with
 |none=>
  have hc:=h4 rfl
  subst hc
  have e:xs= []:=List.eq_nil_of_length_eq_zero (by omega)
  subst e
  have qn:∀ w:World,(binOp .eql 26 (.slice none 0 0) (.slice none 0 0)).run Tryz.prog w=.ok (.bool true) w:=fun w=>Lib.run_eql_slice_nil w _ _ none 0 0 0 0 Tryz.underlying26
  clear h1 h2 h3 h4 h5 HV
  go_enter Tryz.func81,Tryz.ntmps81
  go_wp2
  go_ret
  exact ⟨_,rfl,⟨by simp,.inl ⟨rfl,rfl⟩⟩,Below.refl _ _⟩
 |some ad=>
  have HO:Hid (Own w.heap.size (w.alloc (.cells #[] 5)) (.slice (some ⟨w.heap.size,0,none⟩) 0 0) []):=Own.empty w (Nat.le_refl _)
  have B0:Below w.heap.size w (w.alloc (.cells #[] 5)):=(Below.refl _ _).alloc (Nat.le_refl _) _
  have z0:=B0.size
  have qn:∀ w:World,(binOp .eql 26 (.slice (some ad) xs.length cap) (.slice none 0 0)).run Tryz.prog w=.ok (.bool false) w:=fun w=>Lib.run_eql_slice_nil w _ _ (some ad) xs.length cap 0 0 Tryz.underlying26
  clear h3 h4 h5
  go_enter Tryz.func81,Tryz.ntmps81
  go_wp2_with (refine pushs_law _ rfl (.tmp 5) (.tmp 6) rfl w.heap.size z0 _ _ [] xs rfl rfl HO.out HV.out (by simp only [List.length_nil];omega) ?_;intro v1 w1 O1 b1;rw [List.nil_append] at O1;have HO1:=hdH (O1);clear O1;have c1:Below w.heap.size w w1:=B0.trans b1)
  go_ret
  exact ⟨_,rfl,HO1.out,c1⟩
theorem own_lessN {w:World} {B B':Nat} {v:Value} {xs:List Int} (h:Own B w v xs) (hB:B'≤B):Own B' w v xs:=by
 refine ⟨h.1,?_⟩
 rcases h.2 with q | ⟨g,cap,cur,q1,q2,q3⟩
 ·exact .inl q
 ·exact .inr ⟨g,cap,cur,q1,Nat.le_trans hB q2,q3⟩
section
variable {M:Nat→Bool} {w:World} {c r d:Nat} {q:Nat→Nat} {pv tv:Value} {g:List Int} {N P S:Nat} {pl:Pln} {X:Raw}
theorem read_own (h:Lay M w c r d q pv tv g N P S pl X) (p:List Int) (hp:p.length=2) (ho:xo X=true) (b j:Nat) (e0:gb p 0=b) (e1:gb p 1=j) (hb:b<N) (hj:j<P):
  Calls Tryz.prog 62 #[.pointer (some ⟨c,0,none⟩),.agg (ints .i64 p)] w fun e w'=>∃ v,e=.returned (.tuple #[v,.int .i64 0])∧Own w.heap.size w' v (cut S (xi X) (b*P+j))∧Below w.heap.size w w':=by
 have HL:=hdH (h)
 have HON:=hdH (ho)
 obtain ⟨n,hn⟩:∃ n,n=b*P+j:=⟨_,rfl⟩
 have HPG:Hid (gb p 0=b∧gb p 1=j∧b<N∧j<P∧n=b*P+j):=⟨e0,e1,hb,hj,hn⟩
 have HK:Hid (n*S+S≤N*(P*S)):=by
  have:=(idx_fits (S:=S) hb hj).1
  rw [←hn,Nat.succ_mul] at this
  exact this
 have HB:=h.bytes
 have HNM:=h.num
 rw [←hn]
 clear h ho e0 e1 hb hj hn
 have t0:=tR
 go_enter Tryz.func62,Tryz.ntmps62
 go_wp2_with (first
  |(have q4:=t4;go_at_call 81;refine (bclone_own _ (cut S (xi X) n) _ (HL.out.part n S HK.out _ (by have:=HK.out;omega) (by omega)) (by rw [cut_len2 HL.out n S HK.out];omega)).mono ?_;rintro e w5 ⟨v5,rfl,y5,B5⟩;have Y5:=hdH (y5);have BB5:=hdH (BB.out.trans (B5.mono BB.out.size));have Z3:Hid (w.heap.size≤w3.heap.size):=BB.out.size;clear y5 B5 t4)
  |(have q3:=t3;go_at_call 96;refine (pageCells_yes HL.out p hp b j n HPG.out.1 HPG.out.2.1 HPG.out.2.2.1 HPG.out.2.2.2.1 HPG.out.2.2.2.2).mono ?_;rintro e w3 ⟨rfl,B3⟩;have HL:=hdH (HL.out.below B3);have BB:=hdH (BB.out.trans (B3.mono BB.out.size));clear B3 t3;have t4:=tR)
  |(have q2:=t2;refine load_lawS _ (by rfl) _ _ rfl (ld_place hp HP.out.1) ?_;clear t2;have t3:=tR)
  |(have q1:=t1;go_at_call 23;refine (on_any c _ _ HL.out.cells.2.1).mono ?_;rintro e w' ⟨rfl,hw⟩;obtain rfl:=hw.symm;rw [HON.out];clear t1;have t2:=tR)
  |(have q0:=t0;refine box_lawF _ rfl (.tmp 1) 78 rfl .i64 p rfl ?_;intro w1 X1 B1 l1;have HP:=hdH (X1);have HL:=hdH (HL.out.below B1);have BB:=hdH (B1);clear X1 B1 t0;have t1:=tR))
 go_ret2
 exact ⟨_,rfl,own_lessN Y5.out Z3.out,BB5.out⟩
end
end Go.Proofs.YtmbgokmomkmgcaaGreatDoor.na
