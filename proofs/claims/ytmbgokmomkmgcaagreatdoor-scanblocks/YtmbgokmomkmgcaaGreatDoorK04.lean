/- Parts of the proof: what ScanBlocks reaches. No claim of its own. -/
import Derived.Laws.AppendOwnNone
import Derived.WalkKit
import Derived.WalkSmall
import Derived.ProofKit
import Derived.OpenShut
import Derived.BigQuiet
import Derived.Deep.QuietTactic
import Derived.Deep.RegionHeld3
import Derived.Lib.AppendZeros
import Derived.Lib.SliceRun
import Derived.Deep.WholeRow
import Derived.Deep.MidRow
import Derived.Laws.StructEq
import Derived.Deep.DeepCutAuto
import Derived.Deep.DeepHandedRow
import Derived.Lib.LaidTab
import Derived.Deep.Matrix
import Derived.Test.YtmbgokmomkmgcaaGreatDoorK00
import Derived.Test.YtmbgokmomkmgcaaGreatDoorK01
import Derived.Test.YtmbgokmomkmgcaaGreatDoorK02
import Derived.Test.YtmbgokmomkmgcaaGreatDoorK03
set_option maxHeartbeats 8000000
namespace Go.Proofs.YtmbgokmomkmgcaaGreatDoor.he
open Go.RowKit Go.Proofs.YtmbgokmomkmgcaaGreatDoor.fa
set_option maxRecDepth 20000
theorem heap_cells (w:World) (b o:Nat) (vs:List Value) (k:Nat) (h:k≠b):(w.setCells b o vs).heap[k]? =w.heap[k]? :=by
 induction vs generalizing w o with
 |nil=>rfl
 |cons v r ih=>exact (ih (w.setCell ⟨b,o,none⟩ v) (o+1)).trans (Below.heap_setCell w ⟨b,o,none⟩ v k h)
theorem step_storeK {ops:Array Oper} {o:Oper} {a:Act} {Q:Exit→Act→World→Prop} {K:Act→World→Prop} {E:Prop} (w:World) (hg:o.guard=none) (d:Option Tmp) (hd:o.dst=d) (x y:Operand) (t:TypeId) (hop:o.op=Op.store t x y) (c:Nat) (cs0 cs:List Value) (hx:a.eval x=.pointer (some ⟨c,0,none⟩)) (hy:a.eval y=.agg cs.toArray) (hV:Vr w c cs0) (hl:cs0.length=cs.length) (hs:(Tryz.prog.info? t).map (·.size)=some cs.length) (h1:∀ v ∈ cs,v.oneCell'=true)
  (hK:∀ w',Vr w' c cs→Below c w w'→(∀ k,k≠c→w'.heap[k]? =w.heap[k]?)→K (a.put d undef) w'):if Region.wanted o (yielded ops a.tmps)=true then Oper.wp Tryz.prog o a w K Q else E:=by
 have hw:Region.wanted o (yielded ops a.tmps)=true:=by simp [Region.wanted,hg]
 rw [if_pos hw]
 subst hd
 have ht:w.there c 0 cs.length:=by rw [←hl];exact hV.2
 refine wp_store_mid t x y hop c 0 cs.toArray hx hy (by simpa using ht) (by simpa using hs) (all_oneCell_toArray h1) ?_
 exact hK _ ⟨World.rangeAt_setCells_same w c 0 cs ht,World.there_setCells ht c 0 _⟩ (below_cells _ (Nat.le_refl _) _ _ (Below.refl _ _)) (fun k hk=>heap_cells w c 0 cs k hk)
theorem own_keep {B c:Nat} {w w':World} {v:Value} {xs:List Int} (h:Own B w v xs) (ha:AllB xs) (hk:∀ k,k≠c→w'.heap[k]? =w.heap[k]?) (hv:∀ k,v.ownBlock=some k→k≠c):Byt w' v xs:=by
 have hb:=h.byt ha
 obtain ⟨ao,cap,rfl,h1,h2,h3,h4,h5⟩:=hb
 refine ⟨ao,cap,rfl,h1,h2,h3,h4,fun hp=>?_⟩
 obtain ⟨b,off,rfl,hc⟩:=h5 hp
 refine ⟨b,off,rfl,fun t ht=>?_⟩
 rw [World.cell?_of_block (w:=w) (w':=w') (a:=⟨b,off+t,none⟩) (hk b (hv b rfl))]
 exact hc t ht
theorem clone_byt (w:World) (v:Value) (xs:List Int) (h:Byt w v xs) (hp:0<xs.length) (hl:xs.length≤1000000):
  Calls Tryz.prog 81 #[v] w fun e w'=>∃ v',e=.returned v'∧Own w.heap.size w' v' xs∧Below w.heap.size w w':=by
 have h0:=h
 obtain ⟨ao,cap,rfl, -, -, -, -,h5⟩:=h
 obtain ⟨b,off,rfl, -⟩:=h5 hp
 exact clone_any w _ _ _ xs h0 hl
set_option linter.unusedVariables false in
theorem read_no1_m:
  (∀ (v:Value) (xs:List Int) (w:World) (hb:Byt w v xs) (hl:xs.length=88) (hT:Tab w) (hw0:¬inv (sub xs 0 24)=sub xs 24 48),Calls Tryz.prog 80 #[v] w fun x w'=>x=.returned (.tuple #[.agg (hv 0 0 0 0 0 0).toArray,.slice none 0 0,.int .i64 1])∧Below w.heap.size w w')∧
  (∀ (v:Value) (xs:List Int) (w:World) (hb:Byt w v xs) (hl:xs.length=88) (hT:Tab w) (hw0:inv (sub xs 0 24)=sub xs 24 48) (hz:gb xs 3≠0),Calls Tryz.prog 80 #[v] w fun x w'=>x=.returned (.tuple #[.agg (hv 0 0 0 0 0 0).toArray,.slice none 0 0,.int .i64 1])∧Below w.heap.size w w')∧
  (∀ (v:Value) (xs:List Int) (w:World) (hb:Byt w v xs) (hl:xs.length=88) (hT:Tab w) (hw0:inv (sub xs 0 24)=sub xs 24 48) (hz:gb xs 3=0) (hk0:¬(1≤gb xs 0∧gb xs 0≤4)),Calls Tryz.prog 80 #[v] w fun x w'=>x=.returned (.tuple #[.agg (hv 0 0 0 0 0 0).toArray,.slice none 0 0,.int .i64 1])∧Below w.heap.size w w'):=by
 refine ⟨?c0,?c1,?c2⟩
 case' c0=>intro v xs w hb hl hT hw0;have mA:=tR
 case' c1=>intro v xs w hb hl hT hw0 hz;have mB:=tR
 case' c2=>intro v xs w hb hl hT hw0 hz hk0;have mC:=tR
 all_goals
  have HB:=hdH (hb)
  have HL:=hdH (hl)
  have ha:=hb.all
  have b0:=ha 0
  have b1:=ha 1
  have b2:=ha 2
  have bl:=(be_num4 (xs:=sub xs 4 8) (by rw [sub_len _ _ _ (by omega)]) (allB_sub ha 4 8)).2
  have HT:Hid (∀ w',Below w.heap.size w w'→Tab w'):=fun w' q=>hT.below q
  have e24:sub xs 0 24=xs.take 24:=by unfold sub;rw [List.drop_zero]
  have SI:Hid (∀ w' u,Below w.heap.size w w'→Byt w' u (xs.take 24)→Calls Tryz.prog 118 #[u] w' fun x w''=>x=.returned (.agg (nv [gb xs 0,gb xs 1,gb xs 2,gb xs 3,ql xs,qe xs,qt xs]).toArray)∧Below w'.heap.size w' w''):=fun w' u q y=>by
   have z:=in_any u (xs.take 24) w' y (by rw [List.length_take];omega) (hT.below q)
   have g:∀ i,i<24→gb (xs.take 24) i=gb xs i:=fun i hi=>by rw [←e24,sub_gb xs 0 24 i (by omega),Nat.zero_add]
   have s:∀ a b,b≤24→sub (xs.take 24) a b=sub xs a b:=fun a b hb=>by unfold sub;rw [List.take_take,Nat.min_eq_left hb]
   unfold ql qe qt at z ⊢
   rw [g 0 (by omega),g 1 (by omega),g 2 (by omega),g 3 (by omega),s 4 8 (by omega),s 8 16 (by omega),s 16 24 (by omega)] at z
   exact z
  have SH:Hid (∀ w',Calls Tryz.prog 119 #[.agg (nv [gb xs 0,gb xs 1,gb xs 2,gb xs 3,ql xs,qe xs,qt xs]).toArray] w' fun x w''=>x=.returned (.agg (hv (gb xs 0) (gb xs 1) (gb xs 2) (ql xs) (qe xs) (qt xs)).toArray)∧Below w'.heap.size w' w''):=fun w'=>headOf_any _ _ _ _ _ _ _ w' b0 b1 b2 bl
  have SW:Hid (∀ w',Below w.heap.size w w'→Calls Tryz.prog 120 #[v] w' fun x w''=>x=.returned (.bool (decide (inv (sub xs 0 24)=sub xs 24 48)))∧Below w'.heap.size w' w''):=fun w' q=>whole_any v xs w' (hb.below q) hl
  have SKd:Hid (∀ w',Calls Tryz.prog 121 #[.int .i64 (gb xs 0)] w' fun e w''=>e=.returned (.bool (decide (1≤gb xs 0∧gb xs 0≤4)))∧w''=w'):=fun w'=>kind_any _ w' _ rfl
  obtain ⟨ao,cap,hv'⟩:=byt_form hb hl
  subst hv'
  first
   |have m9:=mA
    have dw:decide (inv (sub xs 0 24)=sub xs 24 48)=false:=by simpa using hw0
   |have dw:decide (inv (sub xs 0 24)=sub xs 24 48)=true:=by simpa using hw0
  rw [dw] at SW
  clear dw
  first
   |have m9:=mA
    skip
   |have m9:=mB
    have hz':(gb xs 3 != 0)=true:=bne_iff_ne.2 hz
    clear hz
   |have dk:decide (1≤gb xs 0∧gb xs 0≤4)=false:=decide_eq_false hk0
    rw [dk] at SKd
    rw [hz] at SI SH
    clear dk hz hk0
  generalize gb xs 0=n0 at*
  generalize gb xs 1=n1 at*
  generalize gb xs 2=n2 at*
  first
   |have m9:=mC
    skip
   |generalize gb xs 3=n3 at*
  generalize ql xs=l at*
  generalize qe xs=e at*
  generalize qt xs=t at*
  clear hb hl hT ha b0 b1 b2 bl e24
  have t0:=tR
  go_enter Tryz.func80,Tryz.ntmps80
  go_wp2_with (first
   |(have q11:=t11;refine store_lawC _ (hv 0 0 0 0 0 0) w.heap.size 0 rfl rfl HR.out.2 rowy_head.2 (hv_one _ _ _ _ _ _) ?_;intro w10 E10 R10 T10 B10;have HQ:=hdH (R10);clear t11 E10 R10 T10)
   |((first | (have m9:=mC;have qb:=t10b) | (have qb:=t10));refine build_law _ rfl 64 _ rfl (.agg (hv 0 0 0 0 0 0).toArray) (by kernel_rfl) ?_;(first | (have m9:=mC;clear t10b) | (clear t10));have t11:=tR)
   |(have m9:=mC;have q10:=t10;go_at_call 121;refine (SKd.out _).mono ?_;rintro e9 w9 ⟨rfl,hw⟩;obtain rfl:=hw.symm;clear t10;have t10b:=tR)
   |(have q9:=t9;go_at_call 120;refine (SW.out _ BB.out).mono ?_;rintro e9 w8 ⟨rfl,B8⟩;have HD:=hdH (HD.out.below B8 s7);have c3:=(HN.out.below B8 (by omega)).cell 3 _ rfl;have ck:=HD.out.cell 0 _ rfl;have HR:=hdH (HR.out.below B8 (by omega));have BB:=hdH (BB.out.trans (B8.mono BB.out.size));have s8:w5.heap.size<w8.heap.size:=Nat.lt_of_lt_of_le s7 B8.size;clear B8 t9;have t10:=tR)
   |(have q8:=t8;refine store_lawC _ (hv n0 n1 n2 l e t) w5.heap.size 0 rfl rfl HD.out.2 rowy_head.2 (hv_one _ _ _ _ _ _) ?_;intro w7 E7 R7 T7 B7;have HD:Hid (Vr w7 w5.heap.size (hv n0 n1 n2 l e t)):=⟨R7,T7⟩;have HN:=hdH (HN.out.below B7 s5);have HR:=hdH (HR.out.below B7 (by omega));have BB:=hdH (BB.out.trans (B7.mono (by omega)));have s7:w5.heap.size<w7.heap.size:=Nat.lt_of_lt_of_le s6 B7.size;clear E7 R7 T7 B7 t8;have t9:=tR)
   |(have q7:=t7;refine new_lawC _ (hv 0 0 0 0 0 0) zero_head ?_;intro w6 V6 B6 s6;have HD:=hdH (V6);have HN:=hdH (HN.out.below B6 s5);have HR:=hdH (HR.out.below B6 (by omega));have BB:=hdH (BB.out.trans (B6.mono BB.out.size));clear V6 B6 t7;have t8:=tR)
   |(have q6:=t6;go_at_call 119;refine (SH.out _).mono ?_;rintro e9 w5 ⟨rfl,B5⟩;have HN:=hdH (HN.out.below B5 s4);have HR:=hdH (HR.out.below B5 (by omega));have BB:=hdH (BB.out.trans (B5.mono BB.out.size));have s5:w2.heap.size<w5.heap.size:=Nat.lt_of_lt_of_le s4 B5.size;clear B5 t6;have t7:=tR)
   |((first | have m9:=mA | have m9:=mB);have q5:=t5;refine load_lawC _ rfl (nv [n0,n1,n2,n3,l,e,t]) w2.heap.size 0 rfl HN.out.1 rowy_nums ?_;clear t5;have t6:=tR)
   |(have m9:=mC;have q5:=t5;refine load_lawC _ rfl (nv [n0,n1,n2,0,l,e,t]) w2.heap.size 0 rfl HN.out.1 rowy_nums ?_;clear t5;have t6:=tR)
   |(have q4:=t4;(first | (have m9:=mC;refine store_lawC _ (nv [n0,n1,n2,0,l,e,t]) w2.heap.size 0 rfl rfl HN.out.2 rowy_nums.2 (nv_one _) ?_) | (refine store_lawC _ (nv [n0,n1,n2,n3,l,e,t]) w2.heap.size 0 rfl rfl HN.out.2 rowy_nums.2 (nv_one _) ?_));intro w4 E4 R4 T4 B4;(first | (have m9:=mC;have HN:Hid (Vr w4 w2.heap.size (nv [n0,n1,n2,0,l,e,t])):=⟨R4,T4⟩) | (have HN:Hid (Vr w4 w2.heap.size (nv [n0,n1,n2,n3,l,e,t])):=⟨R4,T4⟩));have HR:=hdH (HR.out.below B4 s2);have BB:=hdH (BB.out.trans (B4.mono (by omega)));have s4:w2.heap.size<w4.heap.size:=Nat.lt_of_lt_of_le s3 B4.size;clear E4 R4 T4 B4 t4;have t5:=tR)
   |(have q3:=t3;refine new_lawC _ (nv [0,0,0,0,0,0,0]) zero_nums ?_;intro w3 V3 B3 s3;have HN:=hdH (V3);have HR:=hdH (HR.out.below B3 s2);have BB:=hdH (BB.out.trans (B3.mono BB.out.size));clear V3 B3 t3;have t4:=tR)
   |(have q2:=t2;go_at_call 118;refine (SI.out _ _ BB.out Y1.out).mono ?_;rintro e9 w2 ⟨rfl,B2⟩;have HR:=hdH (HR.out.below B2 s1);have BB:=hdH (BB.out.trans (B2.mono BB.out.size));have s2:w.heap.size<w2.heap.size:=Nat.lt_of_lt_of_le s1 B2.size;clear B2 t2;have t3:=tR)
   |(have q1:=t1;refine cut_to _ rfl (.tmp 11) (.const (.int .i64 24)) rfl _ xs _ 24 rfl rfl rfl (by have:=HL.out;omega) (HB.out.below BB.out) ?_;intro v1 y1;have Y1:=hdH (y1);clear y1 t1;have t2:=tR)
   |(have q0:=t0;refine new_lawC _ (hv 0 0 0 0 0 0) zero_head ?_;intro w1 V1 B1 s1;have HR:=hdH (V1);have BB:=hdH (B1);clear V1 B1 t0;have t1:=tR))
  exact bodyPost_ret (v:=.tuple #[.agg (hv 0 0 0 0 0 0).toArray,.slice none 0 0,.int .i64 1]) (results_cvv rfl _ _ w.heap.size _ _ _ rowy_head rfl rfl rfl HQ.out) rfl ⟨rfl,BB.out.trans B10⟩
theorem read_no (v:Value) (xs:List Int) (w:World) (hb:Byt w v xs) (hl:xs.length=88) (hT:Tab w) (h:¬Tl xs):
  Calls Tryz.prog 80 #[v] w fun x w'=>x=.returned (.tuple #[.agg (hv 0 0 0 0 0 0).toArray,.slice none 0 0,.int .i64 1])∧Below w.heap.size w w':=by
 by_cases h1:inv (sub xs 0 24)=sub xs 24 48
 ·by_cases h2:gb xs 3=0
  ·exact read_no1_m.2.2 v xs w hb hl hT h1 h2 fun q=>h ⟨h1,h2,q.1,q.2⟩
  ·exact read_no1_m.2.1 v xs w hb hl hT h1 h2
 ·exact read_no1_m.1 v xs w hb hl hT h1
theorem read_yes (v:Value) (xs:List Int) (w:World) (hb:Byt w v xs) (hl:xs.length=88) (hT:Tab w) (h:Tl xs):
  Calls Tryz.prog 80 #[v] w fun x w'=>∃ u,x=.returned (.tuple #[.agg (hv (qk xs) (qn xs) (qc xs) (ql xs) (qe xs) (qt xs)).toArray,u,.int .i64 0])∧Byt w' u (sub xs 48 80)∧Below w.heap.size w w':=by
 obtain ⟨hw0,hz,hk1,hk2⟩:=h
 have HB:=hdH (hb)
 have HL:=hdH (hl)
 have ha:=hb.all
 have b0:=ha 0
 have b1:=ha 1
 have b2:=ha 2
 have bl:=(be_num4 (xs:=sub xs 4 8) (by rw [sub_len _ _ _ (by omega)]) (allB_sub ha 4 8)).2
 have HT:Hid (∀ w',Below w.heap.size w w'→Tab w'):=fun w' q=>hT.below q
 have e24:sub xs 0 24=xs.take 24:=by unfold sub;rw [List.drop_zero]
 have SI:Hid (∀ w' u,Below w.heap.size w w'→Byt w' u (xs.take 24)→Calls Tryz.prog 118 #[u] w' fun x w''=>x=.returned (.agg (nv [gb xs 0,gb xs 1,gb xs 2,gb xs 3,ql xs,qe xs,qt xs]).toArray)∧Below w'.heap.size w' w''):=fun w' u q y=>by
  have z:=in_any u (xs.take 24) w' y (by rw [List.length_take];omega) (hT.below q)
  have g:∀ i,i<24→gb (xs.take 24) i=gb xs i:=fun i hi=>by rw [←e24,sub_gb xs 0 24 i (by omega),Nat.zero_add]
  have s:∀ a b,b≤24→sub (xs.take 24) a b=sub xs a b:=fun a b hb=>by unfold sub;rw [List.take_take,Nat.min_eq_left hb]
  unfold ql qe qt at z ⊢
  rw [g 0 (by omega),g 1 (by omega),g 2 (by omega),g 3 (by omega),s 4 8 (by omega),s 8 16 (by omega),s 16 24 (by omega)] at z
  exact z
 have SH:Hid (∀ w',Calls Tryz.prog 119 #[.agg (nv [gb xs 0,gb xs 1,gb xs 2,gb xs 3,ql xs,qe xs,qt xs]).toArray] w' fun x w''=>x=.returned (.agg (hv (gb xs 0) (gb xs 1) (gb xs 2) (ql xs) (qe xs) (qt xs)).toArray)∧Below w'.heap.size w' w''):=fun w'=>headOf_any _ _ _ _ _ _ _ w' b0 b1 b2 bl
 have SW:Hid (∀ w',Below w.heap.size w w'→Calls Tryz.prog 120 #[v] w' fun x w''=>x=.returned (.bool (decide (inv (sub xs 0 24)=sub xs 24 48)))∧Below w'.heap.size w' w''):=fun w' q=>whole_any v xs w' (hb.below q) hl
 have SKd:Hid (∀ w',Calls Tryz.prog 121 #[.int .i64 (gb xs 0)] w' fun e w''=>e=.returned (.bool (decide (1≤gb xs 0∧gb xs 0≤4)))∧w''=w'):=fun w'=>kind_any _ w' _ rfl
 obtain ⟨ao,cap,hv'⟩:=byt_form hb hl
 subst hv'
 have dw:decide (inv (sub xs 0 24)=sub xs 24 48)=true:=by simpa using hw0
 rw [dw] at SW
 clear dw
 have dk:decide (1≤gb xs 0∧gb xs 0≤4)=true:=decide_eq_true ⟨hk1,hk2⟩
 rw [dk] at SKd
 rw [hz] at SI SH
 have HA5:Hid (AllB (sub xs 48 80)):=allB_sub ha 48 80
 have HL5:Hid ((sub xs 48 80).length =32):=sub_len xs 48 80 (by omega)
 unfold qk qn qc
 clear dk hz hk1 hk2
 generalize gb xs 0=n0 at*
 generalize gb xs 1=n1 at*
 generalize gb xs 2=n2 at*
 generalize ql xs=l at*
 generalize qe xs=e at*
 generalize qt xs=t at*
 clear hb hl hT ha b0 b1 b2 bl e24
 have t0:=tR
 go_enter Tryz.func80,Tryz.ntmps80
 go_wp2_with (first
  |(have q10:=t10;go_at_call 121;refine (SKd.out _).mono ?_;rintro e9 w9 ⟨rfl,hw⟩;obtain rfl:=hw.symm;clear t10)
  |(have q9:=t9;go_at_call 120;refine (SW.out _ BB.out).mono ?_;rintro e9 w8 ⟨rfl,B8⟩;have HD:=hdH (HD.out.below B8 s7);have c3:=(HN.out.below B8 (by omega)).cell 3 _ rfl;have ck:=HD.out.cell 0 _ rfl;have HR:=hdH (HR.out.below B8 (by omega));have BB:=hdH (BB.out.trans (B8.mono BB.out.size));have s8:w5.heap.size<w8.heap.size:=Nat.lt_of_lt_of_le s7 B8.size;clear B8 t9;have t10:=tR)
  |(have q8:=t8;refine store_lawC _ (hv n0 n1 n2 l e t) w5.heap.size 0 rfl rfl HD.out.2 rowy_head.2 (hv_one _ _ _ _ _ _) ?_;intro w7 E7 R7 T7 B7;have HD:Hid (Vr w7 w5.heap.size (hv n0 n1 n2 l e t)):=⟨R7,T7⟩;have HN:=hdH (HN.out.below B7 s5);have HR:=hdH (HR.out.below B7 (by omega));have BB:=hdH (BB.out.trans (B7.mono (by omega)));have s7:w5.heap.size<w7.heap.size:=Nat.lt_of_lt_of_le s6 B7.size;clear E7 R7 T7 B7 t8;have t9:=tR)
  |(have q7:=t7;refine new_lawC _ (hv 0 0 0 0 0 0) zero_head ?_;intro w6 V6 B6 s6;have HD:=hdH (V6);have HN:=hdH (HN.out.below B6 s5);have HR:=hdH (HR.out.below B6 (by omega));have BB:=hdH (BB.out.trans (B6.mono BB.out.size));clear V6 B6 t7;have t8:=tR)
  |(have q6:=t6;go_at_call 119;refine (SH.out _).mono ?_;rintro e9 w5 ⟨rfl,B5⟩;have HN:=hdH (HN.out.below B5 s4);have HR:=hdH (HR.out.below B5 (by omega));have BB:=hdH (BB.out.trans (B5.mono BB.out.size));have s5:w2.heap.size<w5.heap.size:=Nat.lt_of_lt_of_le s4 B5.size;clear B5 t6;have t7:=tR)
  |(have q5:=t5;refine load_lawC _ rfl (nv [n0,n1,n2,0,l,e,t]) w2.heap.size 0 rfl HN.out.1 rowy_nums ?_;clear t5;have t6:=tR)
  |(have q4:=t4;refine store_lawC _ (nv [n0,n1,n2,0,l,e,t]) w2.heap.size 0 rfl rfl HN.out.2 rowy_nums.2 (nv_one _) ?_;intro w4 E4 R4 T4 B4;have HN:Hid (Vr w4 w2.heap.size (nv [n0,n1,n2,0,l,e,t])):=⟨R4,T4⟩;have HR:=hdH (HR.out.below B4 s2);have BB:=hdH (BB.out.trans (B4.mono (by omega)));have s4:w2.heap.size<w4.heap.size:=Nat.lt_of_lt_of_le s3 B4.size;clear E4 R4 T4 B4 t4;have t5:=tR)
  |(have q3:=t3;refine new_lawC _ (nv [0,0,0,0,0,0,0]) zero_nums ?_;intro w3 V3 B3 s3;have HN:=hdH (V3);have HR:=hdH (HR.out.below B3 s2);have BB:=hdH (BB.out.trans (B3.mono BB.out.size));clear V3 B3 t3;have t4:=tR)
  |(have q2:=t2;go_at_call 118;refine (SI.out _ _ BB.out Y1.out).mono ?_;rintro e9 w2 ⟨rfl,B2⟩;have HR:=hdH (HR.out.below B2 s1);have BB:=hdH (BB.out.trans (B2.mono BB.out.size));have s2:w.heap.size<w2.heap.size:=Nat.lt_of_lt_of_le s1 B2.size;clear B2 t2;have t3:=tR)
  |(have q1:=t1;refine cut_to _ rfl (.tmp 11) (.const (.int .i64 24)) rfl _ xs _ 24 rfl rfl rfl (by have:=HL.out;omega) (HB.out.below BB.out) ?_;intro v1 y1;have Y1:=hdH (y1);clear y1 t1;have t2:=tR)
  |(have q0:=t0;refine new_lawC _ (hv 0 0 0 0 0 0) zero_head ?_;intro w1 V1 B1 s1;have HR:=hdH (V1);have BB:=hdH (B1);clear V1 B1 t0;have t1:=tR))
 have HR:Hid (Vr w8.drew w.heap.size (hv 0 0 0 0 0 0)):=HR.out.drewN 1
 refine wp_region_held_drew (S:=fun w'=>Below w.heap.size w w'∧w'.rangeAt w5.heap.size 0 (hv n0 n1 n2 l e t)) (by kernel_rfl) ⟨BB.out.drew,HD.out.1⟩ (fun hS=>?_)
 obtain ⟨x1,hx0⟩:∃ x,x=w8.drew:=⟨_,rfl⟩
 rw [←hx0] at hS HR ⊢
 clear hx0
 refine tkH 0 (some 31) (.agg (hv n0 n1 n2 l e t).toArray) rfl rfl (Or.inl ⟨by rfl,fun w' hw'=>by exact exec_loadN 64 (.tmp 6) rfl _ rfl _ _ (load_cells rowy_head hw'.2)⟩) hS ?_
 simp only [Act.put,zE1,zE2,zE3]
 refine tkH 1 (some 32) (.slice ao 88 cap) rfl rfl (Or.inl ⟨by rfl,fun w' hw'=>by rfl⟩) hS ?_
 simp only [Act.put,zE1,zE2,zE3]
 refine tkH 2 (some 33) (sl (.slice ao 88 cap) 48 80) rfl rfl (Or.inl ⟨by rfl,fun w' hw'=>by exact exec_part (.tmp 32) (.const (.int .i64 48)) (.const (.int .i64 80)) rfl _ xs _ HB.out 48 80 rfl rfl rfl (by omega) (by have:=HL.out;omega) _⟩) hS ?_
 simp only [Act.put,zE1,zE2,zE3]
 refine wpAnyH_ready (rs:=[3]) (by kernel_rfl) (by simp) ?_
 refine AllReadyH.cons rfl (fun K hK=>?_) AllReadyH.nil
 refine step_callW _ (by rfl) (some 34) rfl 81 #[.tmp 33] #[26] rfl (fun q w'=>by rfl) #[sl (.slice ao 88 cap) 48 80] (by simp only [List.map_toArray,List.map_cons,List.map_nil];rfl) (fun u w'=>Own x1.heap.size w' u (sub xs 48 80)∧Below x1.heap.size x1 w') ?_ ?_
 ·exact (clone_byt x1 _ _ (sl_sub (HB.out.below hS.1) 48 80 (by omega) (by have:=HL.out;omega)) (by have:=HL5.out;omega) (by have:=HL5.out;omega)).mono fun e w' ⟨u,h1,h2,h3⟩=>⟨u,h1,h2,h3⟩
 rintro u1 x2 ⟨y1,hb⟩
 have Y1:=hdH (y1)
 have HO1:Hid (∀ k,u1.ownBlock=some k→k≠w.heap.size):=fun k hk=>by have:=(World.ownsRow.lt y1 k hk).1;have:=range_lt HR.out.1 (by simp [hv]);omega
 have HR:=hdH (HR.out.below hb (range_lt HR.out.1 (by simp [hv])))
 have hS:Below w.heap.size w x2∧x2.rangeAt w5.heap.size 0 (hv n0 n1 n2 l e t):=⟨hS.1.trans (hb.mono hS.1.size),range_heap hS.2 (hb.block _ (range_lt hS.2 (by simp [hv])))⟩
 clear hb y1
 refine hK.out _ _ hS (fun _=>?_)
 simp only [Act.put,zE1,zE2,zE3]
 clear hK K
 refine wpAnyH_ready (rs:=[4]) (by kernel_rfl) (by simp) ?_
 refine AllReadyH.cons rfl (fun K hK=>?_) AllReadyH.nil
 refine step_storeK _ rfl none rfl (.tmp 2) (.tmp 31) 64 rfl w.heap.size (hv 0 0 0 0 0 0) (hv n0 n1 n2 l e t) rfl rfl HR.out rfl rowy_head.2 (hv_one _ _ _ _ _ _) ?_
 intro x3 v9 B9 E9
 have HQ:=hdH (v9)
 have Y1:Hid (Byt x3 u1 (sub xs 48 80)):=own_keep Y1.out HA5.out E9 HO1.out
 have hS:Below w.heap.size w x3∧x3.rangeAt w5.heap.size 0 (hv n0 n1 n2 l e t):=⟨hS.1.trans B9,range_heap hS.2 (E9 _ (by omega))⟩
 clear v9 B9 E9
 refine hK.out _ _ hS (fun _=>?_)
 simp only [Act.put]
 clear hK K
 refine tkH 5 (some 3) (u1) rfl rfl (Or.inl ⟨by rfl,fun w' hw'=>by rfl⟩) hS ?_
 simp only [Act.put,zE1,zE2,zE3]
 refine tkH 6 (some 4) (.int .i64 0) rfl rfl (Or.inl ⟨by rfl,fun w' hw'=>by rfl⟩) hS ?_
 simp only [Act.put,zE1,zE2,zE3]
 refine wpAnyH_done (by kernel_rfl) ?_ _
 go_wp2
 exact bodyPost_ret (v:=.tuple #[.agg (hv n0 n1 n2 l e t).toArray,u1,.int .i64 0]) (results_cvv rfl _ _ w.heap.size _ _ _ rowy_head rfl rfl rfl HQ.out.1) rfl ⟨_,rfl,Y1.out,hS.1⟩
end Go.Proofs.YtmbgokmomkmgcaaGreatDoor.he
namespace Go.Proofs.YtmbgokmomkmgcaaGreatDoor.he
open Go.ChangeShapes Go.WideShapes Go.ChangeAt Go.RowKit Go.Proofs.YtmbgokmomkmgcaaGreatDoor.fa
set_option maxRecDepth 20000
theorem gTab:Tryz.prog.globalNamed "nepenthe/head.sizes" =some 1:=by kernel_rfl
theorem gTabType:(Tryz.prog.globals[1]?).map (·.type)=some 246:=by kernel_rfl
theorem cells_arr7i:Tryz.prog.cellsOf 246=7:=by kernel_rfl
theorem cells_int:Tryz.prog.cellsOf 3=1:=by kernel_rfl
theorem table {W:World} (h:laidMetH Tryz.prog [("nepenthe/head.sizes",Rows.laid_nepenthe_head_sizes)] W):Tab W:=by
 have t:=Lib.tabIs_of_head (rest:=[]) (zs:=[1,1,1,1,4,8,8]) (k:=.i64) gTab gTabType Tryz.underlying246 Tryz.underlying3 cells_int cells_arr7i h
 intro i hi
 have:=t.cell gTab i hi
 rw [this]
 rfl
def Hb (l e t:Int):Prop:=(0≤l∧l≤4294967295)∧(0≤e∧e≤18446744073709551615)∧0≤t∧t≤18446744073709551615
end Go.Proofs.YtmbgokmomkmgcaaGreatDoor.he
