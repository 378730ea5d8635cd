/- Texts put together. -/
import Derived.Test.YtikcohjhhoiakaaPk27
import Derived.Test.YtikcohjhhoiakaaPk02
set_option maxHeartbeats 8000000
namespace Go.Proofs.Ytikcohjhhoiakaa.na
open Go.RowKit Go.Proofs.Ytikcohjhhoiakaa.fa
set_option maxRecDepth 20000
section
variable {M E : Nat → Bool} {w : World} {c r d : Nat} {q : Nat → Nat} {pv tv : Value} {pl : Pln}
theorem step3a (N P S : Nat) (g2 g3 g4 g5 : Int) (hs : Shp [(N : Int), P, g2, g3, g4, g5] N P S) (bq : Option Addr) (bc : Nat) (po : Option Addr) (pn pc : Nat) (o0 : Bool) (n0 : Int) (s s2 : St) (X Y : Raw) (b p : Int) (x : Int) (hx : 0 ≤ x ∧ x ≤ 255) (h7 : x ≠ 7) (on : Bool) (xx : Int)
  (hL : Lay M w c r d q pv tv [(N : Int), P, g2, g3, g4, g5] N P S pl X) (hM : Mlt M w) (hE : Mlt E w) (hR : Ref (hid (uni M E) w) (.agg (chr [(N : Int), P, g2, g3, g4, g5] (.slice bq N bc) (.slice po pn pc) o0 n0).toArray) [(N : Int), P, g2, g3, g4, g5] N P pl s)
  (SR : ∀ M2 w1, Mlt M2 w1 → Ref (hid M2 w1) (.agg (chr [(N : Int), P, g2, g3, g4, g5] (.slice bq N bc) (.slice po pn pc) o0 n0).toArray) [(N : Int), P, g2, g3, g4, g5] N P pl s → Calls Try.prog 43 #[.agg (chr [(N : Int), P, g2, g3, g4, g5] (.slice bq N bc) (.slice po pn pc) o0 n0).toArray, .int .i64 b] w1 fun e w' => ∃ v', e = .returned (.tuple #[v', .int .i64 xx]) ∧ Ref (hid M2 w') v' [(N : Int), P, g2, g3, g4, g5] N P pl s2 ∧ Below w1.heap.size w1 w')
  (SP : ∀ w1, Lay M w1 c r d q pv tv [(N : Int), P, g2, g3, g4, g5] N P S pl X → Mlt M w1 → Calls Try.prog 31 #[.pointer (some ⟨c, 0, none⟩), .int .i64 b] w1 (Done M w1 c r d q pv [(N : Int), P, g2, g3, g4, g5] N P S pl xx Y)) :
  Calls Try.prog 15 #[.pointer (some ⟨c, 0, none⟩), .agg (chr [(N : Int), P, g2, g3, g4, g5] (.slice bq N bc) (.slice po pn pc) o0 n0).toArray, .agg ([.int .i64 3, .int .i64 b, .int .i64 p, .int .u8 x, .bool on] : List Value).toArray] w (StpD M E w c r d q pv [(N : Int), P, g2, g3, g4, g5] N P S pl s2 Y) := by
 have HL := hdH (hL)
 have HM := hdH (hM)
 have HE := hdH (hE)
 have HR := hdH (hR)
 have SR := hdH (SR)
 have SP := hdH (SP)
 have HX := hdH (hx)
 have e7 : (x == 7) = false := beq_eq_false_iff_ne.2 h7
 have HSZ : Hid (0 < S) := by show _ < _; have := shp_num hs; omega
 have SB := hdH (fun w0 => lbytes_any S (by have := shp_num hs; omega) x HX.out w0)
 have eS : g2 + 88 = (S : Int) := hs.2.2.2.2
 have qw : IntKind.i64.wrap (g2 + 88) = (S : Int) := by rw [IntKind.wrap_i64]; have := shp_num hs; omega
 clear hL hM hR hE hs eS hx h7
 have t0 := tR
 go_enter Try.func15, Try.ntmps15
 go_wp2_with (first
  | (have q6 := t6; (with_reducible refine at_store ?_); refine store_lawC _ (chr [(N : Int), P, g2, g3, g4, g5] (.slice bq2 N bc2) (.slice po2 pn2 pc2) (off s2) (ops s2 : Int)) w5.heap.size 0 rfl rfl HN.out.2 rowy_chipR.2 chr_one ?_; intro w7 E7 R7 T7 C7; have HN : Hid (Vr w7 w5.heap.size (chr [(N : Int), P, g2, g3, g4, g5] (.slice bq2 N bc2) (.slice po2 pn2 pc2) (off s2) (ops s2 : Int))) := ⟨R7, T7⟩; have HZo := HZ.out; have HS := hdH (HS.out.below C7 (by have := L5.out; have := LO.out; omega)); have HZ := hdH (HZ.out.below C7 L5.out); have HT : Hid (∃ fr, w7.heap[w2.heap.size]? = some (.cells ((zC : List Value)).toArray 38 fr)) := (by obtain ⟨fr, z⟩ := HT.out; exact ⟨fr, by rw [C7.block _ L5.out]; exact z⟩); have BB := hdH (BB.out.trans (C7.mono (by have := L5.out; have := LO.out; omega))); have HY := hdH (HY5.out.below (below_hid (B5.out.trans (C7.mono (Nat.le_refl _))))); have B5 := hdH (B5.out.trans (C7.mono (Nat.le_refl _))); have L6 : Hid (w5.heap.size < w7.heap.size) := Nat.lt_of_lt_of_le L6.out C7.size; clear E7 R7 T7 C7 HZo t6)
  | (have q5 := t5; (with_reducible refine at_alloc ?_); refine new_lawC _ _ zero_chr ?_; intro w6 X6 B6 l6; have HN := hdH (X6); have HY5 := HY; have HZo := HZ.out; have HS := vB HS B6 (vlt HS.out); have HZ := vB HZ B6 (vlt HZ.out); have HT : Hid (∃ fr, w6.heap[w2.heap.size]? = some (.cells ((zC : List Value)).toArray 38 fr)) := (by obtain ⟨fr, z⟩ := HT.out; exact ⟨fr, by rw [B6.block _ (range_lt HZo.1 (by simp))]; exact z⟩); have BB := bT BB B6; have HY := hdH (HY.out.below (below_hid B6)); have B5 := hdH (B6); have L6 := hdH (l6); clear X6 B6 l6 HZo t5; have t6 := tR)
  | (have q4 := t4; go_at_call 43; refine (SR.out (M6 (uni M E) w2.heap.size) w4 (m6_lt (uni_lt HM.out HE.out) BB.out.size LO.out.2.2) (m6_ref HR.out BB.out (by have := LO.out; omega))).mono ?_; rintro e9 w5 ⟨v5, rfl, R5, B5⟩; obtain ⟨bq2, bc2, po2, pn2, pc2, gv2, uv2, rfl, -, -, -⟩ := ref_open R5; have HR5 := hdH (R5); clear r0 r1 r2 r3 r4 r5 r6 r7 r8 r9 sc0 sc1 sc2 sc3 sc4; have HZo := HZ.out; have HS := vB HS B5 (vlt HS.out); have HZ := vB HZ B5 (vlt HZ.out); have HT : Hid (∃ fr, w5.heap[w2.heap.size]? = some (.cells ((zC : List Value)).toArray 38 fr)) := (by obtain ⟨fr, z⟩ := HT.out; exact ⟨fr, by rw [B5.block _ (range_lt HZo.1 (by simp))]; exact z⟩); have BB := bT BB B5; have HY := hdH (HY.out.below (below_hid B5)); have L5 : Hid (w2.heap.size < w5.heap.size) := Nat.lt_of_lt_of_le LO.out.2.2 B5.size; clear R5 B5 HA HZo t4; have t5 := tR)
  | (have q3 := t3; go_at_call 25; refine (SB.out w3).mono ?_; rintro e9 w4 ⟨v4, rfl, O4, B4⟩; obtain ⟨rb, cb, rfl, hb1, hb2, hb3⟩ := own_form O4 HSZ.out; clear r2 sc3; have HZo := HZ.out; have HA := vB HA B4 (vlt HA.out); have HS := vB HS B4 (vlt HS.out); have HZ := vB HZ B4 (vlt HZ.out); have HT : Hid (∃ fr, w4.heap[w2.heap.size]? = some (.cells ((zC : List Value)).toArray 38 fr)) := (by obtain ⟨fr, z⟩ := HT.out; exact ⟨fr, by rw [B4.block _ (range_lt HZo.1 (by simp))]; exact z⟩); have BB := bT BB B4; have HY : Hid (Byt (hid M w4) (.slice (some ⟨rb, 0, none⟩) S cb) (bts S x)) := own_hidS O4 (bts_all S x HX.out) (fun k hk => Nat.lt_of_lt_of_le (HM.out k hk) (by have := LO.out; omega)) ; have LO : Hid (w.heap.size < w1.heap.size ∧ w1.heap.size < w2.heap.size ∧ w2.heap.size < w4.heap.size) := ⟨LO.out.1, LO.out.2.1, Nat.lt_of_lt_of_le LO.out.2.2 B4.size⟩; obtain ⟨r0, r1, r2, r3, r4, r5, r6, r7, r8, r9⟩ := vK10 HA.out; obtain ⟨sc0, sc1, sc2, sc3, sc4⟩ := vK5 HS.out; clear O4 B4 HZo t3; have t4 := tR)
  | (have q2 := t2; (with_reducible refine at_alloc ?_); refine new_lawT _ _ zero_chr ?_; intro w3 X3 O3 B3 l3; have HZ := hdH (X3); have HT := hdH (O3); have HA := vB HA B3 (vlt HA.out); have HS := vB HS B3 (vlt HS.out); have BB := bT BB B3; have LO : Hid (w.heap.size < w1.heap.size ∧ w1.heap.size < w2.heap.size ∧ w2.heap.size < w3.heap.size) := ⟨l1, l2, l3⟩; have r2 := HA.out.cell 2 _ rfl; have sc3 := HS.out.cell 3 _ rfl; clear X3 O3 B3 t2 l1 l2 l3; have t3 := tR)
  | (have q1 := t1; refine box_lawC _ [.int .i64 3, .int .i64 b, .int .i64 p, .int .u8 x, .bool on] rfl ?_; intro w2 X2 B2 l2; have HS := hdH (X2); have HA := vB HA B2 (vlt HA.out); have BB := bT BB B2; clear X2 B2 t1; have t2 := tR)
  | (have q0 := t0; refine box_lawC _ (chr [(N : Int), P, g2, g3, g4, g5] (.slice bq N bc) (.slice po pn pc) o0 n0) rfl ?_; intro w1 X1 B1 l1; have HA := hdH (X1); have BB := hdH (B1); clear X1 B1 t0; have t1 := tR))
 have BB : Hid (Below w.heap.size w w7.drew) := BB.out.drew
 have B5 : Hid (Below w5.heap.size w5 w7.drew) := B5.out.drew
 have HT : Hid (∃ fr, w7.drew.heap[w2.heap.size]? = some (.cells ((zC : List Value)).toArray 38 fr)) := HT.out
 have HZ : Hid (Vr w7.drew w2.heap.size zC) := HZ.out.drewN 1
 have HY : Hid (Byt (hid M w7.drew) (.slice (some ⟨rb, 0, none⟩) S cb) (bts S x)) := HY.out
 refine wp_region_held_drew (S := fun w' => w'.rangeAt w1.heap.size 0 [.int .i64 3, .int .i64 b, .int .i64 p, .int .u8 x, .bool on] ∧ Vr w' w5.heap.size (chr [(N : Int), P, g2, g3, g4, g5] (.slice bq2 N bc2) (.slice po2 pn2 pc2) (off s2) (ops s2 : Int))) (by kernel_rfl) ⟨HS.out.1, HN.out⟩ (fun hS => ?_)
 obtain ⟨y1, hx0⟩ : ∃ x, x = w7.drew := ⟨_, rfl⟩
 rw [← hx0] at hS BB B5 HT HZ HY ⊢
 clear hx0
 refine tkH 0 (some 77) (.agg (chr [(N : Int), P, g2, g3, g4, g5] (.slice bq2 N bc2) (.slice po2 pn2 pc2) (off s2) (ops s2 : Int)).toArray) rfl rfl (Or.inl ⟨by rfl, fun w' hw' => by exact exec_loadN 38 (.tmp 13) rfl _ rfl _ _ (load_cells rowy_chipR hw'.2.1)⟩) hS ?_
 simp only [Act.put, zE1, zE2, zE3]
 refine tkR 1 (some 78) (.pointer (some ⟨c, 0, none⟩)) rfl rfl hS ?_
 simp only [Act.put, zE1, zE2, zE3]
 refine tkG 2 (some 79) (.pointer (some ⟨w1.heap.size, 1, none⟩)) rfl rfl hS ?_
 simp only [Act.put, zE1, zE2, zE3]
 refine tkG 3 (some 80) (.pointer (some ⟨w1.heap.size, 1, none⟩)) rfl rfl hS ?_
 simp only [Act.put, zE1, zE2, zE3]
 refine tkH 4 (some 81) (.int .i64 b) rfl rfl (Or.inl ⟨by rfl, fun w' hw' => by exact exec_loadN 3 (.tmp 80) rfl _ rfl _ _ (load_one one_int (hw'.1 1 _ rfl))⟩) hS ?_
 simp only [Act.put, zE1, zE2, zE3]
 refine tkR 6 (some 83) (.int .i64 xx) rfl rfl hS ?_
 simp only [Act.put, zE1, zE2, zE3]
 refine rd1 5 rfl fun K hK => ?_
 refine ge.step_callW _ (by rfl) (some 82) rfl 31 #[.tmp 78, .tmp 81] #[28, 3] rfl (fun q w' => by rfl) #[.pointer (some ⟨c, 0, none⟩), .int .i64 b] (by simp only [zM1, zM2, zM3]; rfl) (fun v w' => Done M y1 c r d q pv [(N : Int), P, g2, g3, g4, g5] N P S pl xx Y (.returned v) w') ?_ ?_
 ·refine (SP.out y1 (HL.out.below BB.out) (fun k hk => Nat.lt_of_lt_of_le (HM.out k hk) BB.out.size)).mono ?_
  intro e w' z
  obtain ⟨M', tv', e1, z1⟩ := z
  exact ⟨_, e1, M', tv', rfl, z1⟩
 rintro v9 y2 ⟨M', tv', e9, L9, S9, F9, T9⟩
 injection e9 with e9
 subst e9
 have hS : y2.rangeAt w1.heap.size 0 [.int .i64 3, .int .i64 b, .int .i64 p, .int .u8 x, .bool on] ∧ Vr y2 w5.heap.size (chr [(N : Int), P, g2, g3, g4, g5] (.slice bq2 N bc2) (.slice po2 pn2 pc2) (off s2) (ops s2 : Int)) := ⟨range_heap hS.1 (F9.block (range_lt hS.1 (by simp)) (not_hid HM.out (by have := LO.out; omega))), hS.2.heap (F9.block (range_lt hS.2.1 (by simp [chr])) (not_hid HM.out (by have := LO.out; have := L5.out; omega)))⟩
 have HZ := hdH (HZ.out.heap (F9.block (vlt HZ.out) (not_hid HM.out (by have := LO.out; omega))))
 have HD : Hid (Lay M' y2 c r d q pv tv' [(N : Int), P, g2, g3, g4, g5] N P S pl Y ∧ (∀ k, k < y1.heap.size → M' k = M k) ∧ Frm M y1 y2 ∧ Mlt M' y2) := ⟨L9, S9, F9, T9⟩
 clear L9 S9 F9 T9
 refine hK.out _ _ hS (fun _ => ?_)
 simp only [Act.put, zE1, zE2, zE3]
 clear hK K
 refine tkG 7 (some 84) (.bool true) rfl rfl hS ?_
 simp only [Act.put, zE1, zE2, zE3]
 refine rd1 8 rfl fun K hK => ?_
 refine step_storeC _ rfl none rfl (.tmp 6) (.tmp 77) 38 rfl w2.heap.size [.int .i64 0, .int .i64 0, .int .i64 0, .int .i64 0, .int .i64 0, .int .i64 0, .slice none 0 0, .slice none 0 0, .bool false, .int .i64 0] (chr [(N : Int), P, g2, g3, g4, g5] (.slice bq2 N bc2) (.slice po2 pn2 pc2) (off s2) (ops s2 : Int)) rfl rfl HZ.out rfl rowy_chipR.2 chr_one ?_
 intro y3 V9 g9
 have hS : y3.rangeAt w1.heap.size 0 [.int .i64 3, .int .i64 b, .int .i64 p, .int .u8 x, .bool on] ∧ Vr y3 w5.heap.size (chr [(N : Int), P, g2, g3, g4, g5] (.slice bq2 N bc2) (.slice po2 pn2 pc2) (off s2) (ops s2 : Int)) := ⟨range_heap hS.1 (g9.block _ (range_lt hS.1 (by simp)) (by have := LO.out; simp; omega)), hS.2.heap (g9.block _ (range_lt hS.2.1 (by simp [chr])) (by have := L5.out; simp; omega))⟩
 have HV := hdH (V9)
 have HF : Hid (StpD M E w c r d q pv [(N : Int), P, g2, g3, g4, g5] N P S pl s2 Y (.returned (.tuple #[.agg (chr [(N : Int), P, g2, g3, g4, g5] (.slice bq2 N bc2) (.slice po2 pn2 pc2) (off s2) (ops s2 : Int)).toArray, .bool true])) y3) := stp_fin HL.out HD.out.1 HD.out.2.1 HD.out.2.2.1 HD.out.2.2.2 HM.out BB.out B5.out (by have := LO.out; omega) L5.out HT.out zc_nobyte HR5.out g9
 clear V9 g9 HD
 refine hK.out _ _ hS (fun _ => ?_)
 simp only [Act.put]
 clear hK K
 refine tkR 9 (some 7) (.bool true) rfl rfl hS ?_
 simp only [Act.put, zE1, zE2, zE3]
 refine wpAnyH_done (by kernel_rfl) ?_ _
 go_wp2
 exact bodyPost_ret (v := .tuple #[.agg (chr [(N : Int), P, g2, g3, g4, g5] (.slice bq2 N bc2) (.slice po2 pn2 pc2) (off s2) (ops s2 : Int)).toArray, .bool true]) (results_cv rfl _ _ w2.heap.size _ _ rowy_chipR rfl rfl HV.out.1) rfl HF.out
theorem step3b (N P S : Nat) (g2 g3 g4 g5 : Int) (hs : Shp [(N : Int), P, g2, g3, g4, g5] N P S) (bq : Option Addr) (bc : Nat) (po : Option Addr) (pn pc : Nat) (o0 : Bool) (n0 : Int) (s s2 : St) (X Y : Raw) (b p : Int) (on : Bool) (xx : Int)
  (hL : Lay M w c r d q pv tv [(N : Int), P, g2, g3, g4, g5] N P S pl X) (hM : Mlt M w) (hE : Mlt E w) (hR : Ref (hid (uni M E) w) (.agg (chr [(N : Int), P, g2, g3, g4, g5] (.slice bq N bc) (.slice po pn pc) o0 n0).toArray) [(N : Int), P, g2, g3, g4, g5] N P pl s)
  (SR : ∀ M2 w1, Mlt M2 w1 → Ref (hid M2 w1) (.agg (chr [(N : Int), P, g2, g3, g4, g5] (.slice bq N bc) (.slice po pn pc) o0 n0).toArray) [(N : Int), P, g2, g3, g4, g5] N P pl s → Calls Try.prog 43 #[.agg (chr [(N : Int), P, g2, g3, g4, g5] (.slice bq N bc) (.slice po pn pc) o0 n0).toArray, .int .i64 b] w1 fun e w' => ∃ v', e = .returned (.tuple #[v', .int .i64 xx]) ∧ Ref (hid M2 w') v' [(N : Int), P, g2, g3, g4, g5] N P pl s2 ∧ Below w1.heap.size w1 w')
  (SP : ∀ w1, Lay M w1 c r d q pv tv [(N : Int), P, g2, g3, g4, g5] N P S pl X → Mlt M w1 → Calls Try.prog 31 #[.pointer (some ⟨c, 0, none⟩), .int .i64 b] w1 (Done M w1 c r d q pv [(N : Int), P, g2, g3, g4, g5] N P S pl xx Y)) :
  Calls Try.prog 15 #[.pointer (some ⟨c, 0, none⟩), .agg (chr [(N : Int), P, g2, g3, g4, g5] (.slice bq N bc) (.slice po pn pc) o0 n0).toArray, .agg ([.int .i64 3, .int .i64 b, .int .i64 p, .int .u8 7, .bool on] : List Value).toArray] w (StpD M E w c r d q pv [(N : Int), P, g2, g3, g4, g5] N P S pl s2 Y) := by
 have HL := hdH (hL)
 have HM := hdH (hM)
 have HE := hdH (hE)
 have HR := hdH (hR)
 have SR := hdH (SR)
 have SP := hdH (SP)
 have HX : Hid ((0 : Int) ≤ 7 ∧ (7 : Int) ≤ 255) := by show _ ∧ _; omega
 have HS1 : Hid (1 ≤ S) := by show _ ≤ _; have := shp_num hs; omega
 have i1 : (1 : Int) ≤ (S : Int) := by have := shp_num hs; omega
 have HSZ : Hid (0 < S) := by show _ < _; have := shp_num hs; omega
 have SB := hdH (fun w0 => lbytes_any S (by have := shp_num hs; omega) 7 HX.out w0)
 have eS : g2 + 88 = (S : Int) := hs.2.2.2.2
 have qw : IntKind.i64.wrap (g2 + 88) = (S : Int) := by rw [IntKind.wrap_i64]; have := shp_num hs; omega
 clear hL hM hR hE hs eS
 have t0 := tR
 go_enter Try.func15, Try.ntmps15
 go_wp2_with (first
  | (have q6 := t6; (with_reducible refine at_store ?_); refine store_lawC _ (chr [(N : Int), P, g2, g3, g4, g5] (.slice bq2 N bc2) (.slice po2 pn2 pc2) (off s2) (ops s2 : Int)) w5.heap.size 0 rfl rfl HN.out.2 rowy_chipR.2 chr_one ?_; intro w7 E7 R7 T7 C7; have HN : Hid (Vr w7 w5.heap.size (chr [(N : Int), P, g2, g3, g4, g5] (.slice bq2 N bc2) (.slice po2 pn2 pc2) (off s2) (ops s2 : Int))) := ⟨R7, T7⟩; have HZo := HZ.out; have HS := hdH (HS.out.below C7 (by have := L5.out; have := LO.out; omega)); have HZ := hdH (HZ.out.below C7 L5.out); have HT : Hid (∃ fr, w7.heap[w2.heap.size]? = some (.cells ((zC : List Value)).toArray 38 fr)) := (by obtain ⟨fr, z⟩ := HT.out; exact ⟨fr, by rw [C7.block _ L5.out]; exact z⟩); have BB := hdH (BB.out.trans (C7.mono (by have := L5.out; have := LO.out; omega))); have HY := hdH (HY5.out.below (below_hid (B5.out.trans (C7.mono (Nat.le_refl _))))); have B5 := hdH (B5.out.trans (C7.mono (Nat.le_refl _))); have L6 : Hid (w5.heap.size < w7.heap.size) := Nat.lt_of_lt_of_le L6.out C7.size; clear E7 R7 T7 C7 HZo t6)
  | (have q5 := t5; (with_reducible refine at_alloc ?_); refine new_lawC _ _ zero_chr ?_; intro w6 X6 B6 l6; have HN := hdH (X6); have HY5 := HY; have HZo := HZ.out; have HS := vB HS B6 (vlt HS.out); have HZ := vB HZ B6 (vlt HZ.out); have HT : Hid (∃ fr, w6.heap[w2.heap.size]? = some (.cells ((zC : List Value)).toArray 38 fr)) := (by obtain ⟨fr, z⟩ := HT.out; exact ⟨fr, by rw [B6.block _ (range_lt HZo.1 (by simp))]; exact z⟩); have BB := bT BB B6; have HY := hdH (HY.out.below (below_hid B6)); have B5 := hdH (B6); have L6 := hdH (l6); clear X6 B6 l6 HZo t5; have t6 := tR)
  | (have q4 := t4; go_at_call 43; refine (SR.out (M6 (uni M E) w2.heap.size) w4 (m6_lt (uni_lt HM.out HE.out) BB.out.size LO.out.2.2) (m6_ref HR.out BB.out (by have := LO.out; omega))).mono ?_; rintro e9 w5 ⟨v5, rfl, R5, B5⟩; obtain ⟨bq2, bc2, po2, pn2, pc2, gv2, uv2, rfl, -, -, -⟩ := ref_open R5; have HR5 := hdH (R5); clear r0 r1 r2 r3 r4 r5 r6 r7 r8 r9 sc0 sc1 sc2 sc3 sc4; have HZo := HZ.out; have HS := vB HS B5 (vlt HS.out); have HZ := vB HZ B5 (vlt HZ.out); have HT : Hid (∃ fr, w5.heap[w2.heap.size]? = some (.cells ((zC : List Value)).toArray 38 fr)) := (by obtain ⟨fr, z⟩ := HT.out; exact ⟨fr, by rw [B5.block _ (range_lt HZo.1 (by simp))]; exact z⟩); have BB := bT BB B5; have HY := hdH (HY.out.below (below_hid B5)); have L5 : Hid (w2.heap.size < w5.heap.size) := Nat.lt_of_lt_of_le LO.out.2.2 B5.size; clear R5 B5 HA HZo t4; have t5 := tR)
  | (have q8 := t8; refine cut_hid (M := M) _ rfl (.tmp 27) (.const (.int .i64 1)) rfl _ (bts S 7) 1 rfl rfl (by rw [bts_len]; exact HS1.out) HY.out ?_; intro v8 Y8; have HY := hdH (Y8); clear Y8 t8; have t4 := tR)
  | (have q3 := t3; go_at_call 25; refine (SB.out w3).mono ?_; rintro e9 w4 ⟨v4, rfl, O4, B4⟩; clear r2 sc3; have HZo := HZ.out; have HA := vB HA B4 (vlt HA.out); have HS := vB HS B4 (vlt HS.out); have HZ := vB HZ B4 (vlt HZ.out); have HT : Hid (∃ fr, w4.heap[w2.heap.size]? = some (.cells ((zC : List Value)).toArray 38 fr)) := (by obtain ⟨fr, z⟩ := HT.out; exact ⟨fr, by rw [B4.block _ (range_lt HZo.1 (by simp))]; exact z⟩); have BB := bT BB B4; have HY : Hid (Byt (hid M w4) v4 (bts S 7)) := own_hidS O4 (bts_all S 7 HX.out) (fun k hk => Nat.lt_of_lt_of_le (HM.out k hk) (by have := LO.out; omega)) ; have LO : Hid (w.heap.size < w1.heap.size ∧ w1.heap.size < w2.heap.size ∧ w2.heap.size < w4.heap.size) := ⟨LO.out.1, LO.out.2.1, Nat.lt_of_lt_of_le LO.out.2.2 B4.size⟩; obtain ⟨r0, r1, r2, r3, r4, r5, r6, r7, r8, r9⟩ := vK10 HA.out; obtain ⟨sc0, sc1, sc2, sc3, sc4⟩ := vK5 HS.out; clear O4 B4 HZo t3; have t8 := tR)
  | (have q2 := t2; (with_reducible refine at_alloc ?_); refine new_lawT _ _ zero_chr ?_; intro w3 X3 O3 B3 l3; have HZ := hdH (X3); have HT := hdH (O3); have HA := vB HA B3 (vlt HA.out); have HS := vB HS B3 (vlt HS.out); have BB := bT BB B3; have LO : Hid (w.heap.size < w1.heap.size ∧ w1.heap.size < w2.heap.size ∧ w2.heap.size < w3.heap.size) := ⟨l1, l2, l3⟩; have r2 := HA.out.cell 2 _ rfl; have sc3 := HS.out.cell 3 _ rfl; clear X3 O3 B3 t2 l1 l2 l3; have t3 := tR)
  | (have q1 := t1; refine box_lawC _ [.int .i64 3, .int .i64 b, .int .i64 p, .int .u8 7, .bool on] rfl ?_; intro w2 X2 B2 l2; have HS := hdH (X2); have HA := vB HA B2 (vlt HA.out); have BB := bT BB B2; clear X2 B2 t1; have t2 := tR)
  | (have q0 := t0; refine box_lawC _ (chr [(N : Int), P, g2, g3, g4, g5] (.slice bq N bc) (.slice po pn pc) o0 n0) rfl ?_; intro w1 X1 B1 l1; have HA := hdH (X1); have BB := hdH (B1); clear X1 B1 t0; have t1 := tR))
 have BB : Hid (Below w.heap.size w w7.drew) := BB.out.drew
 have B5 : Hid (Below w5.heap.size w5 w7.drew) := B5.out.drew
 have HT : Hid (∃ fr, w7.drew.heap[w2.heap.size]? = some (.cells ((zC : List Value)).toArray 38 fr)) := HT.out
 have HZ : Hid (Vr w7.drew w2.heap.size zC) := HZ.out.drewN 1
 have HY : Hid (Byt (hid M w7.drew) v8 ((bts S 7).drop 1)) := HY.out
 refine wp_region_held_drew (S := fun w' => w'.rangeAt w1.heap.size 0 [.int .i64 3, .int .i64 b, .int .i64 p, .int .u8 7, .bool on] ∧ Vr w' w5.heap.size (chr [(N : Int), P, g2, g3, g4, g5] (.slice bq2 N bc2) (.slice po2 pn2 pc2) (off s2) (ops s2 : Int))) (by kernel_rfl) ⟨HS.out.1, HN.out⟩ (fun hS => ?_)
 obtain ⟨y1, hx0⟩ : ∃ x, x = w7.drew := ⟨_, rfl⟩
 rw [← hx0] at hS BB B5 HT HZ HY ⊢
 clear hx0
 refine tkH 0 (some 77) (.agg (chr [(N : Int), P, g2, g3, g4, g5] (.slice bq2 N bc2) (.slice po2 pn2 pc2) (off s2) (ops s2 : Int)).toArray) rfl rfl (Or.inl ⟨by rfl, fun w' hw' => by exact exec_loadN 38 (.tmp 13) rfl _ rfl _ _ (load_cells rowy_chipR hw'.2.1)⟩) hS ?_
 simp only [Act.put, zE1, zE2, zE3]
 refine tkR 1 (some 78) (.pointer (some ⟨c, 0, none⟩)) rfl rfl hS ?_
 simp only [Act.put, zE1, zE2, zE3]
 refine tkG 2 (some 79) (.pointer (some ⟨w1.heap.size, 1, none⟩)) rfl rfl hS ?_
 simp only [Act.put, zE1, zE2, zE3]
 refine tkG 3 (some 80) (.pointer (some ⟨w1.heap.size, 1, none⟩)) rfl rfl hS ?_
 simp only [Act.put, zE1, zE2, zE3]
 refine tkH 4 (some 81) (.int .i64 b) rfl rfl (Or.inl ⟨by rfl, fun w' hw' => by exact exec_loadN 3 (.tmp 80) rfl _ rfl _ _ (load_one one_int (hw'.1 1 _ rfl))⟩) hS ?_
 simp only [Act.put, zE1, zE2, zE3]
 refine tkR 6 (some 83) (.int .i64 xx) rfl rfl hS ?_
 simp only [Act.put, zE1, zE2, zE3]
 refine rd1 5 rfl fun K hK => ?_
 refine ge.step_callW _ (by rfl) (some 82) rfl 31 #[.tmp 78, .tmp 81] #[28, 3] rfl (fun q w' => by rfl) #[.pointer (some ⟨c, 0, none⟩), .int .i64 b] (by simp only [zM1, zM2, zM3]; rfl) (fun v w' => Done M y1 c r d q pv [(N : Int), P, g2, g3, g4, g5] N P S pl xx Y (.returned v) w') ?_ ?_
 ·refine (SP.out y1 (HL.out.below BB.out) (fun k hk => Nat.lt_of_lt_of_le (HM.out k hk) BB.out.size)).mono ?_
  intro e w' z
  obtain ⟨M', tv', e1, z1⟩ := z
  exact ⟨_, e1, M', tv', rfl, z1⟩
 rintro v9 y2 ⟨M', tv', e9, L9, S9, F9, T9⟩
 injection e9 with e9
 subst e9
 have hS : y2.rangeAt w1.heap.size 0 [.int .i64 3, .int .i64 b, .int .i64 p, .int .u8 7, .bool on] ∧ Vr y2 w5.heap.size (chr [(N : Int), P, g2, g3, g4, g5] (.slice bq2 N bc2) (.slice po2 pn2 pc2) (off s2) (ops s2 : Int)) := ⟨range_heap hS.1 (F9.block (range_lt hS.1 (by simp)) (not_hid HM.out (by have := LO.out; omega))), hS.2.heap (F9.block (range_lt hS.2.1 (by simp [chr])) (not_hid HM.out (by have := LO.out; have := L5.out; omega)))⟩
 have HZ := hdH (HZ.out.heap (F9.block (vlt HZ.out) (not_hid HM.out (by have := LO.out; omega))))
 have HD : Hid (Lay M' y2 c r d q pv tv' [(N : Int), P, g2, g3, g4, g5] N P S pl Y ∧ (∀ k, k < y1.heap.size → M' k = M k) ∧ Frm M y1 y2 ∧ Mlt M' y2) := ⟨L9, S9, F9, T9⟩
 clear L9 S9 F9 T9
 refine hK.out _ _ hS (fun _ => ?_)
 simp only [Act.put, zE1, zE2, zE3]
 clear hK K
 refine tkG 7 (some 84) (.bool true) rfl rfl hS ?_
 simp only [Act.put, zE1, zE2, zE3]
 refine rd1 8 rfl fun K hK => ?_
 refine step_storeC _ rfl none rfl (.tmp 6) (.tmp 77) 38 rfl w2.heap.size [.int .i64 0, .int .i64 0, .int .i64 0, .int .i64 0, .int .i64 0, .int .i64 0, .slice none 0 0, .slice none 0 0, .bool false, .int .i64 0] (chr [(N : Int), P, g2, g3, g4, g5] (.slice bq2 N bc2) (.slice po2 pn2 pc2) (off s2) (ops s2 : Int)) rfl rfl HZ.out rfl rowy_chipR.2 chr_one ?_
 intro y3 V9 g9
 have hS : y3.rangeAt w1.heap.size 0 [.int .i64 3, .int .i64 b, .int .i64 p, .int .u8 7, .bool on] ∧ Vr y3 w5.heap.size (chr [(N : Int), P, g2, g3, g4, g5] (.slice bq2 N bc2) (.slice po2 pn2 pc2) (off s2) (ops s2 : Int)) := ⟨range_heap hS.1 (g9.block _ (range_lt hS.1 (by simp)) (by have := LO.out; simp; omega)), hS.2.heap (g9.block _ (range_lt hS.2.1 (by simp [chr])) (by have := L5.out; simp; omega))⟩
 have HV := hdH (V9)
 have HF : Hid (StpD M E w c r d q pv [(N : Int), P, g2, g3, g4, g5] N P S pl s2 Y (.returned (.tuple #[.agg (chr [(N : Int), P, g2, g3, g4, g5] (.slice bq2 N bc2) (.slice po2 pn2 pc2) (off s2) (ops s2 : Int)).toArray, .bool true])) y3) := stp_fin HL.out HD.out.1 HD.out.2.1 HD.out.2.2.1 HD.out.2.2.2 HM.out BB.out B5.out (by have := LO.out; omega) L5.out HT.out zc_nobyte HR5.out g9
 clear V9 g9 HD
 refine hK.out _ _ hS (fun _ => ?_)
 simp only [Act.put]
 clear hK K
 refine tkR 9 (some 7) (.bool true) rfl rfl hS ?_
 simp only [Act.put, zE1, zE2, zE3]
 refine wpAnyH_done (by kernel_rfl) ?_ _
 go_wp2
 exact bodyPost_ret (v := .tuple #[.agg (chr [(N : Int), P, g2, g3, g4, g5] (.slice bq2 N bc2) (.slice po2 pn2 pc2) (off s2) (ops s2 : Int)).toArray, .bool true]) (results_cv rfl _ _ w2.heap.size _ _ rowy_chipR rfl rfl HV.out.1) rfl HF.out
theorem step4a (N P S : Nat) (g2 g3 g4 g5 : Int) (hs : Shp [(N : Int), P, g2, g3, g4, g5] N P S) (bq : Option Addr) (bc : Nat) (po : Option Addr) (pn pc : Nat) (o0 : Bool) (n0 : Int) (s s2 : St) (X Y : Raw) (b p : Int) (x : Int) (hx : 0 ≤ x ∧ x ≤ 255) (h7 : x ≠ 7) (on : Bool) (xx : Int)
  (hL : Lay M w c r d q pv tv [(N : Int), P, g2, g3, g4, g5] N P S pl X) (hM : Mlt M w) (hE : Mlt E w) (hR : Ref (hid (uni M E) w) (.agg (chr [(N : Int), P, g2, g3, g4, g5] (.slice bq N bc) (.slice po pn pc) o0 n0).toArray) [(N : Int), P, g2, g3, g4, g5] N P pl s)
  (SR : ∀ M2 w1, Mlt M2 w1 → Ref (hid M2 w1) (.agg (chr [(N : Int), P, g2, g3, g4, g5] (.slice bq N bc) (.slice po pn pc) o0 n0).toArray) [(N : Int), P, g2, g3, g4, g5] N P pl s → Calls Try.prog 44 #[.agg (chr [(N : Int), P, g2, g3, g4, g5] (.slice bq N bc) (.slice po pn pc) o0 n0).toArray, .agg (ints .i64 [b, p]), .int .i64 p, .int .u8 x] w1 fun e w' => ∃ v', e = .returned (.tuple #[v', .int .i64 xx]) ∧ Ref (hid M2 w') v' [(N : Int), P, g2, g3, g4, g5] N P pl s2 ∧ Below w1.heap.size w1 w')
  (SP : ∀ w1, Lay M w1 c r d q pv tv [(N : Int), P, g2, g3, g4, g5] N P S pl X → Mlt M w1 → Calls Try.prog 32 #[.pointer (some ⟨c, 0, none⟩), .agg (ints .i64 [b, p]), .int .i64 p, .int .u8 x] w1 (Done M w1 c r d q pv [(N : Int), P, g2, g3, g4, g5] N P S pl xx Y)) :
  Calls Try.prog 15 #[.pointer (some ⟨c, 0, none⟩), .agg (chr [(N : Int), P, g2, g3, g4, g5] (.slice bq N bc) (.slice po pn pc) o0 n0).toArray, .agg ([.int .i64 4, .int .i64 b, .int .i64 p, .int .u8 x, .bool on] : List Value).toArray] w (StpD M E w c r d q pv [(N : Int), P, g2, g3, g4, g5] N P S pl s2 Y) := by
 have HL := hdH (hL)
 have HM := hdH (hM)
 have HE := hdH (hE)
 have HR := hdH (hR)
 have SR := hdH (SR)
 have SP := hdH (SP)
 have HX := hdH (hx)
 have e7 : (x == 7) = false := beq_eq_false_iff_ne.2 h7
 have HSZ : Hid (0 < S) := by show _ < _; have := shp_num hs; omega
 have SB := hdH (fun w0 => lbytes_any S (by have := shp_num hs; omega) x HX.out w0)
 have eS : g2 + 88 = (S : Int) := hs.2.2.2.2
 have qw : IntKind.i64.wrap (g2 + 88) = (S : Int) := by rw [IntKind.wrap_i64]; have := shp_num hs; omega
 clear hL hM hR hE hs eS hx h7
 have t0 := tR
 go_enter Try.func15, Try.ntmps15
 go_wp2_with (first
  | (have q6 := t6; (with_reducible refine at_store ?_); refine store_lawC _ (chr [(N : Int), P, g2, g3, g4, g5] (.slice bq2 N bc2) (.slice po2 pn2 pc2) (off s2) (ops s2 : Int)) w5.heap.size 0 rfl rfl HN.out.2 rowy_chipR.2 chr_one ?_; intro w7 E7 R7 T7 C7; have HN : Hid (Vr w7 w5.heap.size (chr [(N : Int), P, g2, g3, g4, g5] (.slice bq2 N bc2) (.slice po2 pn2 pc2) (off s2) (ops s2 : Int))) := ⟨R7, T7⟩; have HZo := HZ.out; have HS := hdH (HS.out.below C7 (by have := L5.out; have := LO.out; omega)); have HZ := hdH (HZ.out.below C7 L5.out); have HT : Hid (∃ fr, w7.heap[w2.heap.size]? = some (.cells ((zC : List Value)).toArray 38 fr)) := (by obtain ⟨fr, z⟩ := HT.out; exact ⟨fr, by rw [C7.block _ L5.out]; exact z⟩); have BB := hdH (BB.out.trans (C7.mono (by have := L5.out; have := LO.out; omega))); have HY := hdH (HY5.out.below (below_hid (B5.out.trans (C7.mono (Nat.le_refl _))))); have B5 := hdH (B5.out.trans (C7.mono (Nat.le_refl _))); have L6 : Hid (w5.heap.size < w7.heap.size) := Nat.lt_of_lt_of_le L6.out C7.size; clear E7 R7 T7 C7 HZo t6)
  | (have q5 := t5; (with_reducible refine at_alloc ?_); refine new_lawC _ _ zero_chr ?_; intro w6 X6 B6 l6; have HN := hdH (X6); have HY5 := HY; have HZo := HZ.out; have HS := vB HS B6 (vlt HS.out); have HZ := vB HZ B6 (vlt HZ.out); have HT : Hid (∃ fr, w6.heap[w2.heap.size]? = some (.cells ((zC : List Value)).toArray 38 fr)) := (by obtain ⟨fr, z⟩ := HT.out; exact ⟨fr, by rw [B6.block _ (range_lt HZo.1 (by simp))]; exact z⟩); have BB := bT BB B6; have HY := hdH (HY.out.below (below_hid B6)); have B5 := hdH (B6); have L6 := hdH (l6); clear X6 B6 l6 HZo t5; have t6 := tR)
  | (have q4 := t4; go_at_call 44; refine (SR.out (M6 (uni M E) w2.heap.size) w4 (m6_lt (uni_lt HM.out HE.out) BB.out.size LO.out.2.2) (m6_ref HR.out BB.out (by have := LO.out; omega))).mono ?_; rintro e9 w5 ⟨v5, rfl, R5, B5⟩; obtain ⟨bq2, bc2, po2, pn2, pc2, gv2, uv2, rfl, -, -, -⟩ := ref_open R5; have HR5 := hdH (R5); clear r0 r1 r2 r3 r4 r5 r6 r7 r8 r9 sc0 sc1 sc2 sc3 sc4; have HZo := HZ.out; have HS := vB HS B5 (vlt HS.out); have HZ := vB HZ B5 (vlt HZ.out); have HT : Hid (∃ fr, w5.heap[w2.heap.size]? = some (.cells ((zC : List Value)).toArray 38 fr)) := (by obtain ⟨fr, z⟩ := HT.out; exact ⟨fr, by rw [B5.block _ (range_lt HZo.1 (by simp))]; exact z⟩); have BB := bT BB B5; have HY := hdH (HY.out.below (below_hid B5)); have L5 : Hid (w2.heap.size < w5.heap.size) := Nat.lt_of_lt_of_le LO.out.2.2 B5.size; clear R5 B5 HA HZo t4; have t5 := tR)
  | (have q3 := t3; go_at_call 25; refine (SB.out w3).mono ?_; rintro e9 w4 ⟨v4, rfl, O4, B4⟩; obtain ⟨rb, cb, rfl, hb1, hb2, hb3⟩ := own_form O4 HSZ.out; clear r2 sc3; have HZo := HZ.out; have HA := vB HA B4 (vlt HA.out); have HS := vB HS B4 (vlt HS.out); have HZ := vB HZ B4 (vlt HZ.out); have HT : Hid (∃ fr, w4.heap[w2.heap.size]? = some (.cells ((zC : List Value)).toArray 38 fr)) := (by obtain ⟨fr, z⟩ := HT.out; exact ⟨fr, by rw [B4.block _ (range_lt HZo.1 (by simp))]; exact z⟩); have BB := bT BB B4; have HY : Hid (Byt (hid M w4) (.slice (some ⟨rb, 0, none⟩) S cb) (bts S x)) := own_hidS O4 (bts_all S x HX.out) (fun k hk => Nat.lt_of_lt_of_le (HM.out k hk) (by have := LO.out; omega)) ; have LO : Hid (w.heap.size < w1.heap.size ∧ w1.heap.size < w2.heap.size ∧ w2.heap.size < w4.heap.size) := ⟨LO.out.1, LO.out.2.1, Nat.lt_of_lt_of_le LO.out.2.2 B4.size⟩; obtain ⟨r0, r1, r2, r3, r4, r5, r6, r7, r8, r9⟩ := vK10 HA.out; obtain ⟨sc0, sc1, sc2, sc3, sc4⟩ := vK5 HS.out; clear O4 B4 HZo t3; have t4 := tR)
  | (have q2 := t2; (with_reducible refine at_alloc ?_); refine new_lawT _ _ zero_chr ?_; intro w3 X3 O3 B3 l3; have HZ := hdH (X3); have HT := hdH (O3); have HA := vB HA B3 (vlt HA.out); have HS := vB HS B3 (vlt HS.out); have BB := bT BB B3; have LO : Hid (w.heap.size < w1.heap.size ∧ w1.heap.size < w2.heap.size ∧ w2.heap.size < w3.heap.size) := ⟨l1, l2, l3⟩; have r2 := HA.out.cell 2 _ rfl; have sc3 := HS.out.cell 3 _ rfl; clear X3 O3 B3 t2 l1 l2 l3; have t3 := tR)
  | (have q1 := t1; refine box_lawC _ [.int .i64 4, .int .i64 b, .int .i64 p, .int .u8 x, .bool on] rfl ?_; intro w2 X2 B2 l2; have HS := hdH (X2); have HA := vB HA B2 (vlt HA.out); have BB := bT BB B2; clear X2 B2 t1; have t2 := tR)
  | (have q0 := t0; refine box_lawC _ (chr [(N : Int), P, g2, g3, g4, g5] (.slice bq N bc) (.slice po pn pc) o0 n0) rfl ?_; intro w1 X1 B1 l1; have HA := hdH (X1); have BB := hdH (B1); clear X1 B1 t0; have t1 := tR))
 have BB : Hid (Below w.heap.size w w7.drew) := BB.out.drew
 have B5 : Hid (Below w5.heap.size w5 w7.drew) := B5.out.drew
 have HT : Hid (∃ fr, w7.drew.heap[w2.heap.size]? = some (.cells ((zC : List Value)).toArray 38 fr)) := HT.out
 have HZ : Hid (Vr w7.drew w2.heap.size zC) := HZ.out.drewN 1
 have HY : Hid (Byt (hid M w7.drew) (.slice (some ⟨rb, 0, none⟩) S cb) (bts S x)) := HY.out
 refine wp_region_held_drew (S := fun w' => w'.rangeAt w1.heap.size 0 [.int .i64 4, .int .i64 b, .int .i64 p, .int .u8 x, .bool on] ∧ Vr w' w5.heap.size (chr [(N : Int), P, g2, g3, g4, g5] (.slice bq2 N bc2) (.slice po2 pn2 pc2) (off s2) (ops s2 : Int))) (by kernel_rfl) ⟨HS.out.1, HN.out⟩ (fun hS => ?_)
 obtain ⟨y1, hx0⟩ : ∃ x, x = w7.drew := ⟨_, rfl⟩
 rw [← hx0] at hS BB B5 HT HZ HY ⊢
 clear hx0
 refine tkH 0 (some 99) (.agg (chr [(N : Int), P, g2, g3, g4, g5] (.slice bq2 N bc2) (.slice po2 pn2 pc2) (off s2) (ops s2 : Int)).toArray) rfl rfl (Or.inl ⟨by rfl, fun w' hw' => by exact exec_loadN 38 (.tmp 15) rfl _ rfl _ _ (load_cells rowy_chipR hw'.2.1)⟩) hS ?_
 simp only [Act.put, zE1, zE2, zE3]
 refine tkR 1 (some 100) (.pointer (some ⟨c, 0, none⟩)) rfl rfl hS ?_
 simp only [Act.put, zE1, zE2, zE3]
 refine tkG 2 (some 101) (.pointer (some ⟨w1.heap.size, 1, none⟩)) rfl rfl hS ?_
 simp only [Act.put, zE1, zE2, zE3]
 refine tkH 3 (some 102) (.agg (ints .i64 [b, p])) rfl rfl (Or.inl ⟨by rfl, fun w' hw' => by exact exec_loadN 43 (.tmp 101) rfl _ rfl _ _ (ld_place rfl (rng_place hw'.1))⟩) hS ?_
 simp only [Act.put, zE1, zE2, zE3]
 refine tkG 4 (some 103) (.pointer (some ⟨w1.heap.size, 1, none⟩)) rfl rfl hS ?_
 simp only [Act.put, zE1, zE2, zE3]
 refine tkG 5 (some 104) (.pointer (some ⟨w1.heap.size, 2, none⟩)) rfl rfl hS ?_
 simp only [Act.put, zE1, zE2, zE3]
 refine tkH 6 (some 105) (.int .i64 p) rfl rfl (Or.inl ⟨by rfl, fun w' hw' => by exact exec_loadN 3 (.tmp 104) rfl _ rfl _ _ (load_one one_int (hw'.1 2 _ rfl))⟩) hS ?_
 simp only [Act.put, zE1, zE2, zE3]
 refine tkG 7 (some 106) (.pointer (some ⟨w1.heap.size, 3, none⟩)) rfl rfl hS ?_
 simp only [Act.put, zE1, zE2, zE3]
 refine tkH 8 (some 107) (.int .u8 x) rfl rfl (Or.inl ⟨by rfl, fun w' hw' => by exact exec_loadN 5 (.tmp 106) rfl _ rfl _ _ (load_one oneU8 (hw'.1 3 _ rfl))⟩) hS ?_
 simp only [Act.put, zE1, zE2, zE3]
 refine tkR 10 (some 109) (.int .i64 xx) rfl rfl hS ?_
 simp only [Act.put, zE1, zE2, zE3]
 refine rd1 9 rfl fun K hK => ?_
 refine ge.step_callW _ (by rfl) (some 108) rfl 32 #[.tmp 100, .tmp 102, .tmp 105, .tmp 107] #[28, 43, 3, 5] rfl (fun q w' => by rfl) #[.pointer (some ⟨c, 0, none⟩), .agg (ints .i64 [b, p]), .int .i64 p, .int .u8 x] (by simp only [zM1, zM2, zM3]; rfl) (fun v w' => Done M y1 c r d q pv [(N : Int), P, g2, g3, g4, g5] N P S pl xx Y (.returned v) w') ?_ ?_
 ·refine (SP.out y1 (HL.out.below BB.out) (fun k hk => Nat.lt_of_lt_of_le (HM.out k hk) BB.out.size)).mono ?_
  intro e w' z
  obtain ⟨M', tv', e1, z1⟩ := z
  exact ⟨_, e1, M', tv', rfl, z1⟩
 rintro v9 y2 ⟨M', tv', e9, L9, S9, F9, T9⟩
 injection e9 with e9
 subst e9
 have hS : y2.rangeAt w1.heap.size 0 [.int .i64 4, .int .i64 b, .int .i64 p, .int .u8 x, .bool on] ∧ Vr y2 w5.heap.size (chr [(N : Int), P, g2, g3, g4, g5] (.slice bq2 N bc2) (.slice po2 pn2 pc2) (off s2) (ops s2 : Int)) := ⟨range_heap hS.1 (F9.block (range_lt hS.1 (by simp)) (not_hid HM.out (by have := LO.out; omega))), hS.2.heap (F9.block (range_lt hS.2.1 (by simp [chr])) (not_hid HM.out (by have := LO.out; have := L5.out; omega)))⟩
 have HZ := hdH (HZ.out.heap (F9.block (vlt HZ.out) (not_hid HM.out (by have := LO.out; omega))))
 have HD : Hid (Lay M' y2 c r d q pv tv' [(N : Int), P, g2, g3, g4, g5] N P S pl Y ∧ (∀ k, k < y1.heap.size → M' k = M k) ∧ Frm M y1 y2 ∧ Mlt M' y2) := ⟨L9, S9, F9, T9⟩
 clear L9 S9 F9 T9
 refine hK.out _ _ hS (fun _ => ?_)
 simp only [Act.put, zE1, zE2, zE3]
 clear hK K
 refine tkG 11 (some 110) (.bool true) rfl rfl hS ?_
 simp only [Act.put, zE1, zE2, zE3]
 refine rd1 12 rfl fun K hK => ?_
 refine step_storeC _ rfl none rfl (.tmp 6) (.tmp 99) 38 rfl w2.heap.size [.int .i64 0, .int .i64 0, .int .i64 0, .int .i64 0, .int .i64 0, .int .i64 0, .slice none 0 0, .slice none 0 0, .bool false, .int .i64 0] (chr [(N : Int), P, g2, g3, g4, g5] (.slice bq2 N bc2) (.slice po2 pn2 pc2) (off s2) (ops s2 : Int)) rfl rfl HZ.out rfl rowy_chipR.2 chr_one ?_
 intro y3 V9 g9
 have hS : y3.rangeAt w1.heap.size 0 [.int .i64 4, .int .i64 b, .int .i64 p, .int .u8 x, .bool on] ∧ Vr y3 w5.heap.size (chr [(N : Int), P, g2, g3, g4, g5] (.slice bq2 N bc2) (.slice po2 pn2 pc2) (off s2) (ops s2 : Int)) := ⟨range_heap hS.1 (g9.block _ (range_lt hS.1 (by simp)) (by have := LO.out; simp; omega)), hS.2.heap (g9.block _ (range_lt hS.2.1 (by simp [chr])) (by have := L5.out; simp; omega))⟩
 have HV := hdH (V9)
 have HF : Hid (StpD M E w c r d q pv [(N : Int), P, g2, g3, g4, g5] N P S pl s2 Y (.returned (.tuple #[.agg (chr [(N : Int), P, g2, g3, g4, g5] (.slice bq2 N bc2) (.slice po2 pn2 pc2) (off s2) (ops s2 : Int)).toArray, .bool true])) y3) := stp_fin HL.out HD.out.1 HD.out.2.1 HD.out.2.2.1 HD.out.2.2.2 HM.out BB.out B5.out (by have := LO.out; omega) L5.out HT.out zc_nobyte HR5.out g9
 clear V9 g9 HD
 refine hK.out _ _ hS (fun _ => ?_)
 simp only [Act.put]
 clear hK K
 refine tkR 13 (some 7) (.bool true) rfl rfl hS ?_
 simp only [Act.put, zE1, zE2, zE3]
 refine wpAnyH_done (by kernel_rfl) ?_ _
 go_wp2
 exact bodyPost_ret (v := .tuple #[.agg (chr [(N : Int), P, g2, g3, g4, g5] (.slice bq2 N bc2) (.slice po2 pn2 pc2) (off s2) (ops s2 : Int)).toArray, .bool true]) (results_cv rfl _ _ w2.heap.size _ _ rowy_chipR rfl rfl HV.out.1) rfl HF.out
theorem step4b (N P S : Nat) (g2 g3 g4 g5 : Int) (hs : Shp [(N : Int), P, g2, g3, g4, g5] N P S) (bq : Option Addr) (bc : Nat) (po : Option Addr) (pn pc : Nat) (o0 : Bool) (n0 : Int) (s s2 : St) (X Y : Raw) (b p : Int) (on : Bool) (xx : Int)
  (hL : Lay M w c r d q pv tv [(N : Int), P, g2, g3, g4, g5] N P S pl X) (hM : Mlt M w) (hE : Mlt E w) (hR : Ref (hid (uni M E) w) (.agg (chr [(N : Int), P, g2, g3, g4, g5] (.slice bq N bc) (.slice po pn pc) o0 n0).toArray) [(N : Int), P, g2, g3, g4, g5] N P pl s)
  (SR : ∀ M2 w1, Mlt M2 w1 → Ref (hid M2 w1) (.agg (chr [(N : Int), P, g2, g3, g4, g5] (.slice bq N bc) (.slice po pn pc) o0 n0).toArray) [(N : Int), P, g2, g3, g4, g5] N P pl s → Calls Try.prog 44 #[.agg (chr [(N : Int), P, g2, g3, g4, g5] (.slice bq N bc) (.slice po pn pc) o0 n0).toArray, .agg (ints .i64 [b, p]), .int .i64 p, .int .u8 7] w1 fun e w' => ∃ v', e = .returned (.tuple #[v', .int .i64 xx]) ∧ Ref (hid M2 w') v' [(N : Int), P, g2, g3, g4, g5] N P pl s2 ∧ Below w1.heap.size w1 w')
  (SP : ∀ w1, Lay M w1 c r d q pv tv [(N : Int), P, g2, g3, g4, g5] N P S pl X → Mlt M w1 → Calls Try.prog 32 #[.pointer (some ⟨c, 0, none⟩), .agg (ints .i64 [b, p]), .int .i64 p, .int .u8 7] w1 (Done M w1 c r d q pv [(N : Int), P, g2, g3, g4, g5] N P S pl xx Y)) :
  Calls Try.prog 15 #[.pointer (some ⟨c, 0, none⟩), .agg (chr [(N : Int), P, g2, g3, g4, g5] (.slice bq N bc) (.slice po pn pc) o0 n0).toArray, .agg ([.int .i64 4, .int .i64 b, .int .i64 p, .int .u8 7, .bool on] : List Value).toArray] w (StpD M E w c r d q pv [(N : Int), P, g2, g3, g4, g5] N P S pl s2 Y) := by
 have HL := hdH (hL)
 have HM := hdH (hM)
 have HE := hdH (hE)
 have HR := hdH (hR)
 have SR := hdH (SR)
 have SP := hdH (SP)
 have HX : Hid ((0 : Int) ≤ 7 ∧ (7 : Int) ≤ 255) := by show _ ∧ _; omega
 have HS1 : Hid (1 ≤ S) := by show _ ≤ _; have := shp_num hs; omega
 have i1 : (1 : Int) ≤ (S : Int) := by have := shp_num hs; omega
 have HSZ : Hid (0 < S) := by show _ < _; have := shp_num hs; omega
 have SB := hdH (fun w0 => lbytes_any S (by have := shp_num hs; omega) 7 HX.out w0)
 have eS : g2 + 88 = (S : Int) := hs.2.2.2.2
 have qw : IntKind.i64.wrap (g2 + 88) = (S : Int) := by rw [IntKind.wrap_i64]; have := shp_num hs; omega
 clear hL hM hR hE hs eS
 have t0 := tR
 go_enter Try.func15, Try.ntmps15
 go_wp2_with (first
  | (have q6 := t6; (with_reducible refine at_store ?_); refine store_lawC _ (chr [(N : Int), P, g2, g3, g4, g5] (.slice bq2 N bc2) (.slice po2 pn2 pc2) (off s2) (ops s2 : Int)) w5.heap.size 0 rfl rfl HN.out.2 rowy_chipR.2 chr_one ?_; intro w7 E7 R7 T7 C7; have HN : Hid (Vr w7 w5.heap.size (chr [(N : Int), P, g2, g3, g4, g5] (.slice bq2 N bc2) (.slice po2 pn2 pc2) (off s2) (ops s2 : Int))) := ⟨R7, T7⟩; have HZo := HZ.out; have HS := hdH (HS.out.below C7 (by have := L5.out; have := LO.out; omega)); have HZ := hdH (HZ.out.below C7 L5.out); have HT : Hid (∃ fr, w7.heap[w2.heap.size]? = some (.cells ((zC : List Value)).toArray 38 fr)) := (by obtain ⟨fr, z⟩ := HT.out; exact ⟨fr, by rw [C7.block _ L5.out]; exact z⟩); have BB := hdH (BB.out.trans (C7.mono (by have := L5.out; have := LO.out; omega))); have HY := hdH (HY5.out.below (below_hid (B5.out.trans (C7.mono (Nat.le_refl _))))); have B5 := hdH (B5.out.trans (C7.mono (Nat.le_refl _))); have L6 : Hid (w5.heap.size < w7.heap.size) := Nat.lt_of_lt_of_le L6.out C7.size; clear E7 R7 T7 C7 HZo t6)
  | (have q5 := t5; (with_reducible refine at_alloc ?_); refine new_lawC _ _ zero_chr ?_; intro w6 X6 B6 l6; have HN := hdH (X6); have HY5 := HY; have HZo := HZ.out; have HS := vB HS B6 (vlt HS.out); have HZ := vB HZ B6 (vlt HZ.out); have HT : Hid (∃ fr, w6.heap[w2.heap.size]? = some (.cells ((zC : List Value)).toArray 38 fr)) := (by obtain ⟨fr, z⟩ := HT.out; exact ⟨fr, by rw [B6.block _ (range_lt HZo.1 (by simp))]; exact z⟩); have BB := bT BB B6; have HY := hdH (HY.out.below (below_hid B6)); have B5 := hdH (B6); have L6 := hdH (l6); clear X6 B6 l6 HZo t5; have t6 := tR)
  | (have q4 := t4; go_at_call 44; refine (SR.out (M6 (uni M E) w2.heap.size) w4 (m6_lt (uni_lt HM.out HE.out) BB.out.size LO.out.2.2) (m6_ref HR.out BB.out (by have := LO.out; omega))).mono ?_; rintro e9 w5 ⟨v5, rfl, R5, B5⟩; obtain ⟨bq2, bc2, po2, pn2, pc2, gv2, uv2, rfl, -, -, -⟩ := ref_open R5; have HR5 := hdH (R5); clear r0 r1 r2 r3 r4 r5 r6 r7 r8 r9 sc0 sc1 sc2 sc3 sc4; have HZo := HZ.out; have HS := vB HS B5 (vlt HS.out); have HZ := vB HZ B5 (vlt HZ.out); have HT : Hid (∃ fr, w5.heap[w2.heap.size]? = some (.cells ((zC : List Value)).toArray 38 fr)) := (by obtain ⟨fr, z⟩ := HT.out; exact ⟨fr, by rw [B5.block _ (range_lt HZo.1 (by simp))]; exact z⟩); have BB := bT BB B5; have HY := hdH (HY.out.below (below_hid B5)); have L5 : Hid (w2.heap.size < w5.heap.size) := Nat.lt_of_lt_of_le LO.out.2.2 B5.size; clear R5 B5 HA HZo t4; have t5 := tR)
  | (have q8 := t8; refine cut_hid (M := M) _ rfl (.tmp 27) (.const (.int .i64 1)) rfl _ (bts S 7) 1 rfl rfl (by rw [bts_len]; exact HS1.out) HY.out ?_; intro v8 Y8; have HY := hdH (Y8); clear Y8 t8; have t4 := tR)
  | (have q3 := t3; go_at_call 25; refine (SB.out w3).mono ?_; rintro e9 w4 ⟨v4, rfl, O4, B4⟩; clear r2 sc3; have HZo := HZ.out; have HA := vB HA B4 (vlt HA.out); have HS := vB HS B4 (vlt HS.out); have HZ := vB HZ B4 (vlt HZ.out); have HT : Hid (∃ fr, w4.heap[w2.heap.size]? = some (.cells ((zC : List Value)).toArray 38 fr)) := (by obtain ⟨fr, z⟩ := HT.out; exact ⟨fr, by rw [B4.block _ (range_lt HZo.1 (by simp))]; exact z⟩); have BB := bT BB B4; have HY : Hid (Byt (hid M w4) v4 (bts S 7)) := own_hidS O4 (bts_all S 7 HX.out) (fun k hk => Nat.lt_of_lt_of_le (HM.out k hk) (by have := LO.out; omega)) ; have LO : Hid (w.heap.size < w1.heap.size ∧ w1.heap.size < w2.heap.size ∧ w2.heap.size < w4.heap.size) := ⟨LO.out.1, LO.out.2.1, Nat.lt_of_lt_of_le LO.out.2.2 B4.size⟩; obtain ⟨r0, r1, r2, r3, r4, r5, r6, r7, r8, r9⟩ := vK10 HA.out; obtain ⟨sc0, sc1, sc2, sc3, sc4⟩ := vK5 HS.out; clear O4 B4 HZo t3; have t8 := tR)
  | (have q2 := t2; (with_reducible refine at_alloc ?_); refine new_lawT _ _ zero_chr ?_; intro w3 X3 O3 B3 l3; have HZ := hdH (X3); have HT := hdH (O3); have HA := vB HA B3 (vlt HA.out); have HS := vB HS B3 (vlt HS.out); have BB := bT BB B3; have LO : Hid (w.heap.size < w1.heap.size ∧ w1.heap.size < w2.heap.size ∧ w2.heap.size < w3.heap.size) := ⟨l1, l2, l3⟩; have r2 := HA.out.cell 2 _ rfl; have sc3 := HS.out.cell 3 _ rfl; clear X3 O3 B3 t2 l1 l2 l3; have t3 := tR)
  | (have q1 := t1; refine box_lawC _ [.int .i64 4, .int .i64 b, .int .i64 p, .int .u8 7, .bool on] rfl ?_; intro w2 X2 B2 l2; have HS := hdH (X2); have HA := vB HA B2 (vlt HA.out); have BB := bT BB B2; clear X2 B2 t1; have t2 := tR)
  | (have q0 := t0; refine box_lawC _ (chr [(N : Int), P, g2, g3, g4, g5] (.slice bq N bc) (.slice po pn pc) o0 n0) rfl ?_; intro w1 X1 B1 l1; have HA := hdH (X1); have BB := hdH (B1); clear X1 B1 t0; have t1 := tR))
 have BB : Hid (Below w.heap.size w w7.drew) := BB.out.drew
 have B5 : Hid (Below w5.heap.size w5 w7.drew) := B5.out.drew
 have HT : Hid (∃ fr, w7.drew.heap[w2.heap.size]? = some (.cells ((zC : List Value)).toArray 38 fr)) := HT.out
 have HZ : Hid (Vr w7.drew w2.heap.size zC) := HZ.out.drewN 1
 have HY : Hid (Byt (hid M w7.drew) v8 ((bts S 7).drop 1)) := HY.out
 refine wp_region_held_drew (S := fun w' => w'.rangeAt w1.heap.size 0 [.int .i64 4, .int .i64 b, .int .i64 p, .int .u8 7, .bool on] ∧ Vr w' w5.heap.size (chr [(N : Int), P, g2, g3, g4, g5] (.slice bq2 N bc2) (.slice po2 pn2 pc2) (off s2) (ops s2 : Int))) (by kernel_rfl) ⟨HS.out.1, HN.out⟩ (fun hS => ?_)
 obtain ⟨y1, hx0⟩ : ∃ x, x = w7.drew := ⟨_, rfl⟩
 rw [← hx0] at hS BB B5 HT HZ HY ⊢
 clear hx0
 refine tkH 0 (some 99) (.agg (chr [(N : Int), P, g2, g3, g4, g5] (.slice bq2 N bc2) (.slice po2 pn2 pc2) (off s2) (ops s2 : Int)).toArray) rfl rfl (Or.inl ⟨by rfl, fun w' hw' => by exact exec_loadN 38 (.tmp 15) rfl _ rfl _ _ (load_cells rowy_chipR hw'.2.1)⟩) hS ?_
 simp only [Act.put, zE1, zE2, zE3]
 refine tkR 1 (some 100) (.pointer (some ⟨c, 0, none⟩)) rfl rfl hS ?_
 simp only [Act.put, zE1, zE2, zE3]
 refine tkG 2 (some 101) (.pointer (some ⟨w1.heap.size, 1, none⟩)) rfl rfl hS ?_
 simp only [Act.put, zE1, zE2, zE3]
 refine tkH 3 (some 102) (.agg (ints .i64 [b, p])) rfl rfl (Or.inl ⟨by rfl, fun w' hw' => by exact exec_loadN 43 (.tmp 101) rfl _ rfl _ _ (ld_place rfl (rng_place hw'.1))⟩) hS ?_
 simp only [Act.put, zE1, zE2, zE3]
 refine tkG 4 (some 103) (.pointer (some ⟨w1.heap.size, 1, none⟩)) rfl rfl hS ?_
 simp only [Act.put, zE1, zE2, zE3]
 refine tkG 5 (some 104) (.pointer (some ⟨w1.heap.size, 2, none⟩)) rfl rfl hS ?_
 simp only [Act.put, zE1, zE2, zE3]
 refine tkH 6 (some 105) (.int .i64 p) rfl rfl (Or.inl ⟨by rfl, fun w' hw' => by exact exec_loadN 3 (.tmp 104) rfl _ rfl _ _ (load_one one_int (hw'.1 2 _ rfl))⟩) hS ?_
 simp only [Act.put, zE1, zE2, zE3]
 refine tkG 7 (some 106) (.pointer (some ⟨w1.heap.size, 3, none⟩)) rfl rfl hS ?_
 simp only [Act.put, zE1, zE2, zE3]
 refine tkH 8 (some 107) (.int .u8 7) rfl rfl (Or.inl ⟨by rfl, fun w' hw' => by exact exec_loadN 5 (.tmp 106) rfl _ rfl _ _ (load_one oneU8 (hw'.1 3 _ rfl))⟩) hS ?_
 simp only [Act.put, zE1, zE2, zE3]
 refine tkR 10 (some 109) (.int .i64 xx) rfl rfl hS ?_
 simp only [Act.put, zE1, zE2, zE3]
 refine rd1 9 rfl fun K hK => ?_
 refine ge.step_callW _ (by rfl) (some 108) rfl 32 #[.tmp 100, .tmp 102, .tmp 105, .tmp 107] #[28, 43, 3, 5] rfl (fun q w' => by rfl) #[.pointer (some ⟨c, 0, none⟩), .agg (ints .i64 [b, p]), .int .i64 p, .int .u8 7] (by simp only [zM1, zM2, zM3]; rfl) (fun v w' => Done M y1 c r d q pv [(N : Int), P, g2, g3, g4, g5] N P S pl xx Y (.returned v) w') ?_ ?_
 ·refine (SP.out y1 (HL.out.below BB.out) (fun k hk => Nat.lt_of_lt_of_le (HM.out k hk) BB.out.size)).mono ?_
  intro e w' z
  obtain ⟨M', tv', e1, z1⟩ := z
  exact ⟨_, e1, M', tv', rfl, z1⟩
 rintro v9 y2 ⟨M', tv', e9, L9, S9, F9, T9⟩
 injection e9 with e9
 subst e9
 have hS : y2.rangeAt w1.heap.size 0 [.int .i64 4, .int .i64 b, .int .i64 p, .int .u8 7, .bool on] ∧ Vr y2 w5.heap.size (chr [(N : Int), P, g2, g3, g4, g5] (.slice bq2 N bc2) (.slice po2 pn2 pc2) (off s2) (ops s2 : Int)) := ⟨range_heap hS.1 (F9.block (range_lt hS.1 (by simp)) (not_hid HM.out (by have := LO.out; omega))), hS.2.heap (F9.block (range_lt hS.2.1 (by simp [chr])) (not_hid HM.out (by have := LO.out; have := L5.out; omega)))⟩
 have HZ := hdH (HZ.out.heap (F9.block (vlt HZ.out) (not_hid HM.out (by have := LO.out; omega))))
 have HD : Hid (Lay M' y2 c r d q pv tv' [(N : Int), P, g2, g3, g4, g5] N P S pl Y ∧ (∀ k, k < y1.heap.size → M' k = M k) ∧ Frm M y1 y2 ∧ Mlt M' y2) := ⟨L9, S9, F9, T9⟩
 clear L9 S9 F9 T9
 refine hK.out _ _ hS (fun _ => ?_)
 simp only [Act.put, zE1, zE2, zE3]
 clear hK K
 refine tkG 11 (some 110) (.bool true) rfl rfl hS ?_
 simp only [Act.put, zE1, zE2, zE3]
 refine rd1 12 rfl fun K hK => ?_
 refine step_storeC _ rfl none rfl (.tmp 6) (.tmp 99) 38 rfl w2.heap.size [.int .i64 0, .int .i64 0, .int .i64 0, .int .i64 0, .int .i64 0, .int .i64 0, .slice none 0 0, .slice none 0 0, .bool false, .int .i64 0] (chr [(N : Int), P, g2, g3, g4, g5] (.slice bq2 N bc2) (.slice po2 pn2 pc2) (off s2) (ops s2 : Int)) rfl rfl HZ.out rfl rowy_chipR.2 chr_one ?_
 intro y3 V9 g9
 have hS : y3.rangeAt w1.heap.size 0 [.int .i64 4, .int .i64 b, .int .i64 p, .int .u8 7, .bool on] ∧ Vr y3 w5.heap.size (chr [(N : Int), P, g2, g3, g4, g5] (.slice bq2 N bc2) (.slice po2 pn2 pc2) (off s2) (ops s2 : Int)) := ⟨range_heap hS.1 (g9.block _ (range_lt hS.1 (by simp)) (by have := LO.out; simp; omega)), hS.2.heap (g9.block _ (range_lt hS.2.1 (by simp [chr])) (by have := L5.out; simp; omega))⟩
 have HV := hdH (V9)
 have HF : Hid (StpD M E w c r d q pv [(N : Int), P, g2, g3, g4, g5] N P S pl s2 Y (.returned (.tuple #[.agg (chr [(N : Int), P, g2, g3, g4, g5] (.slice bq2 N bc2) (.slice po2 pn2 pc2) (off s2) (ops s2 : Int)).toArray, .bool true])) y3) := stp_fin HL.out HD.out.1 HD.out.2.1 HD.out.2.2.1 HD.out.2.2.2 HM.out BB.out B5.out (by have := LO.out; omega) L5.out HT.out zc_nobyte HR5.out g9
 clear V9 g9 HD
 refine hK.out _ _ hS (fun _ => ?_)
 simp only [Act.put]
 clear hK K
 refine tkR 13 (some 7) (.bool true) rfl rfl hS ?_
 simp only [Act.put, zE1, zE2, zE3]
 refine wpAnyH_done (by kernel_rfl) ?_ _
 go_wp2
 exact bodyPost_ret (v := .tuple #[.agg (chr [(N : Int), P, g2, g3, g4, g5] (.slice bq2 N bc2) (.slice po2 pn2 pc2) (off s2) (ops s2 : Int)).toArray, .bool true]) (results_cv rfl _ _ w2.heap.size _ _ rowy_chipR rfl rfl HV.out.1) rfl HF.out
end
end Go.Proofs.Ytikcohjhhoiakaa.na
