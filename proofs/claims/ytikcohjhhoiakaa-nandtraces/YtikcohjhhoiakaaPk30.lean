/- Texts put together. -/
import Derived.Test.YtikcohjhhoiakaaPk27
import Derived.Test.YtikcohjhhoiakaaPk02
set_option maxHeartbeats 8000000
namespace Go.Proofs.Ytikcohjhhoiakaa.na
open Go.RowKit Go.Proofs.Ytikcohjhhoiakaa.fa
set_option maxRecDepth 20000
theorem size_set (w : World) (a : Addr) (v : Value) : (w.setCell a v).heap.size = w.heap.size := by
 simp [World.setCell]
theorem lay_bel {w w' : World} {a : Addr} {v : Value} (h : Below w.heap.size (w.setCell a v) w') : Below (w.setCell a v).heap.size (w.setCell a v) w' := by
 rw [size_set]; exact h
theorem below_both {w w' : World} {c j : Nat} {v : Value} (h : Below w.heap.size w w') : Below w.heap.size (w.setCell ⟨c, j, none⟩ v) (w'.setCell ⟨c, j, none⟩ v) := by
 have k1 := keep_set w c j v
 have k2 := keep_set w' c j v
 refine ⟨k2.os.trans (h.os.trans k1.os.symm), k2.tape.trans (h.tape.trans k1.tape.symm), k2.output.trans (h.output.trans k1.output.symm), by rw [size_set, size_set]; exact h.size, fun k hk => ?_⟩
 by_cases e : k = c
 ·subst e
  have hb := h.block k hk
  simp only [World.setCell, Array.getElem?_modify, if_true, hb]
 ·rw [k2.block k (Nat.lt_of_lt_of_le hk h.size) (by simpa using e), k1.block k hk (by simpa using e)]
  exact h.block k hk
theorem frm_below {M : Nat → Bool} {w w5 w6 : World} (h : Frm M w w5) (hb : Below w.heap.size w5 w6) : Frm M w w6 :=
 ⟨hb.os.trans h.1, hb.tape.trans h.2.1, hb.output.trans h.2.2.1, Nat.le_trans h.size hb.size, fun k hk q => (hb.block k hk).trans (h.block hk q)⟩
theorem stp_fin2 {M E : Nat → Bool} {w : World} {c r d : Nat} {q : Nat → Nat} {pv tv : Value} {g : List Int} {N P S : Nat} {pl : Pln} {X : Raw} {v' : Value} {s : St} {Y : Raw} {wa wb : World} {g6 : Nat} {t : TypeId} {cs : List Value}
  (hL : Lay M w c r d q pv tv g N P S pl X) (hA : Lay M wa c r d q pv tv g N P S pl Y) (F9 : Frm M w wa) (hM : Mlt M w) (l6 : w.heap.size ≤ g6)
  (hT : ∃ fr, wa.heap[g6]? = some (.cells cs.toArray t fr)) (hc : ∀ v ∈ cs, ∀ y, v ≠ .int .u8 y) (hR : Ref (hid (uni M E) w) v' g N P pl s) (hg : wa.grownBy wb (some g6)) :
  StpD M E w c r d q pv g N P S pl s Y (.returned (.tuple #[v', .bool true])) wb := by
 have m6 : M g6 = false := not_hid hM l6
 obtain ⟨fr, hT⟩ := hT
 have Fb : Frm M w wb := by
  refine ⟨hg.os.trans F9.1, hg.tape.trans F9.2.1, hg.output.trans F9.2.2.1, Nat.le_trans F9.size hg.size, fun k hk hm => ?_⟩
  rw [hg.block k (Nat.lt_of_lt_of_le hk F9.size) (by simp; omega)]
  exact F9.block hk hm
 exact ⟨M, tv, v', rfl, hA.put hg m6 (obj_nobyte hT hc) (hL.2.2.2.2.2.2.2.2.1.below Fb.hid0), hR.below (uni_frm Fb).hid0, fun _ _ => rfl, Fb, fun k hk => Nat.lt_of_lt_of_le (hM k hk) Fb.size⟩
section
variable {M E : Nat → Bool} {w : World} {c r d : Nat} {q : Nat → Nat} {pv tv : Value} {pl : Pln}
theorem powta (N P S : Nat) (g2 g3 g4 g5 : Int) (hs : Shp [(N : Int), P, g2, g3, g4, g5] N P S) (bq : Option Addr) (bc : Nat) (po : Option Addr) (pn pc : Nat) (o0 : Bool) (n0 : Int) (s2 : St) (X : Raw) (b p : Int) (x : Int) (hx : 0 ≤ x ∧ x ≤ 255) (h7 : x ≠ 7) 
  (hL : Lay M w c r d q pv tv [(N : Int), P, g2, g3, g4, g5] N P S pl X) (hM : Mlt M w) (hR : Ref (hid (uni M E) w) (.agg (chr [(N : Int), P, g2, g3, g4, g5] (.slice bq N bc) (.slice po pn pc) false n0).toArray) [(N : Int), P, g2, g3, g4, g5] N P pl s2) :
  Calls Try.prog 15 #[.pointer (some ⟨c, 0, none⟩), .agg (chr [(N : Int), P, g2, g3, g4, g5] (.slice bq N bc) (.slice po pn pc) o0 n0).toArray, .agg ([.int .i64 5, .int .i64 b, .int .i64 p, .int .u8 x, .bool true] : List Value).toArray] w (StpD M E w c r d q pv [(N : Int), P, g2, g3, g4, g5] N P S pl s2 (mkX (xi X) (xp X) (xe X) (xs X) true (xt X))) := by
 have HL := hdH (hL)
 have HLP : Hid (Lay M (w.setCell ⟨c, 7, none⟩ (.bool true)) c r d q pv tv [(N : Int), P, g2, g3, g4, g5] N P S pl (mkX (xi X) (xp X) (xe X) (xs X) true (xt X))) := hL.on true
 have HON : Hid (xo (mkX (xi X) (xp X) (xe X) (xs X) true (xt X)) = true) := rfl
 have HC : Hid (c < w.heap.size) := hL.2.2.2.2.2.2.2.2.2.1
 have HM := hdH (hM)
 have HR := hdH (hR)
 have HX := hdH (hx)
 have e7 : (x == 7) = false := beq_eq_false_iff_ne.2 h7
 have SB := hdH (fun w0 => lbytes_any S (by have := shp_num hs; omega) x HX.out w0)
 have eS : g2 + 88 = (S : Int) := hs.2.2.2.2
 have qw : IntKind.i64.wrap (g2 + 88) = (S : Int) := by rw [IntKind.wrap_i64]; have := shp_num hs; omega
 clear hL hM hR hs eS hx h7
 have t0 := tR
 go_enter Try.func15, Try.ntmps15
 go_wp2_with (first
  | (have q5 := t5; (with_reducible refine at_store ?_); refine store_law1 _ w.heap.size 8 (.bool false) rfl rfl (HA.out.there1 8 (by simp [chr])) (HA.out.free 8 (by simp [chr])) oneBool.2 rfl rfl ?_; intro w6 e6; have K6 : w5.grownBy w6 (some w.heap.size) := (by rw [e6.out]; exact keep_set _ _ _ _); clear r0 r1 r2 r3 r4 r5 r6 r7 r8 r9 sc0 sc1 sc2 sc3 sc4 fz; have HA6 : Hid (Vr w6 w.heap.size (chr [(N : Int), P, g2, g3, g4, g5] (.slice bq N bc) (.slice po pn pc) false n0)) := (by rw [e6.out]; exact HA.out.set 8 (by simp [chr]) _); have HT : Hid (∃ fr, w6.heap[w2.heap.size]? = some (.cells ((zC : List Value)).toArray 38 fr)) := (by obtain ⟨fr, z⟩ := HT.out; exact ⟨fr, by rw [K6.block _ (vlt HZ.out) (by have := LO.out; simp; omega)]; exact z⟩); have HZ := hdH (HZ.out.kept K6 (vlt HZ.out) (by have := LO.out; simp; omega)); have B6 : Below w.heap.size w5 w6 := (Below.refl _ _).grown K6 FR.out.size (fun k e => (by have e := Option.some.inj e; omega)); have BP := hdH (BP.out.trans B6); have FR : Hid (Frm M w w6) := frm_below FR.out B6; clear HA e6 K6 B6 t5)
  | (have q4 := t4; go_at_call 28; refine (power_any (HL.out.below BB.out) true).mono ?_; rintro e9 w5 ⟨⟨v5, rfl⟩, hw5⟩; have K5 : w4.grownBy w5 (some c) := (by rw [hw5]; exact keep_set _ _ _ _); have BP : Hid (Below w.heap.size (w.setCell ⟨c, 7, none⟩ (.bool true)) w5) := (by rw [hw5]; exact below_both BB.out); clear r0 r1 r2 r3 r4 r5 r6 r7 r8 r9 sc0 sc1 sc2 sc3 sc4; have HA := hdH (HA.out.kept K5 (vlt HA.out) (by have := HC.out; have := LO.out; simp; omega)); have HS := hdH (HS.out.kept K5 (vlt HS.out) (by have := HC.out; have := LO.out; simp; omega)); have HT : Hid (∃ fr, w5.heap[w2.heap.size]? = some (.cells ((zC : List Value)).toArray 38 fr)) := (by obtain ⟨fr, z⟩ := HT.out; exact ⟨fr, by rw [K5.block _ (vlt HZ.out) (by have := HC.out; have := LO.out; simp; omega)]; exact z⟩); have HZ := hdH (HZ.out.kept K5 (vlt HZ.out) (by have := HC.out; have := LO.out; simp; omega)); have FR : Hid (Frm M w w5) := FR.out.tr (Frm.grown K5 (fun k e => (by injection e with e; subst e; exact HL.out.2.1.1.1))); obtain ⟨r0, r1, r2, r3, r4, r5, r6, r7, r8, r9⟩ := vK10 HA.out; obtain ⟨sc0, sc1, sc2, sc3, sc4⟩ := vK5 HS.out; have fz := HA.out.free 8 (by simp [chr]); clear hw5 K5 t4 BB; have t5 := tR)
  | (have q3 := t3; go_at_call 25; refine (SB.out w3).mono ?_; rintro e9 w4 ⟨v4, rfl, O4, B4⟩; clear r2 sc3; have HZo := HZ.out; have HA := vB HA B4 (vlt HA.out); have HS := vB HS B4 (vlt HS.out); have HZ := vB HZ B4 (vlt HZ.out); have HT : Hid (∃ fr, w4.heap[w2.heap.size]? = some (.cells ((zC : List Value)).toArray 38 fr)) := (by obtain ⟨fr, z⟩ := HT.out; exact ⟨fr, by rw [B4.block _ (range_lt HZo.1 (by simp))]; exact z⟩); have BB := bT BB B4; have HY : Hid (Byt (hid M w4) v4 (bts S x)) := own_hidS O4 (bts_all S x HX.out) (fun k hk => Nat.lt_of_lt_of_le (HM.out k hk) (by have := LO.out; omega)); have LO : Hid (w.heap.size < w1.heap.size ∧ w1.heap.size < w2.heap.size ∧ w2.heap.size < w4.heap.size) := ⟨LO.out.1, LO.out.2.1, Nat.lt_of_lt_of_le LO.out.2.2 B4.size⟩; obtain ⟨r0, r1, r2, r3, r4, r5, r6, r7, r8, r9⟩ := vK10 HA.out; obtain ⟨sc0, sc1, sc2, sc3, sc4⟩ := vK5 HS.out; have FR : Hid (Frm M w w4) := Frm.of_below BB.out; have BP := hdH (BB.out); clear O4 B4 HZo t3; have t4 := tR)
  | (have q2 := t2; (with_reducible refine at_alloc ?_); refine new_lawT _ _ zero_chr ?_; intro w3 X3 O3 B3 l3; have HZ := hdH (X3); have HT := hdH (O3); have HA := vB HA B3 (vlt HA.out); have HS := vB HS B3 (vlt HS.out); have BB := bT BB B3; have LO : Hid (w.heap.size < w1.heap.size ∧ w1.heap.size < w2.heap.size ∧ w2.heap.size < w3.heap.size) := ⟨l1, l2, l3⟩; have r2 := HA.out.cell 2 _ rfl; have sc3 := HS.out.cell 3 _ rfl; clear X3 O3 B3 t2 l1 l2 l3; have t3 := tR)
  | (have q1 := t1; refine box_lawC _ [.int .i64 5, .int .i64 b, .int .i64 p, .int .u8 x, .bool true] rfl ?_; intro w2 X2 B2 l2; have HS := hdH (X2); have HA := vB HA B2 (vlt HA.out); have BB := bT BB B2; clear X2 B2 t1; have t2 := tR)
  | (have q0 := t0; refine box_lawC _ (chr [(N : Int), P, g2, g3, g4, g5] (.slice bq N bc) (.slice po pn pc) o0 n0) rfl ?_; intro w1 X1 B1 l1; have HA := hdH (X1); have BB := hdH (B1); clear X1 B1 t0; have t1 := tR))
 have BP : Hid (Below w.heap.size (w.setCell ⟨c, 7, none⟩ (.bool true)) w6.drew) := BP.out.drew
 have FR : Hid (Frm M w w6.drew) := FR.out.drewN 1
 have HT : Hid (∃ fr, w6.drew.heap[w2.heap.size]? = some (.cells ((zC : List Value)).toArray 38 fr)) := HT.out
 have HZ : Hid (Vr w6.drew w2.heap.size zC) := HZ.out.drewN 1
 refine wp_region_held_drew (S := fun w' => Vr w' w.heap.size (chr [(N : Int), P, g2, g3, g4, g5] (.slice bq N bc) (.slice po pn pc) false n0)) (by kernel_rfl) HA6.out (fun hS => ?_)
 obtain ⟨y1, hx0⟩ : ∃ x, x = w6.drew := ⟨_, rfl⟩
 rw [← hx0] at hS BP FR HT HZ ⊢
 clear hx0
 refine tkH 0 (some 121) (.agg (chr [(N : Int), P, g2, g3, g4, g5] (.slice bq N bc) (.slice po pn pc) false n0).toArray) rfl rfl (Or.inl ⟨by rfl, fun w' hw' => by exact exec_loadN 38 (.tmp 4) rfl _ rfl _ _ (load_cells rowy_chipR hw'.1)⟩) hS ?_
 simp only [Act.put, zE1, zE2, zE3]
 refine tkR 1 (some 122) (.pointer (some ⟨c, 0, none⟩)) rfl rfl hS ?_
 simp only [Act.put, zE1, zE2, zE3]
 refine tkG 3 (some 124) (.pointer (some ⟨w.heap.size, 8, none⟩)) rfl rfl hS ?_
 simp only [Act.put, zE1, zE2, zE3]
 refine tkH 4 (some 125) (.bool false) rfl rfl (Or.inl ⟨by rfl, fun w' hw' => by exact exec_loadN 4 (.tmp 124) rfl _ rfl _ _ (load_one oneBool (hw'.cell 8 _ rfl))⟩) hS ?_
 simp only [Act.put, zE1, zE2, zE3]
 refine tkG 5 (some 126) (.bool true) rfl rfl hS ?_
 simp only [Act.put, zE1, zE2, zE3]
 refine rd1 2 rfl fun K hK => ?_
 refine ge.step_callW _ (by rfl) (some 123) rfl 17 #[.tmp 122] #[28] rfl (fun q w' => by rfl) #[.pointer (some ⟨c, 0, none⟩)] (by simp only [zM1, zM2, zM3]; rfl) (fun v w' => v = .bool true ∧ w' = y1) ?_ ?_
 ·refine (on_any c true y1 (by rw [← HON.out]; exact (HLP.out.below (lay_bel BP.out)).cells.2.1)).mono ?_
  rintro e w' ⟨rfl, hw⟩
  exact ⟨_, rfl, rfl, hw⟩
 rintro v9 w9 ⟨rfl, hw9⟩
 subst hw9
 refine hK.out _ _ hS (fun _ => ?_)
 simp only [Act.put, zE1, zE2, zE3]
 clear hK K
 refine tkG 6 (some 127) (.bool true) rfl rfl hS ?_
 simp only [Act.put, zE1, zE2, zE3]
 refine rd1 7 rfl fun K hK => ?_
 refine step_storeC _ rfl none rfl (.tmp 6) (.tmp 121) 38 rfl w2.heap.size [.int .i64 0, .int .i64 0, .int .i64 0, .int .i64 0, .int .i64 0, .int .i64 0, .slice none 0 0, .slice none 0 0, .bool false, .int .i64 0] (chr [(N : Int), P, g2, g3, g4, g5] (.slice bq N bc) (.slice po pn pc) false n0) rfl rfl HZ.out rfl rowy_chipR.2 chr_one ?_
 intro y2 V9 g9
 have hS : Vr y2 w.heap.size (chr [(N : Int), P, g2, g3, g4, g5] (.slice bq N bc) (.slice po pn pc) false n0) := hS.heap (g9.block _ (range_lt hS.1 (by simp [chr])) (by have := LO.out; simp; omega))
 have HV := hdH (V9)
 have HF : Hid (StpD M E w c r d q pv [(N : Int), P, g2, g3, g4, g5] N P S pl s2 (mkX (xi X) (xp X) (xe X) (xs X) true (xt X)) (.returned (.tuple #[.agg (chr [(N : Int), P, g2, g3, g4, g5] (.slice bq N bc) (.slice po pn pc) false n0).toArray, .bool true])) y2) := stp_fin2 HL.out (HLP.out.below (lay_bel BP.out)) FR.out HM.out (by have := LO.out; omega) HT.out zc_nobyte HR.out g9
 clear V9 g9
 refine hK.out _ _ hS (fun _ => ?_)
 simp only [Act.put]
 clear hK K
 refine tkR 8 (some 7) (.bool true) rfl rfl hS ?_
 simp only [Act.put, zE1, zE2, zE3]
 refine wpAnyH_done (by kernel_rfl) ?_ _
 go_wp2
 exact bodyPost_ret (v := .tuple #[.agg (chr [(N : Int), P, g2, g3, g4, g5] (.slice bq N bc) (.slice po pn pc) false n0).toArray, .bool true]) (results_cv rfl _ _ w2.heap.size _ _ rowy_chipR rfl rfl HV.out.1) rfl HF.out
theorem powtb (N P S : Nat) (g2 g3 g4 g5 : Int) (hs : Shp [(N : Int), P, g2, g3, g4, g5] N P S) (bq : Option Addr) (bc : Nat) (po : Option Addr) (pn pc : Nat) (o0 : Bool) (n0 : Int) (s2 : St) (X : Raw) (b p : Int) 
  (hL : Lay M w c r d q pv tv [(N : Int), P, g2, g3, g4, g5] N P S pl X) (hM : Mlt M w) (hR : Ref (hid (uni M E) w) (.agg (chr [(N : Int), P, g2, g3, g4, g5] (.slice bq N bc) (.slice po pn pc) false n0).toArray) [(N : Int), P, g2, g3, g4, g5] N P pl s2) :
  Calls Try.prog 15 #[.pointer (some ⟨c, 0, none⟩), .agg (chr [(N : Int), P, g2, g3, g4, g5] (.slice bq N bc) (.slice po pn pc) o0 n0).toArray, .agg ([.int .i64 5, .int .i64 b, .int .i64 p, .int .u8 7, .bool true] : List Value).toArray] w (StpD M E w c r d q pv [(N : Int), P, g2, g3, g4, g5] N P S pl s2 (mkX (xi X) (xp X) (xe X) (xs X) true (xt X))) := by
 have HL := hdH (hL)
 have HLP : Hid (Lay M (w.setCell ⟨c, 7, none⟩ (.bool true)) c r d q pv tv [(N : Int), P, g2, g3, g4, g5] N P S pl (mkX (xi X) (xp X) (xe X) (xs X) true (xt X))) := hL.on true
 have HON : Hid (xo (mkX (xi X) (xp X) (xe X) (xs X) true (xt X)) = true) := rfl
 have HC : Hid (c < w.heap.size) := hL.2.2.2.2.2.2.2.2.2.1
 have HM := hdH (hM)
 have HR := hdH (hR)
 have HX : Hid ((0 : Int) ≤ 7 ∧ (7 : Int) ≤ 255) := by show _ ∧ _; omega
 have HS1 : Hid (1 ≤ S) := by show _ ≤ _; have := shp_num hs; omega
 have SB := hdH (fun w0 => lbytes_any S (by have := shp_num hs; omega) 7 HX.out w0)
 have eS : g2 + 88 = (S : Int) := hs.2.2.2.2
 have qw : IntKind.i64.wrap (g2 + 88) = (S : Int) := by rw [IntKind.wrap_i64]; have := shp_num hs; omega
 clear hL hM hR hs eS
 have t0 := tR
 go_enter Try.func15, Try.ntmps15
 go_wp2_with (first
  | (have q5 := t5; (with_reducible refine at_store ?_); refine store_law1 _ w.heap.size 8 (.bool false) rfl rfl (HA.out.there1 8 (by simp [chr])) (HA.out.free 8 (by simp [chr])) oneBool.2 rfl rfl ?_; intro w6 e6; have K6 : w5.grownBy w6 (some w.heap.size) := (by rw [e6.out]; exact keep_set _ _ _ _); clear r0 r1 r2 r3 r4 r5 r6 r7 r8 r9 sc0 sc1 sc2 sc3 sc4 fz; have HA6 : Hid (Vr w6 w.heap.size (chr [(N : Int), P, g2, g3, g4, g5] (.slice bq N bc) (.slice po pn pc) false n0)) := (by rw [e6.out]; exact HA.out.set 8 (by simp [chr]) _); have HT : Hid (∃ fr, w6.heap[w2.heap.size]? = some (.cells ((zC : List Value)).toArray 38 fr)) := (by obtain ⟨fr, z⟩ := HT.out; exact ⟨fr, by rw [K6.block _ (vlt HZ.out) (by have := LO.out; simp; omega)]; exact z⟩); have HZ := hdH (HZ.out.kept K6 (vlt HZ.out) (by have := LO.out; simp; omega)); have B6 : Below w.heap.size w5 w6 := (Below.refl _ _).grown K6 FR.out.size (fun k e => (by have e := Option.some.inj e; omega)); have BP := hdH (BP.out.trans B6); have FR : Hid (Frm M w w6) := frm_below FR.out B6; clear HA e6 K6 B6 t5)
  | (have q4 := t4; go_at_call 28; refine (power_any (HL.out.below BB.out) true).mono ?_; rintro e9 w5 ⟨⟨v5, rfl⟩, hw5⟩; have K5 : w4.grownBy w5 (some c) := (by rw [hw5]; exact keep_set _ _ _ _); have BP : Hid (Below w.heap.size (w.setCell ⟨c, 7, none⟩ (.bool true)) w5) := (by rw [hw5]; exact below_both BB.out); clear r0 r1 r2 r3 r4 r5 r6 r7 r8 r9 sc0 sc1 sc2 sc3 sc4; have HA := hdH (HA.out.kept K5 (vlt HA.out) (by have := HC.out; have := LO.out; simp; omega)); have HS := hdH (HS.out.kept K5 (vlt HS.out) (by have := HC.out; have := LO.out; simp; omega)); have HT : Hid (∃ fr, w5.heap[w2.heap.size]? = some (.cells ((zC : List Value)).toArray 38 fr)) := (by obtain ⟨fr, z⟩ := HT.out; exact ⟨fr, by rw [K5.block _ (vlt HZ.out) (by have := HC.out; have := LO.out; simp; omega)]; exact z⟩); have HZ := hdH (HZ.out.kept K5 (vlt HZ.out) (by have := HC.out; have := LO.out; simp; omega)); have FR : Hid (Frm M w w5) := FR.out.tr (Frm.grown K5 (fun k e => (by injection e with e; subst e; exact HL.out.2.1.1.1))); obtain ⟨r0, r1, r2, r3, r4, r5, r6, r7, r8, r9⟩ := vK10 HA.out; obtain ⟨sc0, sc1, sc2, sc3, sc4⟩ := vK5 HS.out; have fz := HA.out.free 8 (by simp [chr]); clear hw5 K5 t4 BB; have t5 := tR)
  | (have q8 := t8; refine cut_hid (M := M) _ rfl (.tmp 27) (.const (.int .i64 1)) rfl _ (bts S 7) 1 rfl rfl (by rw [bts_len]; exact HS1.out) HY.out ?_; intro v8 Y8; clear Y8 t8; have t4 := tR)
  | (have q3 := t3; go_at_call 25; refine (SB.out w3).mono ?_; rintro e9 w4 ⟨v4, rfl, O4, B4⟩; clear r2 sc3; have HZo := HZ.out; have HA := vB HA B4 (vlt HA.out); have HS := vB HS B4 (vlt HS.out); have HZ := vB HZ B4 (vlt HZ.out); have HT : Hid (∃ fr, w4.heap[w2.heap.size]? = some (.cells ((zC : List Value)).toArray 38 fr)) := (by obtain ⟨fr, z⟩ := HT.out; exact ⟨fr, by rw [B4.block _ (range_lt HZo.1 (by simp))]; exact z⟩); have BB := bT BB B4; have HY : Hid (Byt (hid M w4) v4 (bts S 7)) := own_hidS O4 (bts_all S 7 HX.out) (fun k hk => Nat.lt_of_lt_of_le (HM.out k hk) (by have := LO.out; omega)); have LO : Hid (w.heap.size < w1.heap.size ∧ w1.heap.size < w2.heap.size ∧ w2.heap.size < w4.heap.size) := ⟨LO.out.1, LO.out.2.1, Nat.lt_of_lt_of_le LO.out.2.2 B4.size⟩; obtain ⟨r0, r1, r2, r3, r4, r5, r6, r7, r8, r9⟩ := vK10 HA.out; obtain ⟨sc0, sc1, sc2, sc3, sc4⟩ := vK5 HS.out; have FR : Hid (Frm M w w4) := Frm.of_below BB.out; have BP := hdH (BB.out); clear O4 B4 HZo t3; have t8 := tR)
  | (have q2 := t2; (with_reducible refine at_alloc ?_); refine new_lawT _ _ zero_chr ?_; intro w3 X3 O3 B3 l3; have HZ := hdH (X3); have HT := hdH (O3); have HA := vB HA B3 (vlt HA.out); have HS := vB HS B3 (vlt HS.out); have BB := bT BB B3; have LO : Hid (w.heap.size < w1.heap.size ∧ w1.heap.size < w2.heap.size ∧ w2.heap.size < w3.heap.size) := ⟨l1, l2, l3⟩; have r2 := HA.out.cell 2 _ rfl; have sc3 := HS.out.cell 3 _ rfl; clear X3 O3 B3 t2 l1 l2 l3; have t3 := tR)
  | (have q1 := t1; refine box_lawC _ [.int .i64 5, .int .i64 b, .int .i64 p, .int .u8 7, .bool true] rfl ?_; intro w2 X2 B2 l2; have HS := hdH (X2); have HA := vB HA B2 (vlt HA.out); have BB := bT BB B2; clear X2 B2 t1; have t2 := tR)
  | (have q0 := t0; refine box_lawC _ (chr [(N : Int), P, g2, g3, g4, g5] (.slice bq N bc) (.slice po pn pc) o0 n0) rfl ?_; intro w1 X1 B1 l1; have HA := hdH (X1); have BB := hdH (B1); clear X1 B1 t0; have t1 := tR))
 have BP : Hid (Below w.heap.size (w.setCell ⟨c, 7, none⟩ (.bool true)) w6.drew) := BP.out.drew
 have FR : Hid (Frm M w w6.drew) := FR.out.drewN 1
 have HT : Hid (∃ fr, w6.drew.heap[w2.heap.size]? = some (.cells ((zC : List Value)).toArray 38 fr)) := HT.out
 have HZ : Hid (Vr w6.drew w2.heap.size zC) := HZ.out.drewN 1
 refine wp_region_held_drew (S := fun w' => Vr w' w.heap.size (chr [(N : Int), P, g2, g3, g4, g5] (.slice bq N bc) (.slice po pn pc) false n0)) (by kernel_rfl) HA6.out (fun hS => ?_)
 obtain ⟨y1, hx0⟩ : ∃ x, x = w6.drew := ⟨_, rfl⟩
 rw [← hx0] at hS BP FR HT HZ ⊢
 clear hx0
 refine tkH 0 (some 121) (.agg (chr [(N : Int), P, g2, g3, g4, g5] (.slice bq N bc) (.slice po pn pc) false n0).toArray) rfl rfl (Or.inl ⟨by rfl, fun w' hw' => by exact exec_loadN 38 (.tmp 4) rfl _ rfl _ _ (load_cells rowy_chipR hw'.1)⟩) hS ?_
 simp only [Act.put, zE1, zE2, zE3]
 refine tkR 1 (some 122) (.pointer (some ⟨c, 0, none⟩)) rfl rfl hS ?_
 simp only [Act.put, zE1, zE2, zE3]
 refine tkG 3 (some 124) (.pointer (some ⟨w.heap.size, 8, none⟩)) rfl rfl hS ?_
 simp only [Act.put, zE1, zE2, zE3]
 refine tkH 4 (some 125) (.bool false) rfl rfl (Or.inl ⟨by rfl, fun w' hw' => by exact exec_loadN 4 (.tmp 124) rfl _ rfl _ _ (load_one oneBool (hw'.cell 8 _ rfl))⟩) hS ?_
 simp only [Act.put, zE1, zE2, zE3]
 refine tkG 5 (some 126) (.bool true) rfl rfl hS ?_
 simp only [Act.put, zE1, zE2, zE3]
 refine rd1 2 rfl fun K hK => ?_
 refine ge.step_callW _ (by rfl) (some 123) rfl 17 #[.tmp 122] #[28] rfl (fun q w' => by rfl) #[.pointer (some ⟨c, 0, none⟩)] (by simp only [zM1, zM2, zM3]; rfl) (fun v w' => v = .bool true ∧ w' = y1) ?_ ?_
 ·refine (on_any c true y1 (by rw [← HON.out]; exact (HLP.out.below (lay_bel BP.out)).cells.2.1)).mono ?_
  rintro e w' ⟨rfl, hw⟩
  exact ⟨_, rfl, rfl, hw⟩
 rintro v9 w9 ⟨rfl, hw9⟩
 subst hw9
 refine hK.out _ _ hS (fun _ => ?_)
 simp only [Act.put, zE1, zE2, zE3]
 clear hK K
 refine tkG 6 (some 127) (.bool true) rfl rfl hS ?_
 simp only [Act.put, zE1, zE2, zE3]
 refine rd1 7 rfl fun K hK => ?_
 refine step_storeC _ rfl none rfl (.tmp 6) (.tmp 121) 38 rfl w2.heap.size [.int .i64 0, .int .i64 0, .int .i64 0, .int .i64 0, .int .i64 0, .int .i64 0, .slice none 0 0, .slice none 0 0, .bool false, .int .i64 0] (chr [(N : Int), P, g2, g3, g4, g5] (.slice bq N bc) (.slice po pn pc) false n0) rfl rfl HZ.out rfl rowy_chipR.2 chr_one ?_
 intro y2 V9 g9
 have hS : Vr y2 w.heap.size (chr [(N : Int), P, g2, g3, g4, g5] (.slice bq N bc) (.slice po pn pc) false n0) := hS.heap (g9.block _ (range_lt hS.1 (by simp [chr])) (by have := LO.out; simp; omega))
 have HV := hdH (V9)
 have HF : Hid (StpD M E w c r d q pv [(N : Int), P, g2, g3, g4, g5] N P S pl s2 (mkX (xi X) (xp X) (xe X) (xs X) true (xt X)) (.returned (.tuple #[.agg (chr [(N : Int), P, g2, g3, g4, g5] (.slice bq N bc) (.slice po pn pc) false n0).toArray, .bool true])) y2) := stp_fin2 HL.out (HLP.out.below (lay_bel BP.out)) FR.out HM.out (by have := LO.out; omega) HT.out zc_nobyte HR.out g9
 clear V9 g9
 refine hK.out _ _ hS (fun _ => ?_)
 simp only [Act.put]
 clear hK K
 refine tkR 8 (some 7) (.bool true) rfl rfl hS ?_
 simp only [Act.put, zE1, zE2, zE3]
 refine wpAnyH_done (by kernel_rfl) ?_ _
 go_wp2
 exact bodyPost_ret (v := .tuple #[.agg (chr [(N : Int), P, g2, g3, g4, g5] (.slice bq N bc) (.slice po pn pc) false n0).toArray, .bool true]) (results_cv rfl _ _ w2.heap.size _ _ rowy_chipR rfl rfl HV.out.1) rfl HF.out
theorem powfa (N P S : Nat) (g2 g3 g4 g5 : Int) (hs : Shp [(N : Int), P, g2, g3, g4, g5] N P S) (bq : Option Addr) (bc : Nat) (po : Option Addr) (pn pc : Nat) (o0 : Bool) (n0 : Int) (s2 : St) (X : Raw) (b p : Int) (x : Int) (hx : 0 ≤ x ∧ x ≤ 255) (h7 : x ≠ 7) 
  (hL : Lay M w c r d q pv tv [(N : Int), P, g2, g3, g4, g5] N P S pl X) (hM : Mlt M w) (hR : Ref (hid (uni M E) w) (.agg (chr [(N : Int), P, g2, g3, g4, g5] (.slice bq N bc) (.slice po pn pc) true n0).toArray) [(N : Int), P, g2, g3, g4, g5] N P pl s2) :
  Calls Try.prog 15 #[.pointer (some ⟨c, 0, none⟩), .agg (chr [(N : Int), P, g2, g3, g4, g5] (.slice bq N bc) (.slice po pn pc) o0 n0).toArray, .agg ([.int .i64 5, .int .i64 b, .int .i64 p, .int .u8 x, .bool false] : List Value).toArray] w (StpD M E w c r d q pv [(N : Int), P, g2, g3, g4, g5] N P S pl s2 (mkX (xi X) (xp X) (xe X) (xs X) false (xt X))) := by
 have HL := hdH (hL)
 have HLP : Hid (Lay M (w.setCell ⟨c, 7, none⟩ (.bool false)) c r d q pv tv [(N : Int), P, g2, g3, g4, g5] N P S pl (mkX (xi X) (xp X) (xe X) (xs X) false (xt X))) := hL.on false
 have HON : Hid (xo (mkX (xi X) (xp X) (xe X) (xs X) false (xt X)) = false) := rfl
 have HC : Hid (c < w.heap.size) := hL.2.2.2.2.2.2.2.2.2.1
 have HM := hdH (hM)
 have HR := hdH (hR)
 have HX := hdH (hx)
 have e7 : (x == 7) = false := beq_eq_false_iff_ne.2 h7
 have SB := hdH (fun w0 => lbytes_any S (by have := shp_num hs; omega) x HX.out w0)
 have eS : g2 + 88 = (S : Int) := hs.2.2.2.2
 have qw : IntKind.i64.wrap (g2 + 88) = (S : Int) := by rw [IntKind.wrap_i64]; have := shp_num hs; omega
 clear hL hM hR hs eS hx h7
 have t0 := tR
 go_enter Try.func15, Try.ntmps15
 go_wp2_with (first
  | (have q5 := t5; (with_reducible refine at_store ?_); refine store_law1 _ w.heap.size 8 (.bool true) rfl rfl (HA.out.there1 8 (by simp [chr])) (HA.out.free 8 (by simp [chr])) oneBool.2 rfl rfl ?_; intro w6 e6; have K6 : w5.grownBy w6 (some w.heap.size) := (by rw [e6.out]; exact keep_set _ _ _ _); clear r0 r1 r2 r3 r4 r5 r6 r7 r8 r9 sc0 sc1 sc2 sc3 sc4 fz; have HA6 : Hid (Vr w6 w.heap.size (chr [(N : Int), P, g2, g3, g4, g5] (.slice bq N bc) (.slice po pn pc) true n0)) := (by rw [e6.out]; exact HA.out.set 8 (by simp [chr]) _); have HT : Hid (∃ fr, w6.heap[w2.heap.size]? = some (.cells ((zC : List Value)).toArray 38 fr)) := (by obtain ⟨fr, z⟩ := HT.out; exact ⟨fr, by rw [K6.block _ (vlt HZ.out) (by have := LO.out; simp; omega)]; exact z⟩); have HZ := hdH (HZ.out.kept K6 (vlt HZ.out) (by have := LO.out; simp; omega)); have B6 : Below w.heap.size w5 w6 := (Below.refl _ _).grown K6 FR.out.size (fun k e => (by have e := Option.some.inj e; omega)); have BP := hdH (BP.out.trans B6); have FR : Hid (Frm M w w6) := frm_below FR.out B6; clear HA e6 K6 B6 t5)
  | (have q4 := t4; go_at_call 28; refine (power_any (HL.out.below BB.out) false).mono ?_; rintro e9 w5 ⟨⟨v5, rfl⟩, hw5⟩; have K5 : w4.grownBy w5 (some c) := (by rw [hw5]; exact keep_set _ _ _ _); have BP : Hid (Below w.heap.size (w.setCell ⟨c, 7, none⟩ (.bool false)) w5) := (by rw [hw5]; exact below_both BB.out); clear r0 r1 r2 r3 r4 r5 r6 r7 r8 r9 sc0 sc1 sc2 sc3 sc4; have HA := hdH (HA.out.kept K5 (vlt HA.out) (by have := HC.out; have := LO.out; simp; omega)); have HS := hdH (HS.out.kept K5 (vlt HS.out) (by have := HC.out; have := LO.out; simp; omega)); have HT : Hid (∃ fr, w5.heap[w2.heap.size]? = some (.cells ((zC : List Value)).toArray 38 fr)) := (by obtain ⟨fr, z⟩ := HT.out; exact ⟨fr, by rw [K5.block _ (vlt HZ.out) (by have := HC.out; have := LO.out; simp; omega)]; exact z⟩); have HZ := hdH (HZ.out.kept K5 (vlt HZ.out) (by have := HC.out; have := LO.out; simp; omega)); have FR : Hid (Frm M w w5) := FR.out.tr (Frm.grown K5 (fun k e => (by injection e with e; subst e; exact HL.out.2.1.1.1))); obtain ⟨r0, r1, r2, r3, r4, r5, r6, r7, r8, r9⟩ := vK10 HA.out; obtain ⟨sc0, sc1, sc2, sc3, sc4⟩ := vK5 HS.out; have fz := HA.out.free 8 (by simp [chr]); clear hw5 K5 t4 BB; have t5 := tR)
  | (have q3 := t3; go_at_call 25; refine (SB.out w3).mono ?_; rintro e9 w4 ⟨v4, rfl, O4, B4⟩; clear r2 sc3; have HZo := HZ.out; have HA := vB HA B4 (vlt HA.out); have HS := vB HS B4 (vlt HS.out); have HZ := vB HZ B4 (vlt HZ.out); have HT : Hid (∃ fr, w4.heap[w2.heap.size]? = some (.cells ((zC : List Value)).toArray 38 fr)) := (by obtain ⟨fr, z⟩ := HT.out; exact ⟨fr, by rw [B4.block _ (range_lt HZo.1 (by simp))]; exact z⟩); have BB := bT BB B4; have HY : Hid (Byt (hid M w4) v4 (bts S x)) := own_hidS O4 (bts_all S x HX.out) (fun k hk => Nat.lt_of_lt_of_le (HM.out k hk) (by have := LO.out; omega)); have LO : Hid (w.heap.size < w1.heap.size ∧ w1.heap.size < w2.heap.size ∧ w2.heap.size < w4.heap.size) := ⟨LO.out.1, LO.out.2.1, Nat.lt_of_lt_of_le LO.out.2.2 B4.size⟩; obtain ⟨r0, r1, r2, r3, r4, r5, r6, r7, r8, r9⟩ := vK10 HA.out; obtain ⟨sc0, sc1, sc2, sc3, sc4⟩ := vK5 HS.out; have FR : Hid (Frm M w w4) := Frm.of_below BB.out; have BP := hdH (BB.out); clear O4 B4 HZo t3; have t4 := tR)
  | (have q2 := t2; (with_reducible refine at_alloc ?_); refine new_lawT _ _ zero_chr ?_; intro w3 X3 O3 B3 l3; have HZ := hdH (X3); have HT := hdH (O3); have HA := vB HA B3 (vlt HA.out); have HS := vB HS B3 (vlt HS.out); have BB := bT BB B3; have LO : Hid (w.heap.size < w1.heap.size ∧ w1.heap.size < w2.heap.size ∧ w2.heap.size < w3.heap.size) := ⟨l1, l2, l3⟩; have r2 := HA.out.cell 2 _ rfl; have sc3 := HS.out.cell 3 _ rfl; clear X3 O3 B3 t2 l1 l2 l3; have t3 := tR)
  | (have q1 := t1; refine box_lawC _ [.int .i64 5, .int .i64 b, .int .i64 p, .int .u8 x, .bool false] rfl ?_; intro w2 X2 B2 l2; have HS := hdH (X2); have HA := vB HA B2 (vlt HA.out); have BB := bT BB B2; clear X2 B2 t1; have t2 := tR)
  | (have q0 := t0; refine box_lawC _ (chr [(N : Int), P, g2, g3, g4, g5] (.slice bq N bc) (.slice po pn pc) o0 n0) rfl ?_; intro w1 X1 B1 l1; have HA := hdH (X1); have BB := hdH (B1); clear X1 B1 t0; have t1 := tR))
 have BP : Hid (Below w.heap.size (w.setCell ⟨c, 7, none⟩ (.bool false)) w6.drew) := BP.out.drew
 have FR : Hid (Frm M w w6.drew) := FR.out.drewN 1
 have HT : Hid (∃ fr, w6.drew.heap[w2.heap.size]? = some (.cells ((zC : List Value)).toArray 38 fr)) := HT.out
 have HZ : Hid (Vr w6.drew w2.heap.size zC) := HZ.out.drewN 1
 refine wp_region_held_drew (S := fun w' => Vr w' w.heap.size (chr [(N : Int), P, g2, g3, g4, g5] (.slice bq N bc) (.slice po pn pc) true n0)) (by kernel_rfl) HA6.out (fun hS => ?_)
 obtain ⟨y1, hx0⟩ : ∃ x, x = w6.drew := ⟨_, rfl⟩
 rw [← hx0] at hS BP FR HT HZ ⊢
 clear hx0
 refine tkH 0 (some 121) (.agg (chr [(N : Int), P, g2, g3, g4, g5] (.slice bq N bc) (.slice po pn pc) true n0).toArray) rfl rfl (Or.inl ⟨by rfl, fun w' hw' => by exact exec_loadN 38 (.tmp 4) rfl _ rfl _ _ (load_cells rowy_chipR hw'.1)⟩) hS ?_
 simp only [Act.put, zE1, zE2, zE3]
 refine tkR 1 (some 122) (.pointer (some ⟨c, 0, none⟩)) rfl rfl hS ?_
 simp only [Act.put, zE1, zE2, zE3]
 refine tkG 3 (some 124) (.pointer (some ⟨w.heap.size, 8, none⟩)) rfl rfl hS ?_
 simp only [Act.put, zE1, zE2, zE3]
 refine tkH 4 (some 125) (.bool true) rfl rfl (Or.inl ⟨by rfl, fun w' hw' => by exact exec_loadN 4 (.tmp 124) rfl _ rfl _ _ (load_one oneBool (hw'.cell 8 _ rfl))⟩) hS ?_
 simp only [Act.put, zE1, zE2, zE3]
 refine tkG 5 (some 126) (.bool false) rfl rfl hS ?_
 simp only [Act.put, zE1, zE2, zE3]
 refine rd1 2 rfl fun K hK => ?_
 refine ge.step_callW _ (by rfl) (some 123) rfl 17 #[.tmp 122] #[28] rfl (fun q w' => by rfl) #[.pointer (some ⟨c, 0, none⟩)] (by simp only [zM1, zM2, zM3]; rfl) (fun v w' => v = .bool false ∧ w' = y1) ?_ ?_
 ·refine (on_any c false y1 (by rw [← HON.out]; exact (HLP.out.below (lay_bel BP.out)).cells.2.1)).mono ?_
  rintro e w' ⟨rfl, hw⟩
  exact ⟨_, rfl, rfl, hw⟩
 rintro v9 w9 ⟨rfl, hw9⟩
 subst hw9
 refine hK.out _ _ hS (fun _ => ?_)
 simp only [Act.put, zE1, zE2, zE3]
 clear hK K
 refine tkG 6 (some 127) (.bool true) rfl rfl hS ?_
 simp only [Act.put, zE1, zE2, zE3]
 refine rd1 7 rfl fun K hK => ?_
 refine step_storeC _ rfl none rfl (.tmp 6) (.tmp 121) 38 rfl w2.heap.size [.int .i64 0, .int .i64 0, .int .i64 0, .int .i64 0, .int .i64 0, .int .i64 0, .slice none 0 0, .slice none 0 0, .bool false, .int .i64 0] (chr [(N : Int), P, g2, g3, g4, g5] (.slice bq N bc) (.slice po pn pc) true n0) rfl rfl HZ.out rfl rowy_chipR.2 chr_one ?_
 intro y2 V9 g9
 have hS : Vr y2 w.heap.size (chr [(N : Int), P, g2, g3, g4, g5] (.slice bq N bc) (.slice po pn pc) true n0) := hS.heap (g9.block _ (range_lt hS.1 (by simp [chr])) (by have := LO.out; simp; omega))
 have HV := hdH (V9)
 have HF : Hid (StpD M E w c r d q pv [(N : Int), P, g2, g3, g4, g5] N P S pl s2 (mkX (xi X) (xp X) (xe X) (xs X) false (xt X)) (.returned (.tuple #[.agg (chr [(N : Int), P, g2, g3, g4, g5] (.slice bq N bc) (.slice po pn pc) true n0).toArray, .bool true])) y2) := stp_fin2 HL.out (HLP.out.below (lay_bel BP.out)) FR.out HM.out (by have := LO.out; omega) HT.out zc_nobyte HR.out g9
 clear V9 g9
 refine hK.out _ _ hS (fun _ => ?_)
 simp only [Act.put]
 clear hK K
 refine tkR 8 (some 7) (.bool true) rfl rfl hS ?_
 simp only [Act.put, zE1, zE2, zE3]
 refine wpAnyH_done (by kernel_rfl) ?_ _
 go_wp2
 exact bodyPost_ret (v := .tuple #[.agg (chr [(N : Int), P, g2, g3, g4, g5] (.slice bq N bc) (.slice po pn pc) true n0).toArray, .bool true]) (results_cv rfl _ _ w2.heap.size _ _ rowy_chipR rfl rfl HV.out.1) rfl HF.out
theorem powfb (N P S : Nat) (g2 g3 g4 g5 : Int) (hs : Shp [(N : Int), P, g2, g3, g4, g5] N P S) (bq : Option Addr) (bc : Nat) (po : Option Addr) (pn pc : Nat) (o0 : Bool) (n0 : Int) (s2 : St) (X : Raw) (b p : Int) 
  (hL : Lay M w c r d q pv tv [(N : Int), P, g2, g3, g4, g5] N P S pl X) (hM : Mlt M w) (hR : Ref (hid (uni M E) w) (.agg (chr [(N : Int), P, g2, g3, g4, g5] (.slice bq N bc) (.slice po pn pc) true n0).toArray) [(N : Int), P, g2, g3, g4, g5] N P pl s2) :
  Calls Try.prog 15 #[.pointer (some ⟨c, 0, none⟩), .agg (chr [(N : Int), P, g2, g3, g4, g5] (.slice bq N bc) (.slice po pn pc) o0 n0).toArray, .agg ([.int .i64 5, .int .i64 b, .int .i64 p, .int .u8 7, .bool false] : List Value).toArray] w (StpD M E w c r d q pv [(N : Int), P, g2, g3, g4, g5] N P S pl s2 (mkX (xi X) (xp X) (xe X) (xs X) false (xt X))) := by
 have HL := hdH (hL)
 have HLP : Hid (Lay M (w.setCell ⟨c, 7, none⟩ (.bool false)) c r d q pv tv [(N : Int), P, g2, g3, g4, g5] N P S pl (mkX (xi X) (xp X) (xe X) (xs X) false (xt X))) := hL.on false
 have HON : Hid (xo (mkX (xi X) (xp X) (xe X) (xs X) false (xt X)) = false) := rfl
 have HC : Hid (c < w.heap.size) := hL.2.2.2.2.2.2.2.2.2.1
 have HM := hdH (hM)
 have HR := hdH (hR)
 have HX : Hid ((0 : Int) ≤ 7 ∧ (7 : Int) ≤ 255) := by show _ ∧ _; omega
 have HS1 : Hid (1 ≤ S) := by show _ ≤ _; have := shp_num hs; omega
 have SB := hdH (fun w0 => lbytes_any S (by have := shp_num hs; omega) 7 HX.out w0)
 have eS : g2 + 88 = (S : Int) := hs.2.2.2.2
 have qw : IntKind.i64.wrap (g2 + 88) = (S : Int) := by rw [IntKind.wrap_i64]; have := shp_num hs; omega
 clear hL hM hR hs eS
 have t0 := tR
 go_enter Try.func15, Try.ntmps15
 go_wp2_with (first
  | (have q5 := t5; (with_reducible refine at_store ?_); refine store_law1 _ w.heap.size 8 (.bool true) rfl rfl (HA.out.there1 8 (by simp [chr])) (HA.out.free 8 (by simp [chr])) oneBool.2 rfl rfl ?_; intro w6 e6; have K6 : w5.grownBy w6 (some w.heap.size) := (by rw [e6.out]; exact keep_set _ _ _ _); clear r0 r1 r2 r3 r4 r5 r6 r7 r8 r9 sc0 sc1 sc2 sc3 sc4 fz; have HA6 : Hid (Vr w6 w.heap.size (chr [(N : Int), P, g2, g3, g4, g5] (.slice bq N bc) (.slice po pn pc) true n0)) := (by rw [e6.out]; exact HA.out.set 8 (by simp [chr]) _); have HT : Hid (∃ fr, w6.heap[w2.heap.size]? = some (.cells ((zC : List Value)).toArray 38 fr)) := (by obtain ⟨fr, z⟩ := HT.out; exact ⟨fr, by rw [K6.block _ (vlt HZ.out) (by have := LO.out; simp; omega)]; exact z⟩); have HZ := hdH (HZ.out.kept K6 (vlt HZ.out) (by have := LO.out; simp; omega)); have B6 : Below w.heap.size w5 w6 := (Below.refl _ _).grown K6 FR.out.size (fun k e => (by have e := Option.some.inj e; omega)); have BP := hdH (BP.out.trans B6); have FR : Hid (Frm M w w6) := frm_below FR.out B6; clear HA e6 K6 B6 t5)
  | (have q4 := t4; go_at_call 28; refine (power_any (HL.out.below BB.out) false).mono ?_; rintro e9 w5 ⟨⟨v5, rfl⟩, hw5⟩; have K5 : w4.grownBy w5 (some c) := (by rw [hw5]; exact keep_set _ _ _ _); have BP : Hid (Below w.heap.size (w.setCell ⟨c, 7, none⟩ (.bool false)) w5) := (by rw [hw5]; exact below_both BB.out); clear r0 r1 r2 r3 r4 r5 r6 r7 r8 r9 sc0 sc1 sc2 sc3 sc4; have HA := hdH (HA.out.kept K5 (vlt HA.out) (by have := HC.out; have := LO.out; simp; omega)); have HS := hdH (HS.out.kept K5 (vlt HS.out) (by have := HC.out; have := LO.out; simp; omega)); have HT : Hid (∃ fr, w5.heap[w2.heap.size]? = some (.cells ((zC : List Value)).toArray 38 fr)) := (by obtain ⟨fr, z⟩ := HT.out; exact ⟨fr, by rw [K5.block _ (vlt HZ.out) (by have := HC.out; have := LO.out; simp; omega)]; exact z⟩); have HZ := hdH (HZ.out.kept K5 (vlt HZ.out) (by have := HC.out; have := LO.out; simp; omega)); have FR : Hid (Frm M w w5) := FR.out.tr (Frm.grown K5 (fun k e => (by injection e with e; subst e; exact HL.out.2.1.1.1))); obtain ⟨r0, r1, r2, r3, r4, r5, r6, r7, r8, r9⟩ := vK10 HA.out; obtain ⟨sc0, sc1, sc2, sc3, sc4⟩ := vK5 HS.out; have fz := HA.out.free 8 (by simp [chr]); clear hw5 K5 t4 BB; have t5 := tR)
  | (have q8 := t8; refine cut_hid (M := M) _ rfl (.tmp 27) (.const (.int .i64 1)) rfl _ (bts S 7) 1 rfl rfl (by rw [bts_len]; exact HS1.out) HY.out ?_; intro v8 Y8; clear Y8 t8; have t4 := tR)
  | (have q3 := t3; go_at_call 25; refine (SB.out w3).mono ?_; rintro e9 w4 ⟨v4, rfl, O4, B4⟩; clear r2 sc3; have HZo := HZ.out; have HA := vB HA B4 (vlt HA.out); have HS := vB HS B4 (vlt HS.out); have HZ := vB HZ B4 (vlt HZ.out); have HT : Hid (∃ fr, w4.heap[w2.heap.size]? = some (.cells ((zC : List Value)).toArray 38 fr)) := (by obtain ⟨fr, z⟩ := HT.out; exact ⟨fr, by rw [B4.block _ (range_lt HZo.1 (by simp))]; exact z⟩); have BB := bT BB B4; have HY : Hid (Byt (hid M w4) v4 (bts S 7)) := own_hidS O4 (bts_all S 7 HX.out) (fun k hk => Nat.lt_of_lt_of_le (HM.out k hk) (by have := LO.out; omega)); have LO : Hid (w.heap.size < w1.heap.size ∧ w1.heap.size < w2.heap.size ∧ w2.heap.size < w4.heap.size) := ⟨LO.out.1, LO.out.2.1, Nat.lt_of_lt_of_le LO.out.2.2 B4.size⟩; obtain ⟨r0, r1, r2, r3, r4, r5, r6, r7, r8, r9⟩ := vK10 HA.out; obtain ⟨sc0, sc1, sc2, sc3, sc4⟩ := vK5 HS.out; have FR : Hid (Frm M w w4) := Frm.of_below BB.out; have BP := hdH (BB.out); clear O4 B4 HZo t3; have t8 := tR)
  | (have q2 := t2; (with_reducible refine at_alloc ?_); refine new_lawT _ _ zero_chr ?_; intro w3 X3 O3 B3 l3; have HZ := hdH (X3); have HT := hdH (O3); have HA := vB HA B3 (vlt HA.out); have HS := vB HS B3 (vlt HS.out); have BB := bT BB B3; have LO : Hid (w.heap.size < w1.heap.size ∧ w1.heap.size < w2.heap.size ∧ w2.heap.size < w3.heap.size) := ⟨l1, l2, l3⟩; have r2 := HA.out.cell 2 _ rfl; have sc3 := HS.out.cell 3 _ rfl; clear X3 O3 B3 t2 l1 l2 l3; have t3 := tR)
  | (have q1 := t1; refine box_lawC _ [.int .i64 5, .int .i64 b, .int .i64 p, .int .u8 7, .bool false] rfl ?_; intro w2 X2 B2 l2; have HS := hdH (X2); have HA := vB HA B2 (vlt HA.out); have BB := bT BB B2; clear X2 B2 t1; have t2 := tR)
  | (have q0 := t0; refine box_lawC _ (chr [(N : Int), P, g2, g3, g4, g5] (.slice bq N bc) (.slice po pn pc) o0 n0) rfl ?_; intro w1 X1 B1 l1; have HA := hdH (X1); have BB := hdH (B1); clear X1 B1 t0; have t1 := tR))
 have BP : Hid (Below w.heap.size (w.setCell ⟨c, 7, none⟩ (.bool false)) w6.drew) := BP.out.drew
 have FR : Hid (Frm M w w6.drew) := FR.out.drewN 1
 have HT : Hid (∃ fr, w6.drew.heap[w2.heap.size]? = some (.cells ((zC : List Value)).toArray 38 fr)) := HT.out
 have HZ : Hid (Vr w6.drew w2.heap.size zC) := HZ.out.drewN 1
 refine wp_region_held_drew (S := fun w' => Vr w' w.heap.size (chr [(N : Int), P, g2, g3, g4, g5] (.slice bq N bc) (.slice po pn pc) true n0)) (by kernel_rfl) HA6.out (fun hS => ?_)
 obtain ⟨y1, hx0⟩ : ∃ x, x = w6.drew := ⟨_, rfl⟩
 rw [← hx0] at hS BP FR HT HZ ⊢
 clear hx0
 refine tkH 0 (some 121) (.agg (chr [(N : Int), P, g2, g3, g4, g5] (.slice bq N bc) (.slice po pn pc) true n0).toArray) rfl rfl (Or.inl ⟨by rfl, fun w' hw' => by exact exec_loadN 38 (.tmp 4) rfl _ rfl _ _ (load_cells rowy_chipR hw'.1)⟩) hS ?_
 simp only [Act.put, zE1, zE2, zE3]
 refine tkR 1 (some 122) (.pointer (some ⟨c, 0, none⟩)) rfl rfl hS ?_
 simp only [Act.put, zE1, zE2, zE3]
 refine tkG 3 (some 124) (.pointer (some ⟨w.heap.size, 8, none⟩)) rfl rfl hS ?_
 simp only [Act.put, zE1, zE2, zE3]
 refine tkH 4 (some 125) (.bool true) rfl rfl (Or.inl ⟨by rfl, fun w' hw' => by exact exec_loadN 4 (.tmp 124) rfl _ rfl _ _ (load_one oneBool (hw'.cell 8 _ rfl))⟩) hS ?_
 simp only [Act.put, zE1, zE2, zE3]
 refine tkG 5 (some 126) (.bool false) rfl rfl hS ?_
 simp only [Act.put, zE1, zE2, zE3]
 refine rd1 2 rfl fun K hK => ?_
 refine ge.step_callW _ (by rfl) (some 123) rfl 17 #[.tmp 122] #[28] rfl (fun q w' => by rfl) #[.pointer (some ⟨c, 0, none⟩)] (by simp only [zM1, zM2, zM3]; rfl) (fun v w' => v = .bool false ∧ w' = y1) ?_ ?_
 ·refine (on_any c false y1 (by rw [← HON.out]; exact (HLP.out.below (lay_bel BP.out)).cells.2.1)).mono ?_
  rintro e w' ⟨rfl, hw⟩
  exact ⟨_, rfl, rfl, hw⟩
 rintro v9 w9 ⟨rfl, hw9⟩
 subst hw9
 refine hK.out _ _ hS (fun _ => ?_)
 simp only [Act.put, zE1, zE2, zE3]
 clear hK K
 refine tkG 6 (some 127) (.bool true) rfl rfl hS ?_
 simp only [Act.put, zE1, zE2, zE3]
 refine rd1 7 rfl fun K hK => ?_
 refine step_storeC _ rfl none rfl (.tmp 6) (.tmp 121) 38 rfl w2.heap.size [.int .i64 0, .int .i64 0, .int .i64 0, .int .i64 0, .int .i64 0, .int .i64 0, .slice none 0 0, .slice none 0 0, .bool false, .int .i64 0] (chr [(N : Int), P, g2, g3, g4, g5] (.slice bq N bc) (.slice po pn pc) true n0) rfl rfl HZ.out rfl rowy_chipR.2 chr_one ?_
 intro y2 V9 g9
 have hS : Vr y2 w.heap.size (chr [(N : Int), P, g2, g3, g4, g5] (.slice bq N bc) (.slice po pn pc) true n0) := hS.heap (g9.block _ (range_lt hS.1 (by simp [chr])) (by have := LO.out; simp; omega))
 have HV := hdH (V9)
 have HF : Hid (StpD M E w c r d q pv [(N : Int), P, g2, g3, g4, g5] N P S pl s2 (mkX (xi X) (xp X) (xe X) (xs X) false (xt X)) (.returned (.tuple #[.agg (chr [(N : Int), P, g2, g3, g4, g5] (.slice bq N bc) (.slice po pn pc) true n0).toArray, .bool true])) y2) := stp_fin2 HL.out (HLP.out.below (lay_bel BP.out)) FR.out HM.out (by have := LO.out; omega) HT.out zc_nobyte HR.out g9
 clear V9 g9
 refine hK.out _ _ hS (fun _ => ?_)
 simp only [Act.put]
 clear hK K
 refine tkR 8 (some 7) (.bool true) rfl rfl hS ?_
 simp only [Act.put, zE1, zE2, zE3]
 refine wpAnyH_done (by kernel_rfl) ?_ _
 go_wp2
 exact bodyPost_ret (v := .tuple #[.agg (chr [(N : Int), P, g2, g3, g4, g5] (.slice bq N bc) (.slice po pn pc) true n0).toArray, .bool true]) (results_cv rfl _ _ w2.heap.size _ _ rowy_chipR rfl rfl HV.out.1) rfl HF.out
theorem othta (N P S : Nat) (g2 g3 g4 g5 : Int) (hs : Shp [(N : Int), P, g2, g3, g4, g5] N P S) (bq : Option Addr) (bc : Nat) (po : Option Addr) (pn pc : Nat) (n0 : Int) (s2 : St) (X : Raw) (k : Int) (hk : k ≠ 1 ∧ k ≠ 2 ∧ k ≠ 3 ∧ k ≠ 4 ∧ k ≠ 5) (b p : Int) (x : Int) (hx : 0 ≤ x ∧ x ≤ 255) (h7 : x ≠ 7) (on : Bool) (hon : xo X = false) 
  (hL : Lay M w c r d q pv tv [(N : Int), P, g2, g3, g4, g5] N P S pl X) (hM : Mlt M w) (hR : Ref (hid (uni M E) w) (.agg (chr [(N : Int), P, g2, g3, g4, g5] (.slice bq N bc) (.slice po pn pc) true n0).toArray) [(N : Int), P, g2, g3, g4, g5] N P pl s2) :
  Calls Try.prog 15 #[.pointer (some ⟨c, 0, none⟩), .agg (chr [(N : Int), P, g2, g3, g4, g5] (.slice bq N bc) (.slice po pn pc) true n0).toArray, .agg ([.int .i64 k, .int .i64 b, .int .i64 p, .int .u8 x, .bool on] : List Value).toArray] w (StpD M E w c r d q pv [(N : Int), P, g2, g3, g4, g5] N P S pl s2 X) := by
 have HL := hdH (hL)
 have HLP := hdH (hL)
 have HON : Hid (xo X = false) := hon
 have HC : Hid (c < w.heap.size) := hL.2.2.2.2.2.2.2.2.2.1
 have HM := hdH (hM)
 have HR := hdH (hR)
 have HX := hdH (hx)
 have e7 : (x == 7) = false := beq_eq_false_iff_ne.2 h7
 have k1 : (k == 1) = false := beq_eq_false_iff_ne.2 hk.1
 have k2 : (k == 2) = false := beq_eq_false_iff_ne.2 hk.2.1
 have k3 : (k == 3) = false := beq_eq_false_iff_ne.2 hk.2.2.1
 have k4 : (k == 4) = false := beq_eq_false_iff_ne.2 hk.2.2.2.1
 have k5 : (k == 5) = false := beq_eq_false_iff_ne.2 hk.2.2.2.2
 clear hk
 have SB := hdH (fun w0 => lbytes_any S (by have := shp_num hs; omega) x HX.out w0)
 have eS : g2 + 88 = (S : Int) := hs.2.2.2.2
 have qw : IntKind.i64.wrap (g2 + 88) = (S : Int) := by rw [IntKind.wrap_i64]; have := shp_num hs; omega
 clear hL hM hR hs eS hx h7 hon
 have t0 := tR
 go_enter Try.func15, Try.ntmps15
 go_wp2_with (first
  | (have q3 := t3; go_at_call 25; refine (SB.out w3).mono ?_; rintro e9 w4 ⟨v4, rfl, O4, B4⟩; clear r2 sc3; have HZo := HZ.out; have HA := vB HA B4 (vlt HA.out); have HS := vB HS B4 (vlt HS.out); have HZ := vB HZ B4 (vlt HZ.out); have HT : Hid (∃ fr, w4.heap[w2.heap.size]? = some (.cells ((zC : List Value)).toArray 38 fr)) := (by obtain ⟨fr, z⟩ := HT.out; exact ⟨fr, by rw [B4.block _ (range_lt HZo.1 (by simp))]; exact z⟩); have BB := bT BB B4; have HY : Hid (Byt (hid M w4) v4 (bts S x)) := own_hidS O4 (bts_all S x HX.out) (fun k hk => Nat.lt_of_lt_of_le (HM.out k hk) (by have := LO.out; omega)); have LO : Hid (w.heap.size < w1.heap.size ∧ w1.heap.size < w2.heap.size ∧ w2.heap.size < w4.heap.size) := ⟨LO.out.1, LO.out.2.1, Nat.lt_of_lt_of_le LO.out.2.2 B4.size⟩; obtain ⟨r0, r1, r2, r3, r4, r5, r6, r7, r8, r9⟩ := vK10 HA.out; obtain ⟨sc0, sc1, sc2, sc3, sc4⟩ := vK5 HS.out; have FR : Hid (Frm M w w4) := Frm.of_below BB.out; have BP := hdH (BB.out); clear O4 B4 HZo t3; have t4 := tR)
  | (have q2 := t2; (with_reducible refine at_alloc ?_); refine new_lawT _ _ zero_chr ?_; intro w3 X3 O3 B3 l3; have HZ := hdH (X3); have HT := hdH (O3); have HA := vB HA B3 (vlt HA.out); have HS := vB HS B3 (vlt HS.out); have BB := bT BB B3; have LO : Hid (w.heap.size < w1.heap.size ∧ w1.heap.size < w2.heap.size ∧ w2.heap.size < w3.heap.size) := ⟨l1, l2, l3⟩; have r2 := HA.out.cell 2 _ rfl; have sc3 := HS.out.cell 3 _ rfl; clear X3 O3 B3 t2 l1 l2 l3; have t3 := tR)
  | (have q1 := t1; refine box_lawC _ [.int .i64 k, .int .i64 b, .int .i64 p, .int .u8 x, .bool on] rfl ?_; intro w2 X2 B2 l2; have HS := hdH (X2); have HA := vB HA B2 (vlt HA.out); have BB := bT BB B2; clear X2 B2 t1; have t2 := tR)
  | (have q0 := t0; refine box_lawC _ (chr [(N : Int), P, g2, g3, g4, g5] (.slice bq N bc) (.slice po pn pc) true n0) rfl ?_; intro w1 X1 B1 l1; have HA := hdH (X1); have BB := hdH (B1); clear X1 B1 t0; have t1 := tR))
 have BP : Hid (Below w.heap.size w w4.drew) := BP.out.drew
 have FR : Hid (Frm M w w4.drew) := FR.out.drewN 1
 have HT : Hid (∃ fr, w4.drew.heap[w2.heap.size]? = some (.cells ((zC : List Value)).toArray 38 fr)) := HT.out
 have HZ : Hid (Vr w4.drew w2.heap.size zC) := HZ.out.drewN 1
 refine wp_region_held_drew (S := fun w' => Vr w' w.heap.size (chr [(N : Int), P, g2, g3, g4, g5] (.slice bq N bc) (.slice po pn pc) true n0)) (by kernel_rfl) HA.out (fun hS => ?_)
 obtain ⟨y1, hx0⟩ : ∃ x, x = w4.drew := ⟨_, rfl⟩
 rw [← hx0] at hS BP FR HT HZ ⊢
 clear hx0
 refine tkH 0 (some 121) (.agg (chr [(N : Int), P, g2, g3, g4, g5] (.slice bq N bc) (.slice po pn pc) true n0).toArray) rfl rfl (Or.inl ⟨by rfl, fun w' hw' => by exact exec_loadN 38 (.tmp 4) rfl _ rfl _ _ (load_cells rowy_chipR hw'.1)⟩) hS ?_
 simp only [Act.put, zE1, zE2, zE3]
 refine tkR 1 (some 122) (.pointer (some ⟨c, 0, none⟩)) rfl rfl hS ?_
 simp only [Act.put, zE1, zE2, zE3]
 refine tkG 3 (some 124) (.pointer (some ⟨w.heap.size, 8, none⟩)) rfl rfl hS ?_
 simp only [Act.put, zE1, zE2, zE3]
 refine tkH 4 (some 125) (.bool true) rfl rfl (Or.inl ⟨by rfl, fun w' hw' => by exact exec_loadN 4 (.tmp 124) rfl _ rfl _ _ (load_one oneBool (hw'.cell 8 _ rfl))⟩) hS ?_
 simp only [Act.put, zE1, zE2, zE3]
 refine tkG 5 (some 126) (.bool false) rfl rfl hS ?_
 simp only [Act.put, zE1, zE2, zE3]
 refine rd1 2 rfl fun K hK => ?_
 refine ge.step_callW _ (by rfl) (some 123) rfl 17 #[.tmp 122] #[28] rfl (fun q w' => by rfl) #[.pointer (some ⟨c, 0, none⟩)] (by simp only [zM1, zM2, zM3]; rfl) (fun v w' => v = .bool false ∧ w' = y1) ?_ ?_
 ·refine (on_any c false y1 (by rw [← HON.out]; exact (HLP.out.below BP.out).cells.2.1)).mono ?_
  rintro e w' ⟨rfl, hw⟩
  exact ⟨_, rfl, rfl, hw⟩
 rintro v9 w9 ⟨rfl, hw9⟩
 subst hw9
 refine hK.out _ _ hS (fun _ => ?_)
 simp only [Act.put, zE1, zE2, zE3]
 clear hK K
 refine tkG 6 (some 127) (.bool true) rfl rfl hS ?_
 simp only [Act.put, zE1, zE2, zE3]
 refine rd1 7 rfl fun K hK => ?_
 refine step_storeC _ rfl none rfl (.tmp 6) (.tmp 121) 38 rfl w2.heap.size [.int .i64 0, .int .i64 0, .int .i64 0, .int .i64 0, .int .i64 0, .int .i64 0, .slice none 0 0, .slice none 0 0, .bool false, .int .i64 0] (chr [(N : Int), P, g2, g3, g4, g5] (.slice bq N bc) (.slice po pn pc) true n0) rfl rfl HZ.out rfl rowy_chipR.2 chr_one ?_
 intro y2 V9 g9
 have hS : Vr y2 w.heap.size (chr [(N : Int), P, g2, g3, g4, g5] (.slice bq N bc) (.slice po pn pc) true n0) := hS.heap (g9.block _ (range_lt hS.1 (by simp [chr])) (by have := LO.out; simp; omega))
 have HV := hdH (V9)
 have HF : Hid (StpD M E w c r d q pv [(N : Int), P, g2, g3, g4, g5] N P S pl s2 X (.returned (.tuple #[.agg (chr [(N : Int), P, g2, g3, g4, g5] (.slice bq N bc) (.slice po pn pc) true n0).toArray, .bool true])) y2) := stp_fin2 HL.out (HLP.out.below BP.out) FR.out HM.out (by have := LO.out; omega) HT.out zc_nobyte HR.out g9
 clear V9 g9
 refine hK.out _ _ hS (fun _ => ?_)
 simp only [Act.put]
 clear hK K
 refine tkR 8 (some 7) (.bool true) rfl rfl hS ?_
 simp only [Act.put, zE1, zE2, zE3]
 refine wpAnyH_done (by kernel_rfl) ?_ _
 go_wp2
 exact bodyPost_ret (v := .tuple #[.agg (chr [(N : Int), P, g2, g3, g4, g5] (.slice bq N bc) (.slice po pn pc) true n0).toArray, .bool true]) (results_cv rfl _ _ w2.heap.size _ _ rowy_chipR rfl rfl HV.out.1) rfl HF.out
theorem othtb (N P S : Nat) (g2 g3 g4 g5 : Int) (hs : Shp [(N : Int), P, g2, g3, g4, g5] N P S) (bq : Option Addr) (bc : Nat) (po : Option Addr) (pn pc : Nat) (n0 : Int) (s2 : St) (X : Raw) (k : Int) (hk : k ≠ 1 ∧ k ≠ 2 ∧ k ≠ 3 ∧ k ≠ 4 ∧ k ≠ 5) (b p : Int) (on : Bool) (hon : xo X = false) 
  (hL : Lay M w c r d q pv tv [(N : Int), P, g2, g3, g4, g5] N P S pl X) (hM : Mlt M w) (hR : Ref (hid (uni M E) w) (.agg (chr [(N : Int), P, g2, g3, g4, g5] (.slice bq N bc) (.slice po pn pc) true n0).toArray) [(N : Int), P, g2, g3, g4, g5] N P pl s2) :
  Calls Try.prog 15 #[.pointer (some ⟨c, 0, none⟩), .agg (chr [(N : Int), P, g2, g3, g4, g5] (.slice bq N bc) (.slice po pn pc) true n0).toArray, .agg ([.int .i64 k, .int .i64 b, .int .i64 p, .int .u8 7, .bool on] : List Value).toArray] w (StpD M E w c r d q pv [(N : Int), P, g2, g3, g4, g5] N P S pl s2 X) := by
 have HL := hdH (hL)
 have HLP := hdH (hL)
 have HON : Hid (xo X = false) := hon
 have HC : Hid (c < w.heap.size) := hL.2.2.2.2.2.2.2.2.2.1
 have HM := hdH (hM)
 have HR := hdH (hR)
 have HX : Hid ((0 : Int) ≤ 7 ∧ (7 : Int) ≤ 255) := by show _ ∧ _; omega
 have HS1 : Hid (1 ≤ S) := by show _ ≤ _; have := shp_num hs; omega
 have k1 : (k == 1) = false := beq_eq_false_iff_ne.2 hk.1
 have k2 : (k == 2) = false := beq_eq_false_iff_ne.2 hk.2.1
 have k3 : (k == 3) = false := beq_eq_false_iff_ne.2 hk.2.2.1
 have k4 : (k == 4) = false := beq_eq_false_iff_ne.2 hk.2.2.2.1
 have k5 : (k == 5) = false := beq_eq_false_iff_ne.2 hk.2.2.2.2
 clear hk
 have SB := hdH (fun w0 => lbytes_any S (by have := shp_num hs; omega) 7 HX.out w0)
 have eS : g2 + 88 = (S : Int) := hs.2.2.2.2
 have qw : IntKind.i64.wrap (g2 + 88) = (S : Int) := by rw [IntKind.wrap_i64]; have := shp_num hs; omega
 clear hL hM hR hs eS hon
 have t0 := tR
 go_enter Try.func15, Try.ntmps15
 go_wp2_with (first
  | (have q8 := t8; refine cut_hid (M := M) _ rfl (.tmp 27) (.const (.int .i64 1)) rfl _ (bts S 7) 1 rfl rfl (by rw [bts_len]; exact HS1.out) HY.out ?_; intro v8 Y8; clear Y8 t8; have t4 := tR)
  | (have q3 := t3; go_at_call 25; refine (SB.out w3).mono ?_; rintro e9 w4 ⟨v4, rfl, O4, B4⟩; clear r2 sc3; have HZo := HZ.out; have HA := vB HA B4 (vlt HA.out); have HS := vB HS B4 (vlt HS.out); have HZ := vB HZ B4 (vlt HZ.out); have HT : Hid (∃ fr, w4.heap[w2.heap.size]? = some (.cells ((zC : List Value)).toArray 38 fr)) := (by obtain ⟨fr, z⟩ := HT.out; exact ⟨fr, by rw [B4.block _ (range_lt HZo.1 (by simp))]; exact z⟩); have BB := bT BB B4; have HY : Hid (Byt (hid M w4) v4 (bts S 7)) := own_hidS O4 (bts_all S 7 HX.out) (fun k hk => Nat.lt_of_lt_of_le (HM.out k hk) (by have := LO.out; omega)); have LO : Hid (w.heap.size < w1.heap.size ∧ w1.heap.size < w2.heap.size ∧ w2.heap.size < w4.heap.size) := ⟨LO.out.1, LO.out.2.1, Nat.lt_of_lt_of_le LO.out.2.2 B4.size⟩; obtain ⟨r0, r1, r2, r3, r4, r5, r6, r7, r8, r9⟩ := vK10 HA.out; obtain ⟨sc0, sc1, sc2, sc3, sc4⟩ := vK5 HS.out; have FR : Hid (Frm M w w4) := Frm.of_below BB.out; have BP := hdH (BB.out); clear O4 B4 HZo t3; have t8 := tR)
  | (have q2 := t2; (with_reducible refine at_alloc ?_); refine new_lawT _ _ zero_chr ?_; intro w3 X3 O3 B3 l3; have HZ := hdH (X3); have HT := hdH (O3); have HA := vB HA B3 (vlt HA.out); have HS := vB HS B3 (vlt HS.out); have BB := bT BB B3; have LO : Hid (w.heap.size < w1.heap.size ∧ w1.heap.size < w2.heap.size ∧ w2.heap.size < w3.heap.size) := ⟨l1, l2, l3⟩; have r2 := HA.out.cell 2 _ rfl; have sc3 := HS.out.cell 3 _ rfl; clear X3 O3 B3 t2 l1 l2 l3; have t3 := tR)
  | (have q1 := t1; refine box_lawC _ [.int .i64 k, .int .i64 b, .int .i64 p, .int .u8 7, .bool on] rfl ?_; intro w2 X2 B2 l2; have HS := hdH (X2); have HA := vB HA B2 (vlt HA.out); have BB := bT BB B2; clear X2 B2 t1; have t2 := tR)
  | (have q0 := t0; refine box_lawC _ (chr [(N : Int), P, g2, g3, g4, g5] (.slice bq N bc) (.slice po pn pc) true n0) rfl ?_; intro w1 X1 B1 l1; have HA := hdH (X1); have BB := hdH (B1); clear X1 B1 t0; have t1 := tR))
 have BP : Hid (Below w.heap.size w w4.drew) := BP.out.drew
 have FR : Hid (Frm M w w4.drew) := FR.out.drewN 1
 have HT : Hid (∃ fr, w4.drew.heap[w2.heap.size]? = some (.cells ((zC : List Value)).toArray 38 fr)) := HT.out
 have HZ : Hid (Vr w4.drew w2.heap.size zC) := HZ.out.drewN 1
 refine wp_region_held_drew (S := fun w' => Vr w' w.heap.size (chr [(N : Int), P, g2, g3, g4, g5] (.slice bq N bc) (.slice po pn pc) true n0)) (by kernel_rfl) HA.out (fun hS => ?_)
 obtain ⟨y1, hx0⟩ : ∃ x, x = w4.drew := ⟨_, rfl⟩
 rw [← hx0] at hS BP FR HT HZ ⊢
 clear hx0
 refine tkH 0 (some 121) (.agg (chr [(N : Int), P, g2, g3, g4, g5] (.slice bq N bc) (.slice po pn pc) true n0).toArray) rfl rfl (Or.inl ⟨by rfl, fun w' hw' => by exact exec_loadN 38 (.tmp 4) rfl _ rfl _ _ (load_cells rowy_chipR hw'.1)⟩) hS ?_
 simp only [Act.put, zE1, zE2, zE3]
 refine tkR 1 (some 122) (.pointer (some ⟨c, 0, none⟩)) rfl rfl hS ?_
 simp only [Act.put, zE1, zE2, zE3]
 refine tkG 3 (some 124) (.pointer (some ⟨w.heap.size, 8, none⟩)) rfl rfl hS ?_
 simp only [Act.put, zE1, zE2, zE3]
 refine tkH 4 (some 125) (.bool true) rfl rfl (Or.inl ⟨by rfl, fun w' hw' => by exact exec_loadN 4 (.tmp 124) rfl _ rfl _ _ (load_one oneBool (hw'.cell 8 _ rfl))⟩) hS ?_
 simp only [Act.put, zE1, zE2, zE3]
 refine tkG 5 (some 126) (.bool false) rfl rfl hS ?_
 simp only [Act.put, zE1, zE2, zE3]
 refine rd1 2 rfl fun K hK => ?_
 refine ge.step_callW _ (by rfl) (some 123) rfl 17 #[.tmp 122] #[28] rfl (fun q w' => by rfl) #[.pointer (some ⟨c, 0, none⟩)] (by simp only [zM1, zM2, zM3]; rfl) (fun v w' => v = .bool false ∧ w' = y1) ?_ ?_
 ·refine (on_any c false y1 (by rw [← HON.out]; exact (HLP.out.below BP.out).cells.2.1)).mono ?_
  rintro e w' ⟨rfl, hw⟩
  exact ⟨_, rfl, rfl, hw⟩
 rintro v9 w9 ⟨rfl, hw9⟩
 subst hw9
 refine hK.out _ _ hS (fun _ => ?_)
 simp only [Act.put, zE1, zE2, zE3]
 clear hK K
 refine tkG 6 (some 127) (.bool true) rfl rfl hS ?_
 simp only [Act.put, zE1, zE2, zE3]
 refine rd1 7 rfl fun K hK => ?_
 refine step_storeC _ rfl none rfl (.tmp 6) (.tmp 121) 38 rfl w2.heap.size [.int .i64 0, .int .i64 0, .int .i64 0, .int .i64 0, .int .i64 0, .int .i64 0, .slice none 0 0, .slice none 0 0, .bool false, .int .i64 0] (chr [(N : Int), P, g2, g3, g4, g5] (.slice bq N bc) (.slice po pn pc) true n0) rfl rfl HZ.out rfl rowy_chipR.2 chr_one ?_
 intro y2 V9 g9
 have hS : Vr y2 w.heap.size (chr [(N : Int), P, g2, g3, g4, g5] (.slice bq N bc) (.slice po pn pc) true n0) := hS.heap (g9.block _ (range_lt hS.1 (by simp [chr])) (by have := LO.out; simp; omega))
 have HV := hdH (V9)
 have HF : Hid (StpD M E w c r d q pv [(N : Int), P, g2, g3, g4, g5] N P S pl s2 X (.returned (.tuple #[.agg (chr [(N : Int), P, g2, g3, g4, g5] (.slice bq N bc) (.slice po pn pc) true n0).toArray, .bool true])) y2) := stp_fin2 HL.out (HLP.out.below BP.out) FR.out HM.out (by have := LO.out; omega) HT.out zc_nobyte HR.out g9
 clear V9 g9
 refine hK.out _ _ hS (fun _ => ?_)
 simp only [Act.put]
 clear hK K
 refine tkR 8 (some 7) (.bool true) rfl rfl hS ?_
 simp only [Act.put, zE1, zE2, zE3]
 refine wpAnyH_done (by kernel_rfl) ?_ _
 go_wp2
 exact bodyPost_ret (v := .tuple #[.agg (chr [(N : Int), P, g2, g3, g4, g5] (.slice bq N bc) (.slice po pn pc) true n0).toArray, .bool true]) (results_cv rfl _ _ w2.heap.size _ _ rowy_chipR rfl rfl HV.out.1) rfl HF.out
theorem othfa (N P S : Nat) (g2 g3 g4 g5 : Int) (hs : Shp [(N : Int), P, g2, g3, g4, g5] N P S) (bq : Option Addr) (bc : Nat) (po : Option Addr) (pn pc : Nat) (n0 : Int) (s2 : St) (X : Raw) (k : Int) (hk : k ≠ 1 ∧ k ≠ 2 ∧ k ≠ 3 ∧ k ≠ 4 ∧ k ≠ 5) (b p : Int) (x : Int) (hx : 0 ≤ x ∧ x ≤ 255) (h7 : x ≠ 7) (on : Bool) (hon : xo X = true) 
  (hL : Lay M w c r d q pv tv [(N : Int), P, g2, g3, g4, g5] N P S pl X) (hM : Mlt M w) (hR : Ref (hid (uni M E) w) (.agg (chr [(N : Int), P, g2, g3, g4, g5] (.slice bq N bc) (.slice po pn pc) false n0).toArray) [(N : Int), P, g2, g3, g4, g5] N P pl s2) :
  Calls Try.prog 15 #[.pointer (some ⟨c, 0, none⟩), .agg (chr [(N : Int), P, g2, g3, g4, g5] (.slice bq N bc) (.slice po pn pc) false n0).toArray, .agg ([.int .i64 k, .int .i64 b, .int .i64 p, .int .u8 x, .bool on] : List Value).toArray] w (StpD M E w c r d q pv [(N : Int), P, g2, g3, g4, g5] N P S pl s2 X) := by
 have HL := hdH (hL)
 have HLP := hdH (hL)
 have HON : Hid (xo X = true) := hon
 have HC : Hid (c < w.heap.size) := hL.2.2.2.2.2.2.2.2.2.1
 have HM := hdH (hM)
 have HR := hdH (hR)
 have HX := hdH (hx)
 have e7 : (x == 7) = false := beq_eq_false_iff_ne.2 h7
 have k1 : (k == 1) = false := beq_eq_false_iff_ne.2 hk.1
 have k2 : (k == 2) = false := beq_eq_false_iff_ne.2 hk.2.1
 have k3 : (k == 3) = false := beq_eq_false_iff_ne.2 hk.2.2.1
 have k4 : (k == 4) = false := beq_eq_false_iff_ne.2 hk.2.2.2.1
 have k5 : (k == 5) = false := beq_eq_false_iff_ne.2 hk.2.2.2.2
 clear hk
 have SB := hdH (fun w0 => lbytes_any S (by have := shp_num hs; omega) x HX.out w0)
 have eS : g2 + 88 = (S : Int) := hs.2.2.2.2
 have qw : IntKind.i64.wrap (g2 + 88) = (S : Int) := by rw [IntKind.wrap_i64]; have := shp_num hs; omega
 clear hL hM hR hs eS hx h7 hon
 have t0 := tR
 go_enter Try.func15, Try.ntmps15
 go_wp2_with (first
  | (have q3 := t3; go_at_call 25; refine (SB.out w3).mono ?_; rintro e9 w4 ⟨v4, rfl, O4, B4⟩; clear r2 sc3; have HZo := HZ.out; have HA := vB HA B4 (vlt HA.out); have HS := vB HS B4 (vlt HS.out); have HZ := vB HZ B4 (vlt HZ.out); have HT : Hid (∃ fr, w4.heap[w2.heap.size]? = some (.cells ((zC : List Value)).toArray 38 fr)) := (by obtain ⟨fr, z⟩ := HT.out; exact ⟨fr, by rw [B4.block _ (range_lt HZo.1 (by simp))]; exact z⟩); have BB := bT BB B4; have HY : Hid (Byt (hid M w4) v4 (bts S x)) := own_hidS O4 (bts_all S x HX.out) (fun k hk => Nat.lt_of_lt_of_le (HM.out k hk) (by have := LO.out; omega)); have LO : Hid (w.heap.size < w1.heap.size ∧ w1.heap.size < w2.heap.size ∧ w2.heap.size < w4.heap.size) := ⟨LO.out.1, LO.out.2.1, Nat.lt_of_lt_of_le LO.out.2.2 B4.size⟩; obtain ⟨r0, r1, r2, r3, r4, r5, r6, r7, r8, r9⟩ := vK10 HA.out; obtain ⟨sc0, sc1, sc2, sc3, sc4⟩ := vK5 HS.out; have FR : Hid (Frm M w w4) := Frm.of_below BB.out; have BP := hdH (BB.out); clear O4 B4 HZo t3; have t4 := tR)
  | (have q2 := t2; (with_reducible refine at_alloc ?_); refine new_lawT _ _ zero_chr ?_; intro w3 X3 O3 B3 l3; have HZ := hdH (X3); have HT := hdH (O3); have HA := vB HA B3 (vlt HA.out); have HS := vB HS B3 (vlt HS.out); have BB := bT BB B3; have LO : Hid (w.heap.size < w1.heap.size ∧ w1.heap.size < w2.heap.size ∧ w2.heap.size < w3.heap.size) := ⟨l1, l2, l3⟩; have r2 := HA.out.cell 2 _ rfl; have sc3 := HS.out.cell 3 _ rfl; clear X3 O3 B3 t2 l1 l2 l3; have t3 := tR)
  | (have q1 := t1; refine box_lawC _ [.int .i64 k, .int .i64 b, .int .i64 p, .int .u8 x, .bool on] rfl ?_; intro w2 X2 B2 l2; have HS := hdH (X2); have HA := vB HA B2 (vlt HA.out); have BB := bT BB B2; clear X2 B2 t1; have t2 := tR)
  | (have q0 := t0; refine box_lawC _ (chr [(N : Int), P, g2, g3, g4, g5] (.slice bq N bc) (.slice po pn pc) false n0) rfl ?_; intro w1 X1 B1 l1; have HA := hdH (X1); have BB := hdH (B1); clear X1 B1 t0; have t1 := tR))
 have BP : Hid (Below w.heap.size w w4.drew) := BP.out.drew
 have FR : Hid (Frm M w w4.drew) := FR.out.drewN 1
 have HT : Hid (∃ fr, w4.drew.heap[w2.heap.size]? = some (.cells ((zC : List Value)).toArray 38 fr)) := HT.out
 have HZ : Hid (Vr w4.drew w2.heap.size zC) := HZ.out.drewN 1
 refine wp_region_held_drew (S := fun w' => Vr w' w.heap.size (chr [(N : Int), P, g2, g3, g4, g5] (.slice bq N bc) (.slice po pn pc) false n0)) (by kernel_rfl) HA.out (fun hS => ?_)
 obtain ⟨y1, hx0⟩ : ∃ x, x = w4.drew := ⟨_, rfl⟩
 rw [← hx0] at hS BP FR HT HZ ⊢
 clear hx0
 refine tkH 0 (some 121) (.agg (chr [(N : Int), P, g2, g3, g4, g5] (.slice bq N bc) (.slice po pn pc) false n0).toArray) rfl rfl (Or.inl ⟨by rfl, fun w' hw' => by exact exec_loadN 38 (.tmp 4) rfl _ rfl _ _ (load_cells rowy_chipR hw'.1)⟩) hS ?_
 simp only [Act.put, zE1, zE2, zE3]
 refine tkR 1 (some 122) (.pointer (some ⟨c, 0, none⟩)) rfl rfl hS ?_
 simp only [Act.put, zE1, zE2, zE3]
 refine tkG 3 (some 124) (.pointer (some ⟨w.heap.size, 8, none⟩)) rfl rfl hS ?_
 simp only [Act.put, zE1, zE2, zE3]
 refine tkH 4 (some 125) (.bool false) rfl rfl (Or.inl ⟨by rfl, fun w' hw' => by exact exec_loadN 4 (.tmp 124) rfl _ rfl _ _ (load_one oneBool (hw'.cell 8 _ rfl))⟩) hS ?_
 simp only [Act.put, zE1, zE2, zE3]
 refine tkG 5 (some 126) (.bool true) rfl rfl hS ?_
 simp only [Act.put, zE1, zE2, zE3]
 refine rd1 2 rfl fun K hK => ?_
 refine ge.step_callW _ (by rfl) (some 123) rfl 17 #[.tmp 122] #[28] rfl (fun q w' => by rfl) #[.pointer (some ⟨c, 0, none⟩)] (by simp only [zM1, zM2, zM3]; rfl) (fun v w' => v = .bool true ∧ w' = y1) ?_ ?_
 ·refine (on_any c true y1 (by rw [← HON.out]; exact (HLP.out.below BP.out).cells.2.1)).mono ?_
  rintro e w' ⟨rfl, hw⟩
  exact ⟨_, rfl, rfl, hw⟩
 rintro v9 w9 ⟨rfl, hw9⟩
 subst hw9
 refine hK.out _ _ hS (fun _ => ?_)
 simp only [Act.put, zE1, zE2, zE3]
 clear hK K
 refine tkG 6 (some 127) (.bool true) rfl rfl hS ?_
 simp only [Act.put, zE1, zE2, zE3]
 refine rd1 7 rfl fun K hK => ?_
 refine step_storeC _ rfl none rfl (.tmp 6) (.tmp 121) 38 rfl w2.heap.size [.int .i64 0, .int .i64 0, .int .i64 0, .int .i64 0, .int .i64 0, .int .i64 0, .slice none 0 0, .slice none 0 0, .bool false, .int .i64 0] (chr [(N : Int), P, g2, g3, g4, g5] (.slice bq N bc) (.slice po pn pc) false n0) rfl rfl HZ.out rfl rowy_chipR.2 chr_one ?_
 intro y2 V9 g9
 have hS : Vr y2 w.heap.size (chr [(N : Int), P, g2, g3, g4, g5] (.slice bq N bc) (.slice po pn pc) false n0) := hS.heap (g9.block _ (range_lt hS.1 (by simp [chr])) (by have := LO.out; simp; omega))
 have HV := hdH (V9)
 have HF : Hid (StpD M E w c r d q pv [(N : Int), P, g2, g3, g4, g5] N P S pl s2 X (.returned (.tuple #[.agg (chr [(N : Int), P, g2, g3, g4, g5] (.slice bq N bc) (.slice po pn pc) false n0).toArray, .bool true])) y2) := stp_fin2 HL.out (HLP.out.below BP.out) FR.out HM.out (by have := LO.out; omega) HT.out zc_nobyte HR.out g9
 clear V9 g9
 refine hK.out _ _ hS (fun _ => ?_)
 simp only [Act.put]
 clear hK K
 refine tkR 8 (some 7) (.bool true) rfl rfl hS ?_
 simp only [Act.put, zE1, zE2, zE3]
 refine wpAnyH_done (by kernel_rfl) ?_ _
 go_wp2
 exact bodyPost_ret (v := .tuple #[.agg (chr [(N : Int), P, g2, g3, g4, g5] (.slice bq N bc) (.slice po pn pc) false n0).toArray, .bool true]) (results_cv rfl _ _ w2.heap.size _ _ rowy_chipR rfl rfl HV.out.1) rfl HF.out
theorem othfb (N P S : Nat) (g2 g3 g4 g5 : Int) (hs : Shp [(N : Int), P, g2, g3, g4, g5] N P S) (bq : Option Addr) (bc : Nat) (po : Option Addr) (pn pc : Nat) (n0 : Int) (s2 : St) (X : Raw) (k : Int) (hk : k ≠ 1 ∧ k ≠ 2 ∧ k ≠ 3 ∧ k ≠ 4 ∧ k ≠ 5) (b p : Int) (on : Bool) (hon : xo X = true) 
  (hL : Lay M w c r d q pv tv [(N : Int), P, g2, g3, g4, g5] N P S pl X) (hM : Mlt M w) (hR : Ref (hid (uni M E) w) (.agg (chr [(N : Int), P, g2, g3, g4, g5] (.slice bq N bc) (.slice po pn pc) false n0).toArray) [(N : Int), P, g2, g3, g4, g5] N P pl s2) :
  Calls Try.prog 15 #[.pointer (some ⟨c, 0, none⟩), .agg (chr [(N : Int), P, g2, g3, g4, g5] (.slice bq N bc) (.slice po pn pc) false n0).toArray, .agg ([.int .i64 k, .int .i64 b, .int .i64 p, .int .u8 7, .bool on] : List Value).toArray] w (StpD M E w c r d q pv [(N : Int), P, g2, g3, g4, g5] N P S pl s2 X) := by
 have HL := hdH (hL)
 have HLP := hdH (hL)
 have HON : Hid (xo X = true) := hon
 have HC : Hid (c < w.heap.size) := hL.2.2.2.2.2.2.2.2.2.1
 have HM := hdH (hM)
 have HR := hdH (hR)
 have HX : Hid ((0 : Int) ≤ 7 ∧ (7 : Int) ≤ 255) := by show _ ∧ _; omega
 have HS1 : Hid (1 ≤ S) := by show _ ≤ _; have := shp_num hs; omega
 have k1 : (k == 1) = false := beq_eq_false_iff_ne.2 hk.1
 have k2 : (k == 2) = false := beq_eq_false_iff_ne.2 hk.2.1
 have k3 : (k == 3) = false := beq_eq_false_iff_ne.2 hk.2.2.1
 have k4 : (k == 4) = false := beq_eq_false_iff_ne.2 hk.2.2.2.1
 have k5 : (k == 5) = false := beq_eq_false_iff_ne.2 hk.2.2.2.2
 clear hk
 have SB := hdH (fun w0 => lbytes_any S (by have := shp_num hs; omega) 7 HX.out w0)
 have eS : g2 + 88 = (S : Int) := hs.2.2.2.2
 have qw : IntKind.i64.wrap (g2 + 88) = (S : Int) := by rw [IntKind.wrap_i64]; have := shp_num hs; omega
 clear hL hM hR hs eS hon
 have t0 := tR
 go_enter Try.func15, Try.ntmps15
 go_wp2_with (first
  | (have q8 := t8; refine cut_hid (M := M) _ rfl (.tmp 27) (.const (.int .i64 1)) rfl _ (bts S 7) 1 rfl rfl (by rw [bts_len]; exact HS1.out) HY.out ?_; intro v8 Y8; clear Y8 t8; have t4 := tR)
  | (have q3 := t3; go_at_call 25; refine (SB.out w3).mono ?_; rintro e9 w4 ⟨v4, rfl, O4, B4⟩; clear r2 sc3; have HZo := HZ.out; have HA := vB HA B4 (vlt HA.out); have HS := vB HS B4 (vlt HS.out); have HZ := vB HZ B4 (vlt HZ.out); have HT : Hid (∃ fr, w4.heap[w2.heap.size]? = some (.cells ((zC : List Value)).toArray 38 fr)) := (by obtain ⟨fr, z⟩ := HT.out; exact ⟨fr, by rw [B4.block _ (range_lt HZo.1 (by simp))]; exact z⟩); have BB := bT BB B4; have HY : Hid (Byt (hid M w4) v4 (bts S 7)) := own_hidS O4 (bts_all S 7 HX.out) (fun k hk => Nat.lt_of_lt_of_le (HM.out k hk) (by have := LO.out; omega)); have LO : Hid (w.heap.size < w1.heap.size ∧ w1.heap.size < w2.heap.size ∧ w2.heap.size < w4.heap.size) := ⟨LO.out.1, LO.out.2.1, Nat.lt_of_lt_of_le LO.out.2.2 B4.size⟩; obtain ⟨r0, r1, r2, r3, r4, r5, r6, r7, r8, r9⟩ := vK10 HA.out; obtain ⟨sc0, sc1, sc2, sc3, sc4⟩ := vK5 HS.out; have FR : Hid (Frm M w w4) := Frm.of_below BB.out; have BP := hdH (BB.out); clear O4 B4 HZo t3; have t8 := tR)
  | (have q2 := t2; (with_reducible refine at_alloc ?_); refine new_lawT _ _ zero_chr ?_; intro w3 X3 O3 B3 l3; have HZ := hdH (X3); have HT := hdH (O3); have HA := vB HA B3 (vlt HA.out); have HS := vB HS B3 (vlt HS.out); have BB := bT BB B3; have LO : Hid (w.heap.size < w1.heap.size ∧ w1.heap.size < w2.heap.size ∧ w2.heap.size < w3.heap.size) := ⟨l1, l2, l3⟩; have r2 := HA.out.cell 2 _ rfl; have sc3 := HS.out.cell 3 _ rfl; clear X3 O3 B3 t2 l1 l2 l3; have t3 := tR)
  | (have q1 := t1; refine box_lawC _ [.int .i64 k, .int .i64 b, .int .i64 p, .int .u8 7, .bool on] rfl ?_; intro w2 X2 B2 l2; have HS := hdH (X2); have HA := vB HA B2 (vlt HA.out); have BB := bT BB B2; clear X2 B2 t1; have t2 := tR)
  | (have q0 := t0; refine box_lawC _ (chr [(N : Int), P, g2, g3, g4, g5] (.slice bq N bc) (.slice po pn pc) false n0) rfl ?_; intro w1 X1 B1 l1; have HA := hdH (X1); have BB := hdH (B1); clear X1 B1 t0; have t1 := tR))
 have BP : Hid (Below w.heap.size w w4.drew) := BP.out.drew
 have FR : Hid (Frm M w w4.drew) := FR.out.drewN 1
 have HT : Hid (∃ fr, w4.drew.heap[w2.heap.size]? = some (.cells ((zC : List Value)).toArray 38 fr)) := HT.out
 have HZ : Hid (Vr w4.drew w2.heap.size zC) := HZ.out.drewN 1
 refine wp_region_held_drew (S := fun w' => Vr w' w.heap.size (chr [(N : Int), P, g2, g3, g4, g5] (.slice bq N bc) (.slice po pn pc) false n0)) (by kernel_rfl) HA.out (fun hS => ?_)
 obtain ⟨y1, hx0⟩ : ∃ x, x = w4.drew := ⟨_, rfl⟩
 rw [← hx0] at hS BP FR HT HZ ⊢
 clear hx0
 refine tkH 0 (some 121) (.agg (chr [(N : Int), P, g2, g3, g4, g5] (.slice bq N bc) (.slice po pn pc) false n0).toArray) rfl rfl (Or.inl ⟨by rfl, fun w' hw' => by exact exec_loadN 38 (.tmp 4) rfl _ rfl _ _ (load_cells rowy_chipR hw'.1)⟩) hS ?_
 simp only [Act.put, zE1, zE2, zE3]
 refine tkR 1 (some 122) (.pointer (some ⟨c, 0, none⟩)) rfl rfl hS ?_
 simp only [Act.put, zE1, zE2, zE3]
 refine tkG 3 (some 124) (.pointer (some ⟨w.heap.size, 8, none⟩)) rfl rfl hS ?_
 simp only [Act.put, zE1, zE2, zE3]
 refine tkH 4 (some 125) (.bool false) rfl rfl (Or.inl ⟨by rfl, fun w' hw' => by exact exec_loadN 4 (.tmp 124) rfl _ rfl _ _ (load_one oneBool (hw'.cell 8 _ rfl))⟩) hS ?_
 simp only [Act.put, zE1, zE2, zE3]
 refine tkG 5 (some 126) (.bool true) rfl rfl hS ?_
 simp only [Act.put, zE1, zE2, zE3]
 refine rd1 2 rfl fun K hK => ?_
 refine ge.step_callW _ (by rfl) (some 123) rfl 17 #[.tmp 122] #[28] rfl (fun q w' => by rfl) #[.pointer (some ⟨c, 0, none⟩)] (by simp only [zM1, zM2, zM3]; rfl) (fun v w' => v = .bool true ∧ w' = y1) ?_ ?_
 ·refine (on_any c true y1 (by rw [← HON.out]; exact (HLP.out.below BP.out).cells.2.1)).mono ?_
  rintro e w' ⟨rfl, hw⟩
  exact ⟨_, rfl, rfl, hw⟩
 rintro v9 w9 ⟨rfl, hw9⟩
 subst hw9
 refine hK.out _ _ hS (fun _ => ?_)
 simp only [Act.put, zE1, zE2, zE3]
 clear hK K
 refine tkG 6 (some 127) (.bool true) rfl rfl hS ?_
 simp only [Act.put, zE1, zE2, zE3]
 refine rd1 7 rfl fun K hK => ?_
 refine step_storeC _ rfl none rfl (.tmp 6) (.tmp 121) 38 rfl w2.heap.size [.int .i64 0, .int .i64 0, .int .i64 0, .int .i64 0, .int .i64 0, .int .i64 0, .slice none 0 0, .slice none 0 0, .bool false, .int .i64 0] (chr [(N : Int), P, g2, g3, g4, g5] (.slice bq N bc) (.slice po pn pc) false n0) rfl rfl HZ.out rfl rowy_chipR.2 chr_one ?_
 intro y2 V9 g9
 have hS : Vr y2 w.heap.size (chr [(N : Int), P, g2, g3, g4, g5] (.slice bq N bc) (.slice po pn pc) false n0) := hS.heap (g9.block _ (range_lt hS.1 (by simp [chr])) (by have := LO.out; simp; omega))
 have HV := hdH (V9)
 have HF : Hid (StpD M E w c r d q pv [(N : Int), P, g2, g3, g4, g5] N P S pl s2 X (.returned (.tuple #[.agg (chr [(N : Int), P, g2, g3, g4, g5] (.slice bq N bc) (.slice po pn pc) false n0).toArray, .bool true])) y2) := stp_fin2 HL.out (HLP.out.below BP.out) FR.out HM.out (by have := LO.out; omega) HT.out zc_nobyte HR.out g9
 clear V9 g9
 refine hK.out _ _ hS (fun _ => ?_)
 simp only [Act.put]
 clear hK K
 refine tkR 8 (some 7) (.bool true) rfl rfl hS ?_
 simp only [Act.put, zE1, zE2, zE3]
 refine wpAnyH_done (by kernel_rfl) ?_ _
 go_wp2
 exact bodyPost_ret (v := .tuple #[.agg (chr [(N : Int), P, g2, g3, g4, g5] (.slice bq N bc) (.slice po pn pc) false n0).toArray, .bool true]) (results_cv rfl _ _ w2.heap.size _ _ rowy_chipR rfl rfl HV.out.1) rfl HF.out
end
end Go.Proofs.Ytikcohjhhoiakaa.na
