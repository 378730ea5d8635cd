/- Texts put together. -/
import Derived.Test.YtikcohjhhoiakaaPk19
import Derived.Test.YtikcohjhhoiakaaPk13
set_option maxHeartbeats 8000000
namespace Go.Proofs.Ytikcohjhhoiakaa.na
open Go.RowKit Go.Proofs.Ytikcohjhhoiakaa.fa
set_option maxRecDepth 20000
theorem Blk.formG {w : World} {gv uv : Value} {P : Nat} {pg : Nat → List Int} {us : Nat → Int} (h : Blk w gv uv P pg us) : ∃ q c, gv = .slice q P c := by
 obtain ⟨⟨xv, h1, -⟩, -⟩ := h
 exact rws_form h1 (pgc_len P xv)
theorem Blk.formU {w : World} {gv uv : Value} {P : Nat} {pg : Nat → List Int} {us : Nat → Int} (h : Blk w gv uv P pg us) : ∃ q c, uv = .slice q P c := by
 obtain ⟨-, h1⟩ := h
 exact rws_form h1 (usc_len P us)
theorem Blk.one {w : World} {gv uv : Value} {P : Nat} {pg : Nat → List Int} {us : Nat → Int} (h : Blk w gv uv P pg us) : gv.oneCell' = true ∧ uv.oneCell' = true := by
 obtain ⟨q, c, rfl⟩ := h.formG
 obtain ⟨q', c', rfl⟩ := h.formU
 exact ⟨rfl, rfl⟩
theorem BlkO.form {B : Nat} {w : World} {gv uv : Value} {P : Nat} {pg : Nat → List Int} {us : Nat → Int} (h : BlkO B w gv uv P pg us) : ∃ q c q' c', gv = .slice q P c ∧ uv = .slice q' P c' := by
 obtain ⟨⟨xv, a1, -⟩, a3⟩ := h
 obtain ⟨q, c, e⟩ := rws_form a1.rws (pgc_len P xv)
 obtain ⟨q', c', e'⟩ := rws_form a3.rws (usc_len P us)
 exact ⟨q, c, q', c', e, e'⟩
theorem below_set {w w' : World} {b o : Nat} {v : Value} {B : Nat} (h : w' = w.setCell ⟨b, o, none⟩ v) (hB : B ≤ b) (hs : B ≤ w.heap.size) : Below B w w' := by
 have kp : w.grownBy w' (some b) := by rw [h]; exact keep_set _ _ _ _
 exact (Below.refl B w).grown kp hs (fun kk hkk => by have := Option.some.inj hkk; omega)
theorem rer_ok (N P : Nat) (g2 g3 g4 g5 : Int) (bq : Option Addr) (bc : Nat) (po : Option Addr) (pn pc : Nat) (S : Nat) (hs : Shp [(N : Int), P, g2, g3, g4, g5] N P S) (n b : Nat) (hn : n ≤ 1000000) (hb : b < N) (gv uv : Nat → Value) (l : Nat → Int) (s : Nat → Bool) (e : Nat → Int) (pg : Nat → Nat → List Int) (us : Nat → Nat → Int) (pl : Pln) (w : World)
  (hR : Rws w (.slice bq N bc) 5 (bks N gv uv l s e)) (hB : ∀ b, b < N → Blk w (gv b) (uv b) P (pg b) (us b)) (hp : Pla w (.slice po pn pc) pl) (he : 0 ≤ e b ∧ e b ≤ 1000000) (hpl : pl n = none) :
  Calls Try.prog 42 #[.agg (chr [(N : Int), P, g2, g3, g4, g5] (.slice bq N bc) (.slice po pn pc) false (n : Int)).toArray, .int .i64 (b : Int)] w fun x w' => ∃ r rc gw uw, x = .returned (.tuple #[.agg (chr [(N : Int), P, g2, g3, g4, g5] (.slice (some ⟨r, 0, none⟩) N rc) (.slice po pn pc) false ((n + 1 : Nat) : Int)).toArray, .int .i64 0]) ∧ OwR w.heap.size w' (.slice (some ⟨r, 0, none⟩) N rc) 50 5 (bks N (at1 gv b gw) (at1 uv b uw) (at1 l b (-1)) (at1 s b false) (at1 e b (e b + 1))) ∧ BlkO w.heap.size w' gw uw P (fun _ => List.replicate S 255) (fun _ => 0) ∧ Below w.heap.size w w' := by
 have HNM : Hid (N ≤ 64 ∧ P ≤ 32) := by
  obtain ⟨gl, hr, z0, z1, z2⟩ := hs
  obtain ⟨k1, k2, k3, -⟩ := hr.1
  show _ ∧ _
  omega
 have H1 : Hid (∀ b, b < N → (gv b).oneCell' = true ∧ (uv b).oneCell' = true) := fun b hb => (hB b hb).one
 have HR : Hid (∀ w', Below w.heap.size w w' → Rws w' (.slice bq N bc) 5 (bks N gv uv l s e)) := fun w' h => hR.below (by omega) h
 have hN64 : N ≤ 64 := HNM.out.1
 have b0 : (0 : Int) ≤ (b : Int) := by omega
 have b1 : (b : Int) < (N : Int) := by omega
 have nb0 : ¬ (b : Int) < 0 := by omega
 have nb1 : ¬ (N : Int) ≤ (b : Int) := by omega
 have HW : Hid (IntKind.i64.wrap (e b + 1) = e b + 1) := by
  show _ = _
  rw [IntKind.wrap_i64]; omega
 obtain ⟨xq, xc, hx⟩ := (hB b hb).formG
 obtain ⟨yq, yc, hy⟩ := (hB b hb).formU
 have SB := hdH (fun w => blank_any [(N : Int), P, g2, g3, g4, g5] N P S hs w)
 have SC : Hid (∀ w', Below w.heap.size w w' → Calls Try.prog 64 #[.agg (chr [(N : Int), P, g2, g3, g4, g5] (.slice bq N bc) (.slice po pn pc) false (n : Int)).toArray] w' fun e w'' => ∃ mv, e = .returned (.tuple #[.int .i64 0, mv, .bool false]) ∧ Byt w'' mv [] ∧ Below w'.heap.size w' w'') := fun w' h => by
  have := code_any [(N : Int), P, g2, g3, g4, g5] rfl (.slice bq N bc) (.slice po pn pc) false n pl w' (hp.below h)
  rw [hpl] at this
  exact this
 have SW : Hid (∀ w', Below w.heap.size w w' → ∀ (uq vq : Option Addr) (uc vc : Nat), Calls Try.prog 66 #[.agg (chr [(N : Int), P, g2, g3, g4, g5] (.slice bq N bc) (.slice po pn pc) false (n : Int)).toArray, .int .i64 (b : Int), .agg (bkc (.slice uq P uc) (.slice vq P vc) (-1) false (e b + 1)).toArray] w' fun x w'' => ∃ r rc, x = .returned (.agg (chr [(N : Int), P, g2, g3, g4, g5] (.slice (some ⟨r, 0, none⟩) N rc) (.slice po pn pc) false ((n + 1 : Nat) : Int)).toArray) ∧ OwR w'.heap.size w'' (.slice (some ⟨r, 0, none⟩) N rc) 50 5 (bks N (at1 gv b (.slice uq P uc)) (at1 uv b (.slice vq P vc)) (at1 l b (-1)) (at1 s b false) (at1 e b (e b + 1))) ∧ Below w'.heap.size w' w'') := fun w' h uq vq uc vc => with_any N P g2 g3 g4 g5 bq bc po pn pc false n b gv uv l s e uq vq P uc P vc (-1) false (e b + 1) w' hN64 hb hn (HR.out w' h) H1.out
 have hc9 := hR.at (t := b) (by rw [bks_len]; exact hb)
 obtain ⟨bb, off, hbq, hc⟩ := hc9
 subst hbq
 rw [bks_el N gv uv l s e b hb, hx, hy] at hc
 have HC0 : Hid (∀ w', Below w.heap.size w w' → w'.rangeAt bb (off + b * 5) (bkc (.slice xq P xc) (.slice yq P yc) (l b) (s b) (e b))) := fun w' h => range_heap hc (h.block bb (range_lt hc (by simp [bkc])))
 clear hs hR hB hp hpl hc H1 HR
 have t0 := tR
 go_enter Try.func42, Try.ntmps42
 go_wp2_with (first
  | (have q10 := t10; refine store_lawC _ (chr [(N : Int), P, g2, g3, g4, g5] (.slice (some ⟨r, 0, none⟩) N rc) (.slice po pn pc) false ((n + 1 : Nat) : Int)) w1.heap.size 0 rfl rfl HC.out.2 rowy_chipR.2 chrO ?_; intro w11 E11 R11 T11 B11
     have kp : w10.grownBy w11 (some w1.heap.size) := by rw [E11.out]; exact keep_cells _ _ _ _
     have HR9 := hdH (R11)
     have HOw : Hid (OwR w.heap.size w11 (.slice (some ⟨r, 0, none⟩) N rc) 50 5 (bks N (at1 gv b (.slice uq P uc)) (at1 uv b (.slice vq P vc)) (at1 l b (-1)) (at1 s b false) (at1 e b (e b + 1)))) := (HOw.out.kept kp (own_ne fun kk hkk => by have := (HOw.out.1.lt kk hkk).1; have := HL.out; omega)).base (by have := HL.out; omega)
     have HK : Hid (BlkO w.heap.size w11 (.slice uq P uc) (.slice vq P vc) P (fun _ => List.replicate S 255) (fun _ => 0)) := (HK.out.kept kp (by have := HL.out; omega)).base (by have := HL.out; omega)
     have BB := hdH (BB.out.trans (B11.mono (by omega)))
     clear E11 R11 T11 B11 kp t10)
  | (have q9 := t9; go_at_call 66; refine (SW.out _ BB.out uq vq uc vc).mono ?_; rintro e9 w10 ⟨r, rc, rfl, o10, B10⟩
     have HOw := hdH (o10)
     have HK : Hid (BlkO w5.heap.size w10 (.slice uq P uc) (.slice vq P vc) P (fun _ => List.replicate S 255) (fun _ => 0)) := (HK.out.low BC.out).low B10
     have HC := vB HC B10 (vlt HC.out)
     have BB := bT BB B10
     have l10 : w6.heap.size ≤ w9.heap.size := BC.out.size
     clear p0 p1 p2 p3 p4 p5 p6 p7 p8 p9 y0 y1 y2 y3 y4 o10 B10 t9; have t10 := tR)
  | (have q8 := t8; refine store_law1 _ w6.heap.size 4 (.int .i64 (e b + 1)) rfl (by first | rfl | simpa using HW.out) (HY.out.there1 4 (by simp [bkc])) (HY.out.free 4 (by simp [bkc])) one_int.2 rfl rfl ?_; intro w9 E9
     have B9 : Below w6.heap.size w8 w9 := below_set E9.out (Nat.le_refl _) BC.out.size
     have HA := hdH (HA.out.below B9 (by have := HL.out; omega))
     have HC := hdH (HC.out.below B9 (by have := HL.out; omega))
     have BB := hdH (BB.out.trans (B9.mono (by have := HL.out; omega)))
     have BC := hdH (BC.out.trans B9)
     have HY : Hid (Vr w9 w6.heap.size (bkc (.slice uq P uc) (.slice vq P vc) (-1) false (e b + 1))) := by
      have z := HY.out.set 4 (by simp [bkc]) (.int .i64 (e b + 1))
      rw [← E9.out] at z
      exact z
     obtain ⟨p0, p1, p2, p3, p4, p5, p6, p7, p8, p9⟩ := vK10 HA.out
     obtain ⟨y0, y1, y2, y3, y4⟩ := vK5 HY.out
     clear x4 hw9 E9 B9 t8; have t9 := tR)
  | (have q7 := t7; refine store_lawC _ (bkc (.slice uq P uc) (.slice vq P vc) (-1) false 0) w6.heap.size 0 rfl rfl HY0.out.2 rowy_blk.2 bkcO ?_; intro w8 E8 R8 T8 B8
     have HY : Hid (Vr w8 w6.heap.size (bkc (.slice uq P uc) (.slice vq P vc) (-1) false 0)) := ⟨R8, T8⟩
     have HA := hdH (HA.out.below B8 (by have := HL.out; omega))
     have HC := hdH (HC.out.below B8 (by have := HL.out; omega))
     have HX := hdH (HX.out.below B8 (by have := HL.out; omega))
     have BB := hdH (BB.out.trans (B8.mono (by have := HL.out; omega)))
     have BC := hdH (BC.out.trans B8)
     have x4 := HX.out.cell 4 _ rfl
     have hw9 := HW.out
     clear E8 R8 T8 B8 t7; have t8 := tR)
  | (have q6 := t6; refine new_lawC _ _ zero_blk ?_; intro w7 V7 B7 l7; have HY0 := hdH (V7); have HA := vB HA B7 (vlt HA.out); have HC := vB HC B7 (vlt HC.out); have HX := vB HX B7 (vlt HX.out); have BB := bT BB B7; have BC := hdH (B7); clear V7 B7 t6; have t7 := tR)
  | (have q5 := t5; go_at_call 40; refine (SB.out _).mono ?_; rintro e9 w6 ⟨gw, uw, rfl, y6, B6⟩; obtain ⟨uq, uc, vq, vc, rfl, rfl⟩ := y6.form; have HA := vB HA B6 (vlt HA.out); have HC := vB HC B6 (vlt HC.out); have HX := vB HX B6 (vlt HX.out); have BB := bT BB B6
     have HK := hdH (y6)
     have l6 : w3.heap.size < w6.heap.size := Nat.lt_of_lt_of_le l5 B6.size
     have l65 : w5.heap.size ≤ w6.heap.size := B6.size
     clear p0 p1 p2 p3 p4 p5 y6 B6 t5; have t6 := tR)
  | (have q4 := t4; refine store_lawC _ (bkc (.slice xq P xc) (.slice yq P yc) (l b) (s b) (e b)) w3.heap.size 0 rfl rfl HX0.out.2 rowy_blk.2 bkcO ?_; intro w5 E5 R5 T5 B5
     have HX : Hid (Vr w5 w3.heap.size (bkc (.slice xq P xc) (.slice yq P yc) (l b) (s b) (e b))) := ⟨R5, T5⟩
     have HA := hdH (HA.out.below B5 (by have := HL.out; omega))
     have HC := hdH (HC.out.below B5 (by have := HL.out; omega))
     have BB := hdH (BB.out.trans (B5.mono (by have := HL.out; omega)))
     have l5 : w3.heap.size < w5.heap.size := Nat.lt_of_lt_of_le l4 B5.size
     obtain ⟨p0, p1, p2, p3, p4, p5⟩ := vK6 HA.out
     clear E5 R5 T5 B5 t4; have t5 := tR)
  | (have q3 := t3; refine new_lawC _ _ zero_blk ?_; intro w4 V4 B4 l4; have HX0 := hdH (V4); have HA := vB HA B4 (vlt HA.out); have HC := vB HC B4 (vlt HC.out); have BB := bT BB B4; clear c6 d0 d1 d2 d3 d4 V4 B4 t3; have t4 := tR)
  | (have q2 := t2; go_at_call 64; refine (SC.out _ BB.out).mono ?_; rintro e9 w3 ⟨mv, rfl, y3, B3⟩; obtain ⟨mq, mc, rfl⟩ := byt_form y3; have HA := vB HA B3 (vlt HA.out); have HC := vB HC B3 (vlt HC.out); have BB := bT BB B3; have HL : Hid (w.heap.size < w1.heap.size ∧ w1.heap.size < w3.heap.size) := ⟨l1, by have := B3.size; omega⟩
     have c6 := HA.out.cell 6 _ rfl
     have hc := HC0.out w3 BB.out
     have d0 := hc 0 _ rfl
     rw [Nat.add_zero] at d0
     have d1 := hc 1 _ rfl; have d2 := hc 2 _ rfl; have d3 := hc 3 _ rfl; have d4 := hc 4 _ rfl
     clear y3 B3 hc t2; have t3 := tR)
  | (have q1 := t1; refine new_lawC _ _ zero_chr ?_; intro w2 V2 B2 l2; have HC := hdH (V2); have HA := hdH (HA.out.below B2 l1); have BB := hdH (BB.out.trans (B2.mono (by omega))); obtain ⟨r0, r1, r2, r3, r4, r5, r6, r7, r8, r9⟩ := vK10 HA.out; clear V2 B2 t1; have t2 := tR)
  | (have q0 := t0; refine box_lawC _ (chr [(N : Int), P, g2, g3, g4, g5] (.slice (some ⟨bb, off, none⟩) N bc) (.slice po pn pc) false (n : Int)) rfl ?_; intro w1 V1 B1 l1; have HA := hdH (V1); have BB := hdH (B1); clear V1 B1 t0; have t1 := tR))
 exact bodyPost_ret (v := .tuple #[.agg (chr [(N : Int), P, g2, g3, g4, g5] (.slice (some ⟨r, 0, none⟩) N rc) (.slice po pn pc) false ((n + 1 : Nat) : Int)).toArray, .int .i64 0]) (results_cv rfl _ _ w1.heap.size _ _ rowy_chipR rfl rfl HR9.out) rfl ⟨r, rc, _, _, rfl, HOw.out, HK.out, BB.out⟩
theorem own_kept {w w' : World} {B h : Nat} {v : Value} {xs : List Int} (ho : Own B w v xs) (hg : w.grownBy w' (some h)) (hh : h < B) : Own B w' v xs := World.ownsRow.kept ho hg (own_ne fun kk hkk => by have := (World.ownsRow.lt ho kk hkk).1; omega)
theorem owr_kept {w w' : World} {B h : Nat} {v : Value} {t : TypeId} {k : Nat} {es : List (List Value)} (ho : OwR B w v t k es) (hg : w.grownBy w' (some h)) (hh : h < B) : OwR B w' v t k es := ho.kept hg (own_ne fun kk hkk => by have := (ho.1.lt kk hkk).1; omega)
def RerF (N P S : Nat) (g2 g3 g4 g5 : Int) (po : Option Addr) (pn pc n b : Nat) (gv uv : Nat → Value) (l : Nat → Int) (s : Nat → Bool) (e : Nat → Int) (pg : Nat → Nat → List Int) (c : Bool) (m : List Int) (w : World) (x : Ending) (w' : World) : Prop := ∃ r rc gw rr cap, x = .returned (.tuple #[.agg (chr [(N : Int), P, g2, g3, g4, g5] (.slice (some ⟨r, 0, none⟩) N rc) (.slice po pn pc) c ((n + 1 : Nat) : Int)).toArray, .int .i64 (if c then 4 else 5)]) ∧ OwR w.heap.size w' (.slice (some ⟨r, 0, none⟩) N rc) 50 5 (bks N (at1 gv b gw) (at1 uv b (uv b)) (at1 l b (l b)) (at1 s b (s b)) (at1 e b (e b + 1))) ∧ OwR w.heap.size w' gw 53 1 (pgc P (prtv rr 0 S cap)) ∧ Own w.heap.size w' (.slice (some ⟨rr, 0, none⟩) (P * S) cap) (ofb (P * S) (erased (jnd P (pg b)) m)) ∧ P * S ≤ cap ∧ Below w.heap.size w w'
theorem rer_flt (N P : Nat) (g2 g3 g4 g5 : Int) (bq : Option Addr) (bc : Nat) (po : Option Addr) (pn pc : Nat) (S : Nat) (hs : Shp [(N : Int), P, g2, g3, g4, g5] N P S) (n b : Nat) (hn : n ≤ 1000000) (hb : b < N) (gv uv : Nat → Value) (l : Nat → Int) (s : Nat → Bool) (e : Nat → Int) (pg : Nat → Nat → List Int) (us : Nat → Nat → Int) (pl : Pln) (w : World)
  (hR : Rws w (.slice bq N bc) 5 (bks N gv uv l s e)) (hB : ∀ b, b < N → Blk w (gv b) (uv b) P (pg b) (us b)) (hp : Pla w (.slice po pn pc) pl) (he : 0 ≤ e b ∧ e b ≤ 1000000) (hl : ∀ p, p < P → (pg b p).length = S) (c : Bool) (m : List Int) (hpl : pl n = some (c, m)) :
  Calls Try.prog 42 #[.agg (chr [(N : Int), P, g2, g3, g4, g5] (.slice bq N bc) (.slice po pn pc) false (n : Int)).toArray, .int .i64 (b : Int)] w fun x w' => RerF N P S g2 g3 g4 g5 po pn pc n b gv uv l s e pg c m w x w' := by
 have HNM : Hid (N ≤ 64 ∧ P ≤ 32 ∧ 0 < P ∧ S ≤ 4184 ∧ 0 < S) := by
  obtain ⟨gl, hr, z0, z1, z2⟩ := hs
  obtain ⟨k1, k2, k3, -⟩ := hr.1
  show _ ∧ _ ∧ _ ∧ _ ∧ _
  omega
 have H1 : Hid (∀ b, b < N → (gv b).oneCell' = true ∧ (uv b).oneCell' = true) := fun b hb => (hB b hb).one
 have HR : Hid (∀ w', Below w.heap.size w w' → Rws w' (.slice bq N bc) 5 (bks N gv uv l s e)) := fun w' h => hR.below (by omega) h
 have hN64 : N ≤ 64 := HNM.out.1
 have b0 : (0 : Int) ≤ (b : Int) := by omega
 have b1 : (b : Int) < (N : Int) := by omega
 have nb0 : ¬ (b : Int) < 0 := by omega
 have nb1 : ¬ (N : Int) ≤ (b : Int) := by omega
 have HW : Hid (IntKind.i64.wrap (e b + 1) = e b + 1) := by
  show _ = _
  rw [IntKind.wrap_i64]; omega
 obtain ⟨xq, xc, hx⟩ := (hB b hb).formG
 obtain ⟨yq, yc, hy⟩ := (hB b hb).formU
 have HUV := hdH (hy)
 have HJL : Hid ((jnd P (pg b)).length = P * S) := jnd_len P S (pg b) hl
 have HJA : Hid (AllB (jnd P (pg b))) := jnd_all P (pg b) (hB b hb).all
 have HPS : Hid (P * S ≤ 133888 ∧ 0 < P * S) := ⟨mul_bound (Nat.le_refl P) HNM.out.2.1 HNM.out.2.2.2.1, Nat.mul_pos HNM.out.2.2.1 HNM.out.2.2.2.2⟩
 have SJ : Hid (∀ w', Below w.heap.size w w' → Calls Try.prog 47 #[.agg (bkc (.slice xq P xc) (.slice yq P yc) (l b) (s b) (e b)).toArray] w' fun e w'' => ∃ v, e = .returned v ∧ Own w'.heap.size w'' v (jnd P (pg b)) ∧ Below w'.heap.size w' w'') := fun w' h => by
  have z := joined_any (gv b) (uv b) (l b) (s b) (e b) P S (pg b) (us b) HNM.out.2.1 HNM.out.2.2.2.1 w' ((hB b hb).below h) hl
  rw [hx, hy] at z
  exact z
 obtain ⟨cc, hcc⟩ : ∃ x : Int, x = if c then 4 else 5 := ⟨_, rfl⟩
 have hc1 : cc ≠ 0 := by rw [hcc]; cases c <;> decide
 have hc2 : (cc == 0) = false := by simpa using hc1
 have SC : Hid (∀ w', Below w.heap.size w w' → Calls Try.prog 64 #[.agg (chr [(N : Int), P, g2, g3, g4, g5] (.slice bq N bc) (.slice po pn pc) false (n : Int)).toArray] w' fun e w'' => ∃ mv, e = .returned (.tuple #[.int .i64 cc, mv, .bool c]) ∧ Byt w'' mv m ∧ Below w'.heap.size w' w'') := fun w' h => by
  have z := code_any [(N : Int), P, g2, g3, g4, g5] rfl (.slice bq N bc) (.slice po pn pc) false n pl w' (hp.below h)
  rw [hpl] at z
  rw [hcc]
  exact z
 have SW : Hid (∀ w', Below w.heap.size w w' → ∀ (gq : Option Addr) (gc : Nat), Calls Try.prog 66 #[.agg (chr [(N : Int), P, g2, g3, g4, g5] (.slice bq N bc) (.slice po pn pc) false (n : Int)).toArray, .int .i64 (b : Int), .agg (bkc (.slice gq P gc) (.slice yq P yc) (l b) (s b) (e b + 1)).toArray] w' fun x w'' => ∃ r rc, x = .returned (.agg (chr [(N : Int), P, g2, g3, g4, g5] (.slice (some ⟨r, 0, none⟩) N rc) (.slice po pn pc) false ((n + 1 : Nat) : Int)).toArray) ∧ OwR w'.heap.size w'' (.slice (some ⟨r, 0, none⟩) N rc) 50 5 (bks N (at1 gv b (.slice gq P gc)) (at1 uv b (.slice yq P yc)) (at1 l b (l b)) (at1 s b (s b)) (at1 e b (e b + 1))) ∧ Below w'.heap.size w' w'') := fun w' h gq gc => with_any N P g2 g3 g4 g5 bq bc po pn pc false n b gv uv l s e gq yq P gc P yc (l b) (s b) (e b + 1) w' hN64 hb hn (HR.out w' h) H1.out
 have hc9 := hR.at (t := b) (by rw [bks_len]; exact hb)
 obtain ⟨bb, off, hbq, hc⟩ := hc9
 subst hbq
 rw [bks_el N gv uv l s e b hb, hx, hy] at hc
 have HC0 : Hid (∀ w', Below w.heap.size w w' → w'.rangeAt bb (off + b * 5) (bkc (.slice xq P xc) (.slice yq P yc) (l b) (s b) (e b))) := fun w' h => range_heap hc (h.block bb (range_lt hc (by simp [bkc])))
 have HCC : Hid (cc = if c then 4 else 5) := hcc
 clear hs hR hB hp hpl hc H1 HR hcc hy hx hl
 have t0 := tR
 go_enter Try.func42, Try.ntmps42
 go_wp2_with (first
  | (have q4 := t4; refine store_lawC _ (bkc (.slice xq P xc) (.slice yq P yc) (l b) (s b) (e b)) w3.heap.size 0 rfl rfl HX0.out.2 rowy_blk.2 bkcO ?_; intro w5 E5 R5 T5 B5
     have HX : Hid (Vr w5 w3.heap.size (bkc (.slice xq P xc) (.slice yq P yc) (l b) (s b) (e b))) := ⟨R5, T5⟩
     have HA := hdH (HA.out.below B5 (by have := HL.out; omega))
     have HC := hdH (HC.out.below B5 (by have := HL.out; omega))
     have BB := hdH (BB.out.trans (B5.mono (by have := HL.out; omega)))
     have HMk := hdH (HM3.out.below (B4.trans B5))
     have l5 : w3.heap.size < w5.heap.size := Nat.lt_of_lt_of_le l4 B5.size
     clear E5 R5 T5 B5 t4)
  | (have q3 := t3; refine new_lawC _ _ zero_blk ?_; intro w4 V4 B4 l4; have HX0 := hdH (V4); have HA := vB HA B4 (vlt HA.out); have HC := vB HC B4 (vlt HC.out); have BB := bT BB B4; have HM3 := hdH (HMk.out); clear c6 d0 d1 d2 d3 d4 V4 t3; have t4 := tR)
  | (have q2 := t2; go_at_call 64; refine (SC.out _ BB.out).mono ?_; rintro e9 w3 ⟨mv, rfl, y3, B3⟩; obtain ⟨mq, mc, rfl⟩ := byt_form y3; have HA := vB HA B3 (vlt HA.out); have HC := vB HC B3 (vlt HC.out); have BB := bT BB B3; have HL : Hid (w.heap.size < w1.heap.size ∧ w1.heap.size < w3.heap.size) := ⟨l1, by have := B3.size; omega⟩
     have HMk := hdH (y3)
     have c6 := HA.out.cell 6 _ rfl
     have hc := HC0.out w3 BB.out
     have d0 := hc 0 _ rfl
     rw [Nat.add_zero] at d0
     have d1 := hc 1 _ rfl; have d2 := hc 2 _ rfl; have d3 := hc 3 _ rfl; have d4 := hc 4 _ rfl
     clear y3 B3 hc t2; have t3 := tR)
  | (have q1 := t1; refine new_lawC _ _ zero_chr ?_; intro w2 V2 B2 l2; have HC := hdH (V2); have HA := hdH (HA.out.below B2 l1); have BB := hdH (BB.out.trans (B2.mono (by omega))); obtain ⟨r0, r1, r2, r3, r4, r5, r6, r7, r8, r9⟩ := vK10 HA.out; clear V2 B2 t1; have t2 := tR)
  | (have q0 := t0; refine box_lawC _ (chr [(N : Int), P, g2, g3, g4, g5] (.slice (some ⟨bb, off, none⟩) N bc) (.slice po pn pc) false (n : Int)) rfl ?_; intro w1 V1 B1 l1; have HA := hdH (V1); have BB := hdH (B1); clear V1 B1 t0; have t1 := tR))
 obtain ⟨B, hB⟩ : ∃ x, x = w5.heap.size := ⟨_, rfl⟩
 have HL : Hid (w.heap.size < w1.heap.size ∧ w1.heap.size < w3.heap.size ∧ w3.heap.size < B) := ⟨HL.out.1, HL.out.2, by omega⟩
 have HZ : Hid (B ≤ w5.heap.size) := Nat.le_of_eq hB
 clear hB l1 l2 l4 l5
 go_wp2
 have BB : Hid (Below w.heap.size w w5.drew) := BB.out.drew
 have HC : Hid (Vr w5.drew w1.heap.size zC) := HC.out.heap rfl
 have HX : Hid (Vr w5.drew w3.heap.size (bkc (.slice xq P xc) (.slice yq P yc) (l b) (s b) (e b))) := HX.out.heap rfl
 have HMk : Hid (Byt w5.drew (.slice mq m.length mc) m) := HMk.out.below (Below.refl _ _).drew
 have HZ : Hid (B ≤ w5.drew.heap.size) := HZ.out
 refine wp_region_held_drew (S := fun w' => Vr w' w.heap.size (chr [(N : Int), P, g2, g3, g4, g5] (.slice (some ⟨bb, off, none⟩) N bc) (.slice po pn pc) false (n : Int))) (by kernel_rfl) (HA.out.drewN 1) (fun hS => ?_)
 obtain ⟨x1, hx0⟩ : ∃ x, x = w5.drew := ⟨_, rfl⟩
 rw [← hx0] at hS BB HC HX HMk HZ ⊢
 clear hx0
 refine tkR 2 (some 51) (.slice mq m.length mc) rfl rfl hS ?_
 simp only [Act.put, zE1, zE2, zE3]
 refine tkG 4 (some 53) (.pointer (some ⟨w.heap.size, 0, none⟩)) rfl rfl hS ?_
 simp only [Act.put, zE1, zE2, zE3]
 refine tkG 5 (some 54) (.pointer (some ⟨w.heap.size, 1, none⟩)) rfl rfl hS ?_
 simp only [Act.put, zE1, zE2, zE3]
 refine tkH 6 (some 55) (.int .i64 (P : Int)) rfl rfl (Or.inl ⟨by rfl, fun w' hw' => by exact exec_loadN 3 (.tmp 54) rfl _ rfl _ _ (load_one one_int (hw'.cell 1 _ rfl))⟩) hS ?_
 simp only [Act.put, zE1, zE2, zE3]
 refine rd1 0 rfl fun K hK => ?_
 refine step_load _ rfl (some 49) rfl (.tmp 9) 50 rfl _ (.agg (bkc (.slice xq P xc) (.slice yq P yc) (l b) (s b) (e b)).toArray) rfl (load_cells rowy_blk HX.out.1) ?_
 refine hK.out _ _ hS (fun _ => ?_)
 simp only [Act.put, zE1, zE2, zE3]
 clear hK K
 refine rd1 1 rfl fun K hK => ?_
 refine ge.step_callW _ (by rfl) (some 50) rfl 47 #[.tmp 49] #[50] rfl (fun q w' => by rfl) #[.agg (bkc (.slice xq P xc) (.slice yq P yc) (l b) (s b) (e b)).toArray] (by simp only [zM1, zM2, zM3]; rfl) (fun v w' => Own x1.heap.size w' v (jnd P (pg b)) ∧ Below x1.heap.size x1 w') ?_ ?_
 ·exact SJ.out x1 BB.out
 rintro v9 x2 ⟨y9, hb9⟩
 have yb := y9.byt HJA.out
 obtain ⟨jq, jc, rfl⟩ : ∃ q c, v9 = .slice q (P * S) c := by
  obtain ⟨q, c, e⟩ := byt_form yb
  rw [HJL.out] at e
  exact ⟨q, c, e⟩
 have BB := bT BB hb9
 have HC := vB HC hb9 (vlt HC.out)
 have HX := vB HX hb9 (vlt HX.out)
 have HMk := hdH (HMk.out.below hb9)
 have z9 := HZ.out
 have HZ : Hid (B ≤ x2.heap.size) := Nat.le_trans HZ.out hb9.size
 have hS : Vr x2 w.heap.size (chr [(N : Int), P, g2, g3, g4, g5] (.slice (some ⟨bb, off, none⟩) N bc) (.slice po pn pc) false (n : Int)) := hS.below hb9 (range_lt hS.1 (by simp [chr]))
 have HJ := hdH (yb)
 clear y9 yb hb9 z9
 refine hK.out _ _ hS (fun _ => ?_)
 simp only [Act.put, zE1, zE2, zE3]
 clear hK K
 refine rd1 3 rfl fun K hK => ?_
 refine ge.step_callW _ (by rfl) (some 52) rfl 68 #[.tmp 50, .tmp 51] #[53, 53] rfl (fun q w' => by rfl) #[.slice jq (P * S) jc, .slice mq m.length mc] (by simp only [zM1, zM2, zM3]; rfl) (fun v w' => Own x2.heap.size w' v (ofb (P * S) (erased (jnd P (pg b)) m)) ∧ Below x2.heap.size x2 w') ?_ ?_
 ·have z := rerase_own _ _ _ _ x2 HJ.out HMk.out (by rw [HJL.out]; have := HPS.out; omega)
  rw [HJL.out] at z
  exact z
 rintro v9 x3 ⟨y9, hb9⟩
 obtain ⟨rr, cap, hv, -⟩ := own_row y9 (by rw [ofb_len]; exact HPS.out.2)
 rw [ofb_len] at hv
 subst hv
 have HCap : Hid (P * S ≤ cap) := by
  obtain ⟨q, c, e, e1, -⟩ := y9.byt (ofb_all _ _)
  injection e with _ _ e3
  rw [ofb_len] at e1
  show _ ≤ _
  omega
 have BB := bT BB hb9
 have HC := vB HC hb9 (vlt HC.out)
 have HX := vB HX hb9 (vlt HX.out)
 have HMk := hdH (HMk.out.below hb9)
 have z9 := HZ.out
 have HZ : Hid (B ≤ x3.heap.size) := Nat.le_trans HZ.out hb9.size
 have hS : Vr x3 w.heap.size (chr [(N : Int), P, g2, g3, g4, g5] (.slice (some ⟨bb, off, none⟩) N bc) (.slice po pn pc) false (n : Int)) := hS.below hb9 (range_lt hS.1 (by simp [chr]))
 have HE : Hid (Own B x3 (.slice (some ⟨rr, 0, none⟩) (P * S) cap) (ofb (P * S) (erased (jnd P (pg b)) m))) := own_base y9 z9
 clear y9 hb9 z9 HJ
 refine hK.out _ _ hS (fun _ => ?_)
 simp only [Act.put, zE1, zE2, zE3]
 clear hK K
 refine rd1 7 rfl fun K hK => ?_
 refine ge.step_callW _ (by rfl) (some 56) rfl 67 #[.tmp 52, .tmp 55] #[53, 3] rfl (fun q w' => by rfl) #[.slice (some ⟨rr, 0, none⟩) (P * S) cap, .int .i64 (P : Int)] (by simp only [zM1, zM2, zM3]; rfl) (fun v w' => OwR x3.heap.size w' v 53 1 (pgc P (prtv rr 0 S cap)) ∧ Below x3.heap.size x3 w') ?_ ?_
 ·exact cut_any rr 0 cap P S HNM.out.2.1 HNM.out.2.2.1 HNM.out.2.2.2.1 HNM.out.2.2.2.2 HCap.out x3
 rintro v9 x4 ⟨y9, hb9⟩
 obtain ⟨gq, gc, rfl⟩ := rws_form y9.rws (pgc_len P _)
 have BB := bT BB hb9
 have HC := vB HC hb9 (vlt HC.out)
 have HX := vB HX hb9 (vlt HX.out)
 have HMk := hdH (HMk.out.below hb9)
 have z9 := HZ.out
 have HZ : Hid (B ≤ x4.heap.size) := Nat.le_trans HZ.out hb9.size
 have hS : Vr x4 w.heap.size (chr [(N : Int), P, g2, g3, g4, g5] (.slice (some ⟨bb, off, none⟩) N bc) (.slice po pn pc) false (n : Int)) := hS.below hb9 (range_lt hS.1 (by simp [chr]))
 have HE := hdH (own_low HE.out hb9)
 have HG : Hid (OwR B x4 (.slice gq P gc) 53 1 (pgc P (prtv rr 0 S cap))) := y9.base z9
 clear y9 hb9 z9
 refine hK.out _ _ hS (fun _ => ?_)
 simp only [Act.put, zE1, zE2, zE3]
 clear hK K
 refine tkG 8 (some 57) (.pointer (some ⟨w3.heap.size, 0, none⟩)) rfl rfl hS ?_
 simp only [Act.put, zE1, zE2, zE3]
 refine rd1 9 rfl fun K hK => ?_
 refine step_store1 _ rfl none rfl (.tmp 57) (.tmp 56) 47 rfl w3.heap.size 0 (.slice gq P gc) rfl rfl (HX.out.there1 0 (by simp [bkc])) (HX.out.free 0 (by simp [bkc])) one_pages.2 rfl rfl ?_
 intro x5 e9
 have g9 : x4.grownBy x5 (some w3.heap.size) := by rw [e9.out]; exact keep_set _ _ _ _
 have HX : Hid (Vr x5 w3.heap.size (bkc (.slice gq P gc) (.slice yq P yc) (l b) (s b) (e b))) := by
  have z := HX.out.set 0 (by simp [bkc]) (.slice gq P gc)
  rw [← e9.out] at z
  exact z
 have HC := hdH (HC.out.kept g9 (vlt HC.out) (by have := HL.out; simp; omega))
 have BB := hdH (BB.out.trans ((Below.refl w.heap.size x4).grown g9 BB.out.size (fun kk hkk => by have := Option.some.inj hkk; have := HL.out; omega)))
 have HE := hdH (own_kept HE.out g9 HL.out.2.2)
 have HG := hdH (owr_kept HG.out g9 HL.out.2.2)
 have HZ : Hid (B ≤ x5.heap.size) := Nat.le_trans HZ.out g9.size
 have hS : Vr x5 w.heap.size (chr [(N : Int), P, g2, g3, g4, g5] (.slice (some ⟨bb, off, none⟩) N bc) (.slice po pn pc) false (n : Int)) := hS.kept g9 (range_lt hS.1 (by simp [chr])) (by have := HL.out; simp; omega)
 clear e9 g9 HMk
 refine hK.out _ _ hS (fun _ => ?_)
 simp only [Act.put]
 clear hK K
 refine wpAnyH_done (by kernel_rfl) ?_ _
 have HA9 := hdH (hS)
 clear hS HA
 have x4 := HX.out.cell 4 _ rfl
 have hw9 := HW.out
 have t1 := tR
 go_wp2_with (first
  | (have q5 := t5; refine store_lawC _ (chr [(N : Int), P, g2, g3, g4, g5] (.slice (some ⟨r, 0, none⟩) N rc) (.slice po pn pc) c ((n + 1 : Nat) : Int)) w1.heap.size 0 rfl rfl HC.out.2 rowy_chipR.2 chrO ?_; intro y5 E5 R5 T5 B5
     have k5 : y4.grownBy y5 (some w1.heap.size) := by rw [E5.out]; exact keep_cells _ _ _ _
     have HR9 := hdH (R5)
     have HOw := hdH (owr_kept HOw.out k5 (by have := HL.out; omega))
     have BB := hdH (BB.out.trans ((Below.refl w.heap.size y4).grown k5 BB.out.size (fun kk hkk => by have := Option.some.inj hkk; have := HL.out; omega)))
     have HE := hdH (own_kept HE.out k5 (by have := HL.out; omega)); have HG := hdH (owr_kept HG.out k5 (by have := HL.out; omega)); have HZ : Hid (B ≤ y5.heap.size) := Nat.le_trans HZ.out k5.size
     clear E5 R5 T5 B5 k5 t5)
  | (have q4 := t4; refine store_law1 _ w.heap.size 8 (.bool c) rfl rfl (HA.out.there1 8 (by simp [chr])) (HA.out.free 8 (by simp [chr])) one_bool.2 rfl rfl ?_; intro y4 E4
     have k4 : y3.grownBy y4 (some w.heap.size) := by rw [E4.out]; exact keep_set _ _ _ _
     have HA : Hid (Vr y4 w.heap.size (chr [(N : Int), P, g2, g3, g4, g5] (.slice (some ⟨r, 0, none⟩) N rc) (.slice po pn pc) c ((n + 1 : Nat) : Int))) := by
      have z := HA.out.set 8 (by simp [chr]) (.bool c)
      rw [← E4.out] at z
      exact z
     have HC := hdH (HC.out.kept k4 (vlt HC.out) (by have := HL.out; simp; omega))
     have HOw := hdH (owr_kept HOw.out k4 (by have := HL.out; omega))
     have BB := hdH (BB.out.trans ((Below.refl w.heap.size y3).grown k4 BB.out.size (fun kk hkk => by have := Option.some.inj hkk; have := HL.out; omega)))
     have HE := hdH (own_kept HE.out k4 (by have := HL.out; omega)); have HG := hdH (owr_kept HG.out k4 (by have := HL.out; omega)); have HZ : Hid (B ≤ y4.heap.size) := Nat.le_trans HZ.out k4.size
     obtain ⟨p0, p1, p2, p3, p4, p5, p6, p7, p8, p9⟩ := vK10 HA.out
     clear E4 k4 t4; have t5 := tR)
  | (have q3 := t3; refine store_lawC _ (chr [(N : Int), P, g2, g3, g4, g5] (.slice (some ⟨r, 0, none⟩) N rc) (.slice po pn pc) false ((n + 1 : Nat) : Int)) w.heap.size 0 rfl rfl HA.out.2 rowy_chipR.2 chrO ?_; intro y3 E3 R3 T3 B3
     have k3 : y2.grownBy y3 (some w.heap.size) := by rw [E3.out]; exact keep_cells _ _ _ _
     have HA : Hid (Vr y3 w.heap.size (chr [(N : Int), P, g2, g3, g4, g5] (.slice (some ⟨r, 0, none⟩) N rc) (.slice po pn pc) false ((n + 1 : Nat) : Int))) := ⟨R3, T3⟩
     have HC := hdH (HC.out.kept k3 (vlt HC.out) (by have := HL.out; simp; omega))
     have HOw := hdH (owr_kept HOw.out k3 (by have := HL.out; omega))
     have BB := hdH (BB.out.trans ((Below.refl w.heap.size y2).grown k3 BB.out.size (fun kk hkk => by have := Option.some.inj hkk; have := HL.out; omega)))
     have HE := hdH (own_kept HE.out k3 (by have := HL.out; omega)); have HG := hdH (owr_kept HG.out k3 (by have := HL.out; omega)); have HZ : Hid (B ≤ y3.heap.size) := Nat.le_trans HZ.out k3.size
     clear E3 R3 T3 B3 k3 t3; have t4 := tR)
  | (have q2 := t2; go_at_call 66; refine (SW.out _ BB.out gq gc).mono ?_; rintro e9 y2 ⟨r, rc, rfl, o2, B2⟩
     have HOw : Hid (OwR B y2 (.slice (some ⟨r, 0, none⟩) N rc) 50 5 (bks N (at1 gv b (.slice gq P gc)) (at1 uv b (.slice yq P yc)) (at1 l b (l b)) (at1 s b (s b)) (at1 e b (e b + 1)))) := o2.base HZ.out
     have HE := hdH (own_low HE.out B2)
     have HG := hdH (HG.out.low B2)
     have HZ : Hid (B ≤ y2.heap.size) := Nat.le_trans HZ.out B2.size
     have HC := vB HC B2 (vlt HC.out)
     have HA := vB HA B2 (vlt HA.out)
     have BB := bT BB B2
     clear p0 p1 p2 p3 p4 p5 p6 p7 p8 p9 o2 B2 t2; have t3 := tR)
  | (have q1 := t1; refine store_law1 _ w3.heap.size 4 (.int .i64 (e b + 1)) rfl (by first | rfl | simpa using HW.out) (HX.out.there1 4 (by simp [bkc])) (HX.out.free 4 (by simp [bkc])) one_int.2 rfl rfl ?_; intro y1 E1
     have k1 : x5.grownBy y1 (some w3.heap.size) := by rw [E1.out]; exact keep_set _ _ _ _
     have HX : Hid (Vr y1 w3.heap.size (bkc (.slice gq P gc) (.slice yq P yc) (l b) (s b) (e b + 1))) := by
      have z := HX.out.set 4 (by simp [bkc]) (.int .i64 (e b + 1))
      rw [← E1.out] at z
      exact z
     have HC := hdH (HC.out.kept k1 (vlt HC.out) (by have := HL.out; simp; omega))
     have HA := hdH (HA9.out.kept k1 (vlt HA9.out) (by have := HL.out; simp; omega))
     have BB := hdH (BB.out.trans ((Below.refl w.heap.size x5).grown k1 BB.out.size (fun kk hkk => by have := Option.some.inj hkk; have := HL.out; omega)))
     have HE := hdH (own_kept HE.out k1 (by have := HL.out; omega)); have HG := hdH (owr_kept HG.out k1 (by have := HL.out; omega)); have HZ : Hid (B ≤ y1.heap.size) := Nat.le_trans HZ.out k1.size
     obtain ⟨p0, p1, p2, p3, p4, p5, p6, p7, p8, p9⟩ := vK10 HA.out
     obtain ⟨y0, y1, y2, y3, y4⟩ := vK5 HX.out
     clear x4 hw9 E1 k1 t1; have t2 := tR))
 refine bodyPost_ret (v := .tuple #[.agg (chr [(N : Int), P, g2, g3, g4, g5] (.slice (some ⟨r, 0, none⟩) N rc) (.slice po pn pc) c ((n + 1 : Nat) : Int)).toArray, .int .i64 cc]) (results_cv rfl _ _ w1.heap.size _ _ rowy_chipR rfl rfl HR9.out) rfl ⟨r, rc, .slice gq P gc, rr, cap, by rw [HCC.out], ?_, HG.out.base (by have := HL.out; omega), own_base HE.out (by have := HL.out; omega), HCap.out, BB.out⟩
 rw [HUV.out]
 exact HOw.out.base (by have := HL.out; omega)
end Go.Proofs.Ytikcohjhhoiakaa.na
