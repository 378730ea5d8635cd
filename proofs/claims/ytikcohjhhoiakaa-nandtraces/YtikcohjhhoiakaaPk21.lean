/- Texts put together. -/
import Derived.Test.YtikcohjhhoiakaaPk20
import Derived.Test.YtikcohjhhoiakaaPk13
set_option maxHeartbeats 8000000
namespace Go.Proofs.Ytikcohjhhoiakaa.na
open Go.RowKit Go.Proofs.Ytikcohjhhoiakaa.fa
set_option maxRecDepth 20000
def RscI (N P S : Nat) (g2 g3 g4 g5 : Int) (po : Option Addr) (pn pc n b : Nat) (gv uv : Nat → Value) (l : Nat → Int) (s : Nat → Bool) (e : Nat → Int) (T : List Int) (c : Bool) (cc : Int) (w : World) (x : Ending) (w' : World) : Prop := ∃ r rc gw rr cap, x = .returned (.tuple #[.agg (chr [(N : Int), P, g2, g3, g4, g5] (.slice (some ⟨r, 0, none⟩) N rc) (.slice po pn pc) c ((n + 1 : Nat) : Int)).toArray, .int .i64 cc]) ∧ OwR w.heap.size w' (.slice (some ⟨r, 0, none⟩) N rc) 50 5 (bks N (at1 gv b gw) (at1 uv b (uv b)) (at1 l b (l b)) (at1 s b true) (at1 e b (e b))) ∧ OwR w.heap.size w' gw 53 1 (pgc P (prtv rr 0 S cap)) ∧ Own w.heap.size w' (.slice (some ⟨rr, 0, none⟩) (P * S) cap) T ∧ P * S ≤ cap ∧ Below w.heap.size w w'
theorem rsc_ok (N P : Nat) (g2 g3 g4 g5 : Int) (bq : Option Addr) (bc : Nat) (po : Option Addr) (pn pc : Nat) (S : Nat) (hs : Shp [(N : Int), P, g2, g3, g4, g5] N P S) (n b : Nat) (hn : n ≤ 1000000) (hb : b < N) (gv uv : Nat → Value) (l : Nat → Int) (s : Nat → Bool) (e : Nat → Int) (pg : Nat → Nat → List Int) (us : Nat → Nat → Int) (pl : Pln) (w : World)
  (hR : Rws w (.slice bq N bc) 5 (bks N gv uv l s e)) (hB : ∀ b, b < N → Blk w (gv b) (uv b) P (pg b) (us b)) (hp : Pla w (.slice po pn pc) pl) (hl : ∀ p, p < P → (pg b p).length = S) (hpl : pl n = none) :
  Calls Try.prog 43 #[.agg (chr [(N : Int), P, g2, g3, g4, g5] (.slice bq N bc) (.slice po pn pc) false (n : Int)).toArray, .int .i64 (b : Int)] w fun x w' => RscI N P S g2 g3 g4 g5 po pn pc n b gv uv l s e (List.replicate (P * S) (0 : Int)) false 0 w x w' := by
 have HNM : Hid (N ≤ 64 ∧ P ≤ 32 ∧ 0 < P ∧ S ≤ 4184 ∧ 0 < S) := by
  obtain ⟨gl, hr, z0, z1, z2⟩ := hs
  obtain ⟨k1, k2, k3, -⟩ := hr.1
  show _ ∧ _ ∧ _ ∧ _ ∧ _
  omega
 have H1 : Hid (∀ b, b < N → (gv b).oneCell' = true ∧ (uv b).oneCell' = true) := fun b hb => (hB b hb).one
 have HR : Hid (∀ w', Below w.heap.size w w' → Rws w' (.slice bq N bc) 5 (bks N gv uv l s e)) := fun w' h => hR.below (by omega) h
 have hN64 : N ≤ 64 := HNM.out.1
 have b0 : (0 : Int) ≤ (b : Int) := by omega
 have b1 : (b : Int) < (N : Int) := by omega
 have nb0 : ¬ (b : Int) < 0 := by omega
 have nb1 : ¬ (N : Int) ≤ (b : Int) := by omega
 obtain ⟨xq, xc, hx⟩ := (hB b hb).formG
 obtain ⟨yq, yc, hy⟩ := (hB b hb).formU
 have HUV := hdH (hy)
 have HJL : Hid ((jnd P (pg b)).length = P * S) := jnd_len P S (pg b) hl
 have HJA : Hid (AllB (jnd P (pg b))) := jnd_all P (pg b) (hB b hb).all
 have HPS : Hid (P * S ≤ 133888 ∧ 0 < P * S) := ⟨mul_bound (Nat.le_refl P) HNM.out.2.1 HNM.out.2.2.2.1, Nat.mul_pos HNM.out.2.2.1 HNM.out.2.2.2.2⟩
 obtain ⟨L, hLL⟩ : ∃ x, x = P * S := ⟨_, rfl⟩
 have HLL : Hid (L = P * S) := hLL
 have hL1 : L ≤ 133888 := by have := HPS.out; omega
 clear hLL
 have SJ : Hid (∀ w', Below w.heap.size w w' → Calls Try.prog 47 #[.agg (bkc (.slice xq P xc) (.slice yq P yc) (l b) true (e b)).toArray] w' fun e w'' => ∃ v, e = .returned v ∧ Own w'.heap.size w'' v (jnd P (pg b)) ∧ Below w'.heap.size w' w'') := fun w' h => by
  have z := joined_any (gv b) (uv b) (l b) true (e b) P S (pg b) (us b) HNM.out.2.1 HNM.out.2.2.2.1 w' ((hB b hb).below h) hl
  rw [hx, hy] at z
  exact z
 have SF := hdH (fun w => rfill_own 0 0 w)
 have SC : Hid (∀ w', Below w.heap.size w w' → Calls Try.prog 64 #[.agg (chr [(N : Int), P, g2, g3, g4, g5] (.slice bq N bc) (.slice po pn pc) false (n : Int)).toArray] w' fun e w'' => ∃ mv, e = .returned (.tuple #[.int .i64 0, mv, .bool false]) ∧ Byt w'' mv [] ∧ Below w'.heap.size w' w'') := fun w' h => by
  have z := code_any [(N : Int), P, g2, g3, g4, g5] rfl (.slice bq N bc) (.slice po pn pc) false n pl w' (hp.below h)
  rw [hpl] at z
  exact z
 have SW : Hid (∀ w', Below w.heap.size w w' → ∀ (gq : Option Addr) (gc : Nat), Calls Try.prog 66 #[.agg (chr [(N : Int), P, g2, g3, g4, g5] (.slice bq N bc) (.slice po pn pc) false (n : Int)).toArray, .int .i64 (b : Int), .agg (bkc (.slice gq P gc) (.slice yq P yc) (l b) true (e b)).toArray] w' fun x w'' => ∃ r rc, x = .returned (.agg (chr [(N : Int), P, g2, g3, g4, g5] (.slice (some ⟨r, 0, none⟩) N rc) (.slice po pn pc) false ((n + 1 : Nat) : Int)).toArray) ∧ OwR w'.heap.size w'' (.slice (some ⟨r, 0, none⟩) N rc) 50 5 (bks N (at1 gv b (.slice gq P gc)) (at1 uv b (.slice yq P yc)) (at1 l b (l b)) (at1 s b true) (at1 e b (e b))) ∧ Below w'.heap.size w' w'') := fun w' h gq gc => with_any N P g2 g3 g4 g5 bq bc po pn pc false n b gv uv l s e gq yq P gc P yc (l b) true (e b) w' hN64 hb hn (HR.out w' h) H1.out
 have hc9 := hR.at (t := b) (by rw [bks_len]; exact hb)
 obtain ⟨bb, off, hbq, hc⟩ := hc9
 subst hbq
 rw [bks_el N gv uv l s e b hb, hx, hy] at hc
 have HC0 : Hid (∀ w', Below w.heap.size w w' → w'.rangeAt bb (off + b * 5) (bkc (.slice xq P xc) (.slice yq P yc) (l b) (s b) (e b))) := fun w' h => range_heap hc (h.block bb (range_lt hc (by simp [bkc])))
 clear hs hR hB hp hpl hc H1 HR hy hx hl
 have t0 := tR
 go_enter Try.func43, Try.ntmps43
 go_wp2_with (first
  | (have q7 := t7; go_at_call 63; refine (SF.out _).mono ?_; rintro e9 w8 ⟨v8, rfl, o8, B8⟩; have HO8 := hdH (o8); have HB8 := hdH (B8); clear o8 B8 t7)
  | (have q6 := t6; go_at_call 47; refine (SJ.out _ BB.out).mono ?_; rintro e9 w7 ⟨jv, rfl, o7, B7⟩
     have yb := o7.byt HJA.out
     obtain ⟨jq, jc, hj⟩ := byt_form yb
     rw [HJL.out, ← HLL.out] at hj
     subst hj
     have HJ := hdH (yb)
     have HA := vB HA B7 (vlt HA.out); have HC := vB HC B7 (vlt HC.out); have HX := vB HX B7 (vlt HX.out)
     have BB := bT BB B7
     have HMk := hdH (HMk.out.below B7)
     have l7 : w3.heap.size < w7.heap.size := Nat.lt_of_lt_of_le l6 B7.size
     clear y0 y1 y2 y3 y4 o7 yb B7 t6; have t7 := tR)
  | (have q5 := t5; refine store_law1 _ w3.heap.size 3 (.bool true) rfl rfl (HX.out.there1 3 (by simp [bkc])) (HX.out.free 3 (by simp [bkc])) one_bool.2 rfl rfl ?_; intro w6 E6
     have B6 : Below w3.heap.size w5 w6 := below_set E6.out (Nat.le_refl _) (by omega)
     have HX : Hid (Vr w6 w3.heap.size (bkc (.slice xq P xc) (.slice yq P yc) (l b) true (e b))) := by
      have z := HX.out.set 3 (by simp [bkc]) (.bool true)
      rw [← E6.out] at z
      exact z
     have HA := hdH (HA.out.below B6 (by have := HL.out; omega))
     have HC := hdH (HC.out.below B6 (by have := HL.out; omega))
     have BB := hdH (BB.out.trans (B6.mono (by have := HL.out; omega)))
     have HMk := hdH (HM3.out.below (BC.out.trans B6))
     have l6 : w3.heap.size < w6.heap.size := Nat.lt_of_lt_of_le l5 B6.size
     obtain ⟨y0, y1, y2, y3, y4⟩ := vK5 HX.out
     clear E6 B6 BC HM5 t5; have t6 := tR)
  | (have q4 := t4; refine store_lawC _ (bkc (.slice xq P xc) (.slice yq P yc) (l b) (s b) (e b)) w3.heap.size 0 rfl rfl HX0.out.2 rowy_blk.2 bkcO ?_; intro w5 E5 R5 T5 B5
     have HX : Hid (Vr w5 w3.heap.size (bkc (.slice xq P xc) (.slice yq P yc) (l b) (s b) (e b))) := ⟨R5, T5⟩
     have HA := hdH (HA.out.below B5 (by have := HL.out; omega))
     have HC := hdH (HC.out.below B5 (by have := HL.out; omega))
     have BB := hdH (BB.out.trans (B5.mono (by have := HL.out; omega)))
     have HM5 := hdH (HM3.out.below (B4.trans B5))
     have BC : Hid (Below w3.heap.size w3 w5) := B4.trans B5
     have l5 : w3.heap.size < w5.heap.size := Nat.lt_of_lt_of_le l4 B5.size
     clear E5 R5 T5 B5 t4; have t5 := tR)
  | (have q3 := t3; refine new_lawC _ _ zero_blk ?_; intro w4 V4 B4 l4; have HX0 := hdH (V4); have HA := vB HA B4 (vlt HA.out); have HC := vB HC B4 (vlt HC.out); have BB := bT BB B4; clear c6 d0 d1 d2 d3 d4 V4 t3; have t4 := tR)
  | (have q2 := t2; go_at_call 64; refine (SC.out _ BB.out).mono ?_; rintro e9 w3 ⟨mv, rfl, y3, B3⟩; obtain ⟨mq, mc, rfl⟩ := byt_form y3; have HA := vB HA B3 (vlt HA.out); have HC := vB HC B3 (vlt HC.out); have BB := bT BB B3; have HL : Hid (w.heap.size < w1.heap.size ∧ w1.heap.size < w3.heap.size) := ⟨l1, by have := B3.size; omega⟩
     have HM3 := hdH (y3)
     have c6 := HA.out.cell 6 _ rfl
     have hc := HC0.out w3 BB.out
     have d0 := hc 0 _ rfl
     rw [Nat.add_zero] at d0
     have d1 := hc 1 _ rfl; have d2 := hc 2 _ rfl; have d3 := hc 3 _ rfl; have d4 := hc 4 _ rfl
     clear y3 B3 hc t2; have t3 := tR)
  | (have q1 := t1; refine new_lawC _ _ zero_chr ?_; intro w2 V2 B2 l2; have HC := hdH (V2); have HA := hdH (HA.out.below B2 l1); have BB := hdH (BB.out.trans (B2.mono (by omega))); obtain ⟨r0, r1, r2, r3, r4, r5, r6, r7, r8, r9⟩ := vK10 HA.out; clear V2 B2 t1; have t2 := tR)
  | (have q0 := t0; refine box_lawC _ (chr [(N : Int), P, g2, g3, g4, g5] (.slice (some ⟨bb, off, none⟩) N bc) (.slice po pn pc) false (n : Int)) rfl ?_; intro w1 V1 B1 l1; have HA := hdH (V1); have BB := hdH (B1); clear V1 B1 t0; have t1 := tR))
 obtain ⟨B, hB⟩ : ∃ x, x = w7.heap.size := ⟨_, rfl⟩
 have HL : Hid (w.heap.size < w1.heap.size ∧ w1.heap.size < w3.heap.size ∧ w3.heap.size < B) := ⟨HL.out.1, HL.out.2, by omega⟩
 rw [← hB] at HO8 HB8
 have HZ7 := hdH (hB)
 clear hB l1 l2 l4 l5 l6 l7
 go_loopw [11, 12] (fun v i wr => ∃ k : Nat, k ≤ L ∧ i = .int .i64 k ∧ Own B wr v (List.replicate k 0) ∧ Hid (Below B w7 wr)) (fun _ i _ => L - (intOf i).toNat)
 case atStart => exact ⟨0, Nat.zero_le _, rfl, HO8.out, HB8⟩
 case round =>
  obtain ⟨k, hk, rfl, hown, HBe⟩ := hrel
  obtain ⟨wa, rfl⟩ : ∃ x, x = wr := ⟨_, rfl⟩
  have hsz : B ≤ wa.heap.size := by have := HBe.out.size; have := HZ7.out; omega
  have k0 : (0 : Int) ≤ (k : Int) := by omega
  by_cases hlt : k < L
  ·have k1 : (k : Int) < (L : Int) := by omega
   have HLEN : Hid ((List.replicate k (0 : Int)).length ≤ 1099511627776) := by show _ ≤ _; rw [List.length_replicate]; omega
   go_wp2_with (at_builtin; refine push_law wa rfl (.tmp 47) (.tmp 48) rfl B hsz _ (List.replicate k 0) 0 rfl rfl hown HLEN.out ?_; intro v2 y2 O2 b2)
   go_roundw
   case rel => exact ⟨k + 1, by omega, by go_num, by rw [List.replicate_succ']; exact O2, HBe.out.trans b2⟩
   case measure => simp [intOf]; omega
  ·have e9 : L = k := by omega
   subst e9
   have B7 : Below w7.heap.size w7 wa := by rw [← HZ7.out]; exact HBe.out
   have HA := vB HA B7 (vlt HA.out)
   have HC := vB HC B7 (vlt HC.out)
   have HX := vB HX B7 (vlt HX.out)
   have BB := bT BB B7
   have HZ : Hid (B ≤ wa.heap.size) := hsz
   obtain ⟨rr, cap, hv, -⟩ := own_row hown (by rw [List.length_replicate, HLL.out]; exact HPS.out.2)
   rw [List.length_replicate] at hv
   subst hv
   have HCap : Hid (P * S ≤ cap) := by
    obtain ⟨q, c, e, e1, -⟩ := hown.byt (allB_replicate 0 L (by omega))
    injection e with _ _ e3
    rw [List.length_replicate, HLL.out] at e1
    show _ ≤ _
    omega
   rw [HLL.out] at hown ⊢
   have HE : Hid (Own B wa (.slice (some ⟨rr, 0, none⟩) (P * S) cap) (List.replicate (P * S) (0 : Int))) := hown
   have SK : Hid (Calls Try.prog 67 #[.slice (some ⟨rr, 0, none⟩) (P * S) cap, .int .i64 (P : Int)] wa fun e w'' => ∃ gv, e = .returned gv ∧ OwR wa.heap.size w'' gv 53 1 (pgc P (prtv rr 0 S cap)) ∧ Below wa.heap.size wa w'') := cut_any rr 0 cap P S HNM.out.2.1 HNM.out.2.2.1 HNM.out.2.2.2.1 HNM.out.2.2.2.2 HCap.out wa
   have lL : ¬ ((P * S : Nat) : Int) < ((P * S : Nat) : Int) := by omega
   have p1 := HA.out.cell 1 _ rfl
   clear hown
   have t1' : (1 : Nat) = 1 := rfl
   go_wp2_with (first
    | (have q6 := t6'; refine store_lawC _ (chr [(N : Int), P, g2, g3, g4, g5] (.slice (some ⟨r, 0, none⟩) N rc) (.slice po pn pc) false ((n + 1 : Nat) : Int)) w1.heap.size 0 rfl rfl HC.out.2 rowy_chipR.2 chrO ?_; intro y6 E5 R5 T5 B5
       have k5 : y5.grownBy y6 (some w1.heap.size) := by rw [E5.out]; exact keep_cells _ _ _ _
       have HR9 := hdH (R5)
       have HOw := hdH (owr_kept HOw.out k5 (by have := HL.out; omega))
       have BB := hdH (BB.out.trans ((Below.refl w.heap.size y5).grown k5 BB.out.size (fun kk hkk => by have := Option.some.inj hkk; have := HL.out; omega)))
       have HE := hdH (own_kept HE.out k5 (by have := HL.out; omega)); have HG := hdH (owr_kept HG.out k5 (by have := HL.out; omega)); have HZ : Hid (B ≤ y6.heap.size) := Nat.le_trans HZ.out k5.size
       clear E5 R5 T5 B5 k5 t6')
    | (have q5 := t5'; refine store_law1 _ w.heap.size 8 (.bool false) rfl rfl (HA.out.there1 8 (by simp [chr])) (HA.out.free 8 (by simp [chr])) one_bool.2 rfl rfl ?_; intro y5 E4
       have k4 : y4.grownBy y5 (some w.heap.size) := by rw [E4.out]; exact keep_set _ _ _ _
       have HA : Hid (Vr y5 w.heap.size (chr [(N : Int), P, g2, g3, g4, g5] (.slice (some ⟨r, 0, none⟩) N rc) (.slice po pn pc) false ((n + 1 : Nat) : Int))) := by
        have z := HA.out.set 8 (by simp [chr]) (.bool false)
        rw [← E4.out] at z
        exact z
       have HC := hdH (HC.out.kept k4 (vlt HC.out) (by have := HL.out; simp; omega))
       have HOw := hdH (owr_kept HOw.out k4 (by have := HL.out; omega))
       have BB := hdH (BB.out.trans ((Below.refl w.heap.size y4).grown k4 BB.out.size (fun kk hkk => by have := Option.some.inj hkk; have := HL.out; omega)))
       have HE := hdH (own_kept HE.out k4 (by have := HL.out; omega)); have HG := hdH (owr_kept HG.out k4 (by have := HL.out; omega)); have HZ : Hid (B ≤ y5.heap.size) := Nat.le_trans HZ.out k4.size
       obtain ⟨p0, p1, p2, p3, p4, p5, p6, p7, p8, p9⟩ := vK10 HA.out
       clear E4 k4 t5'; have t6' : (1 : Nat) = 1 := rfl)
    | (have q4 := t4'; refine store_lawC _ (chr [(N : Int), P, g2, g3, g4, g5] (.slice (some ⟨r, 0, none⟩) N rc) (.slice po pn pc) false ((n + 1 : Nat) : Int)) w.heap.size 0 rfl rfl HA.out.2 rowy_chipR.2 chrO ?_; intro y4 E3 R3 T3 B3
       have k3 : y3.grownBy y4 (some w.heap.size) := by rw [E3.out]; exact keep_cells _ _ _ _
       have HA : Hid (Vr y4 w.heap.size (chr [(N : Int), P, g2, g3, g4, g5] (.slice (some ⟨r, 0, none⟩) N rc) (.slice po pn pc) false ((n + 1 : Nat) : Int))) := ⟨R3, T3⟩
       have HC := hdH (HC.out.kept k3 (vlt HC.out) (by have := HL.out; simp; omega))
       have HOw := hdH (owr_kept HOw.out k3 (by have := HL.out; omega))
       have BB := hdH (BB.out.trans ((Below.refl w.heap.size y3).grown k3 BB.out.size (fun kk hkk => by have := Option.some.inj hkk; have := HL.out; omega)))
       have HE := hdH (own_kept HE.out k3 (by have := HL.out; omega)); have HG := hdH (owr_kept HG.out k3 (by have := HL.out; omega)); have HZ : Hid (B ≤ y4.heap.size) := Nat.le_trans HZ.out k3.size
       clear E3 R3 T3 B3 k3 t4'; have t5' : (1 : Nat) = 1 := rfl)
    | (have q3 := t3'; go_at_call 66; refine (SW.out _ BB.out gq gc).mono ?_; rintro e9 y3 ⟨r, rc, rfl, o2, B2⟩
       have HOw : Hid (OwR B y3 (.slice (some ⟨r, 0, none⟩) N rc) 50 5 (bks N (at1 gv b (.slice gq P gc)) (at1 uv b (.slice yq P yc)) (at1 l b (l b)) (at1 s b true) (at1 e b (e b)))) := o2.base HZ.out
       have HE := hdH (own_low HE.out B2)
       have HG := hdH (HG.out.low B2)
       have HZ : Hid (B ≤ y3.heap.size) := Nat.le_trans HZ.out B2.size
       have HC := vB HC B2 (vlt HC.out)
       have HA := vB HA B2 (vlt HA.out)
       have BB := bT BB B2
       clear p0 p1 p2 p3 p4 p5 p6 p7 p8 p9 x0 x1 x2 x3 x4 o2 B2 t3'; have t4' : (1 : Nat) = 1 := rfl)
    | (have q2 := t2'; refine store_law1 _ w3.heap.size 0 (.slice gq P gc) rfl rfl (HX.out.there1 0 (by simp [bkc])) (HX.out.free 0 (by simp [bkc])) one_pages.2 rfl rfl ?_; intro y2 E2
       have k2 : y1.grownBy y2 (some w3.heap.size) := by rw [E2.out]; exact keep_set _ _ _ _
       have HX : Hid (Vr y2 w3.heap.size (bkc (.slice gq P gc) (.slice yq P yc) (l b) true (e b))) := by
        have z := HX.out.set 0 (by simp [bkc]) (.slice gq P gc)
        rw [← E2.out] at z
        exact z
       have HC := hdH (HC.out.kept k2 (vlt HC.out) (by have := HL.out; simp; omega))
       have HA := hdH (HA.out.kept k2 (vlt HA.out) (by have := HL.out; simp; omega))
       have BB := hdH (BB.out.trans ((Below.refl w.heap.size y1).grown k2 BB.out.size (fun kk hkk => by have := Option.some.inj hkk; have := HL.out; omega)))
       have HE := hdH (own_kept HE.out k2 (by have := HL.out; omega)); have HG := hdH (owr_kept HG.out k2 (by have := HL.out; omega)); have HZ : Hid (B ≤ y2.heap.size) := Nat.le_trans HZ.out k2.size
       obtain ⟨p0, p1, p2, p3, p4, p5, p6, p7, p8, p9⟩ := vK10 HA.out
       obtain ⟨x0, x1, x2, x3, x4⟩ := vK5 HX.out
       clear E2 k2 t2'; have t3' : (1 : Nat) = 1 := rfl)
    | (have q1 := t1'; go_at_call 67; refine SK.out.mono ?_; rintro e9 y1 ⟨v9, rfl, y9, hb9⟩
       obtain ⟨gq, gc, rfl⟩ := rws_form y9.rws (pgc_len P _)
       have HG : Hid (OwR B y1 (.slice gq P gc) 53 1 (pgc P (prtv rr 0 S cap))) := y9.base HZ.out
       have HE := hdH (own_low HE.out hb9)
       have HA := vB HA hb9 (vlt HA.out); have HC := vB HC hb9 (vlt HC.out); have HX := vB HX hb9 (vlt HX.out)
       have BB := bT BB hb9
       have HZ : Hid (B ≤ y1.heap.size) := Nat.le_trans HZ.out hb9.size
       clear p1 y9 hb9 t1'; have t2' : (1 : Nat) = 1 := rfl))
   refine bodyPost_ret (v := .tuple #[.agg (chr [(N : Int), P, g2, g3, g4, g5] (.slice (some ⟨r, 0, none⟩) N rc) (.slice po pn pc) false ((n + 1 : Nat) : Int)).toArray, .int .i64 0]) (results_cv rfl _ _ w1.heap.size _ _ rowy_chipR rfl rfl HR9.out) rfl ⟨r, rc, .slice gq P gc, rr, cap, rfl, ?_, HG.out.base (by have := HL.out; omega), own_base HE.out (by have := HL.out; omega), HCap.out, BB.out⟩
   rw [HUV.out]
   exact HOw.out.base (by have := HL.out; omega)
theorem rsc_flt (N P : Nat) (g2 g3 g4 g5 : Int) (bq : Option Addr) (bc : Nat) (po : Option Addr) (pn pc : Nat) (S : Nat) (hs : Shp [(N : Int), P, g2, g3, g4, g5] N P S) (n b : Nat) (hn : n ≤ 1000000) (hb : b < N) (gv uv : Nat → Value) (l : Nat → Int) (s : Nat → Bool) (e : Nat → Int) (pg : Nat → Nat → List Int) (us : Nat → Nat → Int) (pl : Pln) (w : World)
  (hR : Rws w (.slice bq N bc) 5 (bks N gv uv l s e)) (hB : ∀ b, b < N → Blk w (gv b) (uv b) P (pg b) (us b)) (hp : Pla w (.slice po pn pc) pl) (hl : ∀ p, p < P → (pg b p).length = S) (c : Bool) (m : List Int) (hpl : pl n = some (c, m)) :
  Calls Try.prog 43 #[.agg (chr [(N : Int), P, g2, g3, g4, g5] (.slice bq N bc) (.slice po pn pc) false (n : Int)).toArray, .int .i64 (b : Int)] w fun x w' => RscI N P S g2 g3 g4 g5 po pn pc n b gv uv l s e (ofb (P * S) (prg (jnd P (pg b)) (List.replicate (P * S) (0 : Int)) m false (8 * (P * S)))) c (if c then 4 else 5) w x w' := by
 have HNM : Hid (N ≤ 64 ∧ P ≤ 32 ∧ 0 < P ∧ S ≤ 4184 ∧ 0 < S) := by
  obtain ⟨gl, hr, z0, z1, z2⟩ := hs
  obtain ⟨k1, k2, k3, -⟩ := hr.1
  show _ ∧ _ ∧ _ ∧ _ ∧ _
  omega
 have H1 : Hid (∀ b, b < N → (gv b).oneCell' = true ∧ (uv b).oneCell' = true) := fun b hb => (hB b hb).one
 have HR : Hid (∀ w', Below w.heap.size w w' → Rws w' (.slice bq N bc) 5 (bks N gv uv l s e)) := fun w' h => hR.below (by omega) h
 have hN64 : N ≤ 64 := HNM.out.1
 have b0 : (0 : Int) ≤ (b : Int) := by omega
 have b1 : (b : Int) < (N : Int) := by omega
 have nb0 : ¬ (b : Int) < 0 := by omega
 have nb1 : ¬ (N : Int) ≤ (b : Int) := by omega
 obtain ⟨xq, xc, hx⟩ := (hB b hb).formG
 obtain ⟨yq, yc, hy⟩ := (hB b hb).formU
 have HUV := hdH (hy)
 have HJL : Hid ((jnd P (pg b)).length = P * S) := jnd_len P S (pg b) hl
 have HJA : Hid (AllB (jnd P (pg b))) := jnd_all P (pg b) (hB b hb).all
 have HPS : Hid (P * S ≤ 133888 ∧ 0 < P * S) := ⟨mul_bound (Nat.le_refl P) HNM.out.2.1 HNM.out.2.2.2.1, Nat.mul_pos HNM.out.2.2.1 HNM.out.2.2.2.2⟩
 obtain ⟨L, hLL⟩ : ∃ x, x = P * S := ⟨_, rfl⟩
 have HLL : Hid (L = P * S) := hLL
 have hL1 : L ≤ 133888 := by have := HPS.out; omega
 clear hLL
 have SJ : Hid (∀ w', Below w.heap.size w w' → Calls Try.prog 47 #[.agg (bkc (.slice xq P xc) (.slice yq P yc) (l b) true (e b)).toArray] w' fun e w'' => ∃ v, e = .returned v ∧ Own w'.heap.size w'' v (jnd P (pg b)) ∧ Below w'.heap.size w' w'') := fun w' h => by
  have z := joined_any (gv b) (uv b) (l b) true (e b) P S (pg b) (us b) HNM.out.2.1 HNM.out.2.2.2.1 w' ((hB b hb).below h) hl
  rw [hx, hy] at z
  exact z
 have SF := hdH (fun w => rfill_own 0 0 w)
 obtain ⟨cc, hcc⟩ : ∃ x : Int, x = if c then 4 else 5 := ⟨_, rfl⟩
 rw [← hcc]
 have hc1 : cc ≠ 0 := by rw [hcc]; cases c <;> decide
 have hc2 : (cc == 0) = false := by simpa using hc1
 have SC : Hid (∀ w', Below w.heap.size w w' → Calls Try.prog 64 #[.agg (chr [(N : Int), P, g2, g3, g4, g5] (.slice bq N bc) (.slice po pn pc) false (n : Int)).toArray] w' fun e w'' => ∃ mv, e = .returned (.tuple #[.int .i64 cc, mv, .bool c]) ∧ Byt w'' mv m ∧ Below w'.heap.size w' w'') := fun w' h => by
  have z := code_any [(N : Int), P, g2, g3, g4, g5] rfl (.slice bq N bc) (.slice po pn pc) false n pl w' (hp.below h)
  rw [hpl] at z
  rw [hcc]
  exact z
 have SW : Hid (∀ w', Below w.heap.size w w' → ∀ (gq : Option Addr) (gc : Nat), Calls Try.prog 66 #[.agg (chr [(N : Int), P, g2, g3, g4, g5] (.slice bq N bc) (.slice po pn pc) false (n : Int)).toArray, .int .i64 (b : Int), .agg (bkc (.slice gq P gc) (.slice yq P yc) (l b) true (e b)).toArray] w' fun x w'' => ∃ r rc, x = .returned (.agg (chr [(N : Int), P, g2, g3, g4, g5] (.slice (some ⟨r, 0, none⟩) N rc) (.slice po pn pc) false ((n + 1 : Nat) : Int)).toArray) ∧ OwR w'.heap.size w'' (.slice (some ⟨r, 0, none⟩) N rc) 50 5 (bks N (at1 gv b (.slice gq P gc)) (at1 uv b (.slice yq P yc)) (at1 l b (l b)) (at1 s b true) (at1 e b (e b))) ∧ Below w'.heap.size w' w'') := fun w' h gq gc => with_any N P g2 g3 g4 g5 bq bc po pn pc false n b gv uv l s e gq yq P gc P yc (l b) true (e b) w' hN64 hb hn (HR.out w' h) H1.out
 have hc9 := hR.at (t := b) (by rw [bks_len]; exact hb)
 obtain ⟨bb, off, hbq, hc⟩ := hc9
 subst hbq
 rw [bks_el N gv uv l s e b hb, hx, hy] at hc
 have HC0 : Hid (∀ w', Below w.heap.size w w' → w'.rangeAt bb (off + b * 5) (bkc (.slice xq P xc) (.slice yq P yc) (l b) (s b) (e b))) := fun w' h => range_heap hc (h.block bb (range_lt hc (by simp [bkc])))
 clear hs hR hB hp hpl hc H1 HR hy hx hl hcc
 have t0 := tR
 go_enter Try.func43, Try.ntmps43
 go_wp2_with (first
  | (have q7 := t7; go_at_call 63; refine (SF.out _).mono ?_; rintro e9 w8 ⟨v8, rfl, o8, B8⟩; have HO8 := hdH (o8); have HB8 := hdH (B8); clear o8 B8 t7)
  | (have q6 := t6; go_at_call 47; refine (SJ.out _ BB.out).mono ?_; rintro e9 w7 ⟨jv, rfl, o7, B7⟩
     have yb := o7.byt HJA.out
     obtain ⟨jq, jc, hj⟩ := byt_form yb
     rw [HJL.out, ← HLL.out] at hj
     subst hj
     have HJ := hdH (yb)
     have HA := vB HA B7 (vlt HA.out); have HC := vB HC B7 (vlt HC.out); have HX := vB HX B7 (vlt HX.out)
     have BB := bT BB B7
     have HMk := hdH (HMk.out.below B7)
     have l7 : w3.heap.size < w7.heap.size := Nat.lt_of_lt_of_le l6 B7.size
     clear y0 y1 y2 y3 y4 o7 yb B7 t6; have t7 := tR)
  | (have q5 := t5; refine store_law1 _ w3.heap.size 3 (.bool true) rfl rfl (HX.out.there1 3 (by simp [bkc])) (HX.out.free 3 (by simp [bkc])) one_bool.2 rfl rfl ?_; intro w6 E6
     have B6 : Below w3.heap.size w5 w6 := below_set E6.out (Nat.le_refl _) (by omega)
     have HX : Hid (Vr w6 w3.heap.size (bkc (.slice xq P xc) (.slice yq P yc) (l b) true (e b))) := by
      have z := HX.out.set 3 (by simp [bkc]) (.bool true)
      rw [← E6.out] at z
      exact z
     have HA := hdH (HA.out.below B6 (by have := HL.out; omega))
     have HC := hdH (HC.out.below B6 (by have := HL.out; omega))
     have BB := hdH (BB.out.trans (B6.mono (by have := HL.out; omega)))
     have HMk := hdH (HM3.out.below (BC.out.trans B6))
     have l6 : w3.heap.size < w6.heap.size := Nat.lt_of_lt_of_le l5 B6.size
     obtain ⟨y0, y1, y2, y3, y4⟩ := vK5 HX.out
     clear E6 B6 BC HM5 t5; have t6 := tR)
  | (have q4 := t4; refine store_lawC _ (bkc (.slice xq P xc) (.slice yq P yc) (l b) (s b) (e b)) w3.heap.size 0 rfl rfl HX0.out.2 rowy_blk.2 bkcO ?_; intro w5 E5 R5 T5 B5
     have HX : Hid (Vr w5 w3.heap.size (bkc (.slice xq P xc) (.slice yq P yc) (l b) (s b) (e b))) := ⟨R5, T5⟩
     have HA := hdH (HA.out.below B5 (by have := HL.out; omega))
     have HC := hdH (HC.out.below B5 (by have := HL.out; omega))
     have BB := hdH (BB.out.trans (B5.mono (by have := HL.out; omega)))
     have HM5 := hdH (HM3.out.below (B4.trans B5))
     have BC : Hid (Below w3.heap.size w3 w5) := B4.trans B5
     have l5 : w3.heap.size < w5.heap.size := Nat.lt_of_lt_of_le l4 B5.size
     clear E5 R5 T5 B5 t4; have t5 := tR)
  | (have q3 := t3; refine new_lawC _ _ zero_blk ?_; intro w4 V4 B4 l4; have HX0 := hdH (V4); have HA := vB HA B4 (vlt HA.out); have HC := vB HC B4 (vlt HC.out); have BB := bT BB B4; clear c6 d0 d1 d2 d3 d4 V4 t3; have t4 := tR)
  | (have q2 := t2; go_at_call 64; refine (SC.out _ BB.out).mono ?_; rintro e9 w3 ⟨mv, rfl, y3, B3⟩; obtain ⟨mq, mc, rfl⟩ := byt_form y3; have HA := vB HA B3 (vlt HA.out); have HC := vB HC B3 (vlt HC.out); have BB := bT BB B3; have HL : Hid (w.heap.size < w1.heap.size ∧ w1.heap.size < w3.heap.size) := ⟨l1, by have := B3.size; omega⟩
     have HM3 := hdH (y3)
     have c6 := HA.out.cell 6 _ rfl
     have hc := HC0.out w3 BB.out
     have d0 := hc 0 _ rfl
     rw [Nat.add_zero] at d0
     have d1 := hc 1 _ rfl; have d2 := hc 2 _ rfl; have d3 := hc 3 _ rfl; have d4 := hc 4 _ rfl
     clear y3 B3 hc t2; have t3 := tR)
  | (have q1 := t1; refine new_lawC _ _ zero_chr ?_; intro w2 V2 B2 l2; have HC := hdH (V2); have HA := hdH (HA.out.below B2 l1); have BB := hdH (BB.out.trans (B2.mono (by omega))); obtain ⟨r0, r1, r2, r3, r4, r5, r6, r7, r8, r9⟩ := vK10 HA.out; clear V2 B2 t1; have t2 := tR)
  | (have q0 := t0; refine box_lawC _ (chr [(N : Int), P, g2, g3, g4, g5] (.slice (some ⟨bb, off, none⟩) N bc) (.slice po pn pc) false (n : Int)) rfl ?_; intro w1 V1 B1 l1; have HA := hdH (V1); have BB := hdH (B1); clear V1 B1 t0; have t1 := tR))
 obtain ⟨B, hB⟩ : ∃ x, x = w7.heap.size := ⟨_, rfl⟩
 have HL : Hid (w.heap.size < w1.heap.size ∧ w1.heap.size < w3.heap.size ∧ w3.heap.size < B) := ⟨HL.out.1, HL.out.2, by omega⟩
 rw [← hB] at HO8 HB8
 have HZ7 := hdH (hB)
 clear hB l1 l2 l4 l5 l6 l7
 go_loopw [11, 12] (fun v i wr => ∃ k : Nat, k ≤ L ∧ i = .int .i64 k ∧ Own B wr v (List.replicate k 0) ∧ Hid (Below B w7 wr)) (fun _ i _ => L - (intOf i).toNat)
 case atStart => exact ⟨0, Nat.zero_le _, rfl, HO8.out, HB8⟩
 case round =>
  obtain ⟨k, hk, rfl, hown, HBe⟩ := hrel
  obtain ⟨wa, rfl⟩ : ∃ x, x = wr := ⟨_, rfl⟩
  have hsz : B ≤ wa.heap.size := by have := HBe.out.size; have := HZ7.out; omega
  have k0 : (0 : Int) ≤ (k : Int) := by omega
  by_cases hlt : k < L
  ·have k1 : (k : Int) < (L : Int) := by omega
   have HLEN : Hid ((List.replicate k (0 : Int)).length ≤ 1099511627776) := by show _ ≤ _; rw [List.length_replicate]; omega
   go_wp2_with (at_builtin; refine push_law wa rfl (.tmp 47) (.tmp 48) rfl B hsz _ (List.replicate k 0) 0 rfl rfl hown HLEN.out ?_; intro v2 y2 O2 b2)
   go_roundw
   case rel => exact ⟨k + 1, by omega, by go_num, by rw [List.replicate_succ']; exact O2, HBe.out.trans b2⟩
   case measure => simp [intOf]; omega
  ·have e9 : L = k := by omega
   subst e9
   have B7 : Below w7.heap.size w7 wa := by rw [← HZ7.out]; exact HBe.out
   have HA := vB HA B7 (vlt HA.out)
   have HC := vB HC B7 (vlt HC.out)
   have HX := vB HX B7 (vlt HX.out)
   have BB := bT BB B7
   have HZ : Hid (B ≤ wa.heap.size) := hsz
   have HMk := hdH (HMk.out.below B7)
   have HJ := hdH (HJ.out.below B7)
   obtain ⟨r0, cap0, hv, -⟩ := own_row hown (by rw [List.length_replicate, HLL.out]; exact HPS.out.2)
   rw [List.length_replicate] at hv
   subst hv
   have HT0 : Hid (Byt wa (.slice (some ⟨r0, 0, none⟩) L cap0) (List.replicate L 0)) := hown.byt (allB_replicate 0 L (by omega))
   have SP : Hid (Calls Try.prog 65 #[.slice jq L jc, .slice (some ⟨r0, 0, none⟩) L cap0, .slice mq m.length mc, .bool false] wa fun e w' => ∃ v, e = .returned v ∧ Own wa.heap.size w' v (ofb (P * S) (prg (jnd P (pg b)) (List.replicate (P * S) (0 : Int)) m false (8 * (P * S)))) ∧ Below wa.heap.size wa w') := by
    have z := rprogO_false _ _ _ _ _ _ wa HJ.out HT0.out HMk.out (by rw [HJL.out, List.length_replicate, HLL.out]) (by rw [HJL.out]; have := HPS.out; omega)
    rw [HJL.out, HLL.out] at z
    rw [HLL.out]
    exact z
   clear hown HT0 HJ HMk
   have SK : Hid (∀ (w' : World) (rr cap : Nat), P * S ≤ cap → Calls Try.prog 67 #[.slice (some ⟨rr, 0, none⟩) (P * S) cap, .int .i64 (P : Int)] w' fun e w'' => ∃ gv, e = .returned gv ∧ OwR w'.heap.size w'' gv 53 1 (pgc P (prtv rr 0 S cap)) ∧ Below w'.heap.size w' w'') := fun w' rr cap h => cut_any rr 0 cap P S HNM.out.2.1 HNM.out.2.2.1 HNM.out.2.2.2.1 HNM.out.2.2.2.2 h w'
   have t0' : (1 : Nat) = 1 := rfl
   go_wp2_with (first
    | (have q6 := t6'; refine store_lawC _ (chr [(N : Int), P, g2, g3, g4, g5] (.slice (some ⟨r, 0, none⟩) N rc) (.slice po pn pc) c ((n + 1 : Nat) : Int)) w1.heap.size 0 rfl rfl HC.out.2 rowy_chipR.2 chrO ?_; intro y6 E5 R5 T5 B5
       have k5 : y5.grownBy y6 (some w1.heap.size) := by rw [E5.out]; exact keep_cells _ _ _ _
       have HR9 := hdH (R5)
       have HOw := hdH (owr_kept HOw.out k5 (by have := HL.out; omega))
       have BB := hdH (BB.out.trans ((Below.refl w.heap.size y5).grown k5 BB.out.size (fun kk hkk => by have := Option.some.inj hkk; have := HL.out; omega)))
       have HE := hdH (own_kept HE.out k5 (by have := HL.out; omega)); have HG := hdH (owr_kept HG.out k5 (by have := HL.out; omega)); have HZ : Hid (B ≤ y6.heap.size) := Nat.le_trans HZ.out k5.size
       clear E5 R5 T5 B5 k5 t6')
    | (have q5 := t5'; refine store_law1 _ w.heap.size 8 (.bool c) rfl rfl (HA.out.there1 8 (by simp [chr])) (HA.out.free 8 (by simp [chr])) one_bool.2 rfl rfl ?_; intro y5 E4
       have k4 : y4.grownBy y5 (some w.heap.size) := by rw [E4.out]; exact keep_set _ _ _ _
       have HA : Hid (Vr y5 w.heap.size (chr [(N : Int), P, g2, g3, g4, g5] (.slice (some ⟨r, 0, none⟩) N rc) (.slice po pn pc) c ((n + 1 : Nat) : Int))) := by
        have z := HA.out.set 8 (by simp [chr]) (.bool c)
        rw [← E4.out] at z
        exact z
       have HC := hdH (HC.out.kept k4 (vlt HC.out) (by have := HL.out; simp; omega))
       have HOw := hdH (owr_kept HOw.out k4 (by have := HL.out; omega))
       have BB := hdH (BB.out.trans ((Below.refl w.heap.size y4).grown k4 BB.out.size (fun kk hkk => by have := Option.some.inj hkk; have := HL.out; omega)))
       have HE := hdH (own_kept HE.out k4 (by have := HL.out; omega)); have HG := hdH (owr_kept HG.out k4 (by have := HL.out; omega)); have HZ : Hid (B ≤ y5.heap.size) := Nat.le_trans HZ.out k4.size
       obtain ⟨p0, p1, p2, p3, p4, p5, p6, p7, p8, p9⟩ := vK10 HA.out
       clear E4 k4 t5'; have t6' : (1 : Nat) = 1 := rfl)
    | (have q4 := t4'; refine store_lawC _ (chr [(N : Int), P, g2, g3, g4, g5] (.slice (some ⟨r, 0, none⟩) N rc) (.slice po pn pc) false ((n + 1 : Nat) : Int)) w.heap.size 0 rfl rfl HA.out.2 rowy_chipR.2 chrO ?_; intro y4 E3 R3 T3 B3
       have k3 : y3.grownBy y4 (some w.heap.size) := by rw [E3.out]; exact keep_cells _ _ _ _
       have HA : Hid (Vr y4 w.heap.size (chr [(N : Int), P, g2, g3, g4, g5] (.slice (some ⟨r, 0, none⟩) N rc) (.slice po pn pc) false ((n + 1 : Nat) : Int))) := ⟨R3, T3⟩
       have HC := hdH (HC.out.kept k3 (vlt HC.out) (by have := HL.out; simp; omega))
       have HOw := hdH (owr_kept HOw.out k3 (by have := HL.out; omega))
       have BB := hdH (BB.out.trans ((Below.refl w.heap.size y3).grown k3 BB.out.size (fun kk hkk => by have := Option.some.inj hkk; have := HL.out; omega)))
       have HE := hdH (own_kept HE.out k3 (by have := HL.out; omega)); have HG := hdH (owr_kept HG.out k3 (by have := HL.out; omega)); have HZ : Hid (B ≤ y4.heap.size) := Nat.le_trans HZ.out k3.size
       clear E3 R3 T3 B3 k3 t4'; have t5' : (1 : Nat) = 1 := rfl)
    | (have q3 := t3'; go_at_call 66; refine (SW.out _ BB.out gq gc).mono ?_; rintro e9 y3 ⟨r, rc, rfl, o2, B2⟩
       have HOw : Hid (OwR B y3 (.slice (some ⟨r, 0, none⟩) N rc) 50 5 (bks N (at1 gv b (.slice gq P gc)) (at1 uv b (.slice yq P yc)) (at1 l b (l b)) (at1 s b true) (at1 e b (e b)))) := o2.base HZ.out
       have HE := hdH (own_low HE.out B2)
       have HG := hdH (HG.out.low B2)
       have HZ : Hid (B ≤ y3.heap.size) := Nat.le_trans HZ.out B2.size
       have HC := vB HC B2 (vlt HC.out)
       have HA := vB HA B2 (vlt HA.out)
       have BB := bT BB B2
       clear p0 p1 p2 p3 p4 p5 p6 p7 p8 p9 x0 x1 x2 x3 x4 o2 B2 t3'; have t4' : (1 : Nat) = 1 := rfl)
    | (have q2 := t2'; refine store_law1 _ w3.heap.size 0 (.slice gq P gc) rfl rfl (HX.out.there1 0 (by simp [bkc])) (HX.out.free 0 (by simp [bkc])) one_pages.2 rfl rfl ?_; intro y2 E2
       have k2 : y1.grownBy y2 (some w3.heap.size) := by rw [E2.out]; exact keep_set _ _ _ _
       have HX : Hid (Vr y2 w3.heap.size (bkc (.slice gq P gc) (.slice yq P yc) (l b) true (e b))) := by
        have z := HX.out.set 0 (by simp [bkc]) (.slice gq P gc)
        rw [← E2.out] at z
        exact z
       have HC := hdH (HC.out.kept k2 (vlt HC.out) (by have := HL.out; simp; omega))
       have HA := hdH (HA.out.kept k2 (vlt HA.out) (by have := HL.out; simp; omega))
       have BB := hdH (BB.out.trans ((Below.refl w.heap.size y1).grown k2 BB.out.size (fun kk hkk => by have := Option.some.inj hkk; have := HL.out; omega)))
       have HE := hdH (own_kept HE.out k2 (by have := HL.out; omega)); have HG := hdH (owr_kept HG.out k2 (by have := HL.out; omega)); have HZ : Hid (B ≤ y2.heap.size) := Nat.le_trans HZ.out k2.size
       obtain ⟨p0, p1, p2, p3, p4, p5, p6, p7, p8, p9⟩ := vK10 HA.out
       obtain ⟨x0, x1, x2, x3, x4⟩ := vK5 HX.out
       clear E2 k2 t2'; have t3' : (1 : Nat) = 1 := rfl)
    | (have q1 := t1'; go_at_call 67; refine (SK.out wb rr cap HCap.out).mono ?_; rintro e9 y1 ⟨v9, rfl, y9, hb9⟩
       obtain ⟨gq, gc, rfl⟩ := rws_form y9.rws (pgc_len P _)
       have HG : Hid (OwR B y1 (.slice gq P gc) 53 1 (pgc P (prtv rr 0 S cap))) := y9.base HZ.out
       have HE := hdH (own_low HE.out hb9)
       have HA := vB HA hb9 (vlt HA.out); have HC := vB HC hb9 (vlt HC.out); have HX := vB HX hb9 (vlt HX.out)
       have BB := bT BB hb9
       have HZ : Hid (B ≤ y1.heap.size) := Nat.le_trans HZ.out hb9.size
       clear p1 y9 hb9 t1'; have t2' : (1 : Nat) = 1 := rfl)
    | (have q0 := t0'; go_at_call 65; refine SP.out.mono ?_; rintro e9 wb ⟨v9, rfl, y9, hb9⟩
       obtain ⟨rr, cap, hv, -⟩ := own_row y9 (by rw [ofb_len]; exact HPS.out.2)
       rw [ofb_len] at hv
       subst hv
       have HCap : Hid (P * S ≤ cap) := by
        obtain ⟨q, c, e, e1, -⟩ := y9.byt (ofb_all _ _)
        injection e with _ _ e3
        rw [ofb_len] at e1
        show _ ≤ _
        omega
       have HE : Hid (Own B wb (.slice (some ⟨rr, 0, none⟩) (P * S) cap) (ofb (P * S) (prg (jnd P (pg b)) (List.replicate (P * S) (0 : Int)) m false (8 * (P * S))))) := own_base y9 HZ.out
       have HA := vB HA hb9 (vlt HA.out); have HC := vB HC hb9 (vlt HC.out); have HX := vB HX hb9 (vlt HX.out)
       have BB := bT BB hb9
       have HZ : Hid (B ≤ wb.heap.size) := Nat.le_trans HZ.out hb9.size
       have p1 := HA.out.cell 1 _ rfl
       clear y9 hb9 t0'; have t1' : (1 : Nat) = 1 := rfl))
   refine bodyPost_ret (v := .tuple #[.agg (chr [(N : Int), P, g2, g3, g4, g5] (.slice (some ⟨r, 0, none⟩) N rc) (.slice po pn pc) c ((n + 1 : Nat) : Int)).toArray, .int .i64 cc]) (results_cv rfl _ _ w1.heap.size _ _ rowy_chipR rfl rfl HR9.out) rfl ⟨r, rc, .slice gq P gc, rr, cap, rfl, ?_, HG.out.base (by have := HL.out; omega), own_base HE.out (by have := HL.out; omega), HCap.out, BB.out⟩
   rw [HUV.out]
   exact HOw.out.base (by have := HL.out; omega)
end Go.Proofs.Ytikcohjhhoiakaa.na
