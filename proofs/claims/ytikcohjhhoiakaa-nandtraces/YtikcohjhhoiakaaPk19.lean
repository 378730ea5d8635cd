/- Texts put together. -/
import Derived.Test.YtikcohjhhoiakaaPk17
import Derived.Test.YtikcohjhhoiakaaPk18
import Derived.BigQuiet
import Derived.OwnWalk
import Derived.Test.YtikcohjhhoiakaaPk01
import Derived.Test.YtikcohjhhoiakaaPk13
set_option maxHeartbeats 8000000
namespace Go.Proofs.Ytikcohjhhoiakaa.na
open Go.RowKit Go.Proofs.Ytikcohjhhoiakaa.fa
set_option maxRecDepth 20000
theorem mul_bound {k P S : Nat} (hk : k ≤ P) (hP : P ≤ 32) (hS : S ≤ 4184) : k * S ≤ 133888 := by
 have := Nat.mul_le_mul (Nat.le_trans hk hP) hS
 omega
theorem joined_any (gv uv : Value) (l : Int) (sb : Bool) (ee : Int) (P S : Nat) (pg : Nat → List Int) (us : Nat → Int) (hP : P ≤ 32) (hS : S ≤ 4184) (w : World) (h : Blk w gv uv P pg us) (hl : ∀ p, p < P → (pg p).length = S) :
  Calls Try.prog 47 #[.agg (bkc gv uv l sb ee).toArray] w fun e w' => ∃ v, e = .returned v ∧ Own w.heap.size w' v (jnd P pg) ∧ Below w.heap.size w w' := by
 obtain ⟨⟨xv, h1, h2⟩, h3⟩ := h
 obtain ⟨gq, gc, rfl⟩ := rws_form h1 (pgc_len P xv)
 obtain ⟨uq, uc, rfl⟩ := rws_form h3 (usc_len P us)
 have HG := hdH (h1)
 have HX := hdH (h2)
 have HL := hdH (hl)
 clear h1 h2 h3 hl
 have t0 := tR
 go_enter Try.func47, Try.ntmps47
 go_wp2_with (have q0 := t0; refine box_lawC _ (bkc (.slice gq P gc) (.slice uq P uc) l sb ee) rfl ?_; intro w1 V1 B1 l1; have HV := hdH (V1); have BB := hdH (B1); clear V1 B1 t0)
 obtain ⟨h1, e1⟩ : ∃ x, x = w.heap.size := ⟨_, rfl⟩
 have HO : Hid (h1 = w.heap.size ∧ h1 < w1.heap.size) := ⟨e1, by omega⟩
 rw [← e1] at HV ⊢
 clear e1
 go_loopw [3, 4] (fun v i wr => ∃ k : Nat, k ≤ P ∧ i = .int .i64 k ∧ Own w1.heap.size wr v (jnd k pg) ∧ Below w1.heap.size w1 wr) (fun _ i _ => P - (intOf i).toNat)
 case atStart => exact ⟨0, Nat.zero_le _, rfl, Own.empty w1 (Nat.le_refl _), (Below.refl _ _).alloc (Nat.le_refl _) _⟩
 case round =>
  obtain ⟨k, hk, rfl, hown, hbel⟩ := hrel
  obtain ⟨wa, rfl⟩ : ∃ x, x = wr := ⟨_, rfl⟩
  have hsz := hbel.size
  have k0 : (0 : Int) ≤ (k : Int) := by omega
  have c0 : wa.cell? ⟨h1, 0, none⟩ = some (.slice gq P gc) := (HV.out.below hbel HO.out.2).cell 0 _ rfl
  have HBe : Hid (Below w1.heap.size w1 wa) := hbel
  clear hbel
  by_cases hlt : k < P
  ·have k1 : (k : Int) < (P : Int) := by omega
   have BW := hdH (BB.out.trans (HBe.out.mono (by have := HO.out; omega)))
   obtain ⟨b, off, rfl, hc⟩ := HG.out.at (t := k) (by rw [pgc_len]; exact hlt)
   rw [pgc_el P xv k hlt] at hc
   obtain ⟨xo, xc, hx⟩ := byt_form (HX.out k hlt)
   have HY : Hid (Byt wa (xv k) (pg k)) := (HX.out k hlt).below BW.out
   rw [hx] at hc HY
   have c1 : wa.cell? ⟨b, off + k, none⟩ = some (.slice xo (pg k).length xc) := by
    have z := hc 0 _ rfl
    rw [Nat.mul_one, Nat.add_zero] at z
    have n1 := World.block_lt_of_cell? w _ z
    exact (BW.out.cell n1).trans z
   have HM : Hid ((jnd k pg).length + (pg k).length ≤ 140737488355328) := by
    show _ ≤ _
    rw [jnd_len k S pg (fun p hp => HL.out p (by omega)), HL.out k hlt]
    have := mul_bound hk hP hS
    omega
   clear hc hx
   go_wp2_with (at_builtin; refine pushs_law _ rfl (.tmp 13) (.tmp 18) rfl w1.heap.size hsz _ _ (jnd k pg) (pg k) rfl rfl hown HY.out HM.out ?_; intro v2 w2 O2 b2)
   go_roundw
   case rel => exact ⟨k + 1, by omega, by go_num, by rw [jnd_succ]; exact O2, HBe.out.trans b2⟩
   case measure => simp [intOf]; omega
  ·have e : P = k := by omega
   subst e
   go_wp2
   go_ret
   exact ⟨_, rfl, own_base hown (by have := HO.out; omega), BB.out.trans (HBe.out.mono (by have := HO.out; omega))⟩
theorem chr_get {g : List Int} (hg : g.length = 6) (bv pv : Value) (o : Bool) (n : Int) (j : Nat) : (chr g bv pv o n)[6 + j]? = ([bv, pv, .bool o, .int .i64 n] : List Value)[j]? := by
 unfold chr
 rw [List.getElem?_append_right (by rw [List.length_map]; omega), List.length_map, hg]
 congr 1; omega
theorem code_any (g : List Int) (hg : g.length = 6) (bv pv : Value) (o : Bool) (n : Nat) (pl : Pln) (w : World) (h : Pla w pv pl) :
  Calls Try.prog 64 #[.agg (chr g bv pv o (n : Int)).toArray] w fun e w' => ∃ mv, e = .returned (.tuple #[.int .i64 (ans (pl n)), mv, .bool (crs (pl n))]) ∧ Byt w' mv (msk (pl n)) ∧ Below w.heap.size w w' := by
 obtain ⟨fs, ms, h1, h2, h3, h4, h5⟩ := h
 have HF : Hid (∀ w', Below w.heap.size w w' → Fls w' pv fs) := fun w' hb => h1.below hb
 have HMk : Hid (∀ w', Below w.heap.size w w' → Mks w' fs ms) := fun w' hb => h2.below hb
 obtain ⟨po, pc, rfl, -⟩ := h1
 have H5 : Hid ((∀ t, Fst fs n t → pl n = some ((gf fs t).2.1, ms t)) ∧ ((∀ s, s < fs.length → (gf fs s).1 ≠ (n : Int)) → pl n = none)) := h5 n
 clear h2 h3 h4 h5
 have t0 := tR
 rcases fst_or fs n with ⟨t, ht⟩ | hn
 ·have hpl := H5.out.1 t ht
  have HT := hdH (ht)
  have SA : Hid (∀ w', Below w.heap.size w w' → Calls Try.prog 24 #[.slice po fs.length pc, .int .i64 (n : Int)] w' fun e w'' => e = .returned (.int .i64 (t : Int)) ∧ ∃ n, w'' = w'.drewN n) := fun w' hb => rat_any _ fs n w' (HF.out w' hb) t (fun t' ht' => by
   have : t' = t := by
    rcases Nat.lt_trichotomy t' t with q | q | q
    ·exact absurd ht'.2.1 (HT.out.2.2 t' q)
    ·exact q
    ·exact absurd HT.out.2.1 (ht'.2.2 t q)
   rw [this]) (fun hn => absurd HT.out.2.1 (hn t HT.out.1))
  obtain ⟨x, cr, mo, mc, hf⟩ := split_flt (HMk.out w (Below.refl _ _)) ht.1
  rw [hpl, hf]
  have tl : t < fs.length := ht.1
  have t1 : (0 : Int) ≤ (t : Int) := by omega
  have t2 : (t : Int) < (fs.length : Int) := by omega
  obtain ⟨ao', cap', e, a1, a2, a3, a4⟩ := HF.out w (Below.refl _ _)
  cases e
  obtain ⟨b, off, rfl, hc⟩ := a4 (by omega)
  have HFA : Hid (FlA w b (off + t * 3) (x, cr, .slice mo (ms t).length mc)) := by have := hc t tl; rw [hf] at this; exact this
  have HYm : Hid (Byt w (.slice mo (ms t).length mc) (ms t)) := by have := (HMk.out w (Below.refl _ _) t tl).1; rw [hf] at this; exact this
  clear hc a1 a2 a3 a4 hpl hf ht HF HMk H5
  cases cr
  ·skip
   go_enter Try.func64, Try.ntmps64
   go_wp2_with (first
    | (have q1 := u1; go_at_call 24; refine (SA.out _ BB.out).mono ?_; rintro e w2 ⟨rfl, m, rfl⟩; clear u1)
    | (have q0 := t0; refine box_lawC _ (chr g bv (.slice (some ⟨b, off, none⟩) fs.length pc) o (n : Int)) rfl ?_; intro w1 V1 B1 l1; have c7 := V1.cell 7 _ (chr_get hg _ _ _ _ 1); have c9 := V1.cell 9 _ (chr_get hg _ _ _ _ 3); have hfa := HFA.out.below B1 HFA.out.lt; have f1 := hfa.2.1; have f2 := hfa.2.2; have BB := hdH (B1); clear hfa V1 B1 t0; have u1 : (1 : Nat) = 1 := rfl))
   go_quiet (fail)
   go_wp2
   go_ret3
   exact ⟨_, rfl, HYm.out.below (below_drawn (below_drawn BB.out _) _), below_drawn (below_drawn BB.out _) _⟩
  ·skip
   go_enter Try.func64, Try.ntmps64
   go_wp2_with (first
    | (have q1 := u1; go_at_call 24; refine (SA.out _ BB.out).mono ?_; rintro e w2 ⟨rfl, m, rfl⟩; clear u1)
    | (have q0 := t0; refine box_lawC _ (chr g bv (.slice (some ⟨b, off, none⟩) fs.length pc) o (n : Int)) rfl ?_; intro w1 V1 B1 l1; have c7 := V1.cell 7 _ (chr_get hg _ _ _ _ 1); have c9 := V1.cell 9 _ (chr_get hg _ _ _ _ 3); have hfa := HFA.out.below B1 HFA.out.lt; have f1 := hfa.2.1; have f2 := hfa.2.2; have BB := hdH (B1); clear hfa V1 B1 t0; have u1 : (1 : Nat) = 1 := rfl))
   go_quiet (fail)
   go_wp2
   go_ret3
   exact ⟨_, rfl, HYm.out.below (below_drawn (below_drawn BB.out _) _), below_drawn (below_drawn BB.out _) _⟩
 ·have hpl := H5.out.2 hn
  have SA : Hid (∀ w', Below w.heap.size w w' → Calls Try.prog 24 #[.slice po fs.length pc, .int .i64 (n : Int)] w' fun e w'' => e = .returned (.int .i64 (-1)) ∧ ∃ n, w'' = w'.drewN n) := fun w' hb => rat_any _ fs n w' (HF.out w' hb) (-1) (fun t ht => absurd ht.2.1 (hn t ht.1)) (fun _ => rfl)
  rw [hpl]
  clear hpl HF HMk H5 hn
  go_enter Try.func64, Try.ntmps64
  go_wp2_with (first
   | (have q1 := u1; go_at_call 24; refine (SA.out _ BB.out).mono ?_; rintro e w2 ⟨rfl, m, rfl⟩; clear u1)
   | (have q0 := t0; refine box_lawC _ (chr g bv (.slice po fs.length pc) o (n : Int)) rfl ?_; intro w1 V1 B1 l1; have c7 := V1.cell 7 _ (chr_get hg _ _ _ _ 1); have c9 := V1.cell 9 _ (chr_get hg _ _ _ _ 3); have BB := hdH (B1); clear V1 B1 t0; have u1 : (1 : Nat) = 1 := rfl))
  go_ret3
  exact ⟨_, rfl, Byt.nil _, below_drawn BB.out _⟩
theorem place_any (g : List Int) (N P S : Nat) (hs : Shp g N P S) (b p : Int) (w : World) :
  Calls Try.prog 23 #[.agg (ints .i64 g), .agg (ints .i64 [b, p])] w fun e w' => e = .returned (.bool (decide (0 ≤ b ∧ b < N ∧ 0 ≤ p ∧ p < P))) ∧ Below w.heap.size w w' := by
 obtain ⟨gl, hr, g0, g1, g2⟩ := hs
 have SR := hdH (fun w => ge.right_yes g gl hr w)
 have G0 : Hid (gb g 0 = N ∧ gb g 1 = P) := ⟨g0, g1⟩
 clear hr g0 g1 g2
 have t0 := tR
 by_cases q1 : 0 ≤ b
 rotate_left
 ·rw [show decide (0 ≤ b ∧ b < N ∧ 0 ≤ p ∧ p < P) = false from decide_eq_false (by omega)]
  have q1' : ¬ (0 ≤ b) := q1
  go_enter Try.func23, Try.ntmps23
  go_wp2_with (first
   | (have z3 := t3; go_at_call 9; refine (SR.out _).mono ?_; rintro e w3 ⟨rfl, B3⟩; have HP3 := HP.out.below B3 (Nat.lt_trans l1 l2); have HQ3 := HQ.out.below B3 l2; have d0 : w3.cell? ⟨w.heap.size, 0, none⟩ = some (.int .i64 (N : Int)) := by rw [← G0.out.1]; exact HP3.cell0 0 (by omega)
      have d1 : w3.cell? ⟨w.heap.size, 1, none⟩ = some (.int .i64 (P : Int)) := by rw [← G0.out.2]; exact HP3.cell0 1 (by omega)
      have d2 : w3.cell? ⟨w1.heap.size, 0, none⟩ = some (.int .i64 b) := HQ3.cell0 0 (by simp)
      have d3 : w3.cell? ⟨w1.heap.size, 1, none⟩ = some (.int .i64 p) := HQ3.cell0 1 (by simp)
      have BB := hdH (BB.out.trans (B3.mono (by omega))); clear t3 B3 HP3 HQ3)
   | (have z2 := t2; refine load_lawS _ (by rfl) _ _ rfl (ld_geo gl HP.out.1) ?_; clear t2; have t3 := tR)
   | (have z1 := t1; refine box_lawF _ rfl (.tmp 1) 43 rfl .i64 [b, p] rfl ?_; intro w2 X2 B2 l2; have HQ := hdH (X2); have HP := hdH (HP.out.below B2 l1); have BB := hdH (BB.out.trans (B2.mono (by omega))); clear X2 B2 t1; have t2 := tR)
   | (have z0 := t0; refine box_lawF _ rfl (.tmp 0) 23 rfl .i64 g rfl ?_; intro w1 X1 B1 l1; have HP := hdH (X1); have BB := hdH (B1); clear X1 B1 t0; have t1 := tR))
  go_ret
  first | exact ⟨rfl, BB.out⟩ | (refine ⟨?_, BB.out⟩; simp; omega)
 by_cases q2 : b < N
 rotate_left
 ·rw [show decide (0 ≤ b ∧ b < N ∧ 0 ≤ p ∧ p < P) = false from decide_eq_false (by omega)]
  have q2' : ¬ (b < N) := q2
  go_enter Try.func23, Try.ntmps23
  go_wp2_with (first
   | (have z3 := t3; go_at_call 9; refine (SR.out _).mono ?_; rintro e w3 ⟨rfl, B3⟩; have HP3 := HP.out.below B3 (Nat.lt_trans l1 l2); have HQ3 := HQ.out.below B3 l2; have d0 : w3.cell? ⟨w.heap.size, 0, none⟩ = some (.int .i64 (N : Int)) := by rw [← G0.out.1]; exact HP3.cell0 0 (by omega)
      have d1 : w3.cell? ⟨w.heap.size, 1, none⟩ = some (.int .i64 (P : Int)) := by rw [← G0.out.2]; exact HP3.cell0 1 (by omega)
      have d2 : w3.cell? ⟨w1.heap.size, 0, none⟩ = some (.int .i64 b) := HQ3.cell0 0 (by simp)
      have d3 : w3.cell? ⟨w1.heap.size, 1, none⟩ = some (.int .i64 p) := HQ3.cell0 1 (by simp)
      have BB := hdH (BB.out.trans (B3.mono (by omega))); clear t3 B3 HP3 HQ3)
   | (have z2 := t2; refine load_lawS _ (by rfl) _ _ rfl (ld_geo gl HP.out.1) ?_; clear t2; have t3 := tR)
   | (have z1 := t1; refine box_lawF _ rfl (.tmp 1) 43 rfl .i64 [b, p] rfl ?_; intro w2 X2 B2 l2; have HQ := hdH (X2); have HP := hdH (HP.out.below B2 l1); have BB := hdH (BB.out.trans (B2.mono (by omega))); clear X2 B2 t1; have t2 := tR)
   | (have z0 := t0; refine box_lawF _ rfl (.tmp 0) 23 rfl .i64 g rfl ?_; intro w1 X1 B1 l1; have HP := hdH (X1); have BB := hdH (B1); clear X1 B1 t0; have t1 := tR))
  go_ret
  first | exact ⟨rfl, BB.out⟩ | (refine ⟨?_, BB.out⟩; simp; omega)
 by_cases q3 : 0 ≤ p
 rotate_left
 ·rw [show decide (0 ≤ b ∧ b < N ∧ 0 ≤ p ∧ p < P) = false from decide_eq_false (by omega)]
  have q3' : ¬ (0 ≤ p) := q3
  go_enter Try.func23, Try.ntmps23
  go_wp2_with (first
   | (have z3 := t3; go_at_call 9; refine (SR.out _).mono ?_; rintro e w3 ⟨rfl, B3⟩; have HP3 := HP.out.below B3 (Nat.lt_trans l1 l2); have HQ3 := HQ.out.below B3 l2; have d0 : w3.cell? ⟨w.heap.size, 0, none⟩ = some (.int .i64 (N : Int)) := by rw [← G0.out.1]; exact HP3.cell0 0 (by omega)
      have d1 : w3.cell? ⟨w.heap.size, 1, none⟩ = some (.int .i64 (P : Int)) := by rw [← G0.out.2]; exact HP3.cell0 1 (by omega)
      have d2 : w3.cell? ⟨w1.heap.size, 0, none⟩ = some (.int .i64 b) := HQ3.cell0 0 (by simp)
      have d3 : w3.cell? ⟨w1.heap.size, 1, none⟩ = some (.int .i64 p) := HQ3.cell0 1 (by simp)
      have BB := hdH (BB.out.trans (B3.mono (by omega))); clear t3 B3 HP3 HQ3)
   | (have z2 := t2; refine load_lawS _ (by rfl) _ _ rfl (ld_geo gl HP.out.1) ?_; clear t2; have t3 := tR)
   | (have z1 := t1; refine box_lawF _ rfl (.tmp 1) 43 rfl .i64 [b, p] rfl ?_; intro w2 X2 B2 l2; have HQ := hdH (X2); have HP := hdH (HP.out.below B2 l1); have BB := hdH (BB.out.trans (B2.mono (by omega))); clear X2 B2 t1; have t2 := tR)
   | (have z0 := t0; refine box_lawF _ rfl (.tmp 0) 23 rfl .i64 g rfl ?_; intro w1 X1 B1 l1; have HP := hdH (X1); have BB := hdH (B1); clear X1 B1 t0; have t1 := tR))
  go_ret
  first | exact ⟨rfl, BB.out⟩ | (refine ⟨?_, BB.out⟩; simp; omega)
 by_cases q4 : p < P
 rotate_left
 ·rw [show decide (0 ≤ b ∧ b < N ∧ 0 ≤ p ∧ p < P) = false from decide_eq_false (by omega)]
  have q4' : ¬ (p < P) := q4
  go_enter Try.func23, Try.ntmps23
  go_wp2_with (first
   | (have z3 := t3; go_at_call 9; refine (SR.out _).mono ?_; rintro e w3 ⟨rfl, B3⟩; have HP3 := HP.out.below B3 (Nat.lt_trans l1 l2); have HQ3 := HQ.out.below B3 l2; have d0 : w3.cell? ⟨w.heap.size, 0, none⟩ = some (.int .i64 (N : Int)) := by rw [← G0.out.1]; exact HP3.cell0 0 (by omega)
      have d1 : w3.cell? ⟨w.heap.size, 1, none⟩ = some (.int .i64 (P : Int)) := by rw [← G0.out.2]; exact HP3.cell0 1 (by omega)
      have d2 : w3.cell? ⟨w1.heap.size, 0, none⟩ = some (.int .i64 b) := HQ3.cell0 0 (by simp)
      have d3 : w3.cell? ⟨w1.heap.size, 1, none⟩ = some (.int .i64 p) := HQ3.cell0 1 (by simp)
      have BB := hdH (BB.out.trans (B3.mono (by omega))); clear t3 B3 HP3 HQ3)
   | (have z2 := t2; refine load_lawS _ (by rfl) _ _ rfl (ld_geo gl HP.out.1) ?_; clear t2; have t3 := tR)
   | (have z1 := t1; refine box_lawF _ rfl (.tmp 1) 43 rfl .i64 [b, p] rfl ?_; intro w2 X2 B2 l2; have HQ := hdH (X2); have HP := hdH (HP.out.below B2 l1); have BB := hdH (BB.out.trans (B2.mono (by omega))); clear X2 B2 t1; have t2 := tR)
   | (have z0 := t0; refine box_lawF _ rfl (.tmp 0) 23 rfl .i64 g rfl ?_; intro w1 X1 B1 l1; have HP := hdH (X1); have BB := hdH (B1); clear X1 B1 t0; have t1 := tR))
  go_ret
  first | exact ⟨rfl, BB.out⟩ | (refine ⟨?_, BB.out⟩; simp; omega)
 rw [show decide (0 ≤ b ∧ b < N ∧ 0 ≤ p ∧ p < P) = true from decide_eq_true (by omega)]
 go_enter Try.func23, Try.ntmps23
 go_wp2_with (first
  | (have z3 := t3; go_at_call 9; refine (SR.out _).mono ?_; rintro e w3 ⟨rfl, B3⟩; have HP3 := HP.out.below B3 (Nat.lt_trans l1 l2); have HQ3 := HQ.out.below B3 l2; have d0 : w3.cell? ⟨w.heap.size, 0, none⟩ = some (.int .i64 (N : Int)) := by rw [← G0.out.1]; exact HP3.cell0 0 (by omega)
     have d1 : w3.cell? ⟨w.heap.size, 1, none⟩ = some (.int .i64 (P : Int)) := by rw [← G0.out.2]; exact HP3.cell0 1 (by omega)
     have d2 : w3.cell? ⟨w1.heap.size, 0, none⟩ = some (.int .i64 b) := HQ3.cell0 0 (by simp)
     have d3 : w3.cell? ⟨w1.heap.size, 1, none⟩ = some (.int .i64 p) := HQ3.cell0 1 (by simp)
     have BB := hdH (BB.out.trans (B3.mono (by omega))); clear t3 B3 HP3 HQ3)
  | (have z2 := t2; refine load_lawS _ (by rfl) _ _ rfl (ld_geo gl HP.out.1) ?_; clear t2; have t3 := tR)
  | (have z1 := t1; refine box_lawF _ rfl (.tmp 1) 43 rfl .i64 [b, p] rfl ?_; intro w2 X2 B2 l2; have HQ := hdH (X2); have HP := hdH (HP.out.below B2 l1); have BB := hdH (BB.out.trans (B2.mono (by omega))); clear X2 B2 t1; have t2 := tR)
  | (have z0 := t0; refine box_lawF _ rfl (.tmp 0) 23 rfl .i64 g rfl ?_; intro w1 X1 B1 l1; have HP := hdH (X1); have BB := hdH (B1); clear X1 B1 t0; have t1 := tR))
 go_ret
 first | exact ⟨rfl, BB.out⟩ | (refine ⟨?_, BB.out⟩; simp; omega)
theorem bks_one {N : Nat} {gv uv : Nat → Value} {l : Nat → Int} {s : Nat → Bool} {e : Nat → Int} (h : ∀ b, b < N → (gv b).oneCell' = true ∧ (uv b).oneCell' = true) : ∀ u ∈ (bks N gv uv l s e).flatten, u.oneCell' = true := fun u hu => by
 obtain ⟨c, hc, hu⟩ := List.mem_flatten.1 hu
 obtain ⟨b, hb, rfl⟩ := List.mem_map.1 hc
 have := h b (List.mem_range.1 hb)
 exact bkc_one _ _ _ this.1 this.2 u hu
theorem with_any (N P : Nat) (g2 g3 g4 g5 : Int) (bq : Option Addr) (bc : Nat) (po : Option Addr) (pn pc : Nat) (o : Bool) (n b : Nat) (gv uv : Nat → Value) (l : Nat → Int) (s : Nat → Bool) (e : Nat → Int) (xq yq : Option Addr) (xn xc yn yc : Nat) (l' : Int) (s' : Bool) (e' : Int) (w : World)
  (hN : N ≤ 64) (hb : b < N) (hn : n ≤ 1000000) (hR : Rws w (.slice bq N bc) 5 (bks N gv uv l s e)) (h1 : ∀ b, b < N → (gv b).oneCell' = true ∧ (uv b).oneCell' = true) :
  Calls Try.prog 66 #[.agg (chr [(N : Int), P, g2, g3, g4, g5] (.slice bq N bc) (.slice po pn pc) o (n : Int)).toArray, .int .i64 (b : Int), .agg (bkc (.slice xq xn xc) (.slice yq yn yc) l' s' e').toArray] w fun x w' => ∃ r rc, x = .returned (.agg (chr [(N : Int), P, g2, g3, g4, g5] (.slice (some ⟨r, 0, none⟩) N rc) (.slice po pn pc) o ((n + 1 : Nat) : Int)).toArray) ∧ OwR w.heap.size w' (.slice (some ⟨r, 0, none⟩) N rc) 50 5 (bks N (at1 gv b (.slice xq xn xc)) (at1 uv b (.slice yq yn yc)) (at1 l b l') (at1 s b s') (at1 e b e')) ∧ Below w.heap.size w w' := by
 have HR := hdH (hR)
 have H1 : Hid (∀ u ∈ (bks N gv uv l s e).flatten, u.oneCell' = true) := bks_one h1
 have HL : Hid (((bks N gv uv l s e)).length = N) := bks_len N _ _ _ _ _
 have HW : Hid (IntKind.i64.wrap ((n : Int) + 1) = ((n + 1 : Nat) : Int)) := by
  show _ = _
  rw [IntKind.wrap_i64]; omega
 clear hR h1
 have b0 : (0 : Int) ≤ (b : Int) := by omega
 have b1 : (b : Int) < (N : Int) := by omega
 have t0 := tR
 go_enter Try.func66, Try.ntmps66
 go_wp2_with (first
  | (have q7 := t7; refine store_lawC _ (chr [(N : Int), P, g2, g3, g4, g5] (.slice (some ⟨r, 0, none⟩) N rc) (.slice po pn pc) o ((n + 1 : Nat) : Int)) w2.heap.size 0 rfl rfl HC.out.2 rowy_chipR.2 chrO ?_; intro w8 E8 R8 T8 B8
     have kp8 : w7.grownBy w8 (some w2.heap.size) := by rw [E8.out]; exact keep_cells _ _ _ _
     have HR8 := hdH (R8)
     have HOw : Hid (OwR w.heap.size w8 (.slice (some ⟨r, 0, none⟩) N rc) 50 5 (bks N (at1 gv b (.slice xq xn xc)) (at1 uv b (.slice yq yn yc)) (at1 l b l') (at1 s b s') (at1 e b e'))) := (HOw.out.1.kept kp8 (own_ne fun kk hkk => by have := (HOw.out.1.1.lt kk hkk).1; have := HO.out; omega)).base (by have := HO.out; omega)
     have BB := hdH (BB.out.trans (B8.mono (by have := HO.out; omega)))
     clear E8 R8 T8 B8 kp8 t7)
  | (have q6 := t6; refine store_law1 _ w.heap.size 9 (.int .i64 ((n + 1 : Nat) : Int)) rfl (by first | rfl | simpa using HW.out) (HA.out.there1 9 (by simp [chr])) (HA.out.free 9 (by simp [chr])) one_int.2 rfl rfl ?_; intro w7 E7
     have kp7 : w6.grownBy w7 (some w.heap.size) := by rw [E7.out]; exact keep_set _ _ _ _
     have HC := hdH (HC.out.kept kp7 (vlt HC.out) (by have := HO.out; simp; omega))
     have HOw : Hid (OwR w3.heap.size w7 (.slice (some ⟨r, 0, none⟩) N rc) 50 5 (bks N (at1 gv b (.slice xq xn xc)) (at1 uv b (.slice yq yn yc)) (at1 l b l') (at1 s b s') (at1 e b e')) ∧ w3.heap.size ≤ r) := ⟨HOw.out.1.kept kp7 (own_ne fun kk hkk => by have := (HOw.out.1.1.lt kk hkk).1; have := HO.out; omega), HOw.out.2⟩
     have BB := hdH (BB.out.trans ((Below.refl w.heap.size _).grown kp7 BB.out.size (fun kk hkk => by have hk9 : w.heap.size = kk := (Option.some.inj hkk); omega)))
     have HA : Hid (Vr w7 w.heap.size (chr [(N : Int), P, g2, g3, g4, g5] (.slice (some ⟨r, 0, none⟩) N rc) (.slice po pn pc) o ((n + 1 : Nat) : Int))) := by
      have z := HA.out.set 9 (by simp [chr]) (.int .i64 ((n + 1 : Nat) : Int))
      rw [← E7.out] at z
      exact z
     obtain ⟨r0, r1, r2, r3, r4, r5, r6, r7, r8, r9⟩ := vK10 HA.out
     clear E7 kp7 t6 c9 hwr; have t7 := tR)
  | (have q5 := t5; refine store_law1 _ w.heap.size 6 (.slice (some ⟨r, 0, none⟩) N rc) rfl rfl (HA.out.there1 6 (by simp [chr])) (HA.out.free 6 (by simp [chr])) one_blks.2 rfl rfl ?_; intro w6 E6
     have kp6 : w5.grownBy w6 (some w.heap.size) := by rw [E6.out]; exact keep_set _ _ _ _
     have HC := hdH (HC.out.kept kp6 (vlt HC.out) (by have := HO.out; simp; omega))
     have HOw : Hid (OwR w3.heap.size w6 (.slice (some ⟨r, 0, none⟩) N rc) 50 5 (bks N (at1 gv b (.slice xq xn xc)) (at1 uv b (.slice yq yn yc)) (at1 l b l') (at1 s b s') (at1 e b e')) ∧ w3.heap.size ≤ r) := ⟨HOw.out.1.kept kp6 (own_ne fun kk hkk => by have := (HOw.out.1.1.lt kk hkk).1; have := HO.out; omega), HOw.out.2⟩
     have BB := hdH (BB.out.trans ((Below.refl w.heap.size _).grown kp6 BB.out.size (fun kk hkk => by have hk9 : w.heap.size = kk := (Option.some.inj hkk); omega)))
     have HA : Hid (Vr w6 w.heap.size (chr [(N : Int), P, g2, g3, g4, g5] (.slice (some ⟨r, 0, none⟩) N rc) (.slice po pn pc) o (n : Int))) := by
      have z := HA.out.set 6 (by simp [chr]) (.slice (some ⟨r, 0, none⟩) N rc)
      rw [← E6.out] at z
      exact z
     have c9 := HA.out.cell 9 _ rfl
     have hwr := HW.out
     clear E6 kp6 t5; have t6 := tR)
  | (have q4 := t4; refine store_lawC _ (bkc (.slice xq xn xc) (.slice yq yn yc) l' s' e') r (b * 5) rfl rfl HT.out rowy_blk.2 bkcO ?_; intro w5 E5 R5 T5 B5
     have kp5 : w4.grownBy w5 (some r) := by rw [E5.out]; exact keep_cells _ _ _ _
     have HC := hdH (HC.out.kept kp5 (vlt HC.out) (by have := HO.out; have := HOw.out.2; simp; omega))
     have HA := hdH (HA.out.kept kp5 (vlt HA.out) (by have := HO.out; have := HOw.out.2; simp; omega))
     have BB := hdH (BB.out.trans ((Below.refl w.heap.size _).grown kp5 BB.out.size (fun kk hkk => by have hk9 : r = kk := (Option.some.inj hkk); have := HO.out; have := HOw.out.2; omega)))
     have HOw : Hid (OwR w3.heap.size w5 (.slice (some ⟨r, 0, none⟩) N rc) 50 5 (bks N (at1 gv b (.slice xq xn xc)) (at1 uv b (.slice yq yn yc)) (at1 l b l') (at1 s b s') (at1 e b e')) ∧ w3.heap.size ≤ r) := by
      refine ⟨?_, HOw.out.2⟩
      have z := HOw.out.1.put HL.out b hb (bkc (.slice xq xn xc) (.slice yq yn yc) l' s' e') rfl
      rw [← E5.out, bks_set N gv uv l s e b _ _ _ _ _ hb] at z
      exact z
     clear E5 R5 T5 B5 kp5 t4 d0 d1 d2 d3 d4; have t5 := tR)
  | (have q3 := t3; at_builtin; refine push_lawT _ Try.underlying36 _ 5 72 info_blk rfl (by omega) w3.heap.size (by simp) _ _ [] (bks N gv uv l s e) rfl rfl (OwR.empty w3 50 5 (Nat.le_refl _)) (HR.out.below (by omega) (by exact BB.out)) H1.out (by rw [HL.out]; simp; omega) (by rw [HL.out]; simp; omega) (by rw [HL.out]; omega) ?_; intro v4 w4 O4 kp4
     rw [List.nil_append] at O4
     have ne4 : ∀ x, x < w3.heap.size → some x ≠ (Value.slice (some ⟨w3.heap.size, 0, none⟩) 0 0).ownBlock := fun x hx e => by
      have : x = w3.heap.size := by injection e
      omega
     have HC := hdH (HC.out.kept kp4 (vlt HC.out) (ne4 _ (by have := HO.out; omega)))
     have HB := hdH (HB.out.kept kp4 (vlt HB.out) (ne4 _ (by have := HO.out; omega)))
     have HA := hdH (HA.out.kept kp4 (vlt HA.out) (ne4 _ (by have := HO.out; omega)))
     have BB := hdH (BB.out.trans ((Below.refl w.heap.size _).grown kp4 BB.out.size (fun kk hkk => by have hk9 : w3.heap.size = kk := (Option.some.inj hkk); have := HO.out; omega)))
     obtain ⟨r, rc, rfl, hr, hrow⟩ := O4.row (by rw [HL.out]; omega)
     rw [HL.out] at O4 hrow ⊢
     have HOw : Hid (OwR w3.heap.size w4 (.slice (some ⟨r, 0, none⟩) N rc) 50 5 (bks N gv uv l s e) ∧ w3.heap.size ≤ r) := ⟨O4, hr⟩
     have HT : Hid (w4.there r (b * 5) 5) := (hrow b hb).2
     obtain ⟨d0, d1, d2, d3, d4⟩ := vK5 HB.out
     clear c6 O4 kp4 ne4 hr hrow t3; have t4 := tR)
  | (have q2 := t2; refine new_lawC _ _ zero_chr ?_; intro w3 V3 B3 l3
     have ha3 : Below w3.heap.size w3 (w3.alloc (.cells #[] 50)) := (Below.refl _ _).alloc (Nat.le_refl _) _
     have HC : Hid (Vr (w3.alloc (.cells #[] 50)) w2.heap.size zC) := V3.below ha3 l3
     have HB : Hid (Vr (w3.alloc (.cells #[] 50)) w1.heap.size (bkc (.slice xq xn xc) (.slice yq yn yc) l' s' e')) := (HB.out.below B3 l2).below ha3 (by omega)
     have HA : Hid (Vr (w3.alloc (.cells #[] 50)) w.heap.size (chr [(N : Int), P, g2, g3, g4, g5] (.slice bq N bc) (.slice po pn pc) o (n : Int))) := (HA.out.below B3 (by omega)).below ha3 (by omega)
     have BB : Hid (Below w.heap.size w (w3.alloc (.cells #[] 50))) := (BB.out.trans (B3.mono (by omega))).trans (ha3.mono (by omega))
     have c6 : (w3.alloc (.cells #[] 50)).cell? ⟨w.heap.size, 6, none⟩ = some (.slice bq N bc) := HA.out.cell 6 _ rfl
     have HO : Hid (w.heap.size < w1.heap.size ∧ w1.heap.size < w2.heap.size ∧ w2.heap.size < w3.heap.size) := ⟨l1, l2, l3⟩
     clear V3 B3 ha3 t2; have t3 := tR)
  | (have q1 := t1; refine box_lawC _ (bkc (.slice xq xn xc) (.slice yq yn yc) l' s' e') rfl ?_; intro w2 V2 B2 l2; have HB := hdH (V2); have HA := hdH (HA.out.below B2 l1); have BB := hdH (BB.out.trans (B2.mono (by omega))); clear V2 B2 t1; have t2 := tR)
  | (have q0 := t0; refine box_lawC _ (chr [(N : Int), P, g2, g3, g4, g5] (.slice bq N bc) (.slice po pn pc) o (n : Int)) rfl ?_; intro w1 V1 B1 l1; have HA := hdH (V1); have BB := hdH (B1); clear V1 B1 t0; have t1 := tR))
 exact bodyPost_ret (v := .agg (chr [(N : Int), P, g2, g3, g4, g5] (.slice (some ⟨r, 0, none⟩) N rc) (.slice po pn pc) o ((n + 1 : Nat) : Int)).toArray) (results_c rfl _ _ w2.heap.size _ rowy_chipR rfl HR8.out) rfl ⟨r, rc, rfl, HOw.out, BB.out⟩
def prtv (b off S cap p : Nat) : Value := .slice (some ⟨b, off + p * S, none⟩) S (cap - p * S)
section
variable {ops : Array Oper} {rest : List Oper} {o : Oper} {a : Act} {Q : Exit → Act → World → Prop}
theorem slice_law (w : World) (hg : o.guard = none) (s x y : Operand) (hop : o.op = Op.slice 53 s (some x) (some y) none) (b off n cap l h : Nat)
  (hs : a.eval s = .slice (some ⟨b, off, none⟩) n cap) (hx : a.eval x = .int .i64 (l : Int)) (hy : a.eval y = .int .i64 (h : Int)) (hl : l ≤ h) (hh : h ≤ cap) (hp : l < cap)
  (hK : wpList Try.prog ops Q rest (a.put o.dst (.slice (some ⟨b, off + l, none⟩) (h - l) (cap - l))) w) :
  wpList Try.prog ops Q (o :: rest) a w := by
 refine wpList_plain hg fun K hK' => ?_
 have hrun := run_slice_lh (P := Try.prog) w 53 (some ⟨b, off, none⟩) n cap und_bytes .i64 .i64 (l : Int) (h : Int) (by omega) (by omega) (by omega)
 rw [elem_bytes, run_size_u8] at hrun
 unfold Oper.wp
 simp [execOp, hop, hs, hx, hy, run_sliceAt_slice w 53 _ _ _ _ und_bytes, hrun, Result.andThen]
 refine hK' _ _ ?_
 have e : sliced (some ⟨b, off, none⟩) l h cap 1 = .slice (some ⟨b, off + l, none⟩) (h - l) (cap - l) := by
  unfold sliced
  rw [if_neg (by omega)]
  rcases Nat.eq_zero_or_pos l with q | q
  ·subst q; simp [Addr.add]
  ·simp [Addr.add, show l ≠ 0 by omega]
 rw [← e] at hK
 simpa using hK
end
theorem cut_any (b off cap P S : Nat) (hP : P ≤ 32) (hP0 : 0 < P) (hS : S ≤ 4184) (hS0 : 0 < S) (hc : P * S ≤ cap) (w : World) :
  Calls Try.prog 67 #[.slice (some ⟨b, off, none⟩) (P * S) cap, .int .i64 (P : Int)] w fun e w' => ∃ gv, e = .returned gv ∧ OwR w.heap.size w' gv 53 1 (pgc P (prtv b off S cap)) ∧ Below w.heap.size w w' := by
 obtain ⟨L, hL⟩ : ∃ x, x = P * S := ⟨_, rfl⟩
 have hq : (L : Int).tdiv (P : Int) = (S : Int) := by
  subst hL
  rw [Int.tdiv_eq_ediv_of_nonneg (by omega), Int.natCast_mul]
  exact Int.mul_ediv_cancel_left _ (by omega)
 have hp0 : (P : Int) ≠ 0 := by omega
 have hp1 : ((P : Int) == 0) = false := by simp; omega
 have HC := hdH (hc)
 rw [← hL]
 have HL := hdH (hL)
 clear hL hc
 go_enter Try.func67, Try.ntmps67
 go_wp2
 go_loopw [5, 7] (fun v i wr => ∃ k : Nat, k ≤ P ∧ i = .int .i64 k ∧ OwR w.heap.size wr v 53 1 (pgc k (prtv b off S cap)) ∧ Below w.heap.size w wr) (fun _ i _ => P - (intOf i).toNat)
 case atStart => exact ⟨0, Nat.zero_le _, rfl, OwR.empty w 53 1 (Nat.le_refl _), (Below.refl _ _).alloc (Nat.le_refl _) _⟩
 case round =>
  obtain ⟨k, hk, rfl, hown, hbel⟩ := hrel
  obtain ⟨wa, rfl⟩ : ∃ x, x = wr := ⟨_, rfl⟩
  have hsz := hbel.size
  have k0 : (0 : Int) ≤ (k : Int) := by omega
  by_cases hlt : k < P
  ·have k1 : (k : Int) < (P : Int) := by omega
   obtain ⟨A, hA⟩ : ∃ x, x = k * S := ⟨_, rfl⟩
   have hb1 : A + S ≤ cap := by
    have := Nat.mul_le_mul_right S (show k + 1 ≤ P by omega)
    rw [Nat.succ_mul] at this
    have := HC.out
    omega
   have hb2 : A + S ≤ 200000 := by
    have := mul_bound (show k + 1 ≤ P by omega) hP hS
    rw [Nat.succ_mul] at this
    omega
   have m1 : IntKind.i64.wrap ((k : Int) * (S : Int)) = (A : Int) := by rw [IntKind.wrap_i64, ← Int.natCast_mul, ← hA]; omega
   have m2 : IntKind.i64.wrap ((A : Int) + (S : Int)) = ((A + S : Nat) : Int) := by rw [IntKind.wrap_i64]; omega
   have HE : Hid (prtv b off S cap k = .slice (some ⟨b, off + A, none⟩) S (cap - A)) := by subst hA; rfl
   have HA : Hid (Rws (wa.alloc (.cells #[.slice (some ⟨b, off + A, none⟩) S (cap - A)] 53)) (.slice (some ⟨wa.heap.size, 0, none⟩) 1 1) 1 [[.slice (some ⟨b, off + A, none⟩) S (cap - A)]]) := rws_alloc wa 53 _
   have ha6 : Below wa.heap.size wa (wa.alloc (.cells #[.slice (some ⟨b, off + A, none⟩) S (cap - A)] 53)) := (Below.refl _ _).alloc (Nat.le_refl _) _
   have HOw : Hid _ := hown.low ha6
   clear hA
   have t1 := tR
   go_wp2_with (first
    | (have q2 := t2; at_builtin; refine push_lawT _ Try.underlying47 _ 1 24 info_bytes rfl (by omega) w.heap.size (by simp; omega) _ _ (pgc k (prtv b off S cap)) [[.slice (some ⟨b, off + A, none⟩) S (cap - A)]] rfl rfl HOw.out HA.out (fun u hu => by simp at hu; subst hu; rfl) (by rw [pgc_len]; simp; omega) (by rw [pgc_len]; simp; omega) (by simp) ?_; intro v2 w2 o2 g2; clear t2)
    | (have q1 := t1; refine slice_law _ rfl (.tmp 19) (.tmp 22) (.tmp 27) rfl b off L cap A (A + S) rfl rfl rfl (by omega) hb1 (by omega) ?_; rw [Nat.add_sub_cancel_left]; clear t1; have t2 := tR))
   go_roundw
   case rel =>
    refine ⟨k + 1, by omega, by go_num, ?_, (hbel.trans (ha6.mono hsz)).trans ((Below.refl w.heap.size _).grown g2 (by simp; omega) (fun kk hkk => (HOw.out.1.lt kk hkk).1))⟩
    rw [pgc_succ, HE.out]
    exact o2
   case measure => simp [intOf]; omega
  ·have e : P = k := by omega
   subst e
   go_wp2
   go_ret
   exact ⟨_, rfl, hown, hbel⟩
theorem Blk.all {w : World} {gv uv : Value} {P : Nat} {pg : Nat → List Int} {us : Nat → Int} (h : Blk w gv uv P pg us) : ∀ p, p < P → AllB (pg p) := fun p hp => by
 obtain ⟨⟨xv, h1, h2⟩, -⟩ := h
 obtain ⟨-, -, -, -, -, -, a, -⟩ := h2 p hp
 first | exact a | exact (h2 p hp).all
theorem rer_off (N P : Nat) (g2 g3 g4 g5 : Int) (bq : Option Addr) (bc : Nat) (po : Option Addr) (pn pc : Nat) (n b : Int)  (w : World) :
  Calls Try.prog 42 #[.agg (chr [(N : Int), P, g2, g3, g4, g5] (.slice bq N bc) (.slice po pn pc) true n).toArray, .int .i64 b] w fun e w' => e = .returned (.tuple #[.agg (chr [(N : Int), P, g2, g3, g4, g5] (.slice bq N bc) (.slice po pn pc) true n).toArray, .int .i64 4]) ∧ Below w.heap.size w w' := by
 have t0 := tR
 go_enter Try.func42, Try.ntmps42
 go_wp2_with (first
  | (have q2 := t2; refine store_lawC _ (chr [(N : Int), P, g2, g3, g4, g5] (.slice bq N bc) (.slice po pn pc) true n) w1.heap.size 0 rfl rfl HC.out.2 rowy_chipR.2 chrO ?_; intro w3 E3 R3 T3 B3; have HR3 := hdH (R3); have BB := hdH (BB.out.trans (B3.mono (by omega))); clear E3 R3 T3 B3 t2)
  | (have q1 := t1; refine new_lawC _ _ zero_chr ?_; intro w2 V2 B2 l2; have HC := hdH (V2); have HA := hdH (HA.out.below B2 l1); have BB := hdH (BB.out.trans (B2.mono (by omega))); obtain ⟨r0, r1, r2, r3, r4, r5, r6, r7, r8, r9⟩ := vK10 HA.out; clear V2 B2 t1; have t2 := tR)
  | (have q0 := t0; refine box_lawC _ (chr [(N : Int), P, g2, g3, g4, g5] (.slice bq N bc) (.slice po pn pc) true n) rfl ?_; intro w1 V1 B1 l1; have HA := hdH (V1); have BB := hdH (B1); clear V1 B1 t0; have t1 := tR))
 exact bodyPost_ret (v := .tuple #[.agg (chr [(N : Int), P, g2, g3, g4, g5] (.slice bq N bc) (.slice po pn pc) true n).toArray, .int .i64 4]) (results_cv rfl _ _ w1.heap.size _ _ rowy_chipR rfl rfl HR3.out) rfl ⟨rfl, BB.out⟩
theorem rer_no (N P : Nat) (g2 g3 g4 g5 : Int) (bq : Option Addr) (bc : Nat) (po : Option Addr) (pn pc : Nat) (n b : Int) (hb : ¬ (0 ≤ b ∧ b < (N : Int))) (w : World) :
  Calls Try.prog 42 #[.agg (chr [(N : Int), P, g2, g3, g4, g5] (.slice bq N bc) (.slice po pn pc) false n).toArray, .int .i64 b] w fun e w' => e = .returned (.tuple #[.agg (chr [(N : Int), P, g2, g3, g4, g5] (.slice bq N bc) (.slice po pn pc) false n).toArray, .int .i64 2]) ∧ Below w.heap.size w w' := by
 have t0 := tR
 by_cases h0 : 0 ≤ b
 ·have h1 : ¬ b < (N : Int) := by omega
  have h2 : ¬ b < 0 := by omega
  have h3 : (N : Int) ≤ b := by omega
  go_enter Try.func42, Try.ntmps42
  go_wp2_with (first
   | (have q2 := t2; refine store_lawC _ (chr [(N : Int), P, g2, g3, g4, g5] (.slice bq N bc) (.slice po pn pc) false n) w1.heap.size 0 rfl rfl HC.out.2 rowy_chipR.2 chrO ?_; intro w3 E3 R3 T3 B3; have HR3 := hdH (R3); have BB := hdH (BB.out.trans (B3.mono (by omega))); clear E3 R3 T3 B3 t2)
   | (have q1 := t1; refine new_lawC _ _ zero_chr ?_; intro w2 V2 B2 l2; have HC := hdH (V2); have HA := hdH (HA.out.below B2 l1); have BB := hdH (BB.out.trans (B2.mono (by omega))); obtain ⟨r0, r1, r2, r3, r4, r5, r6, r7, r8, r9⟩ := vK10 HA.out; clear V2 B2 t1; have t2 := tR)
   | (have q0 := t0; refine box_lawC _ (chr [(N : Int), P, g2, g3, g4, g5] (.slice bq N bc) (.slice po pn pc) false n) rfl ?_; intro w1 V1 B1 l1; have HA := hdH (V1); have BB := hdH (B1); clear V1 B1 t0; have t1 := tR))
  exact bodyPost_ret (v := .tuple #[.agg (chr [(N : Int), P, g2, g3, g4, g5] (.slice bq N bc) (.slice po pn pc) false n).toArray, .int .i64 2]) (results_cv rfl _ _ w1.heap.size _ _ rowy_chipR rfl rfl HR3.out) rfl ⟨rfl, BB.out⟩
 ·have h1 : b < 0 := by omega
  go_enter Try.func42, Try.ntmps42
  go_wp2_with (first
   | (have q2 := t2; refine store_lawC _ (chr [(N : Int), P, g2, g3, g4, g5] (.slice bq N bc) (.slice po pn pc) false n) w1.heap.size 0 rfl rfl HC.out.2 rowy_chipR.2 chrO ?_; intro w3 E3 R3 T3 B3; have HR3 := hdH (R3); have BB := hdH (BB.out.trans (B3.mono (by omega))); clear E3 R3 T3 B3 t2)
   | (have q1 := t1; refine new_lawC _ _ zero_chr ?_; intro w2 V2 B2 l2; have HC := hdH (V2); have HA := hdH (HA.out.below B2 l1); have BB := hdH (BB.out.trans (B2.mono (by omega))); obtain ⟨r0, r1, r2, r3, r4, r5, r6, r7, r8, r9⟩ := vK10 HA.out; clear V2 B2 t1; have t2 := tR)
   | (have q0 := t0; refine box_lawC _ (chr [(N : Int), P, g2, g3, g4, g5] (.slice bq N bc) (.slice po pn pc) false n) rfl ?_; intro w1 V1 B1 l1; have HA := hdH (V1); have BB := hdH (B1); clear V1 B1 t0; have t1 := tR))
  exact bodyPost_ret (v := .tuple #[.agg (chr [(N : Int), P, g2, g3, g4, g5] (.slice bq N bc) (.slice po pn pc) false n).toArray, .int .i64 2]) (results_cv rfl _ _ w1.heap.size _ _ rowy_chipR rfl rfl HR3.out) rfl ⟨rfl, BB.out⟩
theorem rsc_off (N P : Nat) (g2 g3 g4 g5 : Int) (bq : Option Addr) (bc : Nat) (po : Option Addr) (pn pc : Nat) (n b : Int)  (w : World) :
  Calls Try.prog 43 #[.agg (chr [(N : Int), P, g2, g3, g4, g5] (.slice bq N bc) (.slice po pn pc) true n).toArray, .int .i64 b] w fun e w' => e = .returned (.tuple #[.agg (chr [(N : Int), P, g2, g3, g4, g5] (.slice bq N bc) (.slice po pn pc) true n).toArray, .int .i64 4]) ∧ Below w.heap.size w w' := by
 have t0 := tR
 go_enter Try.func43, Try.ntmps43
 go_wp2_with (first
  | (have q2 := t2; refine store_lawC _ (chr [(N : Int), P, g2, g3, g4, g5] (.slice bq N bc) (.slice po pn pc) true n) w1.heap.size 0 rfl rfl HC.out.2 rowy_chipR.2 chrO ?_; intro w3 E3 R3 T3 B3; have HR3 := hdH (R3); have BB := hdH (BB.out.trans (B3.mono (by omega))); clear E3 R3 T3 B3 t2)
  | (have q1 := t1; refine new_lawC _ _ zero_chr ?_; intro w2 V2 B2 l2; have HC := hdH (V2); have HA := hdH (HA.out.below B2 l1); have BB := hdH (BB.out.trans (B2.mono (by omega))); obtain ⟨r0, r1, r2, r3, r4, r5, r6, r7, r8, r9⟩ := vK10 HA.out; clear V2 B2 t1; have t2 := tR)
  | (have q0 := t0; refine box_lawC _ (chr [(N : Int), P, g2, g3, g4, g5] (.slice bq N bc) (.slice po pn pc) true n) rfl ?_; intro w1 V1 B1 l1; have HA := hdH (V1); have BB := hdH (B1); clear V1 B1 t0; have t1 := tR))
 exact bodyPost_ret (v := .tuple #[.agg (chr [(N : Int), P, g2, g3, g4, g5] (.slice bq N bc) (.slice po pn pc) true n).toArray, .int .i64 4]) (results_cv rfl _ _ w1.heap.size _ _ rowy_chipR rfl rfl HR3.out) rfl ⟨rfl, BB.out⟩
theorem rsc_no (N P : Nat) (g2 g3 g4 g5 : Int) (bq : Option Addr) (bc : Nat) (po : Option Addr) (pn pc : Nat) (n b : Int) (hb : ¬ (0 ≤ b ∧ b < (N : Int))) (w : World) :
  Calls Try.prog 43 #[.agg (chr [(N : Int), P, g2, g3, g4, g5] (.slice bq N bc) (.slice po pn pc) false n).toArray, .int .i64 b] w fun e w' => e = .returned (.tuple #[.agg (chr [(N : Int), P, g2, g3, g4, g5] (.slice bq N bc) (.slice po pn pc) false n).toArray, .int .i64 2]) ∧ Below w.heap.size w w' := by
 have t0 := tR
 by_cases h0 : 0 ≤ b
 ·have h1 : ¬ b < (N : Int) := by omega
  have h2 : ¬ b < 0 := by omega
  have h3 : (N : Int) ≤ b := by omega
  go_enter Try.func43, Try.ntmps43
  go_wp2_with (first
   | (have q2 := t2; refine store_lawC _ (chr [(N : Int), P, g2, g3, g4, g5] (.slice bq N bc) (.slice po pn pc) false n) w1.heap.size 0 rfl rfl HC.out.2 rowy_chipR.2 chrO ?_; intro w3 E3 R3 T3 B3; have HR3 := hdH (R3); have BB := hdH (BB.out.trans (B3.mono (by omega))); clear E3 R3 T3 B3 t2)
   | (have q1 := t1; refine new_lawC _ _ zero_chr ?_; intro w2 V2 B2 l2; have HC := hdH (V2); have HA := hdH (HA.out.below B2 l1); have BB := hdH (BB.out.trans (B2.mono (by omega))); obtain ⟨r0, r1, r2, r3, r4, r5, r6, r7, r8, r9⟩ := vK10 HA.out; clear V2 B2 t1; have t2 := tR)
   | (have q0 := t0; refine box_lawC _ (chr [(N : Int), P, g2, g3, g4, g5] (.slice bq N bc) (.slice po pn pc) false n) rfl ?_; intro w1 V1 B1 l1; have HA := hdH (V1); have BB := hdH (B1); clear V1 B1 t0; have t1 := tR))
  exact bodyPost_ret (v := .tuple #[.agg (chr [(N : Int), P, g2, g3, g4, g5] (.slice bq N bc) (.slice po pn pc) false n).toArray, .int .i64 2]) (results_cv rfl _ _ w1.heap.size _ _ rowy_chipR rfl rfl HR3.out) rfl ⟨rfl, BB.out⟩
 ·have h1 : b < 0 := by omega
  go_enter Try.func43, Try.ntmps43
  go_wp2_with (first
   | (have q2 := t2; refine store_lawC _ (chr [(N : Int), P, g2, g3, g4, g5] (.slice bq N bc) (.slice po pn pc) false n) w1.heap.size 0 rfl rfl HC.out.2 rowy_chipR.2 chrO ?_; intro w3 E3 R3 T3 B3; have HR3 := hdH (R3); have BB := hdH (BB.out.trans (B3.mono (by omega))); clear E3 R3 T3 B3 t2)
   | (have q1 := t1; refine new_lawC _ _ zero_chr ?_; intro w2 V2 B2 l2; have HC := hdH (V2); have HA := hdH (HA.out.below B2 l1); have BB := hdH (BB.out.trans (B2.mono (by omega))); obtain ⟨r0, r1, r2, r3, r4, r5, r6, r7, r8, r9⟩ := vK10 HA.out; clear V2 B2 t1; have t2 := tR)
   | (have q0 := t0; refine box_lawC _ (chr [(N : Int), P, g2, g3, g4, g5] (.slice bq N bc) (.slice po pn pc) false n) rfl ?_; intro w1 V1 B1 l1; have HA := hdH (V1); have BB := hdH (B1); clear V1 B1 t0; have t1 := tR))
  exact bodyPost_ret (v := .tuple #[.agg (chr [(N : Int), P, g2, g3, g4, g5] (.slice bq N bc) (.slice po pn pc) false n).toArray, .int .i64 2]) (results_cv rfl _ _ w1.heap.size _ _ rowy_chipR rfl rfl HR3.out) rfl ⟨rfl, BB.out⟩
end Go.Proofs.Ytikcohjhhoiakaa.na
