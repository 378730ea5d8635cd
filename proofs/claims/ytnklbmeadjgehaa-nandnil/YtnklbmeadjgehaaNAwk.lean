/- That nand answers at all: the laws' awake. No claim of its own. -/
import Derived.Test.YtnklbmeadjgehaaNNew
namespace Go.Proofs.Ytnklbmeadjgehaa.na
open Go.RowKit Go.Proofs.Ytnklbmeadjgehaa.fa
set_option maxRecDepth 20000

theorem shp_awake : Shp [((7 : Nat) : Int), ((10 : Nat) : Int), 64, 0, 1, 1] 7 10 152 := by
  refine ⟨rfl, ⟨⟨by decide, by decide, by decide, by decide, by decide, by decide⟩, by decide, by decide, by decide⟩, rfl, rfl, rfl⟩
theorem cut_laid (xs ys : List Int) (k sz : Nat) (hl : k * sz + sz ≤ xs.length) (hy : ys.length = sz) : cut sz (laid xs (k * sz) ys) k = ys := by
  have h1 : (laid xs (k * sz) ys).length = xs.length := laid_len xs (k * sz) ys (by omega)
  have h2 : (cut sz (laid xs (k * sz) ys) k).length = sz := by simp [cut, h1]; omega
  refine ext_gb (by rw [h2, hy]) fun t ht => ?_
  rw [h2] at ht
  rw [cut_gb sz _ k t ht, gb_laid xs (k * sz) ys (by omega), if_neg (by omega), if_pos (by omega), show k * sz + t - k * sz = t by omega]
/-- what awake's page holds -/
theorem awake_page : (cut 152 (xi (mkX (laid (xi (raw0 7 10 152)) ((1 * 10 + 2) * 152) (pgm 152 none (cut 152 (xi (raw0 7 10 152)) (1 * 10 + 2)) (List.replicate 152 0))) (at1 (xp (raw0 7 10 152)) 1 ((xp (raw0 7 10 152) 1).set 2 (gb (xp (raw0 7 10 152) 1) 2 + 1))) (xe (raw0 7 10 152)) (xs (raw0 7 10 152)) (!crs none) (xt (raw0 7 10 152) ++ [opn 1 (1 : Nat) (2 : Nat) (List.replicate 152 0) (ans none)]))) (1 * 10 + 2)).length = 152 ∧ gb (cut 152 (xi (mkX (laid (xi (raw0 7 10 152)) ((1 * 10 + 2) * 152) (pgm 152 none (cut 152 (xi (raw0 7 10 152)) (1 * 10 + 2)) (List.replicate 152 0))) (at1 (xp (raw0 7 10 152)) 1 ((xp (raw0 7 10 152) 1).set 2 (gb (xp (raw0 7 10 152) 1) 2 + 1))) (xe (raw0 7 10 152)) (xs (raw0 7 10 152)) (!crs none) (xt (raw0 7 10 152) ++ [opn 1 (1 : Nat) (2 : Nat) (List.replicate 152 0) (ans none)]))) (1 * 10 + 2)) 0 = 0 := by
  show (cut 152 (laid (List.replicate (7 * (10 * 152)) 255) ((1 * 10 + 2) * 152) (andl (cut 152 (List.replicate (7 * (10 * 152)) 255) (1 * 10 + 2)) (List.replicate 152 0))) (1 * 10 + 2)).length = 152 ∧ gb (cut 152 (laid (List.replicate (7 * (10 * 152)) 255) ((1 * 10 + 2) * 152) (andl (cut 152 (List.replicate (7 * (10 * 152)) 255) (1 * 10 + 2)) (List.replicate 152 0))) (1 * 10 + 2)) 0 = 0
  have h1 : (cut 152 (List.replicate (7 * (10 * 152)) (255 : Int)) (1 * 10 + 2)).length = 152 := by rw [cut_len 152 _ 70 12 (by rw [List.length_replicate]) (by omega)]
  have h2 : (andl (cut 152 (List.replicate (7 * (10 * 152)) (255 : Int)) (1 * 10 + 2)) (List.replicate 152 0)).length = 152 := by rw [andl_len]; exact h1
  rw [cut_laid _ _ _ _ (by rw [List.length_replicate]; omega) h2]
  refine ⟨h2, ?_⟩
  rw [andl_gb _ _ 0 (by rw [h1]; omega), gb_rep 152 0 0 (by omega)]
  show ((_ &&& 0 : Nat) : Int) = 0
  rw [Nat.and_zero]; rfl
theorem bhd_zero (P p : Nat) : ¬ Bhd (List.replicate P 0) p := fun ⟨i, _, h2, h3⟩ => by
  rw [List.length_replicate] at h2
  rw [gb_rep P i 0 h2] at h3
  omega

theorem Lay.tvf {M : Nat → Bool} {w : World} {c r d : Nat} {q : Nat → Nat} {pv tv : Value} {g : List Int} {N P S : Nat} {pl : Pln} {X : Raw} (h : Lay M w c r d q pv tv g N P S pl X) : ∃ tq tc, tv = .slice tq (xt X).length tc := by
  obtain ⟨dvs, tO, -, -⟩ := h.2.2.2.2.2.2.2.1
  obtain ⟨tq, tc, e⟩ := tO.rws.form
  rw [opcs_len] at e
  exact ⟨tq, tc, e⟩
set_option maxHeartbeats 4000000 in
theorem awake_any (w : World) : Calls Try.prog 11 #[] w fun e w' => e = .returned (.bool true) ∧ Below w.heap.size w w' := by
  have SN : Hid (∀ w, Calls Try.prog 8 #[.agg #[.int .i64 7, .int .i64 10, .int .i64 64, .int .i64 0, .int .i64 1, .int .i64 1], .slice none 0 0] w (Made w [((7 : Nat) : Int), ((10 : Nat) : Int), 64, 0, 1, 1] 7 10 152 (plnOf [] fun _ => []))) := fun w => by
    exact new_yes 64 0 1 1 7 10 152 shp_awake (.slice none 0 0) [] (fun _ => []) w ⟨none, 0, rfl, by simp, by simp, fun _ => rfl, fun h => by simp at h⟩ (fun t ht => by simp at ht) (by simp) (fun t ht => by simp at ht)
  have hp0 : plnOf [] (fun _ => []) = fun _ => none := rfl
  rw [hp0] at SN
  have HAP : Hid _ := awake_page
  have t0 : (0 : Nat) = 0 := rfl
  go_enter Try.func11, Try.ntmps11
  go_wp2_with (first
    | (have q5 := t5; go_at_call 16; refine (ops_any c tq3 1 tc3 _ HT4.out).mono ?_; rintro e w5 ⟨rfl, hw⟩; obtain rfl := hw.symm; clear t5)
    | (have q4 := t4; go_at_call 22; refine (SR.out).mono ?_; rintro e w4 ⟨v4, rfl, ⟨L4, y4, z1, z2⟩, B4⟩; obtain ⟨ao4, c4, rfl, n1, n2, n3, n4, n5⟩ := y4
       obtain ⟨b4, o4, rfl, n6⟩ := n5 (by omega)
       have f4 := n6 0 (by omega)
       rw [z2, Nat.add_zero] at f4
       rw [z1] at n1 ⊢
       have HT4 : Hid (w4.cell? ⟨c, 10, none⟩ = some (.slice tq3 1 tc3)) := (HL3.out.below B4).cells.2.2.2.2
       have BB4 : Hid (Below w.heap.size w w4) := BB3.out.trans (B4.mono BB3.out.size)
       clear B4 n2 n3 n4 n5 n6 z1 z2 t4; have t5 : (1 : Nat) = 1 := rfl)
    | (have q3 := t3; go_at_call 29; refine (SPG.out).mono ?_; rintro e w3 ⟨M3, tv3, rfl, L3, S3, F3, T3⟩
       obtain ⟨tq3, tc3, rfl⟩ : ∃ tq tc, tv3 = .slice tq 1 tc := L3.tvf
       have HL3 : Hid (Lay M3 w3 c r d q pv (.slice tq3 1 tc3) _ _ _ _ _ _) := L3
       have SR : Hid (Calls Try.prog 22 #[.pointer (some ⟨c, 0, none⟩), .agg #[.int .i64 1, .int .i64 2]] w3 fun e w' => ∃ v, e = .returned (.tuple #[v, .int .i64 0]) ∧ (∃ L, Byt w' v L ∧ L.length = 152 ∧ gb L 0 = 0) ∧ Below w3.heap.size w3 w') := (read_yes HL3.out [1, 2] rfl rfl 1 2 rfl rfl (by omega) (by omega)).mono fun e w' ⟨v, h1, h2, h3⟩ => ⟨v, h1, ⟨_, h2.1, HAP.out⟩, h3⟩
       have BB3 : Hid (Below w.heap.size w w3) := BB.out.trans (F3.below BB.out.size HG.out)
       clear L3 S3 F3 T3 t3; have t4 : (1 : Nat) = 1 := rfl)
    | (have q2 := t2; at_make; refine make_law _ rfl _ _ rfl w1.heap.size (Nat.le_refl _) _ 152 rfl rfl rfl (by omega) ?_; intro w2 hown hb2 hl2
       have HL : Hid (Lay M w2 c r d q pv tv [((7 : Nat) : Int), ((10 : Nat) : Int), 64, 0, 1, 1] 7 10 152 (fun _ => none) (raw0 7 10 152)) := HL.out.below hb2
       have SPG : Hid (Calls Try.prog 29 #[.pointer (some ⟨c, 0, none⟩), .agg #[.int .i64 1, .int .i64 2], .slice (some ⟨w1.heap.size, 0, none⟩) 152 152] w2 _) := program_do HL.out (fun k hk => Nat.lt_of_lt_of_le (HM.out k hk) hb2.size) _ (List.replicate 152 0) (own_hid hown.2.2 (allB_replicate 0 152 (by omega)) HM.out) rfl 1 2 (by omega) (by omega) List.length_replicate rfl (by decide) (fun q => bhd_zero 10 2 q.2) (by decide)
       have BB : Hid (Below w.heap.size w w2) := BB.out.trans (hb2.mono BB.out.size)
       clear hown hb2 hl2 t2; have t3 : (1 : Nat) = 1 := rfl)
    | (have q1 := t0; go_at_call 8; refine (SN.out _).mono ?_; rintro e w1 ⟨M, c, r, d, q, pv, tv, rfl, L1, M1, G1, B1⟩
       have HL : Hid (Lay M w1 c r d q pv tv [((7 : Nat) : Int), ((10 : Nat) : Int), 64, 0, 1, 1] 7 10 152 (fun _ => none) (raw0 7 10 152)) := L1
       have HM : Hid (Mlt M w1) := M1
       have HG : Hid (∀ k, M k = true → w.heap.size ≤ k) := G1
       have BB : Hid (Below w.heap.size w w1) := B1
       clear L1 M1 G1 B1 t0; have t2 : (1 : Nat) = 1 := rfl))
  go_ret
  exact ⟨rfl, BB4.out⟩
end Go.Proofs.Ytnklbmeadjgehaa.na
