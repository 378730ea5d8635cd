/- Texts put together (a claim holds few files). No claim of its own. -/
import Derived.Test.YtbkaecjkgjkheaaGreatDoorPackG
import Derived.Test.YtbkaecjkgjkheaaGreatDoorPackT
import Derived.Test.YtbkaecjkgjkheaaGreatDoorPackR
import Derived.Test.YtbkaecjkgjkheaaGreatDoorPackO
/- What the reference's Right, Encrypt and Decrypt of layer 9 answer. No claim of its own. -/
namespace Go.Proofs.YtbkaecjkgjkheaaGreatDoor.xt
open Go.RowKit
set_option maxRecDepth 20000

set_option linter.unusedSimpArgs false in
set_option maxRecDepth 20000 in
set_option maxHeartbeats 4000000 in
theorem rxenc_any (dv tv av sv bv : Value) (dk tk ab s : List Int) (N : Nat) (w : World) (hd : Byt w dv dk) (hdl : dk.length = 32) (ht : Byt w tv tk) (htl : tk.length = 32) (ha : Byt w av ab) (hal : ab.length = 16) (hs : Byt w sv s) (hsl : s.length = 16 * N) (hN' : N ≤ 256) (hb : Byt w bv ptab) :
    Calls Tryz.prog 22 #[dv, tv, av, sv, bv] w fun e w' => ∃ v', e = .returned v' ∧ Byt w' v' (run (xe dk) (nm16 (encr tk ab)) s N) ∧ Below w.heap.size w w' := by
  have hda := hd.all
  have hsa := hs.all
  have zb := encr_blk tk htl ht.all ab ⟨hal, ha.all⟩
  have kp : Keeps (xe dk) := fun m b hm hb => xe_blk dk hdl hda m b hm hb
  have ML : nm16 (encr tk ab) < 2 ^ 128 := nm16_lt _ zb.2
  have S1 : Hid (Calls Tryz.prog 41 #[tv, av, bv] w fun e w' => ∃ v', e = .returned v' ∧ Byt w' v' (msk (nm16 (encr tk ab)) 0) ∧ Below w.heap.size w w') := by
    have := rencrypt_any tv av bv tk ab w ht htl ha hal hb
    rw [msk_zero _ zb]; exact this
  have S2 : Hid (∀ k, k < N → ∀ w' cv mv, Byt w' cv (cut16 s k) → Byt w' mv (msk (nm16 (encr tk ab)) k) → Calls Tryz.prog 42 #[cv, mv] w' fun e w'' => ∃ v', e = .returned v' ∧ Byt w'' v' (xorl (cut16 s k) (msk (nm16 (encr tk ab)) k)) ∧ Below w'.heap.size w' w'') := fun k hk w' cv mv h1 h2 => rxor_any cv mv _ _ w' h1 h2 (by rw [cut16_len s k (by omega), (msk_blk _ k).1]) (by rw [cut16_len s k (by omega)]; omega)
  have S3 : Hid (∀ k, k < N → ∀ w' u, Byt w' dv dk → Byt w' bv ptab → Byt w' u (xorl (cut16 s k) (msk (nm16 (encr tk ab)) k)) → Calls Tryz.prog 41 #[dv, u, bv] w' fun e w'' => ∃ v', e = .returned v' ∧ Byt w'' v' (encr dk (xorl (cut16 s k) (msk (nm16 (encr tk ab)) k))) ∧ Below w'.heap.size w' w'') := fun k hk w' u h1 h2 h3 => rencrypt_any dv u bv dk _ w' h1 hdl h3 (xorl_blk _ _ (cut16_blk s k hsa (by omega)) (msk_blk _ k)).1 h2
  have S4 : Hid (∀ k, k < N → ∀ w' u mv, Byt w' u (encr dk (xorl (cut16 s k) (msk (nm16 (encr tk ab)) k))) → Byt w' mv (msk (nm16 (encr tk ab)) k) → Calls Tryz.prog 42 #[u, mv] w' fun e w'' => ∃ v', e = .returned v' ∧ Byt w'' v' (xe dk (msk (nm16 (encr tk ab)) k) (cut16 s k)) ∧ Below w'.heap.size w' w'') := fun k hk w' u mv h1 h2 => by
    have zb := encr_blk dk hdl hda _ (xorl_blk _ _ (cut16_blk s k hsa (by omega)) (msk_blk (nm16 (encr tk ab)) k))
    exact rxor_any u mv _ _ w' h1 h2 (by rw [zb.1, (msk_blk _ k).1]) (by rw [zb.1]; omega)
  have S5 : Hid (∀ k w' mv, Byt w' mv (msk (nm16 (encr tk ab)) k) → Calls Tryz.prog 43 #[mv] w' fun e w'' => ∃ v', e = .returned v' ∧ Own w'.heap.size w'' v' (msk (nm16 (encr tk ab)) (k + 1)) ∧ Below w'.heap.size w' w'') := fun k w' mv h => by
    have := tw.rdouble_own mv _ w' h (msk_blk _ k).1
    rwa [msk_next _ k ML] at this
  have HML : Hid (∀ k, (msk (nm16 (encr tk ab)) k).length = 16) := fun k => (msk_blk _ k).1
  have HMA : Hid (∀ k, AllB (msk (nm16 (encr tk ab)) k)) := fun k => (msk_blk _ k).2
  have HR0 : Hid (run (xe dk) (nm16 (encr tk ab)) s 0 = []) := rfl
  have HRS : Hid (∀ k, run (xe dk) (nm16 (encr tk ab)) s (k + 1) = run (xe dk) (nm16 (encr tk ab)) s k ++ xe dk (msk (nm16 (encr tk ab)) k) (cut16 s k)) := fun k => rfl
  have HRL : Hid (∀ k, k ≤ N → (run (xe dk) (nm16 (encr tk ab)) s k).length = 16 * k ∧ AllB (run (xe dk) (nm16 (encr tk ab)) s k)) := fun k hk => ⟨run_len _ kp _ s hsa k (by omega), run_all _ kp _ s hsa k (by omega)⟩
  have HXL : Hid (∀ k, k < N → (xe dk (msk (nm16 (encr tk ab)) k) (cut16 s k)).length = 16) := fun k hk => (kp _ _ (msk_blk _ k) (cut16_blk s k hsa (by omega))).1
  have HS : Hid (Byt w sv s) := hs
  have HD : Hid (Byt w dv dk) := hd
  have HT : Hid (Byt w bv ptab) := hb
  clear hd ht ha hal hdl hda htl kp hsa hb zb ML
  generalize nm16 (encr tk ab) = M at *
  generalize ptab = tab at *
  obtain ⟨R, hR⟩ : ∃ R : Nat → List Int, R = run (xe dk) M s := ⟨_, rfl⟩
  obtain ⟨X, hX⟩ : ∃ X : Nat → List Int, X = fun k => xe dk (msk M k) (cut16 s k) := ⟨_, rfl⟩
  obtain ⟨Y, hY⟩ : ∃ Y : Nat → List Int, Y = fun k => encr dk (xorl (cut16 s k) (msk M k)) := ⟨_, rfl⟩
  obtain ⟨Z, hZ⟩ : ∃ Z : Nat → List Int, Z = fun k => xorl (cut16 s k) (msk M k) := ⟨_, rfl⟩
  obtain ⟨ms, hms⟩ : ∃ ms : Nat → List Int, ms = fun k => msk M k := ⟨_, rfl⟩
  have ex : ∀ k, xe dk (msk M k) (cut16 s k) = X k := fun k => by rw [hX]
  have ey : ∀ k, encr dk (xorl (cut16 s k) (msk M k)) = Y k := fun k => by rw [hY]
  have ez : ∀ k, xorl (cut16 s k) (msk M k) = Z k := fun k => by rw [hZ]
  have em : ∀ k, msk M k = ms k := fun k => by rw [hms]
  rw [← hR] at HR0 HRS HRL ⊢
  simp only [ex] at S4 HRS HXL
  simp only [ey] at S3 S4
  simp only [ez] at S2 S3
  simp only [em] at S1 S2 S3 S4 S5 HML HMA
  clear hR hX ex hY ey hZ ez hms em
  obtain ⟨ao, ca, rfl, ha1, ha2, -, -, -⟩ := hs
  have HSL : Hid (s.length = 16 * N) := hsl
  have s0 : (0 : Int) ≤ (s.length : Int) := by omega
  clear hsl
  go_enter Tryz.func22, Tryz.ntmps22
  go_wp2_with (go_at_call 41; refine (S1.out).mono ?_; rintro e w1 ⟨v1, rfl, y1, B1⟩; have Y1 : Hid (Byt w1 v1 (ms 0)) := y1; clear y1)
  have z1 := B1.size
  have HO2 : Hid (Own w1.heap.size (w1.alloc (.cells #[] 5)) (.slice (some ⟨w1.heap.size, 0, none⟩) 0 0) []) := Own.empty w1 (Nat.le_refl _)
  have HB2 : Hid (Below w1.heap.size w1 (w1.alloc (.cells #[] 5))) := (Below.refl _ _).alloc (Nat.le_refl _) _
  have Y2 : Hid (Byt (w1.alloc (.cells #[] 5)) v1 (ms 0)) := Y1.out.below HB2.out
  have D1 : Hid (Byt w1 dv dk) := HD.out.below B1
  have T1 : Hid (Byt w1 bv tab) := HT.out.below B1
  have V1 : Hid (Byt w1 (.slice ao s.length ca) s) := HS.out.below B1
  have HB1 : Hid (Below w.heap.size w w1) := B1
  have HF0 : Hid (v1.ownBlock ≠ (Value.slice (some ⟨w1.heap.size, 0, none⟩) 0 0).ownBlock) := far_old Y1.out (by rw [HML.out]; omega) 0 0
  clear B1 Y1
  generalize w1.alloc (.cells #[] 5) = w2 at *
  go_loopw [13, 11, 12] (fun i mv o wr => ∃ k : Nat, k ≤ N ∧ i = .int .i64 ((16 * k : Nat) : Int) ∧ Byt wr mv (ms k) ∧ Own w1.heap.size wr o (R k) ∧ Below w1.heap.size w1 wr ∧ mv.ownBlock ≠ o.ownBlock) (fun i _ _ _ => 16 * N - (intOf i).toNat)
  case atStart => exact ⟨0, Nat.zero_le _, rfl, Y2.out, by rw [HR0.out]; exact HO2.out, HB2.out, HF0.out⟩
  case round =>
    obtain ⟨k, hk, rfl, hY, hO, hB, hF⟩ := hrel
    obtain ⟨wa, rfl⟩ : ∃ wx, wx = wr := ⟨_, rfl⟩
    obtain ⟨j, hj⟩ : ∃ j, j = 16 * k := ⟨_, rfl⟩
    have HJ : Hid (j = 16 * k) := hj
    rw [← hj]
    have j0 : (0 : Int) ≤ (j : Int) := by omega
    have HO : Hid (Own w1.heap.size wa u12 (R k)) := hO
    have HB : Hid (Below w1.heap.size w1 wa) := hB
    have HY : Hid (Byt wa u11 (ms k)) := hY
    have HF : Hid (u11.ownBlock ≠ u12.ownBlock) := hF
    clear hO hB hY hF
    by_cases hlt : k < N
    · have k1 : (j : Int) < (s.length : Int) := by rw [HSL.out]; omega
      have q3 : IntKind.i64.wrap ((j : Int) + 16) = (j : Int) + 16 := by rw [IntKind.wrap_i64]; omega
      have YS : Hid (Byt wa (.slice ao s.length ca) s) := V1.out.below HB.out
      have S2k : Hid (∀ w' cv mv, Byt w' cv (cut16 s k) → Byt w' mv (ms k) → Calls Tryz.prog 42 #[cv, mv] w' fun e w'' => ∃ v', e = .returned v' ∧ Byt w'' v' (Z k) ∧ Below w'.heap.size w' w'') := S2.out k hlt
      have S3k : Hid (∀ w' u, Byt w' dv dk → Byt w' bv tab → Byt w' u (Z k) → Calls Tryz.prog 41 #[dv, u, bv] w' fun e w'' => ∃ v', e = .returned v' ∧ Byt w'' v' (Y k) ∧ Below w'.heap.size w' w'') := S3.out k hlt
      have S4k : Hid (∀ w' u mv, Byt w' u (Y k) → Byt w' mv (ms k) → Calls Tryz.prog 42 #[u, mv] w' fun e w'' => ∃ v', e = .returned v' ∧ Byt w'' v' (X k) ∧ Below w'.heap.size w' w'') := S4.out k hlt
      have S5k : Hid (∀ w' mv, Byt w' mv (ms k) → Calls Tryz.prog 43 #[mv] w' fun e w'' => ∃ v', e = .returned v' ∧ Own w'.heap.size w'' v' (ms (k + 1)) ∧ Below w'.heap.size w' w'') := S5.out k
      have XL : Hid ((X k).length = 16) := HXL.out k hlt
      have RL : Hid ((R k).length = 16 * k) := (HRL.out k hk).1
      clear hj
      go_wp2_with (first
        | (have q7 := s7; go_at_call 43; refine (S5k.out _ _ Y7.out).mono ?_; rintro e w8 ⟨v8, rfl, y8, B8⟩; have Y8 : Hid (Byt w8 v8 (ms (k + 1))) := y8.byt (HMA.out (k + 1)); have HF8 : Hid (v8.ownBlock ≠ v7.ownBlock) := far_new HO7.out y8 (by rw [HML.out]; omega); have HO8 : Hid (Own w1.heap.size w8 v7 (R (k + 1))) := Own.below HO7.out B8; have HB8 : Hid (Below w1.heap.size w1 w8) := HB7.out.trans (B8.mono HB7.out.size); clear y8 B8)
        | (at_builtin; have q6 := s6; refine pushs_lawX _ rfl (.tmp 36) (.tmp 39) rfl w1.heap.size (HB6.out.size) _ v6 (R k) (X k) rfl rfl HO6.out X6.out (by rw [RL.out]; omega) (by rw [XL.out]; omega) (by rw [XL.out]; omega) ?_; intro v7 w7 O7 B7 G7; have HO7 : Hid (Own w1.heap.size w7 v7 (R (k + 1))) := (by show Own _ _ _ _; rw [HRS.out]; exact O7); have HB7 : Hid (Below w1.heap.size w1 w7) := HB6.out.trans B7; have s7 := HB7.out.size; have Y7 : Hid (Byt w7 u11 (ms k)) := Byt.grownBy Y6.out G7 HF.out; clear O7 B7 G7)
        | (have q5 := s5; go_at_call 42; refine (S4k.out _ _ _ Z5.out Y5.out).mono ?_; rintro e w6 ⟨v6, rfl, y6, B6⟩; have s6 := B6.size; have X6 : Hid (Byt w6 v6 (X k)) := y6; have Y6 : Hid (Byt w6 u11 (ms k)) := Y5.out.below B6; have HO6 : Hid (Own w1.heap.size w6 u12 (R k)) := Own.below HO5.out B6; have HB6 : Hid (Below w1.heap.size w1 w6) := HB5.out.trans (B6.mono HB5.out.size); clear y6 B6)
        | (have q4 := s4; go_at_call 41; refine (S3k.out _ _ (D1.out.below HB4.out) (T1.out.below HB4.out) Z4.out).mono ?_; rintro e w5 ⟨v5, rfl, y5, B5⟩; have s5 := B5.size; have Z5 : Hid (Byt w5 v5 (Y k)) := y5; have Y5 : Hid (Byt w5 u11 (ms k)) := Y4.out.below B5; have HO5 : Hid (Own w1.heap.size w5 u12 (R k)) := Own.below HO4.out B5; have HB5 : Hid (Below w1.heap.size w1 w5) := HB4.out.trans (B5.mono HB4.out.size); clear y5 B5)
        | (go_at_call 42; refine (S2k.out _ _ _ YC.out HY.out).mono ?_; rintro e w4 ⟨v4, rfl, y4, B4⟩; have s4 := B4.size; have Z4 : Hid (Byt w4 v4 (Z k)) := y4; have Y4 : Hid (Byt w4 u11 (ms k)) := HY.out.below B4; have HO4 : Hid (Own w1.heap.size w4 u12 (R k)) := Own.below HO.out B4; have HB4 : Hid (Below w1.heap.size w1 w4) := HB.out.trans (B4.mono HB.out.size); clear y4 B4)
        | (refine cut_part _ rfl (.tmp 27) (.tmp 28) (.tmp 30) rfl _ s (j : Int) ((j : Int) + 16) (16 * k) (16 * k + 16) rfl rfl rfl (by rw [HJ.out]) (by rw [HJ.out]; omega) (by omega) (by rw [HSL.out]; omega) YS.out ?_; intro vc yc; have YC : Hid (Byt wa vc (cut16 s k)) := yc; clear yc))
      go_roundw
      case rel => exact ⟨k + 1, by omega, by rw [HJ.out]; go_num, Y8.out, HO8.out, HB8.out, HF8.out⟩
      case measure => have := HJ.out; simp [intOf]; omega
    · have hkn : k = N := by omega
      subst hkn
      have k1 : ¬ ((j : Int) < (s.length : Int)) := by rw [HSL.out]; omega
      clear hj
      go_wp2
      go_ret
      exact ⟨_, rfl, HO.out.byt (HRL.out k (Nat.le_refl _)).2, HB1.out.trans (HB.out.mono z1)⟩

set_option linter.unusedSimpArgs false in
set_option maxRecDepth 20000 in
set_option maxHeartbeats 4000000 in
theorem rxdec_any (dv tv av sv bv : Value) (dk tk ab s : List Int) (N : Nat) (w : World) (hd : Byt w dv dk) (hdl : dk.length = 32) (ht : Byt w tv tk) (htl : tk.length = 32) (ha : Byt w av ab) (hal : ab.length = 16) (hs : Byt w sv s) (hsl : s.length = 16 * N) (hN' : N ≤ 256) (hb : Byt w bv ptab) :
    Calls Tryz.prog 29 #[dv, tv, av, sv, bv] w fun e w' => ∃ v', e = .returned v' ∧ Byt w' v' (run (xd dk) (nm16 (encr tk ab)) s N) ∧ Below w.heap.size w w' := by
  have hda := hd.all
  have hsa := hs.all
  have zb := encr_blk tk htl ht.all ab ⟨hal, ha.all⟩
  have kp : Keeps (xd dk) := fun m b hm hb => xd_blk dk hdl hda m b hm hb
  have ML : nm16 (encr tk ab) < 2 ^ 128 := nm16_lt _ zb.2
  have S1 : Hid (Calls Tryz.prog 41 #[tv, av, bv] w fun e w' => ∃ v', e = .returned v' ∧ Byt w' v' (msk (nm16 (encr tk ab)) 0) ∧ Below w.heap.size w w') := by
    have := rencrypt_any tv av bv tk ab w ht htl ha hal hb
    rw [msk_zero _ zb]; exact this
  have S2 : Hid (∀ k, k < N → ∀ w' cv mv, Byt w' cv (cut16 s k) → Byt w' mv (msk (nm16 (encr tk ab)) k) → Calls Tryz.prog 42 #[cv, mv] w' fun e w'' => ∃ v', e = .returned v' ∧ Byt w'' v' (xorl (cut16 s k) (msk (nm16 (encr tk ab)) k)) ∧ Below w'.heap.size w' w'') := fun k hk w' cv mv h1 h2 => rxor_any cv mv _ _ w' h1 h2 (by rw [cut16_len s k (by omega), (msk_blk _ k).1]) (by rw [cut16_len s k (by omega)]; omega)
  have S3 : Hid (∀ k, k < N → ∀ w' u, Byt w' dv dk → Byt w' bv ptab → Byt w' u (xorl (cut16 s k) (msk (nm16 (encr tk ab)) k)) → Calls Tryz.prog 52 #[dv, u, bv] w' fun e w'' => ∃ v', e = .returned v' ∧ Byt w'' v' (decr dk (xorl (cut16 s k) (msk (nm16 (encr tk ab)) k))) ∧ Below w'.heap.size w' w'') := fun k hk w' u h1 h2 h3 => rdecrypt_any dv u bv dk _ w' h1 hdl h3 (xorl_blk _ _ (cut16_blk s k hsa (by omega)) (msk_blk _ k)).1 h2
  have S4 : Hid (∀ k, k < N → ∀ w' u mv, Byt w' u (decr dk (xorl (cut16 s k) (msk (nm16 (encr tk ab)) k))) → Byt w' mv (msk (nm16 (encr tk ab)) k) → Calls Tryz.prog 42 #[u, mv] w' fun e w'' => ∃ v', e = .returned v' ∧ Byt w'' v' (xd dk (msk (nm16 (encr tk ab)) k) (cut16 s k)) ∧ Below w'.heap.size w' w'') := fun k hk w' u mv h1 h2 => by
    have zb := decr_blk dk hdl hda _ (xorl_blk _ _ (cut16_blk s k hsa (by omega)) (msk_blk (nm16 (encr tk ab)) k))
    exact rxor_any u mv _ _ w' h1 h2 (by rw [zb.1, (msk_blk _ k).1]) (by rw [zb.1]; omega)
  have S5 : Hid (∀ k w' mv, Byt w' mv (msk (nm16 (encr tk ab)) k) → Calls Tryz.prog 43 #[mv] w' fun e w'' => ∃ v', e = .returned v' ∧ Own w'.heap.size w'' v' (msk (nm16 (encr tk ab)) (k + 1)) ∧ Below w'.heap.size w' w'') := fun k w' mv h => by
    have := tw.rdouble_own mv _ w' h (msk_blk _ k).1
    rwa [msk_next _ k ML] at this
  have HML : Hid (∀ k, (msk (nm16 (encr tk ab)) k).length = 16) := fun k => (msk_blk _ k).1
  have HMA : Hid (∀ k, AllB (msk (nm16 (encr tk ab)) k)) := fun k => (msk_blk _ k).2
  have HR0 : Hid (run (xd dk) (nm16 (encr tk ab)) s 0 = []) := rfl
  have HRS : Hid (∀ k, run (xd dk) (nm16 (encr tk ab)) s (k + 1) = run (xd dk) (nm16 (encr tk ab)) s k ++ xd dk (msk (nm16 (encr tk ab)) k) (cut16 s k)) := fun k => rfl
  have HRL : Hid (∀ k, k ≤ N → (run (xd dk) (nm16 (encr tk ab)) s k).length = 16 * k ∧ AllB (run (xd dk) (nm16 (encr tk ab)) s k)) := fun k hk => ⟨run_len _ kp _ s hsa k (by omega), run_all _ kp _ s hsa k (by omega)⟩
  have HXL : Hid (∀ k, k < N → (xd dk (msk (nm16 (encr tk ab)) k) (cut16 s k)).length = 16) := fun k hk => (kp _ _ (msk_blk _ k) (cut16_blk s k hsa (by omega))).1
  have HS : Hid (Byt w sv s) := hs
  have HD : Hid (Byt w dv dk) := hd
  have HT : Hid (Byt w bv ptab) := hb
  clear hd ht ha hal hdl hda htl kp hsa hb zb ML
  generalize nm16 (encr tk ab) = M at *
  generalize ptab = tab at *
  obtain ⟨R, hR⟩ : ∃ R : Nat → List Int, R = run (xd dk) M s := ⟨_, rfl⟩
  obtain ⟨X, hX⟩ : ∃ X : Nat → List Int, X = fun k => xd dk (msk M k) (cut16 s k) := ⟨_, rfl⟩
  obtain ⟨Y, hY⟩ : ∃ Y : Nat → List Int, Y = fun k => decr dk (xorl (cut16 s k) (msk M k)) := ⟨_, rfl⟩
  obtain ⟨Z, hZ⟩ : ∃ Z : Nat → List Int, Z = fun k => xorl (cut16 s k) (msk M k) := ⟨_, rfl⟩
  obtain ⟨ms, hms⟩ : ∃ ms : Nat → List Int, ms = fun k => msk M k := ⟨_, rfl⟩
  have ex : ∀ k, xd dk (msk M k) (cut16 s k) = X k := fun k => by rw [hX]
  have ey : ∀ k, decr dk (xorl (cut16 s k) (msk M k)) = Y k := fun k => by rw [hY]
  have ez : ∀ k, xorl (cut16 s k) (msk M k) = Z k := fun k => by rw [hZ]
  have em : ∀ k, msk M k = ms k := fun k => by rw [hms]
  rw [← hR] at HR0 HRS HRL ⊢
  simp only [ex] at S4 HRS HXL
  simp only [ey] at S3 S4
  simp only [ez] at S2 S3
  simp only [em] at S1 S2 S3 S4 S5 HML HMA
  clear hR hX ex hY ey hZ ez hms em
  obtain ⟨ao, ca, rfl, ha1, ha2, -, -, -⟩ := hs
  have HSL : Hid (s.length = 16 * N) := hsl
  have s0 : (0 : Int) ≤ (s.length : Int) := by omega
  clear hsl
  go_enter Tryz.func29, Tryz.ntmps29
  go_wp2_with (go_at_call 41; refine (S1.out).mono ?_; rintro e w1 ⟨v1, rfl, y1, B1⟩; have Y1 : Hid (Byt w1 v1 (ms 0)) := y1; clear y1)
  have z1 := B1.size
  have HO2 : Hid (Own w1.heap.size (w1.alloc (.cells #[] 5)) (.slice (some ⟨w1.heap.size, 0, none⟩) 0 0) []) := Own.empty w1 (Nat.le_refl _)
  have HB2 : Hid (Below w1.heap.size w1 (w1.alloc (.cells #[] 5))) := (Below.refl _ _).alloc (Nat.le_refl _) _
  have Y2 : Hid (Byt (w1.alloc (.cells #[] 5)) v1 (ms 0)) := Y1.out.below HB2.out
  have D1 : Hid (Byt w1 dv dk) := HD.out.below B1
  have T1 : Hid (Byt w1 bv tab) := HT.out.below B1
  have V1 : Hid (Byt w1 (.slice ao s.length ca) s) := HS.out.below B1
  have HB1 : Hid (Below w.heap.size w w1) := B1
  have HF0 : Hid (v1.ownBlock ≠ (Value.slice (some ⟨w1.heap.size, 0, none⟩) 0 0).ownBlock) := far_old Y1.out (by rw [HML.out]; omega) 0 0
  clear B1 Y1
  generalize w1.alloc (.cells #[] 5) = w2 at *
  go_loopw [13, 11, 12] (fun i mv o wr => ∃ k : Nat, k ≤ N ∧ i = .int .i64 ((16 * k : Nat) : Int) ∧ Byt wr mv (ms k) ∧ Own w1.heap.size wr o (R k) ∧ Below w1.heap.size w1 wr ∧ mv.ownBlock ≠ o.ownBlock) (fun i _ _ _ => 16 * N - (intOf i).toNat)
  case atStart => exact ⟨0, Nat.zero_le _, rfl, Y2.out, by rw [HR0.out]; exact HO2.out, HB2.out, HF0.out⟩
  case round =>
    obtain ⟨k, hk, rfl, hY, hO, hB, hF⟩ := hrel
    obtain ⟨wa, rfl⟩ : ∃ wx, wx = wr := ⟨_, rfl⟩
    obtain ⟨j, hj⟩ : ∃ j, j = 16 * k := ⟨_, rfl⟩
    have HJ : Hid (j = 16 * k) := hj
    rw [← hj]
    have j0 : (0 : Int) ≤ (j : Int) := by omega
    have HO : Hid (Own w1.heap.size wa u12 (R k)) := hO
    have HB : Hid (Below w1.heap.size w1 wa) := hB
    have HY : Hid (Byt wa u11 (ms k)) := hY
    have HF : Hid (u11.ownBlock ≠ u12.ownBlock) := hF
    clear hO hB hY hF
    by_cases hlt : k < N
    · have k1 : (j : Int) < (s.length : Int) := by rw [HSL.out]; omega
      have q3 : IntKind.i64.wrap ((j : Int) + 16) = (j : Int) + 16 := by rw [IntKind.wrap_i64]; omega
      have YS : Hid (Byt wa (.slice ao s.length ca) s) := V1.out.below HB.out
      have S2k : Hid (∀ w' cv mv, Byt w' cv (cut16 s k) → Byt w' mv (ms k) → Calls Tryz.prog 42 #[cv, mv] w' fun e w'' => ∃ v', e = .returned v' ∧ Byt w'' v' (Z k) ∧ Below w'.heap.size w' w'') := S2.out k hlt
      have S3k : Hid (∀ w' u, Byt w' dv dk → Byt w' bv tab → Byt w' u (Z k) → Calls Tryz.prog 52 #[dv, u, bv] w' fun e w'' => ∃ v', e = .returned v' ∧ Byt w'' v' (Y k) ∧ Below w'.heap.size w' w'') := S3.out k hlt
      have S4k : Hid (∀ w' u mv, Byt w' u (Y k) → Byt w' mv (ms k) → Calls Tryz.prog 42 #[u, mv] w' fun e w'' => ∃ v', e = .returned v' ∧ Byt w'' v' (X k) ∧ Below w'.heap.size w' w'') := S4.out k hlt
      have S5k : Hid (∀ w' mv, Byt w' mv (ms k) → Calls Tryz.prog 43 #[mv] w' fun e w'' => ∃ v', e = .returned v' ∧ Own w'.heap.size w'' v' (ms (k + 1)) ∧ Below w'.heap.size w' w'') := S5.out k
      have XL : Hid ((X k).length = 16) := HXL.out k hlt
      have RL : Hid ((R k).length = 16 * k) := (HRL.out k hk).1
      clear hj
      go_wp2_with (first
        | (have q7 := s7; go_at_call 43; refine (S5k.out _ _ Y7.out).mono ?_; rintro e w8 ⟨v8, rfl, y8, B8⟩; have Y8 : Hid (Byt w8 v8 (ms (k + 1))) := y8.byt (HMA.out (k + 1)); have HF8 : Hid (v8.ownBlock ≠ v7.ownBlock) := far_new HO7.out y8 (by rw [HML.out]; omega); have HO8 : Hid (Own w1.heap.size w8 v7 (R (k + 1))) := Own.below HO7.out B8; have HB8 : Hid (Below w1.heap.size w1 w8) := HB7.out.trans (B8.mono HB7.out.size); clear y8 B8)
        | (at_builtin; have q6 := s6; refine pushs_lawX _ rfl (.tmp 36) (.tmp 39) rfl w1.heap.size (HB6.out.size) _ v6 (R k) (X k) rfl rfl HO6.out X6.out (by rw [RL.out]; omega) (by rw [XL.out]; omega) (by rw [XL.out]; omega) ?_; intro v7 w7 O7 B7 G7; have HO7 : Hid (Own w1.heap.size w7 v7 (R (k + 1))) := (by show Own _ _ _ _; rw [HRS.out]; exact O7); have HB7 : Hid (Below w1.heap.size w1 w7) := HB6.out.trans B7; have s7 := HB7.out.size; have Y7 : Hid (Byt w7 u11 (ms k)) := Byt.grownBy Y6.out G7 HF.out; clear O7 B7 G7)
        | (have q5 := s5; go_at_call 42; refine (S4k.out _ _ _ Z5.out Y5.out).mono ?_; rintro e w6 ⟨v6, rfl, y6, B6⟩; have s6 := B6.size; have X6 : Hid (Byt w6 v6 (X k)) := y6; have Y6 : Hid (Byt w6 u11 (ms k)) := Y5.out.below B6; have HO6 : Hid (Own w1.heap.size w6 u12 (R k)) := Own.below HO5.out B6; have HB6 : Hid (Below w1.heap.size w1 w6) := HB5.out.trans (B6.mono HB5.out.size); clear y6 B6)
        | (have q4 := s4; go_at_call 52; refine (S3k.out _ _ (D1.out.below HB4.out) (T1.out.below HB4.out) Z4.out).mono ?_; rintro e w5 ⟨v5, rfl, y5, B5⟩; have s5 := B5.size; have Z5 : Hid (Byt w5 v5 (Y k)) := y5; have Y5 : Hid (Byt w5 u11 (ms k)) := Y4.out.below B5; have HO5 : Hid (Own w1.heap.size w5 u12 (R k)) := Own.below HO4.out B5; have HB5 : Hid (Below w1.heap.size w1 w5) := HB4.out.trans (B5.mono HB4.out.size); clear y5 B5)
        | (go_at_call 42; refine (S2k.out _ _ _ YC.out HY.out).mono ?_; rintro e w4 ⟨v4, rfl, y4, B4⟩; have s4 := B4.size; have Z4 : Hid (Byt w4 v4 (Z k)) := y4; have Y4 : Hid (Byt w4 u11 (ms k)) := HY.out.below B4; have HO4 : Hid (Own w1.heap.size w4 u12 (R k)) := Own.below HO.out B4; have HB4 : Hid (Below w1.heap.size w1 w4) := HB.out.trans (B4.mono HB.out.size); clear y4 B4)
        | (refine cut_part _ rfl (.tmp 27) (.tmp 28) (.tmp 30) rfl _ s (j : Int) ((j : Int) + 16) (16 * k) (16 * k + 16) rfl rfl rfl (by rw [HJ.out]) (by rw [HJ.out]; omega) (by omega) (by rw [HSL.out]; omega) YS.out ?_; intro vc yc; have YC : Hid (Byt wa vc (cut16 s k)) := yc; clear yc))
      go_roundw
      case rel => exact ⟨k + 1, by omega, by rw [HJ.out]; go_num, Y8.out, HO8.out, HB8.out, HF8.out⟩
      case measure => have := HJ.out; simp [intOf]; omega
    · have hkn : k = N := by omega
      subst hkn
      have k1 : ¬ ((j : Int) < (s.length : Int)) := by rw [HSL.out]; omega
      clear hj
      go_wp2
      go_ret
      exact ⟨_, rfl, HO.out.byt (HRL.out k (Nat.le_refl _)).2, HB1.out.trans (HB.out.mono z1)⟩
end Go.Proofs.YtbkaecjkgjkheaaGreatDoor.xt

/- What the reference's Seal and Open answer. No claim of its own. -/
namespace Go.Proofs.YtbkaecjkgjkheaaGreatDoor.se
open Go.RowKit Go.Proofs.YtbkaecjkgjkheaaGreatDoor.fa Go.Proofs.YtbkaecjkgjkheaaGreatDoor.he
set_option maxRecDepth 20000

set_option maxHeartbeats 4000000 in
theorem rzseal_any (kv : Value) (ks : List Int) (k n c l e t : Int) (sv bv : Value) (ss : List Int) (N : Nat) (w : World) (hk : Byt w kv ks) (hl : ks.length = 96) (hH : Hb l e t) (hs : Byt w sv ss) (hb : Byt w bv ptab) (hsl : ss.length = 16 * N) (hN' : N ≤ 256) :
    Calls Tryz.prog 10 #[kv, .agg (he.hv k n c l e t).toArray, sv, bv] w fun x w' => ∃ r, x = .returned r ∧ Byt w' r (xt.run (xt.xe (kd ks)) (nm16 (encr (kt ks) (twk e t))) ss N) ∧ Below w.heap.size w w' := by
  have HK : Hid (Byt w kv ks) := hk
  have HL : Hid (ks.length = 96) := hl
  obtain ⟨ko, kc, rfl⟩ := byt_form hk hl
  have HV : Hid (Byt w sv ss) := hs
  obtain ⟨so, sc, rfl⟩ : ∃ ao cap, sv = .slice ao ss.length cap := (by obtain ⟨ao, cap, e, _⟩ := hs; exact ⟨ao, cap, e⟩)
  have ST : Hid (∀ w0, Calls Tryz.prog 23 #[.agg (he.hv k n c l e t).toArray] w0 fun x w' => ∃ r, x = .returned r ∧ Byt w' r (twk e t) ∧ Below w0.heap.size w0 w') := fun w0 => rztweak_any k n c l e t w0 hH
  have SX : Hid (∀ w0 tv, Below w.heap.size w w0 → Byt w0 tv (twk e t) → Calls Tryz.prog 22 #[sl (.slice ko 96 kc) 0 32, sl (.slice ko 96 kc) 32 64, tv, .slice so ss.length sc, bv] w0 fun x w' => ∃ r, x = .returned r ∧ Byt w' r (xt.run (xt.xe (kd ks)) (nm16 (encr (kt ks) (twk e t))) ss N) ∧ Below w0.heap.size w0 w') := fun w0 tv hb9 ht => xt.rxenc_any _ _ tv _ bv (kd ks) (kt ks) (twk e t) ss N w0 (sl_to (HK.out.below hb9) 32 (by omega)) (kd_len hl) (sl_byt (HK.out.below hb9) 32 64 (by omega) (by omega)) (kt_len hl) ht (twk_len e t) (HV.out.below hb9) hsl hN' (hb.below hb9)
  generalize (xt.run (xt.xe (kd ks)) (nm16 (encr (kt ks) (twk e t))) ss N) = EX at SX ⊢
  generalize twk e t = TW at ST SX
  clear hk hl hs hb hsl hN' hH
  have t0 : (0 : Nat) = 0 := rfl
  go_enter Tryz.func10, Tryz.ntmps10
  go_wp2_with (first
    | (have q0 := t0; refine box_lawC _ (he.hv k n c l e t) rfl ?_; intro w1 X9 B9 l9; have HB0 : Hid (Vr w1 w.heap.size (he.hv k n c l e t)) := X9; have BB : Hid (Below w.heap.size w w1) := B9; have hb0_0 := HB0.out.cell 0 _ rfl; have hb0_1 := HB0.out.cell 1 _ rfl; have hb0_2 := HB0.out.cell 2 _ rfl; have hb0_3 := HB0.out.cell 3 _ rfl; have hb0_4 := HB0.out.cell 4 _ rfl; have hb0_5 := HB0.out.cell 5 _ rfl; clear X9 B9 l9; clear t0; have t1 : (1 : Nat) = 1 := rfl))
  clear hb0_0 hb0_1 hb0_2 hb0_3 hb0_4 hb0_5
  refine wp_region_held_drew (S := fun w' => Below w1.heap.size w1 w') (by kernel_rfl) (Below.refl _ _).drew (fun hS => ?_)
  obtain ⟨x1, hx0⟩ : ∃ x, x = w1.drew := ⟨_, rfl⟩
  rw [← hx0] at hS  ⊢
  clear hx0
  refine take_lawH 0 (some 9) (.slice ko 96 kc) rfl rfl (by kernel_rfl) (by kernel_rfl) (by kernel_rfl) (fun _ _ _ h => h) (Or.inl ⟨by rfl, fun w' hw' => by rfl⟩) hS ?_
  simp only [Act.put, List.setIfInBounds_toArray, List.set_cons_zero, List.set_cons_succ]
  refine take_lawH 1 (some 10) (sl (.slice ko 96 kc) 0 32) rfl rfl (by kernel_rfl) (by kernel_rfl) (by kernel_rfl) (fun _ _ _ h => h) (Or.inl ⟨by rfl, fun w' hw' => by exact exec_to (.tmp 9) (.const (.int .i64 32)) rfl _ ks _ HK.out 32 rfl rfl (by have := HL.out; omega) _⟩) hS ?_
  simp only [Act.put, List.setIfInBounds_toArray, List.set_cons_zero, List.set_cons_succ]
  refine take_lawH 2 (some 11) (.slice ko 96 kc) rfl rfl (by kernel_rfl) (by kernel_rfl) (by kernel_rfl) (fun _ _ _ h => h) (Or.inl ⟨by rfl, fun w' hw' => by rfl⟩) hS ?_
  simp only [Act.put, List.setIfInBounds_toArray, List.set_cons_zero, List.set_cons_succ]
  refine take_lawH 3 (some 12) (sl (.slice ko 96 kc) 32 64) rfl rfl (by kernel_rfl) (by kernel_rfl) (by kernel_rfl) (fun _ _ _ h => h) (Or.inl ⟨by rfl, fun w' hw' => by exact exec_part (.tmp 11) (.const (.int .i64 32)) (.const (.int .i64 64)) rfl _ ks _ HK.out 32 64 rfl rfl rfl (by omega) (by have := HL.out; omega) _⟩) hS ?_
  simp only [Act.put, List.setIfInBounds_toArray, List.set_cons_zero, List.set_cons_succ]
  refine take_lawH 4 (some 13) (.agg (he.hv k n c l e t).toArray) rfl rfl (by kernel_rfl) (by kernel_rfl) (by kernel_rfl) (fun _ _ _ h => h) (Or.inl ⟨by rfl, fun w' hw' => by exact exec_loadN 26 (.tmp 5) rfl _ rfl _ _ (load_cells rowy_head (HB0.out.below hw' (range_lt HB0.out.1 (Nat.succ_pos _))).1)⟩) hS ?_
  simp only [Act.put, List.setIfInBounds_toArray, List.set_cons_zero, List.set_cons_succ]
  refine take_lawH 6 (some 15) (.slice so ss.length sc) rfl rfl (by kernel_rfl) (by kernel_rfl) (by kernel_rfl) (fun _ _ _ h => h) (Or.inl ⟨by rfl, fun w' hw' => by rfl⟩) hS ?_
  simp only [Act.put, List.setIfInBounds_toArray, List.set_cons_zero, List.set_cons_succ]
  refine take_lawH 7 (some 16) (bv) rfl rfl (by kernel_rfl) (by kernel_rfl) (by kernel_rfl) (fun _ _ _ h => h) (Or.inl ⟨by rfl, fun w' hw' => by rfl⟩) hS ?_
  simp only [Act.put, List.setIfInBounds_toArray, List.set_cons_zero, List.set_cons_succ]
  refine wpAnyH_ready (rs := [5]) (by kernel_rfl) (by simp) ?_
  refine AllReadyH.cons rfl (fun K hK => ?_) AllReadyH.nil
  refine step_callW _ (by rfl) (some 14) rfl 23 #[.tmp 13] #[26] rfl (fun q w' => by rfl) #[.agg (he.hv k n c l e t).toArray] (by simp only [List.map_toArray, List.map_cons, List.map_nil]; rfl) (fun u w' => Byt w' u TW ∧ Below x1.heap.size x1 w') ?_ ?_
  · exact (ST.out x1).mono fun e w' ⟨r, h1, h2, h3⟩ => ⟨r, h1, h2, h3⟩
  rintro tv9 x2 ⟨y1, hb⟩
  have YT : Hid (Byt x2 tv9 TW) := y1
  clear y1
  have hS : Below w1.heap.size w1 x2 := hS.trans (hb.mono hS.size)
  clear hb
  refine hK.out _ _ hS (fun _ => ?_)
  simp only [Act.put, List.setIfInBounds_toArray, List.set_cons_zero, List.set_cons_succ]
  clear hK K
  refine wpAnyH_ready (rs := [8]) (by kernel_rfl) (by simp) ?_
  refine AllReadyH.cons rfl (fun K hK => ?_) AllReadyH.nil
  refine step_callW _ (by rfl) (some 17) rfl 22 #[.tmp 10, .tmp 12, .tmp 14, .tmp 15, .tmp 16] #[22, 22, 22, 22, 22] rfl (fun q w' => by rfl) #[sl (.slice ko 96 kc) 0 32, sl (.slice ko 96 kc) 32 64, tv9, .slice so ss.length sc, bv] (by simp only [List.map_toArray, List.map_cons, List.map_nil]; rfl) (fun u w' => Byt w' u EX ∧ Below x2.heap.size x2 w') ?_ ?_
  · exact SX.out x2 tv9 (BB.out.trans (hS.mono BB.out.size)) YT.out
  rintro rv x3 ⟨y1, hb⟩
  have HR : Hid (Byt x3 rv EX) := y1
  clear y1
  have hS : Below w1.heap.size w1 x3 := hS.trans (hb.mono hS.size)
  clear hb
  refine hK.out _ _ hS (fun _ => ?_)
  simp only [Act.put, List.setIfInBounds_toArray, List.set_cons_zero, List.set_cons_succ]
  clear hK K
  refine take_lawH 9 (some 8) (rv) rfl rfl (by kernel_rfl) (by kernel_rfl) (by kernel_rfl) (fun _ _ _ h => h) (Or.inl ⟨by rfl, fun w' hw' => by rfl⟩) hS ?_
  simp only [Act.put, List.setIfInBounds_toArray, List.set_cons_zero, List.set_cons_succ]
  refine wpAnyH_done (by kernel_rfl) ?_ _
  have BZ : Hid (Below w.heap.size w _) := BB.out.trans (hS.mono BB.out.size)
  clear hS
  go_wp2
  go_ret
  exact ⟨_, rfl, HR.out, BZ.out⟩

set_option maxHeartbeats 4000000 in
theorem rzopen_any (kv : Value) (ks : List Int) (k n c l e t : Int) (sv bv : Value) (ss : List Int) (N : Nat) (w : World) (hk : Byt w kv ks) (hl : ks.length = 96) (hH : Hb l e t) (hs : Byt w sv ss) (hb : Byt w bv ptab) (hsl : ss.length = 16 * N) (hN' : N ≤ 256) :
    Calls Tryz.prog 15 #[kv, .agg (he.hv k n c l e t).toArray, sv, bv] w fun x w' => ∃ r, x = .returned r ∧ Byt w' r (xt.run (xt.xd (kd ks)) (nm16 (encr (kt ks) (twk e t))) ss N) ∧ Below w.heap.size w w' := by
  have HK : Hid (Byt w kv ks) := hk
  have HL : Hid (ks.length = 96) := hl
  obtain ⟨ko, kc, rfl⟩ := byt_form hk hl
  have HV : Hid (Byt w sv ss) := hs
  obtain ⟨so, sc, rfl⟩ : ∃ ao cap, sv = .slice ao ss.length cap := (by obtain ⟨ao, cap, e, _⟩ := hs; exact ⟨ao, cap, e⟩)
  have ST : Hid (∀ w0, Calls Tryz.prog 23 #[.agg (he.hv k n c l e t).toArray] w0 fun x w' => ∃ r, x = .returned r ∧ Byt w' r (twk e t) ∧ Below w0.heap.size w0 w') := fun w0 => rztweak_any k n c l e t w0 hH
  have SX : Hid (∀ w0 tv, Below w.heap.size w w0 → Byt w0 tv (twk e t) → Calls Tryz.prog 29 #[sl (.slice ko 96 kc) 0 32, sl (.slice ko 96 kc) 32 64, tv, .slice so ss.length sc, bv] w0 fun x w' => ∃ r, x = .returned r ∧ Byt w' r (xt.run (xt.xd (kd ks)) (nm16 (encr (kt ks) (twk e t))) ss N) ∧ Below w0.heap.size w0 w') := fun w0 tv hb9 ht => xt.rxdec_any _ _ tv _ bv (kd ks) (kt ks) (twk e t) ss N w0 (sl_to (HK.out.below hb9) 32 (by omega)) (kd_len hl) (sl_byt (HK.out.below hb9) 32 64 (by omega) (by omega)) (kt_len hl) ht (twk_len e t) (HV.out.below hb9) hsl hN' (hb.below hb9)
  generalize (xt.run (xt.xd (kd ks)) (nm16 (encr (kt ks) (twk e t))) ss N) = EX at SX ⊢
  generalize twk e t = TW at ST SX
  clear hk hl hs hb hsl hN' hH
  have t0 : (0 : Nat) = 0 := rfl
  go_enter Tryz.func15, Tryz.ntmps15
  go_wp2_with (first
    | (have q0 := t0; refine box_lawC _ (he.hv k n c l e t) rfl ?_; intro w1 X9 B9 l9; have HB0 : Hid (Vr w1 w.heap.size (he.hv k n c l e t)) := X9; have BB : Hid (Below w.heap.size w w1) := B9; have hb0_0 := HB0.out.cell 0 _ rfl; have hb0_1 := HB0.out.cell 1 _ rfl; have hb0_2 := HB0.out.cell 2 _ rfl; have hb0_3 := HB0.out.cell 3 _ rfl; have hb0_4 := HB0.out.cell 4 _ rfl; have hb0_5 := HB0.out.cell 5 _ rfl; clear X9 B9 l9; clear t0; have t1 : (1 : Nat) = 1 := rfl))
  clear hb0_0 hb0_1 hb0_2 hb0_3 hb0_4 hb0_5
  refine wp_region_held_drew (S := fun w' => Below w1.heap.size w1 w') (by kernel_rfl) (Below.refl _ _).drew (fun hS => ?_)
  obtain ⟨x1, hx0⟩ : ∃ x, x = w1.drew := ⟨_, rfl⟩
  rw [← hx0] at hS  ⊢
  clear hx0
  refine take_lawH 0 (some 9) (.slice ko 96 kc) rfl rfl (by kernel_rfl) (by kernel_rfl) (by kernel_rfl) (fun _ _ _ h => h) (Or.inl ⟨by rfl, fun w' hw' => by rfl⟩) hS ?_
  simp only [Act.put, List.setIfInBounds_toArray, List.set_cons_zero, List.set_cons_succ]
  refine take_lawH 1 (some 10) (sl (.slice ko 96 kc) 0 32) rfl rfl (by kernel_rfl) (by kernel_rfl) (by kernel_rfl) (fun _ _ _ h => h) (Or.inl ⟨by rfl, fun w' hw' => by exact exec_to (.tmp 9) (.const (.int .i64 32)) rfl _ ks _ HK.out 32 rfl rfl (by have := HL.out; omega) _⟩) hS ?_
  simp only [Act.put, List.setIfInBounds_toArray, List.set_cons_zero, List.set_cons_succ]
  refine take_lawH 2 (some 11) (.slice ko 96 kc) rfl rfl (by kernel_rfl) (by kernel_rfl) (by kernel_rfl) (fun _ _ _ h => h) (Or.inl ⟨by rfl, fun w' hw' => by rfl⟩) hS ?_
  simp only [Act.put, List.setIfInBounds_toArray, List.set_cons_zero, List.set_cons_succ]
  refine take_lawH 3 (some 12) (sl (.slice ko 96 kc) 32 64) rfl rfl (by kernel_rfl) (by kernel_rfl) (by kernel_rfl) (fun _ _ _ h => h) (Or.inl ⟨by rfl, fun w' hw' => by exact exec_part (.tmp 11) (.const (.int .i64 32)) (.const (.int .i64 64)) rfl _ ks _ HK.out 32 64 rfl rfl rfl (by omega) (by have := HL.out; omega) _⟩) hS ?_
  simp only [Act.put, List.setIfInBounds_toArray, List.set_cons_zero, List.set_cons_succ]
  refine take_lawH 4 (some 13) (.agg (he.hv k n c l e t).toArray) rfl rfl (by kernel_rfl) (by kernel_rfl) (by kernel_rfl) (fun _ _ _ h => h) (Or.inl ⟨by rfl, fun w' hw' => by exact exec_loadN 26 (.tmp 5) rfl _ rfl _ _ (load_cells rowy_head (HB0.out.below hw' (range_lt HB0.out.1 (Nat.succ_pos _))).1)⟩) hS ?_
  simp only [Act.put, List.setIfInBounds_toArray, List.set_cons_zero, List.set_cons_succ]
  refine take_lawH 6 (some 15) (.slice so ss.length sc) rfl rfl (by kernel_rfl) (by kernel_rfl) (by kernel_rfl) (fun _ _ _ h => h) (Or.inl ⟨by rfl, fun w' hw' => by rfl⟩) hS ?_
  simp only [Act.put, List.setIfInBounds_toArray, List.set_cons_zero, List.set_cons_succ]
  refine take_lawH 7 (some 16) (bv) rfl rfl (by kernel_rfl) (by kernel_rfl) (by kernel_rfl) (fun _ _ _ h => h) (Or.inl ⟨by rfl, fun w' hw' => by rfl⟩) hS ?_
  simp only [Act.put, List.setIfInBounds_toArray, List.set_cons_zero, List.set_cons_succ]
  refine wpAnyH_ready (rs := [5]) (by kernel_rfl) (by simp) ?_
  refine AllReadyH.cons rfl (fun K hK => ?_) AllReadyH.nil
  refine step_callW _ (by rfl) (some 14) rfl 23 #[.tmp 13] #[26] rfl (fun q w' => by rfl) #[.agg (he.hv k n c l e t).toArray] (by simp only [List.map_toArray, List.map_cons, List.map_nil]; rfl) (fun u w' => Byt w' u TW ∧ Below x1.heap.size x1 w') ?_ ?_
  · exact (ST.out x1).mono fun e w' ⟨r, h1, h2, h3⟩ => ⟨r, h1, h2, h3⟩
  rintro tv9 x2 ⟨y1, hb⟩
  have YT : Hid (Byt x2 tv9 TW) := y1
  clear y1
  have hS : Below w1.heap.size w1 x2 := hS.trans (hb.mono hS.size)
  clear hb
  refine hK.out _ _ hS (fun _ => ?_)
  simp only [Act.put, List.setIfInBounds_toArray, List.set_cons_zero, List.set_cons_succ]
  clear hK K
  refine wpAnyH_ready (rs := [8]) (by kernel_rfl) (by simp) ?_
  refine AllReadyH.cons rfl (fun K hK => ?_) AllReadyH.nil
  refine step_callW _ (by rfl) (some 17) rfl 29 #[.tmp 10, .tmp 12, .tmp 14, .tmp 15, .tmp 16] #[22, 22, 22, 22, 22] rfl (fun q w' => by rfl) #[sl (.slice ko 96 kc) 0 32, sl (.slice ko 96 kc) 32 64, tv9, .slice so ss.length sc, bv] (by simp only [List.map_toArray, List.map_cons, List.map_nil]; rfl) (fun u w' => Byt w' u EX ∧ Below x2.heap.size x2 w') ?_ ?_
  · exact SX.out x2 tv9 (BB.out.trans (hS.mono BB.out.size)) YT.out
  rintro rv x3 ⟨y1, hb⟩
  have HR : Hid (Byt x3 rv EX) := y1
  clear y1
  have hS : Below w1.heap.size w1 x3 := hS.trans (hb.mono hS.size)
  clear hb
  refine hK.out _ _ hS (fun _ => ?_)
  simp only [Act.put, List.setIfInBounds_toArray, List.set_cons_zero, List.set_cons_succ]
  clear hK K
  refine take_lawH 9 (some 8) (rv) rfl rfl (by kernel_rfl) (by kernel_rfl) (by kernel_rfl) (fun _ _ _ h => h) (Or.inl ⟨by rfl, fun w' hw' => by rfl⟩) hS ?_
  simp only [Act.put, List.setIfInBounds_toArray, List.set_cons_zero, List.set_cons_succ]
  refine wpAnyH_done (by kernel_rfl) ?_ _
  have BZ : Hid (Below w.heap.size w _) := BB.out.trans (hS.mono BB.out.size)
  clear hS
  go_wp2
  go_ret
  exact ⟨_, rfl, HR.out, BZ.out⟩
end Go.Proofs.YtbkaecjkgjkheaaGreatDoor.se

/- What an argument that is an array of two slices of bytes holds. No claim of its own. -/
namespace Go.Proofs.YtbkaecjkgjkheaaGreatDoor.pa
open Go.ChangeShapes Go.WideShapes Go.ChangeAt Go.RowKit
set_option maxRecDepth 20000

theorem cells_bytes : Tryz.prog.cellsOf 22 = 1 := by kernel_rfl
/-- one cell that is read as a slice of bytes -/
theorem byt_cells {H : Type} {enc : TypeId × Value → H} {W : World} {fuel : Nat} {v : Value} {x : DataW H × List MemPlace}
    (hf : DataW.trod enc Tryz.prog W 0 (fun _ => true) true fuel 22 [v] = some x) : ∃ xs, Byt W v xs := by
  rcases open_ints Tryz.underlying22 Tryz.underlying5 cells_u8 hf with ⟨hcs, hx⟩ | ⟨a, len, cap, zs, hcs, _, hl, hm, hz, hx, hcell, hwz⟩
  · obtain rfl : v = .slice none 0 0 := by simpa using hcs
    exact ⟨[], Byt.nil W⟩
  · obtain rfl : v = .slice (some a) len cap := by simpa using hcs
    simp at hz
    have hlen : (zs.take len).length = len := by simp; omega
    have hgb : ∀ t, t < len → gb (zs.take len) t = zs.getD t 0 := fun t ht => by simp [gb, List.getD, ht]
    refine ⟨zs.take len, some a, cap, by rw [hlen], by omega, by simpa [maxLen] using hm, allB_mem fun x hx => bounds_u8 (hwz x (List.mem_of_mem_take hx)), (by intro h; cases h), fun hp => ?_⟩
    obtain ⟨b, off, rfl, hc⟩ := ints_at hcell (by omega)
    refine ⟨b, off, rfl, fun t ht => ?_⟩
    rw [hgb t (by omega)]
    exact hc t (by omega)

theorem cells_arr2 : Tryz.prog.cellsOf 41 = 2 := by kernel_rfl
/-- an argument that is an array of two slices of bytes -/
theorem pair_open {H : Type} {enc : TypeId × Value → H} {W : World} {base : Nat} {v : Value} {d : DataW H} {ps : List MemPlace}
    (ok : Value.okWide Tryz.prog W .any base 41 v) (h : DataW.Trod enc Tryz.prog W 0 (fun _ => true) true 41 v d ps) : ∃ v0 v1 xs ys, v = .agg #[v0, v1] ∧ Byt W v0 xs ∧ Byt W v1 ys := by
  simp only [Value.okWide, Tryz.underlying41] at ok
  obtain ⟨cs, rfl, h2, _⟩ := ok
  rw [cells_arr2] at h2
  obtain ⟨l⟩ := cs
  obtain ⟨c0, c1, rfl⟩ : ∃ c0 c1, l = [c0, c1] := by
    match l, h2 with
    | [c0, c1], _ => exact ⟨c0, c1, rfl⟩
  obtain ⟨fuel, hf⟩ := h
  obtain ⟨xs, m, rfl, hx, hcl, hxl, hall⟩ := DataW.trod_array Tryz.underlying41 hf
  have a0 := hall 0 (by omega)
  have a1 := hall 1 (by omega)
  rw [cells_bytes] at a0 a1
  obtain ⟨y0, y1, rfl⟩ : ∃ y0 y1, xs = [y0, y1] := by
    match xs, hxl with
    | [y0, y1], _ => exact ⟨y0, y1, rfl⟩
  simp [Value.cells] at a0 a1
  obtain ⟨xs0, b0⟩ := byt_cells a0
  obtain ⟨xs1, b1⟩ := byt_cells a1
  exact ⟨c0, c1, xs0, xs1, rfl, b0, b1⟩
end Go.Proofs.YtbkaecjkgjkheaaGreatDoor.pa

