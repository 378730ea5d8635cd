/- Texts put together (a claim holds few files). No claim of its own. -/
import Derived.Test.YtijadglmbopboaaPackF
import Derived.Test.YtijadglmbopboaaPackD
/- What the reference's Double, Times and Mul answer. No claim of its own. -/
namespace Go.Proofs.Ytijadglmbopboaa.tw
open Go.RowKit

theorem cf_low (X : Nat) : cf 128 X = cf 128 (X % 2 ^ 128) := ext_gb (by rw [cf_len, cf_len]) fun t ht => by
  rw [cf_len] at ht
  rw [cf_gb _ _ _ ht, cf_gb _ _ _ ht, Nat.testBit_mod_two_pow]
  simp [ht]
theorem cf_cons (n : Nat) : 0 :: cf 128 n = cf 129 (2 * n) := ext_gb (by rw [List.length_cons, cf_len, cf_len]) fun t ht => by
  rw [List.length_cons, cf_len] at ht
  rw [cf_gb _ _ _ (by omega)]
  cases t with
  | zero => simp [gb, b01]
  | succ t =>
    have e : gb (0 :: cf 128 n) (t + 1) = gb (cf 128 n) t := by simp [gb, List.getD]
    rw [e, cf_gb _ _ _ (by omega), two_bit]

theorem OwnI.below {B : Nat} {w w' : World} {v : Value} {cs : List Int} (h : OwnI B w v cs) (hb : Below w.heap.size w w') : OwnI B w' v cs :=
  World.ownsRow.kept (row := none) h ⟨hb.os, hb.tape, hb.output, hb.size, fun j hj _ => hb.block j hj⟩ (by cases hv : v.ownBlock <;> simp)

theorem own_mono {B B' : Nat} {w : World} {v : Value} {xs : List Int} (h : Own B w v xs) (hB : B' ≤ B) : Own B' w v xs :=
  ⟨h.1, h.2.imp id fun ⟨g, cap, cur, h1, h2, h3⟩ => ⟨g, cap, cur, h1, Nat.le_trans hB h2, h3⟩⟩

set_option linter.unusedSimpArgs false in
set_option maxRecDepth 20000 in
set_option maxHeartbeats 4000000 in
theorem rdouble_own (v : Value) (xs : List Int) (w : World) (hv : Byt w v xs) (hl : xs.length = 16) :
    Calls Try.prog 19 #[v] w fun e w' => ∃ v', e = .returned v' ∧ Own w.heap.size w' v' (bt16 (td (nm16 xs))) ∧ Below w.heap.size w w' := by
  have H1 : Hid (∀ w', Below w.heap.size w w' → Calls Try.prog 35 #[v] w' fun e w'' => ∃ v', e = .returned v' ∧ Its w'' v' (cf 128 (nm16 xs)) ∧ Below w'.heap.size w' w'') := fun w' h => rbits_any v xs w' (hv.below h) hl
  have H2 : Hid (∀ w' v1, Its w' v1 (cf 129 (2 * nm16 xs)) → Calls Try.prog 34 #[v1] w' fun e w'' => ∃ v', e = .returned v' ∧ Its w'' v' (cf 128 (td (nm16 xs))) ∧ Below w'.heap.size w' w'') := fun w' v1 h => by
    have := rleft_any v1 (2 * nm16 xs) 1 w' (by omega) h
    rw [cf_low, show lf (2 * nm16 xs) 1 % 2 ^ 128 = lft (2 * nm16 xs) 1 from rfl, lft_one] at this
    exact this
  have H3 : Hid (∀ w' v1, Its w' v1 (cf 128 (td (nm16 xs))) → Calls Try.prog 33 #[v1] w' fun e w'' => ∃ v', e = .returned v' ∧ Own w'.heap.size w'' v' (bt16 (td (nm16 xs))) ∧ Below w'.heap.size w' w'') := fun w' v1 h => rtold_own v1 _ w' h
  have HC : Hid (0 :: cf 128 (nm16 xs) = cf 129 (2 * nm16 xs) ∧ (cf 128 (nm16 xs)).length = 128 ∧ (cf 129 (2 * nm16 xs)).length = 129) := ⟨cf_cons _, cf_len _ _, cf_len _ _⟩
  clear hv hl
  generalize bt16 (td (nm16 xs)) = zs at *
  generalize cf 128 (td (nm16 xs)) = c3 at *
  generalize cf 129 (2 * nm16 xs) = c2 at *
  generalize cf 128 (nm16 xs) = c1 at *
  go_enter Try.func19, Try.ntmps19
  have B0 : Below w.heap.size w (w.alloc (.cells #[.int .i64 0] 3)) := (Below.refl _ _).alloc (Nat.le_refl _) _
  have O0 : Hid (OwnI w.heap.size (w.alloc (.cells #[.int .i64 0] 3)) (.slice (some ⟨w.heap.size, 0, none⟩) 1 1) [0]) := OwnI.one w (Nat.le_refl _) 0
  have HB0 : Hid (Below w.heap.size w (w.alloc (.cells #[.int .i64 0] 3))) := B0
  clear B0
  go_wp2_with (first
    | (have q3 := s3; go_at_call 33; refine (H3.out _ _ I3.out).mono ?_; rintro e w4 ⟨v4, rfl, Y4, B4⟩)
    | (have q2 := s2; go_at_call 34; refine (H2.out _ _ I2.out).mono ?_; rintro e w3 ⟨v3, rfl, J3, B3⟩; have s3 := B3.size; have I3 : Hid (Its w3 v3 c3) := J3; clear J3)
    | (at_builtin; have q1 := s1; refine pushs_lawI _ rfl (.tmp 3) (.tmp 5) rfl w.heap.size (by have := HB0.out.size; omega) _ v1 [0] c1 rfl rfl (O0.out.below B1) I1.out (by simp) (by rw [HC.out.2.1]; omega) ?_; intro v2 w2 O2 B2; have s2 := B2.size; have I2 : Hid (Its w2 v2 c2) := (by
        show Its _ _ _
        have := O2
        rw [List.singleton_append, HC.out.1] at this
        obtain ⟨g, cap, e, h1, h2, h3, h4, h5⟩ := this.its (by rw [HC.out.2.2]; omega)
        exact ⟨g, cap, e, h1, h2, h5, h4⟩); clear O2)
    | (go_at_call 35; refine (H1.out _ HB0.out).mono ?_; rintro e w1 ⟨v1, rfl, J1, B1⟩; have s1 := B1.size; have I1 : Hid (Its w1 v1 c1) := J1; clear J1))
  have z0 := HB0.out.size
  go_ret
  exact ⟨_, rfl, own_mono Y4 (by omega), (((HB0.out.trans (B1.mono z0)).trans B2).trans (B3.mono (by omega))).trans (B4.mono (by omega))⟩
theorem rdouble_any (v : Value) (xs : List Int) (w : World) (hv : Byt w v xs) (hl : xs.length = 16) :
    Calls Try.prog 19 #[v] w fun e w' => ∃ v', e = .returned v' ∧ Byt w' v' (bt16 (td (nm16 xs))) ∧ Below w.heap.size w w' :=
  (rdouble_own v xs w hv hl).mono fun _ _ ⟨v', h1, h2, h3⟩ => ⟨v', h1, h2.byt (bt16_all _), h3⟩

theorem cf_zero (n : Nat) : cf n 0 = List.replicate n 0 := ext_gb (by rw [cf_len, List.length_replicate]) fun t ht => by
  rw [cf_len] at ht
  rw [cf_gb _ _ _ ht]
  simp [b01, gb, List.getD, ht]
end Go.Proofs.Ytijadglmbopboaa.tw

/- What the reference's Right, Encrypt and Decrypt of layer 9 answer. No claim of its own. -/
namespace Go.Proofs.Ytijadglmbopboaa.xt
open Go.RowKit

set_option linter.unusedSimpArgs false in
set_option maxRecDepth 20000 in
set_option maxHeartbeats 4000000 in
theorem rxenc_any (dv tv av sv bv : Value) (dk tk ab s : List Int) (N : Nat) (w : World) (hd : Byt w dv dk) (hdl : dk.length = 32) (ht : Byt w tv tk) (htl : tk.length = 32) (ha : Byt w av ab) (hal : ab.length = 16) (hs : Byt w sv s) (hsl : s.length = 16 * N) (hN' : N ≤ 256) (hb : Byt w bv ptab) :
    Calls Try.prog 13 #[dv, tv, av, sv, bv] w fun e w' => ∃ v', e = .returned v' ∧ Byt w' v' (run (xe dk) (nm16 (encr tk ab)) s N) ∧ Below w.heap.size w w' := by
  have hda := hd.all
  have hsa := hs.all
  have zb := encr_blk tk htl ht.all ab ⟨hal, ha.all⟩
  have kp : Keeps (xe dk) := fun m b hm hb => xe_blk dk hdl hda m b hm hb
  have ML : nm16 (encr tk ab) < 2 ^ 128 := nm16_lt _ zb.2
  have S1 : Hid (Calls Try.prog 18 #[tv, av, bv] w fun e w' => ∃ v', e = .returned v' ∧ Byt w' v' (msk (nm16 (encr tk ab)) 0) ∧ Below w.heap.size w w') := by
    have := rencrypt_any tv av bv tk ab w ht htl ha hal hb
    rw [msk_zero _ zb]; exact this
  have S2 : Hid (∀ k, k < N → ∀ w' cv mv, Byt w' cv (cut16 s k) → Byt w' mv (msk (nm16 (encr tk ab)) k) → Calls Try.prog 23 #[cv, mv] w' fun e w'' => ∃ v', e = .returned v' ∧ Byt w'' v' (xorl (cut16 s k) (msk (nm16 (encr tk ab)) k)) ∧ Below w'.heap.size w' w'') := fun k hk w' cv mv h1 h2 => rxor_any cv mv _ _ w' h1 h2 (by rw [cut16_len s k (by omega), (msk_blk _ k).1]) (by rw [cut16_len s k (by omega)]; omega)
  have S3 : Hid (∀ k, k < N → ∀ w' u, Byt w' dv dk → Byt w' bv ptab → Byt w' u (xorl (cut16 s k) (msk (nm16 (encr tk ab)) k)) → Calls Try.prog 18 #[dv, u, bv] w' fun e w'' => ∃ v', e = .returned v' ∧ Byt w'' v' (encr dk (xorl (cut16 s k) (msk (nm16 (encr tk ab)) k))) ∧ Below w'.heap.size w' w'') := fun k hk w' u h1 h2 h3 => rencrypt_any dv u bv dk _ w' h1 hdl h3 (xorl_blk _ _ (cut16_blk s k hsa (by omega)) (msk_blk _ k)).1 h2
  have S4 : Hid (∀ k, k < N → ∀ w' u mv, Byt w' u (encr dk (xorl (cut16 s k) (msk (nm16 (encr tk ab)) k))) → Byt w' mv (msk (nm16 (encr tk ab)) k) → Calls Try.prog 23 #[u, mv] w' fun e w'' => ∃ v', e = .returned v' ∧ Byt w'' v' (xe dk (msk (nm16 (encr tk ab)) k) (cut16 s k)) ∧ Below w'.heap.size w' w'') := fun k hk w' u mv h1 h2 => by
    have zb := encr_blk dk hdl hda _ (xorl_blk _ _ (cut16_blk s k hsa (by omega)) (msk_blk (nm16 (encr tk ab)) k))
    exact rxor_any u mv _ _ w' h1 h2 (by rw [zb.1, (msk_blk _ k).1]) (by rw [zb.1]; omega)
  have S5 : Hid (∀ k w' mv, Byt w' mv (msk (nm16 (encr tk ab)) k) → Calls Try.prog 19 #[mv] w' fun e w'' => ∃ v', e = .returned v' ∧ Own w'.heap.size w'' v' (msk (nm16 (encr tk ab)) (k + 1)) ∧ Below w'.heap.size w' w'') := fun k w' mv h => by
    have := tw.rdouble_own mv _ w' h (msk_blk _ k).1
    rwa [msk_next _ k ML] at this
  have HML : Hid (∀ k, (msk (nm16 (encr tk ab)) k).length = 16) := fun k => (msk_blk _ k).1
  have HMA : Hid (∀ k, AllB (msk (nm16 (encr tk ab)) k)) := fun k => (msk_blk _ k).2
  have HR0 : Hid (run (xe dk) (nm16 (encr tk ab)) s 0 = []) := rfl
  have HRS : Hid (∀ k, run (xe dk) (nm16 (encr tk ab)) s (k + 1) = run (xe dk) (nm16 (encr tk ab)) s k ++ xe dk (msk (nm16 (encr tk ab)) k) (cut16 s k)) := fun k => rfl
  have HRL : Hid (∀ k, k ≤ N → (run (xe dk) (nm16 (encr tk ab)) s k).length = 16 * k ∧ AllB (run (xe dk) (nm16 (encr tk ab)) s k)) := fun k hk => ⟨run_len _ kp _ s hsa k (by omega), run_all _ kp _ s hsa k (by omega)⟩
  have HXL : Hid (∀ k, k < N → (xe dk (msk (nm16 (encr tk ab)) k) (cut16 s k)).length = 16) := fun k hk => (kp _ _ (msk_blk _ k) (cut16_blk s k hsa (by omega))).1
  have HS : Hid (Byt w sv s) := hs
  have HD : Hid (Byt w dv dk) := hd
  have HT : Hid (Byt w bv ptab) := hb
  clear hd ht ha hal hdl hda htl kp hsa hb zb ML
  generalize nm16 (encr tk ab) = M at *
  generalize ptab = tab at *
  obtain ⟨R, hR⟩ : ∃ R : Nat → List Int, R = run (xe dk) M s := ⟨_, rfl⟩
  obtain ⟨X, hX⟩ : ∃ X : Nat → List Int, X = fun k => xe dk (msk M k) (cut16 s k) := ⟨_, rfl⟩
  obtain ⟨Y, hY⟩ : ∃ Y : Nat → List Int, Y = fun k => encr dk (xorl (cut16 s k) (msk M k)) := ⟨_, rfl⟩
  obtain ⟨Z, hZ⟩ : ∃ Z : Nat → List Int, Z = fun k => xorl (cut16 s k) (msk M k) := ⟨_, rfl⟩
  obtain ⟨ms, hms⟩ : ∃ ms : Nat → List Int, ms = fun k => msk M k := ⟨_, rfl⟩
  have ex : ∀ k, xe dk (msk M k) (cut16 s k) = X k := fun k => by rw [hX]
  have ey : ∀ k, encr dk (xorl (cut16 s k) (msk M k)) = Y k := fun k => by rw [hY]
  have ez : ∀ k, xorl (cut16 s k) (msk M k) = Z k := fun k => by rw [hZ]
  have em : ∀ k, msk M k = ms k := fun k => by rw [hms]
  rw [← hR] at HR0 HRS HRL ⊢
  simp only [ex] at S4 HRS HXL
  simp only [ey] at S3 S4
  simp only [ez] at S2 S3
  simp only [em] at S1 S2 S3 S4 S5 HML HMA
  clear hR hX ex hY ey hZ ez hms em
  obtain ⟨ao, ca, rfl, ha1, ha2, -, -, -⟩ := hs
  have HSL : Hid (s.length = 16 * N) := hsl
  have s0 : (0 : Int) ≤ (s.length : Int) := by omega
  clear hsl
  go_enter Try.func13, Try.ntmps13
  go_wp2_with (go_at_call 18; refine (S1.out).mono ?_; rintro e w1 ⟨v1, rfl, y1, B1⟩; have Y1 : Hid (Byt w1 v1 (ms 0)) := y1; clear y1)
  have z1 := B1.size
  have HO2 : Hid (Own w1.heap.size (w1.alloc (.cells #[] 5)) (.slice (some ⟨w1.heap.size, 0, none⟩) 0 0) []) := Own.empty w1 (Nat.le_refl _)
  have HB2 : Hid (Below w1.heap.size w1 (w1.alloc (.cells #[] 5))) := (Below.refl _ _).alloc (Nat.le_refl _) _
  have Y2 : Hid (Byt (w1.alloc (.cells #[] 5)) v1 (ms 0)) := Y1.out.below HB2.out
  have D1 : Hid (Byt w1 dv dk) := HD.out.below B1
  have T1 : Hid (Byt w1 bv tab) := HT.out.below B1
  have V1 : Hid (Byt w1 (.slice ao s.length ca) s) := HS.out.below B1
  have HB1 : Hid (Below w.heap.size w w1) := B1
  have HF0 : Hid (v1.ownBlock ≠ (Value.slice (some ⟨w1.heap.size, 0, none⟩) 0 0).ownBlock) := far_old Y1.out (by rw [HML.out]; omega) 0 0
  clear B1 Y1
  generalize w1.alloc (.cells #[] 5) = w2 at *
  go_loopw [13, 11, 12] (fun i mv o wr => ∃ k : Nat, k ≤ N ∧ i = .int .i64 ((16 * k : Nat) : Int) ∧ Byt wr mv (ms k) ∧ Own w1.heap.size wr o (R k) ∧ Below w1.heap.size w1 wr ∧ mv.ownBlock ≠ o.ownBlock) (fun i _ _ _ => 16 * N - (intOf i).toNat)
  case atStart => exact ⟨0, Nat.zero_le _, rfl, Y2.out, by rw [HR0.out]; exact HO2.out, HB2.out, HF0.out⟩
  case round =>
    obtain ⟨k, hk, rfl, hY, hO, hB, hF⟩ := hrel
    obtain ⟨wa, rfl⟩ : ∃ wx, wx = wr := ⟨_, rfl⟩
    obtain ⟨j, hj⟩ : ∃ j, j = 16 * k := ⟨_, rfl⟩
    have HJ : Hid (j = 16 * k) := hj
    rw [← hj]
    have j0 : (0 : Int) ≤ (j : Int) := by omega
    have HO : Hid (Own w1.heap.size wa u12 (R k)) := hO
    have HB : Hid (Below w1.heap.size w1 wa) := hB
    have HY : Hid (Byt wa u11 (ms k)) := hY
    have HF : Hid (u11.ownBlock ≠ u12.ownBlock) := hF
    clear hO hB hY hF
    by_cases hlt : k < N
    · have k1 : (j : Int) < (s.length : Int) := by rw [HSL.out]; omega
      have q3 : IntKind.i64.wrap ((j : Int) + 16) = (j : Int) + 16 := by rw [IntKind.wrap_i64]; omega
      have YS : Hid (Byt wa (.slice ao s.length ca) s) := V1.out.below HB.out
      have S2k : Hid (∀ w' cv mv, Byt w' cv (cut16 s k) → Byt w' mv (ms k) → Calls Try.prog 23 #[cv, mv] w' fun e w'' => ∃ v', e = .returned v' ∧ Byt w'' v' (Z k) ∧ Below w'.heap.size w' w'') := S2.out k hlt
      have S3k : Hid (∀ w' u, Byt w' dv dk → Byt w' bv tab → Byt w' u (Z k) → Calls Try.prog 18 #[dv, u, bv] w' fun e w'' => ∃ v', e = .returned v' ∧ Byt w'' v' (Y k) ∧ Below w'.heap.size w' w'') := S3.out k hlt
      have S4k : Hid (∀ w' u mv, Byt w' u (Y k) → Byt w' mv (ms k) → Calls Try.prog 23 #[u, mv] w' fun e w'' => ∃ v', e = .returned v' ∧ Byt w'' v' (X k) ∧ Below w'.heap.size w' w'') := S4.out k hlt
      have S5k : Hid (∀ w' mv, Byt w' mv (ms k) → Calls Try.prog 19 #[mv] w' fun e w'' => ∃ v', e = .returned v' ∧ Own w'.heap.size w'' v' (ms (k + 1)) ∧ Below w'.heap.size w' w'') := S5.out k
      have XL : Hid ((X k).length = 16) := HXL.out k hlt
      have RL : Hid ((R k).length = 16 * k) := (HRL.out k hk).1
      clear hj
      go_wp2_with (first
        | (have q7 := s7; go_at_call 19; refine (S5k.out _ _ Y7.out).mono ?_; rintro e w8 ⟨v8, rfl, y8, B8⟩; have Y8 : Hid (Byt w8 v8 (ms (k + 1))) := y8.byt (HMA.out (k + 1)); have HF8 : Hid (v8.ownBlock ≠ v7.ownBlock) := far_new HO7.out y8 (by rw [HML.out]; omega); have HO8 : Hid (Own w1.heap.size w8 v7 (R (k + 1))) := Own.below HO7.out B8; have HB8 : Hid (Below w1.heap.size w1 w8) := HB7.out.trans (B8.mono HB7.out.size); clear y8 B8)
        | (at_builtin; have q6 := s6; refine pushs_lawX _ rfl (.tmp 36) (.tmp 39) rfl w1.heap.size (HB6.out.size) _ v6 (R k) (X k) rfl rfl HO6.out X6.out (by rw [RL.out]; omega) (by rw [XL.out]; omega) (by rw [XL.out]; omega) ?_; intro v7 w7 O7 B7 G7; have HO7 : Hid (Own w1.heap.size w7 v7 (R (k + 1))) := (by show Own _ _ _ _; rw [HRS.out]; exact O7); have HB7 : Hid (Below w1.heap.size w1 w7) := HB6.out.trans B7; have s7 := HB7.out.size; have Y7 : Hid (Byt w7 u11 (ms k)) := Byt.grownBy Y6.out G7 HF.out; clear O7 B7 G7)
        | (have q5 := s5; go_at_call 23; refine (S4k.out _ _ _ Z5.out Y5.out).mono ?_; rintro e w6 ⟨v6, rfl, y6, B6⟩; have s6 := B6.size; have X6 : Hid (Byt w6 v6 (X k)) := y6; have Y6 : Hid (Byt w6 u11 (ms k)) := Y5.out.below B6; have HO6 : Hid (Own w1.heap.size w6 u12 (R k)) := Own.below HO5.out B6; have HB6 : Hid (Below w1.heap.size w1 w6) := HB5.out.trans (B6.mono HB5.out.size); clear y6 B6)
        | (have q4 := s4; go_at_call 18; refine (S3k.out _ _ (D1.out.below HB4.out) (T1.out.below HB4.out) Z4.out).mono ?_; rintro e w5 ⟨v5, rfl, y5, B5⟩; have s5 := B5.size; have Z5 : Hid (Byt w5 v5 (Y k)) := y5; have Y5 : Hid (Byt w5 u11 (ms k)) := Y4.out.below B5; have HO5 : Hid (Own w1.heap.size w5 u12 (R k)) := Own.below HO4.out B5; have HB5 : Hid (Below w1.heap.size w1 w5) := HB4.out.trans (B5.mono HB4.out.size); clear y5 B5)
        | (go_at_call 23; refine (S2k.out _ _ _ YC.out HY.out).mono ?_; rintro e w4 ⟨v4, rfl, y4, B4⟩; have s4 := B4.size; have Z4 : Hid (Byt w4 v4 (Z k)) := y4; have Y4 : Hid (Byt w4 u11 (ms k)) := HY.out.below B4; have HO4 : Hid (Own w1.heap.size w4 u12 (R k)) := Own.below HO.out B4; have HB4 : Hid (Below w1.heap.size w1 w4) := HB.out.trans (B4.mono HB.out.size); clear y4 B4)
        | (refine cut_part _ rfl (.tmp 27) (.tmp 28) (.tmp 30) rfl _ s (j : Int) ((j : Int) + 16) (16 * k) (16 * k + 16) rfl rfl rfl (by rw [HJ.out]) (by rw [HJ.out]; omega) (by omega) (by rw [HSL.out]; omega) YS.out ?_; intro vc yc; have YC : Hid (Byt wa vc (cut16 s k)) := yc; clear yc))
      go_roundw
      case rel => exact ⟨k + 1, by omega, by rw [HJ.out]; go_num, Y8.out, HO8.out, HB8.out, HF8.out⟩
      case measure => have := HJ.out; simp [intOf]; omega
    · have hkn : k = N := by omega
      subst hkn
      have k1 : ¬ ((j : Int) < (s.length : Int)) := by rw [HSL.out]; omega
      clear hj
      go_wp2
      go_ret
      exact ⟨_, rfl, HO.out.byt (HRL.out k (Nat.le_refl _)).2, HB1.out.trans (HB.out.mono z1)⟩

set_option linter.unusedSimpArgs false in
set_option maxRecDepth 20000 in
set_option maxHeartbeats 4000000 in
theorem rxdec_any (dv tv av sv bv : Value) (dk tk ab s : List Int) (N : Nat) (w : World) (hd : Byt w dv dk) (hdl : dk.length = 32) (ht : Byt w tv tk) (htl : tk.length = 32) (ha : Byt w av ab) (hal : ab.length = 16) (hs : Byt w sv s) (hsl : s.length = 16 * N) (hN' : N ≤ 256) (hb : Byt w bv ptab) :
    Calls Try.prog 16 #[dv, tv, av, sv, bv] w fun e w' => ∃ v', e = .returned v' ∧ Byt w' v' (run (xd dk) (nm16 (encr tk ab)) s N) ∧ Below w.heap.size w w' := by
  have hda := hd.all
  have hsa := hs.all
  have zb := encr_blk tk htl ht.all ab ⟨hal, ha.all⟩
  have kp : Keeps (xd dk) := fun m b hm hb => xd_blk dk hdl hda m b hm hb
  have ML : nm16 (encr tk ab) < 2 ^ 128 := nm16_lt _ zb.2
  have S1 : Hid (Calls Try.prog 18 #[tv, av, bv] w fun e w' => ∃ v', e = .returned v' ∧ Byt w' v' (msk (nm16 (encr tk ab)) 0) ∧ Below w.heap.size w w') := by
    have := rencrypt_any tv av bv tk ab w ht htl ha hal hb
    rw [msk_zero _ zb]; exact this
  have S2 : Hid (∀ k, k < N → ∀ w' cv mv, Byt w' cv (cut16 s k) → Byt w' mv (msk (nm16 (encr tk ab)) k) → Calls Try.prog 23 #[cv, mv] w' fun e w'' => ∃ v', e = .returned v' ∧ Byt w'' v' (xorl (cut16 s k) (msk (nm16 (encr tk ab)) k)) ∧ Below w'.heap.size w' w'') := fun k hk w' cv mv h1 h2 => rxor_any cv mv _ _ w' h1 h2 (by rw [cut16_len s k (by omega), (msk_blk _ k).1]) (by rw [cut16_len s k (by omega)]; omega)
  have S3 : Hid (∀ k, k < N → ∀ w' u, Byt w' dv dk → Byt w' bv ptab → Byt w' u (xorl (cut16 s k) (msk (nm16 (encr tk ab)) k)) → Calls Try.prog 26 #[dv, u, bv] w' fun e w'' => ∃ v', e = .returned v' ∧ Byt w'' v' (decr dk (xorl (cut16 s k) (msk (nm16 (encr tk ab)) k))) ∧ Below w'.heap.size w' w'') := fun k hk w' u h1 h2 h3 => rdecrypt_any dv u bv dk _ w' h1 hdl h3 (xorl_blk _ _ (cut16_blk s k hsa (by omega)) (msk_blk _ k)).1 h2
  have S4 : Hid (∀ k, k < N → ∀ w' u mv, Byt w' u (decr dk (xorl (cut16 s k) (msk (nm16 (encr tk ab)) k))) → Byt w' mv (msk (nm16 (encr tk ab)) k) → Calls Try.prog 23 #[u, mv] w' fun e w'' => ∃ v', e = .returned v' ∧ Byt w'' v' (xd dk (msk (nm16 (encr tk ab)) k) (cut16 s k)) ∧ Below w'.heap.size w' w'') := fun k hk w' u mv h1 h2 => by
    have zb := decr_blk dk hdl hda _ (xorl_blk _ _ (cut16_blk s k hsa (by omega)) (msk_blk (nm16 (encr tk ab)) k))
    exact rxor_any u mv _ _ w' h1 h2 (by rw [zb.1, (msk_blk _ k).1]) (by rw [zb.1]; omega)
  have S5 : Hid (∀ k w' mv, Byt w' mv (msk (nm16 (encr tk ab)) k) → Calls Try.prog 19 #[mv] w' fun e w'' => ∃ v', e = .returned v' ∧ Own w'.heap.size w'' v' (msk (nm16 (encr tk ab)) (k + 1)) ∧ Below w'.heap.size w' w'') := fun k w' mv h => by
    have := tw.rdouble_own mv _ w' h (msk_blk _ k).1
    rwa [msk_next _ k ML] at this
  have HML : Hid (∀ k, (msk (nm16 (encr tk ab)) k).length = 16) := fun k => (msk_blk _ k).1
  have HMA : Hid (∀ k, AllB (msk (nm16 (encr tk ab)) k)) := fun k => (msk_blk _ k).2
  have HR0 : Hid (run (xd dk) (nm16 (encr tk ab)) s 0 = []) := rfl
  have HRS : Hid (∀ k, run (xd dk) (nm16 (encr tk ab)) s (k + 1) = run (xd dk) (nm16 (encr tk ab)) s k ++ xd dk (msk (nm16 (encr tk ab)) k) (cut16 s k)) := fun k => rfl
  have HRL : Hid (∀ k, k ≤ N → (run (xd dk) (nm16 (encr tk ab)) s k).length = 16 * k ∧ AllB (run (xd dk) (nm16 (encr tk ab)) s k)) := fun k hk => ⟨run_len _ kp _ s hsa k (by omega), run_all _ kp _ s hsa k (by omega)⟩
  have HXL : Hid (∀ k, k < N → (xd dk (msk (nm16 (encr tk ab)) k) (cut16 s k)).length = 16) := fun k hk => (kp _ _ (msk_blk _ k) (cut16_blk s k hsa (by omega))).1
  have HS : Hid (Byt w sv s) := hs
  have HD : Hid (Byt w dv dk) := hd
  have HT : Hid (Byt w bv ptab) := hb
  clear hd ht ha hal hdl hda htl kp hsa hb zb ML
  generalize nm16 (encr tk ab) = M at *
  generalize ptab = tab at *
  obtain ⟨R, hR⟩ : ∃ R : Nat → List Int, R = run (xd dk) M s := ⟨_, rfl⟩
  obtain ⟨X, hX⟩ : ∃ X : Nat → List Int, X = fun k => xd dk (msk M k) (cut16 s k) := ⟨_, rfl⟩
  obtain ⟨Y, hY⟩ : ∃ Y : Nat → List Int, Y = fun k => decr dk (xorl (cut16 s k) (msk M k)) := ⟨_, rfl⟩
  obtain ⟨Z, hZ⟩ : ∃ Z : Nat → List Int, Z = fun k => xorl (cut16 s k) (msk M k) := ⟨_, rfl⟩
  obtain ⟨ms, hms⟩ : ∃ ms : Nat → List Int, ms = fun k => msk M k := ⟨_, rfl⟩
  have ex : ∀ k, xd dk (msk M k) (cut16 s k) = X k := fun k => by rw [hX]
  have ey : ∀ k, decr dk (xorl (cut16 s k) (msk M k)) = Y k := fun k => by rw [hY]
  have ez : ∀ k, xorl (cut16 s k) (msk M k) = Z k := fun k => by rw [hZ]
  have em : ∀ k, msk M k = ms k := fun k => by rw [hms]
  rw [← hR] at HR0 HRS HRL ⊢
  simp only [ex] at S4 HRS HXL
  simp only [ey] at S3 S4
  simp only [ez] at S2 S3
  simp only [em] at S1 S2 S3 S4 S5 HML HMA
  clear hR hX ex hY ey hZ ez hms em
  obtain ⟨ao, ca, rfl, ha1, ha2, -, -, -⟩ := hs
  have HSL : Hid (s.length = 16 * N) := hsl
  have s0 : (0 : Int) ≤ (s.length : Int) := by omega
  clear hsl
  go_enter Try.func16, Try.ntmps16
  go_wp2_with (go_at_call 18; refine (S1.out).mono ?_; rintro e w1 ⟨v1, rfl, y1, B1⟩; have Y1 : Hid (Byt w1 v1 (ms 0)) := y1; clear y1)
  have z1 := B1.size
  have HO2 : Hid (Own w1.heap.size (w1.alloc (.cells #[] 5)) (.slice (some ⟨w1.heap.size, 0, none⟩) 0 0) []) := Own.empty w1 (Nat.le_refl _)
  have HB2 : Hid (Below w1.heap.size w1 (w1.alloc (.cells #[] 5))) := (Below.refl _ _).alloc (Nat.le_refl _) _
  have Y2 : Hid (Byt (w1.alloc (.cells #[] 5)) v1 (ms 0)) := Y1.out.below HB2.out
  have D1 : Hid (Byt w1 dv dk) := HD.out.below B1
  have T1 : Hid (Byt w1 bv tab) := HT.out.below B1
  have V1 : Hid (Byt w1 (.slice ao s.length ca) s) := HS.out.below B1
  have HB1 : Hid (Below w.heap.size w w1) := B1
  have HF0 : Hid (v1.ownBlock ≠ (Value.slice (some ⟨w1.heap.size, 0, none⟩) 0 0).ownBlock) := far_old Y1.out (by rw [HML.out]; omega) 0 0
  clear B1 Y1
  generalize w1.alloc (.cells #[] 5) = w2 at *
  go_loopw [13, 11, 12] (fun i mv o wr => ∃ k : Nat, k ≤ N ∧ i = .int .i64 ((16 * k : Nat) : Int) ∧ Byt wr mv (ms k) ∧ Own w1.heap.size wr o (R k) ∧ Below w1.heap.size w1 wr ∧ mv.ownBlock ≠ o.ownBlock) (fun i _ _ _ => 16 * N - (intOf i).toNat)
  case atStart => exact ⟨0, Nat.zero_le _, rfl, Y2.out, by rw [HR0.out]; exact HO2.out, HB2.out, HF0.out⟩
  case round =>
    obtain ⟨k, hk, rfl, hY, hO, hB, hF⟩ := hrel
    obtain ⟨wa, rfl⟩ : ∃ wx, wx = wr := ⟨_, rfl⟩
    obtain ⟨j, hj⟩ : ∃ j, j = 16 * k := ⟨_, rfl⟩
    have HJ : Hid (j = 16 * k) := hj
    rw [← hj]
    have j0 : (0 : Int) ≤ (j : Int) := by omega
    have HO : Hid (Own w1.heap.size wa u12 (R k)) := hO
    have HB : Hid (Below w1.heap.size w1 wa) := hB
    have HY : Hid (Byt wa u11 (ms k)) := hY
    have HF : Hid (u11.ownBlock ≠ u12.ownBlock) := hF
    clear hO hB hY hF
    by_cases hlt : k < N
    · have k1 : (j : Int) < (s.length : Int) := by rw [HSL.out]; omega
      have q3 : IntKind.i64.wrap ((j : Int) + 16) = (j : Int) + 16 := by rw [IntKind.wrap_i64]; omega
      have YS : Hid (Byt wa (.slice ao s.length ca) s) := V1.out.below HB.out
      have S2k : Hid (∀ w' cv mv, Byt w' cv (cut16 s k) → Byt w' mv (ms k) → Calls Try.prog 23 #[cv, mv] w' fun e w'' => ∃ v', e = .returned v' ∧ Byt w'' v' (Z k) ∧ Below w'.heap.size w' w'') := S2.out k hlt
      have S3k : Hid (∀ w' u, Byt w' dv dk → Byt w' bv tab → Byt w' u (Z k) → Calls Try.prog 26 #[dv, u, bv] w' fun e w'' => ∃ v', e = .returned v' ∧ Byt w'' v' (Y k) ∧ Below w'.heap.size w' w'') := S3.out k hlt
      have S4k : Hid (∀ w' u mv, Byt w' u (Y k) → Byt w' mv (ms k) → Calls Try.prog 23 #[u, mv] w' fun e w'' => ∃ v', e = .returned v' ∧ Byt w'' v' (X k) ∧ Below w'.heap.size w' w'') := S4.out k hlt
      have S5k : Hid (∀ w' mv, Byt w' mv (ms k) → Calls Try.prog 19 #[mv] w' fun e w'' => ∃ v', e = .returned v' ∧ Own w'.heap.size w'' v' (ms (k + 1)) ∧ Below w'.heap.size w' w'') := S5.out k
      have XL : Hid ((X k).length = 16) := HXL.out k hlt
      have RL : Hid ((R k).length = 16 * k) := (HRL.out k hk).1
      clear hj
      go_wp2_with (first
        | (have q7 := s7; go_at_call 19; refine (S5k.out _ _ Y7.out).mono ?_; rintro e w8 ⟨v8, rfl, y8, B8⟩; have Y8 : Hid (Byt w8 v8 (ms (k + 1))) := y8.byt (HMA.out (k + 1)); have HF8 : Hid (v8.ownBlock ≠ v7.ownBlock) := far_new HO7.out y8 (by rw [HML.out]; omega); have HO8 : Hid (Own w1.heap.size w8 v7 (R (k + 1))) := Own.below HO7.out B8; have HB8 : Hid (Below w1.heap.size w1 w8) := HB7.out.trans (B8.mono HB7.out.size); clear y8 B8)
        | (at_builtin; have q6 := s6; refine pushs_lawX _ rfl (.tmp 36) (.tmp 39) rfl w1.heap.size (HB6.out.size) _ v6 (R k) (X k) rfl rfl HO6.out X6.out (by rw [RL.out]; omega) (by rw [XL.out]; omega) (by rw [XL.out]; omega) ?_; intro v7 w7 O7 B7 G7; have HO7 : Hid (Own w1.heap.size w7 v7 (R (k + 1))) := (by show Own _ _ _ _; rw [HRS.out]; exact O7); have HB7 : Hid (Below w1.heap.size w1 w7) := HB6.out.trans B7; have s7 := HB7.out.size; have Y7 : Hid (Byt w7 u11 (ms k)) := Byt.grownBy Y6.out G7 HF.out; clear O7 B7 G7)
        | (have q5 := s5; go_at_call 23; refine (S4k.out _ _ _ Z5.out Y5.out).mono ?_; rintro e w6 ⟨v6, rfl, y6, B6⟩; have s6 := B6.size; have X6 : Hid (Byt w6 v6 (X k)) := y6; have Y6 : Hid (Byt w6 u11 (ms k)) := Y5.out.below B6; have HO6 : Hid (Own w1.heap.size w6 u12 (R k)) := Own.below HO5.out B6; have HB6 : Hid (Below w1.heap.size w1 w6) := HB5.out.trans (B6.mono HB5.out.size); clear y6 B6)
        | (have q4 := s4; go_at_call 26; refine (S3k.out _ _ (D1.out.below HB4.out) (T1.out.below HB4.out) Z4.out).mono ?_; rintro e w5 ⟨v5, rfl, y5, B5⟩; have s5 := B5.size; have Z5 : Hid (Byt w5 v5 (Y k)) := y5; have Y5 : Hid (Byt w5 u11 (ms k)) := Y4.out.below B5; have HO5 : Hid (Own w1.heap.size w5 u12 (R k)) := Own.below HO4.out B5; have HB5 : Hid (Below w1.heap.size w1 w5) := HB4.out.trans (B5.mono HB4.out.size); clear y5 B5)
        | (go_at_call 23; refine (S2k.out _ _ _ YC.out HY.out).mono ?_; rintro e w4 ⟨v4, rfl, y4, B4⟩; have s4 := B4.size; have Z4 : Hid (Byt w4 v4 (Z k)) := y4; have Y4 : Hid (Byt w4 u11 (ms k)) := HY.out.below B4; have HO4 : Hid (Own w1.heap.size w4 u12 (R k)) := Own.below HO.out B4; have HB4 : Hid (Below w1.heap.size w1 w4) := HB.out.trans (B4.mono HB.out.size); clear y4 B4)
        | (refine cut_part _ rfl (.tmp 27) (.tmp 28) (.tmp 30) rfl _ s (j : Int) ((j : Int) + 16) (16 * k) (16 * k + 16) rfl rfl rfl (by rw [HJ.out]) (by rw [HJ.out]; omega) (by omega) (by rw [HSL.out]; omega) YS.out ?_; intro vc yc; have YC : Hid (Byt wa vc (cut16 s k)) := yc; clear yc))
      go_roundw
      case rel => exact ⟨k + 1, by omega, by rw [HJ.out]; go_num, Y8.out, HO8.out, HB8.out, HF8.out⟩
      case measure => have := HJ.out; simp [intOf]; omega
    · have hkn : k = N := by omega
      subst hkn
      have k1 : ¬ ((j : Int) < (s.length : Int)) := by rw [HSL.out]; omega
      clear hj
      go_wp2
      go_ret
      exact ⟨_, rfl, HO.out.byt (HRL.out k (Nat.le_refl _)).2, HB1.out.trans (HB.out.mono z1)⟩
end Go.Proofs.Ytijadglmbopboaa.xt

