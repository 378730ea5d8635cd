/- What the reference's Double, Times and Mul answer. No claim of its own. -/
import Derived.Test.YtjojimffolagmaaTTold
namespace Go.Proofs.Ytjojimffolagmaa
open Go.RowKit

theorem cf_low (X : Nat) : cf 128 X = cf 128 (X % 2 ^ 128) := ext_gb (by rw [cf_len, cf_len]) fun t ht => by
  rw [cf_len] at ht
  rw [cf_gb _ _ _ ht, cf_gb _ _ _ ht, Nat.testBit_mod_two_pow]
  simp [ht]
theorem cf_cons (n : Nat) : 0 :: cf 128 n = cf 129 (2 * n) := ext_gb (by rw [List.length_cons, cf_len, cf_len]) fun t ht => by
  rw [List.length_cons, cf_len] at ht
  rw [cf_gb _ _ _ (by omega)]
  cases t with
  | zero => simp [gb, b01]
  | succ t =>
    have e : gb (0 :: cf 128 n) (t + 1) = gb (cf 128 n) t := by simp [gb, List.getD]
    rw [e, cf_gb _ _ _ (by omega), two_bit]

theorem OwnI.below {B : Nat} {w w' : World} {v : Value} {cs : List Int} (h : OwnI B w v cs) (hb : Below w.heap.size w w') : OwnI B w' v cs :=
  World.ownsRow.kept (row := none) h ⟨hb.os, hb.tape, hb.output, hb.size, fun j hj _ => hb.block j hj⟩ (by cases hv : v.ownBlock <;> simp)

set_option linter.unusedSimpArgs false in
set_option maxRecDepth 20000 in
set_option maxHeartbeats 4000000 in
theorem rdouble_any (v : Value) (xs : List Int) (w : World) (hv : Byt w v xs) (hl : xs.length = 16) :
    Calls Try.prog 12 #[v] w fun e w' => ∃ v', e = .returned v' ∧ Byt w' v' (bt16 (td (nm16 xs))) ∧ Below w.heap.size w w' := by
  have H1 : Hid (∀ w', Below w.heap.size w w' → Calls Try.prog 24 #[v] w' fun e w'' => ∃ v', e = .returned v' ∧ Its w'' v' (cf 128 (nm16 xs)) ∧ Below w'.heap.size w' w'') := fun w' h => rbits_any v xs w' (hv.below h) hl
  have H2 : Hid (∀ w' v1, Its w' v1 (cf 129 (2 * nm16 xs)) → Calls Try.prog 23 #[v1] w' fun e w'' => ∃ v', e = .returned v' ∧ Its w'' v' (cf 128 (td (nm16 xs))) ∧ Below w'.heap.size w' w'') := fun w' v1 h => by
    have := rleft_any v1 (2 * nm16 xs) 1 w' (by omega) h
    rw [cf_low, show lf (2 * nm16 xs) 1 % 2 ^ 128 = lft (2 * nm16 xs) 1 from rfl, lft_one] at this
    exact this
  have H3 : Hid (∀ w' v1, Its w' v1 (cf 128 (td (nm16 xs))) → Calls Try.prog 22 #[v1] w' fun e w'' => ∃ v', e = .returned v' ∧ Byt w'' v' (bt16 (td (nm16 xs))) ∧ Below w'.heap.size w' w'') := fun w' v1 h => rtold_any v1 _ w' h
  have HC : Hid (0 :: cf 128 (nm16 xs) = cf 129 (2 * nm16 xs) ∧ (cf 128 (nm16 xs)).length = 128 ∧ (cf 129 (2 * nm16 xs)).length = 129) := ⟨cf_cons _, cf_len _ _, cf_len _ _⟩
  clear hv hl
  generalize bt16 (td (nm16 xs)) = zs at *
  generalize cf 128 (td (nm16 xs)) = c3 at *
  generalize cf 129 (2 * nm16 xs) = c2 at *
  generalize cf 128 (nm16 xs) = c1 at *
  go_enter Try.func12, Try.ntmps12
  have B0 : Below w.heap.size w (w.alloc (.cells #[.int .i64 0] 3)) := (Below.refl _ _).alloc (Nat.le_refl _) _
  have O0 : Hid (OwnI w.heap.size (w.alloc (.cells #[.int .i64 0] 3)) (.slice (some ⟨w.heap.size, 0, none⟩) 1 1) [0]) := OwnI.one w (Nat.le_refl _) 0
  have HB0 : Hid (Below w.heap.size w (w.alloc (.cells #[.int .i64 0] 3))) := B0
  clear B0
  go_wp2_with (first
    | (have q3 := s3; go_at_call 22; refine (H3.out _ _ I3.out).mono ?_; rintro e w4 ⟨v4, rfl, Y4, B4⟩)
    | (have q2 := s2; go_at_call 23; refine (H2.out _ _ I2.out).mono ?_; rintro e w3 ⟨v3, rfl, J3, B3⟩; have s3 := B3.size; have I3 : Hid (Its w3 v3 c3) := J3; clear J3)
    | (at_builtin; have q1 := s1; refine pushs_lawI _ rfl (.tmp 3) (.tmp 5) rfl w.heap.size (by have := HB0.out.size; omega) _ v1 [0] c1 rfl rfl (O0.out.below B1) I1.out (by simp) (by rw [HC.out.2.1]; omega) ?_; intro v2 w2 O2 B2; have s2 := B2.size; have I2 : Hid (Its w2 v2 c2) := (by
        show Its _ _ _
        have := O2
        rw [List.singleton_append, HC.out.1] at this
        obtain ⟨g, cap, e, h1, h2, h3, h4, h5⟩ := this.its (by rw [HC.out.2.2]; omega)
        exact ⟨g, cap, e, h1, h2, h5, h4⟩); clear O2)
    | (go_at_call 24; refine (H1.out _ HB0.out).mono ?_; rintro e w1 ⟨v1, rfl, J1, B1⟩; have s1 := B1.size; have I1 : Hid (Its w1 v1 c1) := J1; clear J1))
  have z0 := HB0.out.size
  go_ret
  exact ⟨_, rfl, Y4, (((HB0.out.trans (B1.mono z0)).trans B2).trans (B3.mono (by omega))).trans (B4.mono (by omega))⟩

set_option linter.unusedSimpArgs false in
set_option maxRecDepth 20000 in
set_option maxHeartbeats 4000000 in
theorem rtimes_any (v : Value) (xs : List Int) (n : Nat) (w : World) (hv : Byt w v xs) (hl : xs.length = 16) (hn : n ≤ 65536) :
    Calls Try.prog 13 #[v, .int .i64 n] w fun e w' => ∃ v', e = .returned v' ∧ Byt w' v' (bt16 (tdn (nm16 xs) n)) ∧ Below w.heap.size w w' := by
  have HV : Hid (Byt w v (bt16 (tdn (nm16 xs) 0))) := by show Byt _ _ _; rw [tdn, bt_nm xs ⟨hl, hv.all⟩]; exact hv
  have HD : Hid (∀ k u w', Byt w' u (bt16 (tdn (nm16 xs) k)) → Calls Try.prog 12 #[u] w' fun e w'' => ∃ v', e = .returned v' ∧ Byt w'' v' (bt16 (tdn (nm16 xs) (k + 1))) ∧ Below w'.heap.size w' w'') := fun k u w' h => by
    have := rdouble_any u _ w' h (bt16_len _)
    rwa [nm_bt _ (tdn_lt _ k (nm16_lt xs hv.all))] at this
  clear hv hl
  generalize tdn (nm16 xs) = f at *
  have n0 : (0 : Int) ≤ (n : Int) := by omega
  have n1 : (n : Int) ≤ 65536 := by omega
  go_enter Try.func13, Try.ntmps13
  go_wp2
  go_loopw [0, 5] (fun u i wr => ∃ k : Nat, k ≤ n ∧ i = .int .i64 k ∧ Byt wr u (bt16 (f k)) ∧ Below w.heap.size w wr) (fun _ i _ => n - (intOf i).toNat)
  case atStart => exact ⟨0, Nat.zero_le _, rfl, HV.out, Below.refl _ _⟩
  case round =>
    obtain ⟨k, hk, rfl, hA, hB⟩ := hrel
    obtain ⟨wa, rfl⟩ : ∃ wx, wx = wr := ⟨_, rfl⟩
    have k0 : (0 : Int) ≤ (k : Int) := by omega
    have q1 : IntKind.i64.wrap (k : Int) = k := by rw [IntKind.wrap_i64]; omega
    have HA : Hid (Byt wa u0 (bt16 (f k))) := hA
    have HB : Hid (Below w.heap.size w wa) := hB
    clear hA hB
    by_cases hlt : k < n
    · have k1 : (k : Int) < (n : Int) := by omega
      go_wp2_with (go_at_call 12; refine (HD.out k _ _ HA.out).mono ?_; rintro e w2 ⟨v2, rfl, Y2, B2⟩; have HA2 : Hid (Byt w2 v2 (bt16 (f (k + 1)))) := Y2; have HB2 : Hid (Below w.heap.size w w2) := HB.out.trans (B2.mono HB.out.size); clear Y2 B2)
      go_roundw
      case rel => exact ⟨k + 1, by omega, by go_num, HA2.out, HB2.out⟩
      case measure => simp [intOf]; omega
    · have hkn : k = n := by omega
      subst hkn
      go_wp2
      go_ret
      exact ⟨_, rfl, HA.out, HB.out⟩

theorem cf_zero (n : Nat) : cf n 0 = List.replicate n 0 := ext_gb (by rw [cf_len, List.length_replicate]) fun t ht => by
  rw [cf_len] at ht
  rw [cf_gb _ _ _ ht]
  simp [b01, gb, List.getD, ht]

set_option linter.unusedSimpArgs false in
set_option maxRecDepth 20000 in
set_option maxHeartbeats 4000000 in
theorem rmul_any (va vb : Value) (xs ys : List Int) (w : World) (ha : Byt w va xs) (hb : Byt w vb ys) (hl : xs.length = 16) (hm : ys.length = 16) :
    Calls Try.prog 16 #[va, vb] w fun e w' => ∃ v', e = .returned v' ∧ Byt w' v' (bt16 (tp (nm16 xs) (nm16 ys))) ∧ Below w.heap.size w w' := by
  have hX := nm16_lt xs ha.all
  have hY := nm16_lt ys hb.all
  have H1 : Hid (Calls Try.prog 24 #[va] w fun e w'' => ∃ v', e = .returned v' ∧ Its w'' v' (cf 128 (nm16 xs)) ∧ Below w.heap.size w w'') := rbits_any va xs w ha hl
  have H2 : Hid (∀ w', Below w.heap.size w w' → Calls Try.prog 24 #[vb] w' fun e w'' => ∃ v', e = .returned v' ∧ Its w'' v' (cf 128 (nm16 ys)) ∧ Below w'.heap.size w' w'') := fun w' h => rbits_any vb ys w' (hb.below h) hm
  generalize nm16 xs = X at *
  generalize nm16 ys = Y at *
  have H3 : Hid (∀ w' v1, Its w' v1 (cf 256 (cl X Y 128)) → Calls Try.prog 23 #[v1] w' fun e w'' => ∃ v', e = .returned v' ∧ Its w'' v' (cf 128 (tp X Y)) ∧ Below w'.heap.size w' w'') := fun w' v1 h => by
    have := rleft_any v1 (cl X Y 128) 128 w' (by omega) h
    rw [cf_low, show lf (cl X Y 128) 128 % 2 ^ 128 = lft (cl X Y 128) 128 from rfl, lft_mul X Y hX hY] at this
    exact this
  have H4 : Hid (∀ w' v1, Its w' v1 (cf 128 (tp X Y)) → Calls Try.prog 22 #[v1] w' fun e w'' => ∃ v', e = .returned v' ∧ Byt w'' v' (bt16 (tp X Y)) ∧ Below w'.heap.size w' w'') := fun w' v1 h => rtold_any v1 _ w' h
  have HZ : Hid (clj X Y 0 0 = 0 ∧ ∀ k, clj X Y k 128 = clj X Y (k + 1) 0) := ⟨by rw [clj_zero]; rfl, fun k => by rw [clj_end X Y k 128 hY, clj_zero]⟩
  have HE : Hid (clj X Y 128 0 = cl X Y 128) := clj_zero X Y 128
  have HS : Hid (∀ k m, (cf 256 (clj X Y k m)).set (k + m) ((b01 ((clj X Y k m).testBit (k + m)) + b01 (X.testBit k) * b01 (Y.testBit m)) % 2) = cf 256 (clj X Y k (m + 1))) := fun k m => by
    rw [cf_mac, clj_next]
  clear ha hb hl hm hX hY
  generalize bt16 (tp X Y) = zs at *
  generalize cf 128 (tp X Y) = c4 at *
  generalize cl X Y 128 = E at *
  generalize clj X Y = F at *
  go_enter Try.func16, Try.ntmps16
  go_wp2_with (first
    | (at_make; have q2 := s2; refine make_lawI _ rfl _ _ rfl 256 256 rfl rfl rfl (by omega) ?_; intro w3 A3 B3 s3; have HA3 : Hid (Ar w3 w2.heap.size 0 .i64 (List.replicate 256 0)) := A3; clear A3)
    | (have q1 := s1; go_at_call 24; refine (H2.out _ B1).mono ?_; rintro e w2 ⟨v2, rfl, I2, B2⟩; have s2 := B2.size)
    | (go_at_call 24; refine H1.out.mono ?_; rintro e w1 ⟨v1, rfl, I1, B1⟩; have s1 := B1.size))
  have BW : Below w.heap.size w w3 := (B1.trans (B2.mono (by omega))).trans (B3.mono (by omega))
  have J1 := I1.below B2
  obtain ⟨gx, cx, rfl, ex1, ex2, ex3, ex4⟩ := J1
  obtain ⟨gy, cy, rfl, ey1, ey2, ey3, ey4⟩ := I2
  rw [cf_len] at ex1 ey1
  rw [cf_len, cf_len]
  have HCX : Hid (∀ k, k < 128 → w3.cell? ⟨gx, k, none⟩ = some (.int .i64 (b01 (X.testBit k)))) := fun k hk => by
    have := (ex3.below B3 ex4).cell0 k (by rw [cf_len]; exact hk)
    rwa [cf_gb _ _ _ hk] at this
  have HCY : Hid (∀ k, k < 128 → w3.cell? ⟨gy, k, none⟩ = some (.int .i64 (b01 (Y.testBit k)))) := fun k hk => by
    have := (ey3.below B3 ey4).cell0 k (by rw [cf_len]; exact hk)
    rwa [cf_gb _ _ _ hk] at this
  have HF0 : Hid (Ar w3 w2.heap.size 0 .i64 (cf 256 (F 0 0))) := by show Ar _ _ _ _ _; rw [HZ.out.1, cf_zero]; exact HA3.out
  have ogc : w.heap.size ≤ w2.heap.size := by omega
  have og3 : w2.heap.size < w3.heap.size := s3
  clear HA3 I1 B1 B2 B3 ex3 ey3 s1 s2
  generalize w2.heap.size = gc at *
  go_loopw [8] (fun i wr => ∃ k : Nat, k ≤ 128 ∧ i = .int .i64 k ∧ Ar wr gc 0 .i64 (cf 256 (F k 0)) ∧ Below gc w3 wr) (fun i _ => 128 - (intOf i).toNat)
  case atStart => exact ⟨0, Nat.zero_le _, rfl, HF0.out, Below.refl _ _⟩
  case round =>
    obtain ⟨k, hk, rfl, hA, hB⟩ := hrel
    obtain ⟨wa, rfl⟩ : ∃ wx, wx = wr := ⟨_, rfl⟩
    have k0 : (0 : Int) ≤ (k : Int) := by omega
    have q1 : IntKind.i64.wrap (k : Int) = k := by rw [IntKind.wrap_i64]; omega
    have HA : Hid (Ar wa gc 0 .i64 (cf 256 (F k 0))) := hA
    have HB : Hid (Below gc w3 wa) := hB
    clear hA hB HF0
    by_cases hlt : k < 128
    · have k1 : (k : Int) < 128 := by omega
      go_wp2
      go_loopw [9] (fun j wr => ∃ m : Nat, m ≤ 128 ∧ j = .int .i64 m ∧ Ar wr gc 0 .i64 (cf 256 (F k m)) ∧ Below gc w3 wr) (fun j _ => 128 - (intOf j).toNat)
      case atStart => exact ⟨0, Nat.zero_le _, rfl, HA.out, HB.out⟩
      case round =>
        obtain ⟨m, hm, rfl, hA', hB'⟩ := hrel
        obtain ⟨wb, rfl⟩ : ∃ wx, wx = wr := ⟨_, rfl⟩
        have m0 : (0 : Int) ≤ (m : Int) := by omega
        have q2 : IntKind.i64.wrap (m : Int) = m := by rw [IntKind.wrap_i64]; omega
        have HA' : Hid (Ar wb gc 0 .i64 (cf 256 (F k m))) := hA'
        have HB' : Hid (Below gc w3 wb) := hB'
        clear hA' hB' HA HB
        by_cases hmt : m < 128
        · have m1 : (m : Int) < 128 := by omega
          obtain ⟨t, ht⟩ : ∃ t, t = k + m := ⟨_, rfl⟩
          have t6 : t < 256 := by omega
          have c1 : wb.cell? ⟨gc, t, none⟩ = some (.int .i64 (b01 ((F k m).testBit t))) := by
            have := HA'.out.cell0 t (by rw [cf_len]; exact t6)
            rwa [cf_gb _ _ _ t6] at this
          have c2 : wb.cell? ⟨gx, k, none⟩ = some (.int .i64 (b01 (X.testBit k))) := (HB'.out.cell ex4).trans (HCX.out k hlt)
          have c3 : wb.cell? ⟨gy, m, none⟩ = some (.int .i64 (b01 (Y.testBit m))) := (HB'.out.cell ey4).trans (HCY.out m hmt)
          have HSk : Hid ((cf 256 (F k m)).set t ((b01 ((F k m).testBit t) + b01 (X.testBit k) * b01 (Y.testBit m)) % 2) = cf 256 (F k (m + 1))) := by
            show _ = _
            rw [ht]; exact HS.out k m
          have bc := b01_bd ((F k m).testBit t)
          have bx := b01_bd (X.testBit k)
          have by_ := b01_bd (Y.testBit m)
          have br : 0 ≤ b01 (X.testBit k) * b01 (Y.testBit m) ∧ b01 (X.testBit k) * b01 (Y.testBit m) ≤ 1 := by cases X.testBit k <;> cases Y.testBit m <;> decide
          have tk : (k : Int) + (m : Int) = (t : Int) := by omega
          have t0 : (0 : Int) ≤ (t : Int) := by omega
          have t1 : (t : Int) < 256 := by omega
          have qt : IntKind.i64.wrap (t : Int) = (t : Int) := by rw [IntKind.wrap_i64]; omega
          clear ht
          generalize b01 ((F k m).testBit t) = c at *
          generalize b01 (X.testBit k) = p at *
          generalize b01 (Y.testBit m) = q at *
          obtain ⟨r, hr⟩ : ∃ r, p * q = r := ⟨_, rfl⟩
          rw [hr] at br HSk
          have qr : IntKind.i64.wrap r = r := by rw [IntKind.wrap_i64]; omega
          have qs : IntKind.i64.wrap (c + r) = c + r := by rw [IntKind.wrap_i64]; omega
          obtain ⟨z, hz⟩ : ∃ z, (c + r) % 2 = z := ⟨_, rfl⟩
          rw [hz] at HSk
          have hz' : (c + r).tmod 2 = z := by rw [← hz]; exact Int.tmod_eq_emod_of_nonneg (by omega)
          have HLN : Hid ((cf 256 (F k m)).length = 256) := cf_len _ _
          go_wp2
          refine wp_region_any (by kernel_rfl) ?_
          change wpAny _ _ _ _ _ _ _ (World.drew _)
          refine wpAny_quiet_then (C := fun w' => ∃ n, w' = wb.drewN n) 0 22 1 _ (by kernel_rfl) rfl (by kernel_rfl) (by kernel_rfl) ⟨1, rfl⟩ ?_
          simp only [List.take_succ_cons, List.take_zero, List.drop_zero]
          repeat (quiet_step (fail))
          refine wpQuiet_nil ?_
          rintro f _ ⟨nq, rfl⟩
          have A1 := HA'.out.drewN nq
          have A2 := A1.set0 t (by rw [HLN.out]; exact t6) z
          rw [HSk.out] at A2
          have B2' : Below gc w3 ((wb.drewN nq).setCell ⟨gc, t, none⟩ (.int .i64 z)) := (below_drewN HB'.out nq).setCell (Nat.le_refl _) _
          refine wpAny_ready (rs := [22]) (by kernel_rfl) (by simp) ?_
          refine AllReady.cons rfl (fun K hK => ?_) AllReady.nil
          refine step_set _ rfl none rfl (.tmp 44) (.tmp 43) 3 rfl .i64 z gc t rfl (by first | rfl | (rw [← hz']; rfl)) (by rw [A1.cell0 _ (by rw [HLN.out]; exact t6)]; rfl) (A1.free0 _ (by rw [HLN.out]; exact t6)) i_int (hK _ _ ?_)
          simp only [Act.put, List.setIfInBounds_toArray, List.set_cons_zero, List.set_cons_succ]
          have HA6 : Hid (Ar ((wb.drewN nq).setCell ⟨gc, t, none⟩ (.int .i64 z)) gc 0 .i64 (cf 256 (F k (m + 1)))) := A2
          have HB6 : Hid (Below gc w3 ((wb.drewN nq).setCell ⟨gc, t, none⟩ (.int .i64 z))) := B2'
          clear A1 A2 B2' c1 c2 c3
          generalize (wb.drewN nq).setCell ⟨gc, t, none⟩ (.int .i64 z) = w6 at *
          refine wpAny_done (by kernel_rfl) ?_ _
          go_wp2
          go_roundw
          case rel => exact ⟨m + 1, by omega, by go_num, HA6.out, HB6.out⟩
          case measure => simp [intOf]; omega
        · have hm8 : m = 128 := by omega
          subst hm8
          rw [HZ.out.2 k] at HA'
          go_wp2
          go_roundw
          case rel => exact ⟨k + 1, by omega, by go_num, HA'.out, HB'.out⟩
          case measure => simp [intOf]; omega
    · have hk8 : k = 128 := by omega
      subst hk8
      rw [HE.out] at HA
      have HI : Hid (Its wa (.slice (some ⟨gc, 0, none⟩) 256 256) (cf 256 E)) := ⟨gc, 256, by rw [cf_len], by rw [cf_len]; omega, by omega, HA.out, HA.out.lt (by rw [cf_len]; omega)⟩
      have zB := HB.out.size
      go_wp2_with (first
        | (have q5 := s5; go_at_call 22; refine (H4.out _ _ I5.out).mono ?_; rintro e w6 ⟨v6, rfl, Y6, B6⟩)
        | (go_at_call 23; refine (H3.out _ _ HI.out).mono ?_; rintro e w5 ⟨v5, rfl, J5, B5⟩; have s5 := B5.size; have I5 : Hid (Its w5 v5 c4) := J5; clear J5))
      go_ret
      exact ⟨_, rfl, Y6, ((BW.trans (HB.out.mono ogc)).trans (B5.mono (by omega))).trans (B6.mono (by omega))⟩
end Go.Proofs.Ytjojimffolagmaa
