/- What the reference's Erase answers. No claim of its own. -/
import Derived.Test.YtjlnalfbaojedaaDoorURun
namespace Go.Proofs.YtjlnalfbaojedaaDoor.fa
open Go.RowKit
set_option maxRecDepth 20000

theorem up_le (n : Nat) {c d : Nat → Bool} {k : Nat} (hn : k < 8 * n) (hk : c k = false) (hd : d k = true) (h : ∀ i, i ≠ k → d i = c i) : gb (ofb n c) (k / 8) + ((2 ^ (k % 8) : Nat) : Int) ≤ 255 := by
  have w1 := wt_up hk hd h (k / 8)
  have w2 := wt_lt d (k / 8)
  rw [if_pos rfl] at w1
  rw [ofb_gb n c _ (by omega)]
  generalize 2 ^ (k % 8) = q at *
  omega

set_option maxHeartbeats 4000000 in
theorem rerase_any (va vm : Value) (xs m : List Int) (w : World) (ha : Byt w va xs) (hm : Byt w vm m) (hmax : xs.length ≤ 1048576) :
    Calls Tryd.prog 23 #[va, vm] w fun e w' => ∃ v, e = .returned v ∧ Byt w' v (ofb xs.length (erased xs m)) ∧ Below w.heap.size w w' := by
  have SA : Hid (∀ (i : Nat) w0, Below w.heap.size w w0 → i < 8 * xs.length → Calls Tryd.prog 41 #[va, .int .i64 i] w0 fun e w' => e = .returned (.bool (hs xs i)) ∧ ∃ n, w' = w0.drewN n) := fun i w0 h hi => rhas_any va xs i w0 (ha.below h) hi hmax
  have SM : Hid (∀ (i : Nat) w0, Below w.heap.size w w0 → i < 8 * xs.length → Calls Tryd.prog 42 #[vm, .int .i64 i] w0 fun e w' => e = .returned (.bool (mk m i)) ∧ ∃ n, w' = w0.drewN n) := fun i w0 h hi => by
    have := rbit_any vm m i w0 (hm.below h) (by omega)
    rwa [bo_nat] at this
  have SP : Hid (∀ (t : Nat) w0, t < 8 → Calls Tryd.prog 43 #[.int .i64 t] w0 fun e w' => e = .returned (.int .i64 ((2 ^ t : Nat) : Int)) ∧ w' = w0) := fun t w0 ht => power_any t w0 ht
  have HX : Hid (AllB xs) := ha.all
  have HV : Hid (Byt (w.alloc (.cells #[] 5)) va xs) := ha.below ((Below.refl _ _).alloc (Nat.le_refl _) _)
  have HO : Hid (Own w.heap.size (w.alloc (.cells #[] 5)) (.slice (some ⟨w.heap.size, 0, none⟩) 0 0) []) := Own.empty w (Nat.le_refl _)
  have B0 : Below w.heap.size w (w.alloc (.cells #[] 5)) := (Below.refl _ _).alloc (Nat.le_refl _) _
  have z0 := B0.size
  obtain ⟨ao, ca, rfl, ha1, ha2, -⟩ := ha
  clear hm
  obtain ⟨len, hlen⟩ : ∃ len, xs.length = len := ⟨_, rfl⟩
  have HLEN : Hid (xs.length = len) := hlen
  rw [hlen] at SA SM HV hmax ha1 ⊢
  clear hlen
  obtain ⟨F, hF⟩ : ∃ F, erased xs m = F := ⟨_, rfl⟩
  have HF : Hid (erased xs m = F) := hF
  have HFK : Hid (∀ k, F k = (hs xs k || mk m k)) := fun k => by rw [← hF]; rfl
  rw [hF]
  clear hF
  go_enter Tryd.func23, Tryd.ntmps23
  go_wp2_with (refine pushs_law _ rfl (.tmp 7) (.tmp 8) rfl w.heap.size z0 _ _ [] xs rfl rfl HO.out HV.out (by simp only [List.length_nil]; have := HLEN.out; omega) ?_; intro v1 w1 O1 b1; rw [List.nil_append] at O1; have HO1 : Hid (Own w.heap.size w1 v1 xs) := O1; clear O1; have C1 : Below w.heap.size w w1 := B0.trans b1; clear b1 B0)
  have HS : Hid (Own w.heap.size w1 v1 (ofb len (upb F (hs xs) 0))) := by
    show Own _ _ _ _
    rw [upb_zero, ← HLEN.out, ofb_hs xs HX.out (hs xs) (fun _ _ => rfl)]
    exact HO1.out
  have C2 : Hid (Below w.heap.size w w1) := C1
  clear HO1 C1 HV HO z0
  go_loopw [6] (fun i wr => ∃ k : Nat, k ≤ 8 * len ∧ i = .int .i64 k ∧ Hid (Own w.heap.size wr v1 (ofb len (upb F (hs xs) k))) ∧ Hid (Below w.heap.size w wr)) (fun i _ => 8 * len - (intOf i).toNat)
  case atStart => exact ⟨0, Nat.zero_le _, rfl, HS, C2⟩
  case round =>
    clear HS C2
    obtain ⟨k, hk, rfl, HW, HB⟩ := hrel
    obtain ⟨wa, rfl⟩ : ∃ wx, wx = wr := ⟨_, rfl⟩
    have k0 : (0 : Int) ≤ (k : Int) := by omega
    by_cases hlt : k < 8 * len
    · have k1 : (k : Int) < 8 * (len : Int) := by omega
      have TM : Hid (∀ n, Calls Tryd.prog 42 #[vm, .int .i64 k] (wa.drewN n) fun e w' => e = .returned (.bool (mk m k)) ∧ ∃ m, w' = (wa.drewN n).drewN m) := fun n => SM.out k _ (below_drawn HB.out n) hlt
      have FK : Hid (F k = (hs xs k || mk m k)) := HFK.out k
      have US : Hid (F k = hs xs k → ofb len (upb F (hs xs) (k + 1)) = ofb len (upb F (hs xs) k)) := upb_same F (hs xs) len k
      have UA : Hid (upb F (hs xs) k k = hs xs k ∧ upb F (hs xs) (k + 1) k = F k ∧ ∀ i, i ≠ k → upb F (hs xs) k i = upb F (hs xs) (k + 1) i) := upb_at F (hs xs) k
      have T0 : Hid (Calls Tryd.prog 41 #[.slice ao len ca, .int .i64 k] wa fun e w' => e = .returned (.bool (hs xs k)) ∧ ∃ m, w' = wa.drewN m) := SA.out k _ HB.out hlt
      have t0 : (0 : Nat) = 0 := rfl
      cases hx : hs xs k
      · cases hm : mk m k
        · rw [hx] at T0 FK US
          rw [hm] at TM FK
          have E1 : Hid (ofb len (upb F (hs xs) (k + 1)) = ofb len (upb F (hs xs) k)) := US.out (by rw [FK.out]; simp)
          clear hx hm
          go_wp2_with (first
            | (have q1 := t1; go_at_call 42; refine (TM.out _).mono ?_; rintro e wx ⟨rfl, n3, hw⟩; obtain rfl := hw.symm; clear t1)
              | (have q0 := t0; go_at_call 41; refine T0.out.mono ?_; rintro e wx ⟨rfl, n2, hw⟩; obtain rfl := hw.symm; clear t0; have t1 : (1 : Nat) = 1 := rfl))
          go_roundw
          case rel => exact ⟨k + 1, by omega, by go_num, by rw [E1.out]; exact HW.out, below_drawn HB.out (n2 + n3)⟩
          case measure => simp [intOf]; omega
        · rw [hx] at T0 FK US UA
          rw [hm] at TM FK
          have FF : F k = true := by rw [FK.out]; simp
          obtain ⟨u1, u2, u3⟩ := UA.out
          have DN := ofb_up len u1 (u2.trans FF) (fun i hi => (u3 i hi).symm)
          obtain ⟨g, cap, hv, OC⟩ := own_row HW.out (by rw [ofb_len]; omega)
          rw [ofb_len] at hv OC
          subst hv
          have gB := OC.2.1
          have AB := ofb_all len (upb F (hs xs) k) (k / 8)
          have OS := fun (wz : World) (h : OwnC w.heap.size wz g len cap (ofb len (upb F (hs xs) k))) => h.set (k / 8) (gb (ofb len (upb F (hs xs) k)) (k / 8) + ((2 ^ (k % 8) : Nat) : Int))
          rw [DN] at OS
          have HOS : Hid (∀ wz, OwnC w.heap.size wz g len cap (ofb len (upb F (hs xs) k)) → OwnC w.heap.size (wz.setCell ⟨g, k / 8, none⟩ (.int .u8 (gb (ofb len (upb F (hs xs) k)) (k / 8) + ((2 ^ (k % 8) : Nat) : Int)))) g len cap (ofb len (upb F (hs xs) (k + 1)))) := OS
          have HOC : Hid (OwnC w.heap.size wa g len cap (ofb len (upb F (hs xs) k))) := OC
          have DN2 := up_le len hlt u1 (u2.trans FF) (fun i hi => (u3 i hi).symm)
          have S9 : Hid (∀ w0, Calls Tryd.prog 43 #[.int .i64 ((k % 8 : Nat) : Int)] w0 fun e w' => e = .returned (.int .i64 ((2 ^ (k % 8) : Nat) : Int)) ∧ w' = w0) := fun w0 => SP.out (k % 8) w0 (by omega)
          have r1 : (k : Int).tdiv 8 = ((k / 8 : Nat) : Int) := by rw [Int.tdiv_eq_ediv_of_nonneg (by omega)]; omega
          have r2 : (k : Int).tmod 8 = ((k % 8 : Nat) : Int) := by rw [Int.tmod_eq_emod_of_nonneg (by omega)]; omega
          have jb : k / 8 < len := by omega
          have tb : k % 8 < 8 := by omega
          have c1 := OC.cell jb
          have c2 := OC.free (k / 8)
          have p1 : 0 < 2 ^ (k % 8) := Nat.two_pow_pos _
          have p2 : 2 ^ (k % 8) ≤ 128 := Nat.pow_le_pow_right (by omega) (show k % 8 ≤ 7 by omega)
          clear hx hm FF u1 u2 u3 DN OS OC US UA FK HW
          generalize gb (ofb len (upb F (hs xs) k)) (k / 8) = x at *
          generalize 2 ^ (k % 8) = q at *
          generalize k / 8 = j at *
          generalize k % 8 = t at *
          have j2 : IntKind.i64.wrap (j : Int) = j := by rw [IntKind.wrap_i64]; omega
          have t2' : IntKind.i64.wrap (t : Int) = t := by rw [IntKind.wrap_i64]; omega
          have j1 : (j : Int) < (len : Int) := by omega
          have j0 : (0 : Int) ≤ (j : Int) := by omega
          have q2' : IntKind.u8.wrap (q : Int) = q := by rw [IntKind.wrap_u8']; omega
          have q3 : IntKind.u8.wrap (x + (q : Int)) = x + q := by rw [IntKind.wrap_u8']; omega
          have HG : Hid (w.heap.size ≤ g) := gB
          clear gB AB DN2 p1 p2
          go_wp2_with (first
            | (have q1 := t1; go_at_call 42; refine (TM.out _).mono ?_; rintro e wx ⟨rfl, n3, hw⟩; obtain rfl := hw.symm; clear t1)
            | (have q0 := t0; go_at_call 41; refine T0.out.mono ?_; rintro e wx ⟨rfl, n2, hw⟩; obtain rfl := hw.symm; clear t0; have t1 : (1 : Nat) = 1 := rfl))
          obtain ⟨wz, hwz⟩ : ∃ wz, wz = wa.drewN (n2 + n3) := ⟨_, rfl⟩
          have OZ : Hid (OwnC w.heap.size wz g len cap (ofb len (upb F (hs xs) k))) := by rw [hwz]; exact HOC.out
          have BZ : Hid (Below w.heap.size w wz) := by rw [hwz]; exact below_drawn HB.out _
          have d1 : wz.cell? ⟨g, j, none⟩ = some (.int .u8 x) := by rw [hwz]; exact c1
          have d2 : wz.frozen? ⟨g, j, none⟩ = false := by rw [hwz]; exact c2
          rw [← hwz]
          clear hwz c1 c2 HOC
          refine wp_region_any (by kernel_rfl) ?_
          change wpAny _ _ _ _ _ _ _ (World.drew _)
          refine wpAny_quiet_then (C := fun w' => ∃ n, w' = wz.drewN n) 0 14 1 _ (by kernel_rfl) rfl (by kernel_rfl) (by kernel_rfl) ⟨1, rfl⟩ ?_
          simp only [List.take_succ_cons, List.take_zero, List.drop_zero]
          repeat (quiet_step (with_reducible exact Calls.quiet_of_same (S9.out _)))
          refine wpQuiet_nil ?_
          rintro f _ ⟨nq, rfl⟩
          refine wpAny_ready (rs := [14]) (by kernel_rfl) (by simp) ?_
          refine AllReady.cons rfl (fun K hK => ?_) AllReady.nil
          refine step_set _ rfl none rfl (.tmp 39) (.tmp 38) 5 rfl .u8 (x + (q : Int)) g j rfl rfl (by rw [show (wz.drewN nq).cell? ⟨g, j, none⟩ = _ from d1]; rfl) d2 i_u8 (hK _ _ ?_)
          simp only [Act.put]
          have O6 : Hid (OwnC w.heap.size ((wz.drewN nq).setCell ⟨g, j, none⟩ (.int .u8 (x + (q : Int)))) g len cap (ofb len (upb F (hs xs) (k + 1)))) := HOS.out _ (OZ.out.drewN nq)
          have B6 : Hid (Below w.heap.size w ((wz.drewN nq).setCell ⟨g, j, none⟩ (.int .u8 (x + (q : Int))))) := (below_drawn BZ.out nq).setCell HG.out _
          clear d1 d2 OZ BZ HOS
          generalize (wz.drewN nq).setCell ⟨g, j, none⟩ (.int .u8 (x + (q : Int))) = w6 at *
          refine wpAny_done (by kernel_rfl) ?_ _
          go_wp2
          go_roundw
          case rel => exact ⟨k + 1, by omega, by go_num, O6.out.own, B6.out⟩
          case measure => simp [intOf]; omega
      · rw [hx] at T0 FK US
        have E1 : Hid (ofb len (upb F (hs xs) (k + 1)) = ofb len (upb F (hs xs) k)) := US.out (by rw [FK.out]; simp)
        clear hx
        go_wp2_with (have q0 := t0; go_at_call 41; refine T0.out.mono ?_; rintro e wx ⟨rfl, n2, hw⟩; obtain rfl := hw.symm; clear t0)
        go_roundw
        case rel => exact ⟨k + 1, by omega, by go_num, by rw [E1.out]; exact HW.out, below_drawn HB.out n2⟩
        case measure => simp [intOf]; omega
    · have hks : k = 8 * len := by omega
      subst hks
      have E9 : Hid (Byt wa v1 (ofb len F)) := by
        show Byt _ _ _
        have := HW.out
        rw [upb_end] at this
        exact this.byt (ofb_all _ _)
      go_wp2
      go_ret
      exact ⟨_, rfl, E9.out, HB.out⟩
end Go.Proofs.YtjlnalfbaojedaaDoor.fa
