/- Texts put together (a claim holds few files). No claim of its own. -/
import Derived.Test.YtbkaecjkgjkheaaGreatDoorPackG
import Derived.Test.YtbkaecjkgjkheaaGreatDoorPackC
import Derived.Deep.RegionWith
import Derived.Deep.WholeRow
import Derived.Deep.MidRow
import Derived.Lib.SlBuf
/- What xts' turned answers. No claim of its own. -/
namespace Go.Proofs.YtbkaecjkgjkheaaGreatDoor.xt
open Go.RowKit
set_option maxRecDepth 20000

/-- 'make([]byte, 0, n)': room for n bytes -/
theorem make_room {ops : Array Oper} {rest : List Oper} {o : Oper} {a : Act} {Q : Exit → Act → World → Prop} (w : World) (hg : o.guard = none) (l c : Operand) (hop : o.op = Op.makeSlice 22 l c)
    (C : Int) (n : Nat) (hl : a.eval l = .int .i64 0) (hc : a.eval c = .int .i64 C) (hC : C = (n : Int)) (hn : n ≤ 1099511627776)
    (hK : ∀ v w', Own w.heap.size w' v [] → Below w.heap.size w w' → wpList Tryz.prog ops Q rest (a.put o.dst v) w') :
    wpList Tryz.prog ops Q (o :: rest) a w := by
  obtain ⟨i0, hi, hz0, hz1, hz2⟩ := info_parts info_u8
  refine wpList_make_own w hg l c 22 hop w.heap.size 5 i0 (.int .u8 0) 1 Tryz.underlying22 hi hz0 hz1 .i64 .i64 C n hl hc hC (by rw [hz2]; omega) (by simp only [maxLen]; omega) (Nat.le_refl _) fun w' h1 h2 => ?_
  exact hK _ w' h1 ((Below.refl _ w).grown h2 (Nat.le_refl _) (fun k hk => by cases hk))

set_option linter.unusedSimpArgs false in
set_option maxRecDepth 20000 in
set_option maxHeartbeats 4000000 in
theorem turned_enc (c kd : Nat) (av sv : Value) (dk tk ab s : List Int) (N : Nat) (w : World) (hc : Cip w c dk tk) (hkd : KeyA w kd dk) (hdl : dk.length = 32) (hda : AllB dk) (htl : tk.length = 32) (hta : AllB tk) (ha : Byt w av ab) (hal : ab.length = 16) (hs : Byt w sv s) (hsl : s.length = 16 * N) (hN : 1 ≤ N) (hN' : N ≤ 256) :
    Calls Tryz.prog 35 #[.pointer (some ⟨c, 0, none⟩), av, sv, .func (.func 36) #[.pointer (some ⟨kd, 0, none⟩)] #[]] w fun e w' => ∃ v', e = .returned (.tuple #[v', .int .i64 0]) ∧ Byt w' v' (run (xe dk) (nm16 (encr tk ab)) s N) ∧ Below w.heap.size w w' := by
  have hsa := hs.all
  have HM : Hid (Calls Tryz.prog 61 #[.pointer (some ⟨c, 0, none⟩), av, .int .i64 (N : Int)] w fun e w' => ∃ g, e = .returned (.tuple #[.slice (some ⟨g, 0, none⟩) N N, .int .i64 0]) ∧ Msks w' g N (nm16 (encr tk ab)) ∧ w.heap.size ≤ g ∧ Below w.heap.size w w') := masks_any c av dk tk ab N w hc htl hta ha hal hN'
  have HI : Hid (Calls Tryz.prog 60 #[sv] w fun e w' => e = .returned (.bool true) ∧ w' = w) := sector_any w sv s hs true (by simp; omega)
  have kp : Keeps (xe dk) := fun m b hm hb => xe_blk dk hdl hda m b hm hb
  have HU : Hid (∀ k, k < N → ∀ w' bv mv, KeyA w' kd dk → Byt w' bv (cut16 s k) → Byt w' mv (msk (nm16 (encr tk ab)) k) → Calls Tryz.prog 62 #[bv, mv, .func (.func 36) #[.pointer (some ⟨kd, 0, none⟩)] #[]] w' fun e w'' => ∃ v', e = .returned (.tuple #[v', .int .i64 0]) ∧ Byt w'' v' (xe dk (msk (nm16 (encr tk ab)) k) (cut16 s k)) ∧ Below w'.heap.size w' w'') := fun k hk w' bv mv h1 h2 h3 => under_enc kd bv mv dk _ _ w' h1 hdl hda h2 (cut16_len s k (by omega)) h3 (msk_blk _ k).1
  have HR0 : Hid (run (xe dk) (nm16 (encr tk ab)) s 0 = []) := rfl
  have HRS : Hid (∀ k, run (xe dk) (nm16 (encr tk ab)) s (k + 1) = run (xe dk) (nm16 (encr tk ab)) s k ++ xe dk (msk (nm16 (encr tk ab)) k) (cut16 s k)) := fun k => rfl
  have HRL : Hid (∀ k, k ≤ N → (run (xe dk) (nm16 (encr tk ab)) s k).length = 16 * k ∧ AllB (run (xe dk) (nm16 (encr tk ab)) s k)) := fun k hk => ⟨run_len _ kp _ s hsa k (by omega), run_all _ kp _ s hsa k (by omega)⟩
  have HXL : Hid (∀ k, k < N → (xe dk (msk (nm16 (encr tk ab)) k) (cut16 s k)).length = 16) := fun k hk => (kp _ _ (msk_blk _ k) (cut16_blk s k hsa (by omega))).1
  have HS : Hid (Byt w sv s) := hs
  have HK : Hid (KeyA w kd dk) := hkd
  have lk : kd < w.heap.size := hkd.lt
  clear hkd hc ha hal hdl hda htl hta kp hsa
  generalize nm16 (encr tk ab) = M at *
  obtain ⟨R, hR⟩ : ∃ R : Nat → List Int, R = run (xe dk) M s := ⟨_, rfl⟩
  obtain ⟨X, hX⟩ : ∃ X : Nat → List Int, X = fun k => xe dk (msk M k) (cut16 s k) := ⟨_, rfl⟩
  have ex : ∀ k, xe dk (msk M k) (cut16 s k) = X k := fun k => by rw [hX]
  rw [← hR] at HR0 HRS HRL ⊢
  simp only [ex] at HU HRS HXL
  clear hR hX ex
  obtain ⟨ao, ca, rfl, ha1, ha2, -, -, -⟩ := hs
  have HSL : Hid (s.length = 16 * N) := hsl
  have d1 : (s.length : Int).tdiv 16 = (N : Int) := by rw [Int.tdiv_eq_ediv_of_nonneg (by omega)]; omega
  have d2 : IntKind.i64.wrap (N : Int) = N := by rw [IntKind.wrap_i64]; omega
  have HLN : Hid (s.length ≤ 4096) := by show _ ≤ _; omega
  clear hsl
  go_enter Tryz.func35, Tryz.ntmps35
  go_wp2_with (first
    | (at_make; have q1 := L1; refine make_room _ rfl _ _ rfl _ s.length rfl rfl rfl (by have := HLN.out; omega) ?_; intro v2 w2 O2 B2; have HO2 : Hid (Own w1.heap.size w2 v2 []) := O2; clear O2)
    | (go_at_call 61; refine (HM.out).mono ?_; rintro e w1 ⟨g1, rfl, m1, L1, B1⟩; have M1 : Hid (Msks w1 g1 N M) := m1; clear m1)
    | (go_at_call 60; refine (HI.out).mono ?_; rintro e wx ⟨rfl, hw⟩; obtain rfl := hw.symm))
  have K1 : Hid (KeyA w1 kd dk) := HK.out.below B1 lk
  have S1 : Hid (Byt w1 (.slice ao s.length ca) s) := HS.out.below B1
  have z1 := B1.size
  have HB1 : Hid (Below w.heap.size w w1) := B1
  have HB2 : Hid (Below w1.heap.size w1 w2) := B2
  clear B1 B2 HM HI HK HS
  go_loopw [38, 12] (fun i o wr => ∃ k : Nat, k ≤ N ∧ i = .int .i64 k ∧ Own w1.heap.size wr o (R k) ∧ Below w1.heap.size w1 wr) (fun i _ _ => N - (intOf i).toNat)
  case atStart => exact ⟨0, Nat.zero_le _, rfl, by rw [HR0.out]; exact HO2.out, HB2.out⟩
  case round =>
    obtain ⟨k, hk, rfl, hO, hB⟩ := hrel
    obtain ⟨wa, rfl⟩ : ∃ wx, wx = wr := ⟨_, rfl⟩
    have k0 : (0 : Int) ≤ (k : Int) := by omega
    have q1 : IntKind.i64.wrap (k : Int) = k := by rw [IntKind.wrap_i64]; omega
    have HO : Hid (Own w1.heap.size wa u12 (R k)) := hO
    have HB : Hid (Below w1.heap.size w1 wa) := hB
    clear hO hB
    by_cases hlt : k < N
    · have k1 : (k : Int) < (N : Int) := by omega
      obtain ⟨gi, c1, y1⟩ := (M1.out.below HB.out).at_ k hlt
      have YM : Hid (Byt wa (.slice (some ⟨gi, 0, none⟩) 16 16) (msk M k)) := y1
      have YS : Hid (Byt wa (.slice ao s.length ca) s) := S1.out.below HB.out
      have KA : Hid (KeyA wa kd dk) := K1.out.below HB.out (by have := K1.out.lt; omega)
      have q2 : IntKind.i64.wrap (16 * (k : Int)) = 16 * (k : Int) := by rw [IntKind.wrap_i64]; omega
      have q3 : IntKind.i64.wrap (16 * (k : Int) + 16) = 16 * (k : Int) + 16 := by rw [IntKind.wrap_i64]; omega
      have HUk : Hid (∀ w' bv mv, KeyA w' kd dk → Byt w' bv (cut16 s k) → Byt w' mv (msk M k) → Calls Tryz.prog 62 #[bv, mv, .func (.func 36) #[.pointer (some ⟨kd, 0, none⟩)] #[]] w' fun e w'' => ∃ v', e = .returned (.tuple #[v', .int .i64 0]) ∧ Byt w'' v' (X k) ∧ Below w'.heap.size w' w'') := HU.out k hlt
      have XL : Hid ((X k).length = 16) := HXL.out k hlt
      have RL : Hid ((R k).length = 16 * k) := (HRL.out k hk).1
      clear y1
      go_wp2_with (first
        | (at_builtin; have q5 := s5; refine pushs_lawG _ rfl (.tmp 59) (.tmp 60) rfl w1.heap.size (by have := HB5.out.size; omega) _ v5 (R k) (X k) rfl rfl HO5.out Y5.out (by rw [RL.out]; omega) (by rw [XL.out]; omega) ?_; intro v6 w6 O6 B6; have HO6 : Hid (Own w1.heap.size w6 v6 (R (k + 1))) := (by show Own _ _ _ _; rw [HRS.out]; exact O6); have HB6 : Hid (Below w1.heap.size w1 w6) := HB5.out.trans B6; clear O6 B6)
        | (go_at_call 62; refine (HUk.out _ _ _ KA.out YC.out YM.out).mono ?_; rintro e w5 ⟨v5, rfl, y5, B5⟩; have s5 := B5.size; have Y5 : Hid (Byt w5 v5 (X k)) := y5; have HO5 : Hid (Own w1.heap.size w5 u12 (R k)) := Own.below HO.out B5; have HB5 : Hid (Below w1.heap.size w1 w5) := HB.out.trans (B5.mono (HB.out.size)); clear y5 B5)
        | (refine cut_part _ rfl (.tmp 46) (.tmp 47) (.tmp 49) rfl _ s (16 * (k : Int)) (16 * (k : Int) + 16) (16 * k) (16 * k + 16) rfl rfl rfl (by omega) (by omega) (by omega) (by rw [HSL.out]; omega) YS.out ?_; intro vc yc; have YC : Hid (Byt wa vc (cut16 s k)) := yc; clear yc))
      go_roundw
      case rel => exact ⟨k + 1, by omega, by go_num, HO6.out, HB6.out⟩
      case measure => simp [intOf]; omega
    · have hkn : k = N := by omega
      subst hkn
      go_wp2
      go_ret2
      exact ⟨_, rfl, HO.out.byt (HRL.out k (Nat.le_refl _)).2, HB1.out.trans (HB.out.mono z1)⟩

set_option linter.unusedSimpArgs false in
set_option maxRecDepth 20000 in
set_option maxHeartbeats 4000000 in
theorem turned_dec (c kd : Nat) (av sv : Value) (dk tk ab s : List Int) (N : Nat) (w : World) (hc : Cip w c dk tk) (hkd : KeyA w kd dk) (hdl : dk.length = 32) (hda : AllB dk) (htl : tk.length = 32) (hta : AllB tk) (ha : Byt w av ab) (hal : ab.length = 16) (hs : Byt w sv s) (hsl : s.length = 16 * N) (hN : 1 ≤ N) (hN' : N ≤ 256) :
    Calls Tryz.prog 35 #[.pointer (some ⟨c, 0, none⟩), av, sv, .func (.func 50) #[.pointer (some ⟨kd, 0, none⟩)] #[]] w fun e w' => ∃ v', e = .returned (.tuple #[v', .int .i64 0]) ∧ Byt w' v' (run (xd dk) (nm16 (encr tk ab)) s N) ∧ Below w.heap.size w w' := by
  have hsa := hs.all
  have HM : Hid (Calls Tryz.prog 61 #[.pointer (some ⟨c, 0, none⟩), av, .int .i64 (N : Int)] w fun e w' => ∃ g, e = .returned (.tuple #[.slice (some ⟨g, 0, none⟩) N N, .int .i64 0]) ∧ Msks w' g N (nm16 (encr tk ab)) ∧ w.heap.size ≤ g ∧ Below w.heap.size w w') := masks_any c av dk tk ab N w hc htl hta ha hal hN'
  have HI : Hid (Calls Tryz.prog 60 #[sv] w fun e w' => e = .returned (.bool true) ∧ w' = w) := sector_any w sv s hs true (by simp; omega)
  have kp : Keeps (xd dk) := fun m b hm hb => xd_blk dk hdl hda m b hm hb
  have HU : Hid (∀ k, k < N → ∀ w' bv mv, KeyA w' kd dk → Byt w' bv (cut16 s k) → Byt w' mv (msk (nm16 (encr tk ab)) k) → Calls Tryz.prog 62 #[bv, mv, .func (.func 50) #[.pointer (some ⟨kd, 0, none⟩)] #[]] w' fun e w'' => ∃ v', e = .returned (.tuple #[v', .int .i64 0]) ∧ Byt w'' v' (xd dk (msk (nm16 (encr tk ab)) k) (cut16 s k)) ∧ Below w'.heap.size w' w'') := fun k hk w' bv mv h1 h2 h3 => under_dec kd bv mv dk _ _ w' h1 hdl hda h2 (cut16_len s k (by omega)) h3 (msk_blk _ k).1
  have HR0 : Hid (run (xd dk) (nm16 (encr tk ab)) s 0 = []) := rfl
  have HRS : Hid (∀ k, run (xd dk) (nm16 (encr tk ab)) s (k + 1) = run (xd dk) (nm16 (encr tk ab)) s k ++ xd dk (msk (nm16 (encr tk ab)) k) (cut16 s k)) := fun k => rfl
  have HRL : Hid (∀ k, k ≤ N → (run (xd dk) (nm16 (encr tk ab)) s k).length = 16 * k ∧ AllB (run (xd dk) (nm16 (encr tk ab)) s k)) := fun k hk => ⟨run_len _ kp _ s hsa k (by omega), run_all _ kp _ s hsa k (by omega)⟩
  have HXL : Hid (∀ k, k < N → (xd dk (msk (nm16 (encr tk ab)) k) (cut16 s k)).length = 16) := fun k hk => (kp _ _ (msk_blk _ k) (cut16_blk s k hsa (by omega))).1
  have HS : Hid (Byt w sv s) := hs
  have HK : Hid (KeyA w kd dk) := hkd
  have lk : kd < w.heap.size := hkd.lt
  clear hkd hc ha hal hdl hda htl hta kp hsa
  generalize nm16 (encr tk ab) = M at *
  obtain ⟨R, hR⟩ : ∃ R : Nat → List Int, R = run (xd dk) M s := ⟨_, rfl⟩
  obtain ⟨X, hX⟩ : ∃ X : Nat → List Int, X = fun k => xd dk (msk M k) (cut16 s k) := ⟨_, rfl⟩
  have ex : ∀ k, xd dk (msk M k) (cut16 s k) = X k := fun k => by rw [hX]
  rw [← hR] at HR0 HRS HRL ⊢
  simp only [ex] at HU HRS HXL
  clear hR hX ex
  obtain ⟨ao, ca, rfl, ha1, ha2, -, -, -⟩ := hs
  have HSL : Hid (s.length = 16 * N) := hsl
  have d1 : (s.length : Int).tdiv 16 = (N : Int) := by rw [Int.tdiv_eq_ediv_of_nonneg (by omega)]; omega
  have d2 : IntKind.i64.wrap (N : Int) = N := by rw [IntKind.wrap_i64]; omega
  have HLN : Hid (s.length ≤ 4096) := by show _ ≤ _; omega
  clear hsl
  go_enter Tryz.func35, Tryz.ntmps35
  go_wp2_with (first
    | (at_make; have q1 := L1; refine make_room _ rfl _ _ rfl _ s.length rfl rfl rfl (by have := HLN.out; omega) ?_; intro v2 w2 O2 B2; have HO2 : Hid (Own w1.heap.size w2 v2 []) := O2; clear O2)
    | (go_at_call 61; refine (HM.out).mono ?_; rintro e w1 ⟨g1, rfl, m1, L1, B1⟩; have M1 : Hid (Msks w1 g1 N M) := m1; clear m1)
    | (go_at_call 60; refine (HI.out).mono ?_; rintro e wx ⟨rfl, hw⟩; obtain rfl := hw.symm))
  have K1 : Hid (KeyA w1 kd dk) := HK.out.below B1 lk
  have S1 : Hid (Byt w1 (.slice ao s.length ca) s) := HS.out.below B1
  have z1 := B1.size
  have HB1 : Hid (Below w.heap.size w w1) := B1
  have HB2 : Hid (Below w1.heap.size w1 w2) := B2
  clear B1 B2 HM HI HK HS
  go_loopw [38, 12] (fun i o wr => ∃ k : Nat, k ≤ N ∧ i = .int .i64 k ∧ Own w1.heap.size wr o (R k) ∧ Below w1.heap.size w1 wr) (fun i _ _ => N - (intOf i).toNat)
  case atStart => exact ⟨0, Nat.zero_le _, rfl, by rw [HR0.out]; exact HO2.out, HB2.out⟩
  case round =>
    obtain ⟨k, hk, rfl, hO, hB⟩ := hrel
    obtain ⟨wa, rfl⟩ : ∃ wx, wx = wr := ⟨_, rfl⟩
    have k0 : (0 : Int) ≤ (k : Int) := by omega
    have q1 : IntKind.i64.wrap (k : Int) = k := by rw [IntKind.wrap_i64]; omega
    have HO : Hid (Own w1.heap.size wa u12 (R k)) := hO
    have HB : Hid (Below w1.heap.size w1 wa) := hB
    clear hO hB
    by_cases hlt : k < N
    · have k1 : (k : Int) < (N : Int) := by omega
      obtain ⟨gi, c1, y1⟩ := (M1.out.below HB.out).at_ k hlt
      have YM : Hid (Byt wa (.slice (some ⟨gi, 0, none⟩) 16 16) (msk M k)) := y1
      have YS : Hid (Byt wa (.slice ao s.length ca) s) := S1.out.below HB.out
      have KA : Hid (KeyA wa kd dk) := K1.out.below HB.out (by have := K1.out.lt; omega)
      have q2 : IntKind.i64.wrap (16 * (k : Int)) = 16 * (k : Int) := by rw [IntKind.wrap_i64]; omega
      have q3 : IntKind.i64.wrap (16 * (k : Int) + 16) = 16 * (k : Int) + 16 := by rw [IntKind.wrap_i64]; omega
      have HUk : Hid (∀ w' bv mv, KeyA w' kd dk → Byt w' bv (cut16 s k) → Byt w' mv (msk M k) → Calls Tryz.prog 62 #[bv, mv, .func (.func 50) #[.pointer (some ⟨kd, 0, none⟩)] #[]] w' fun e w'' => ∃ v', e = .returned (.tuple #[v', .int .i64 0]) ∧ Byt w'' v' (X k) ∧ Below w'.heap.size w' w'') := HU.out k hlt
      have XL : Hid ((X k).length = 16) := HXL.out k hlt
      have RL : Hid ((R k).length = 16 * k) := (HRL.out k hk).1
      clear y1
      go_wp2_with (first
        | (at_builtin; have q5 := s5; refine pushs_lawG _ rfl (.tmp 59) (.tmp 60) rfl w1.heap.size (by have := HB5.out.size; omega) _ v5 (R k) (X k) rfl rfl HO5.out Y5.out (by rw [RL.out]; omega) (by rw [XL.out]; omega) ?_; intro v6 w6 O6 B6; have HO6 : Hid (Own w1.heap.size w6 v6 (R (k + 1))) := (by show Own _ _ _ _; rw [HRS.out]; exact O6); have HB6 : Hid (Below w1.heap.size w1 w6) := HB5.out.trans B6; clear O6 B6)
        | (go_at_call 62; refine (HUk.out _ _ _ KA.out YC.out YM.out).mono ?_; rintro e w5 ⟨v5, rfl, y5, B5⟩; have s5 := B5.size; have Y5 : Hid (Byt w5 v5 (X k)) := y5; have HO5 : Hid (Own w1.heap.size w5 u12 (R k)) := Own.below HO.out B5; have HB5 : Hid (Below w1.heap.size w1 w5) := HB.out.trans (B5.mono (HB.out.size)); clear y5 B5)
        | (refine cut_part _ rfl (.tmp 46) (.tmp 47) (.tmp 49) rfl _ s (16 * (k : Int)) (16 * (k : Int) + 16) (16 * k) (16 * k + 16) rfl rfl rfl (by omega) (by omega) (by omega) (by rw [HSL.out]; omega) YS.out ?_; intro vc yc; have YC : Hid (Byt wa vc (cut16 s k)) := yc; clear yc))
      go_roundw
      case rel => exact ⟨k + 1, by omega, by go_num, HO6.out, HB6.out⟩
      case measure => simp [intOf]; omega
    · have hkn : k = N := by omega
      subst hkn
      go_wp2
      go_ret2
      exact ⟨_, rfl, HO.out.byt (HRL.out k (Nat.le_refl _)).2, HB1.out.trans (HB.out.mono z1)⟩
end Go.Proofs.YtbkaecjkgjkheaaGreatDoor.xt

/- What xts' Encrypt and Decrypt answer. No claim of its own. -/
namespace Go.Proofs.YtbkaecjkgjkheaaGreatDoor.xt
open Go.RowKit
set_option maxRecDepth 20000

theorem make_fn : ∀ (fn : Fn) (first cap : Array Value) (w : World), (Instr.makeFunc fn first cap).run Tryz.prog w = .ok (.func fn first cap) w := fun _ _ _ _ => rfl

set_option maxHeartbeats 1000000 in
theorem turned_sec (p av sv F : Value) (w : World) (hi : Calls Tryz.prog 60 #[sv] w fun e w' => e = .returned (.bool false) ∧ w' = w) :
    Calls Tryz.prog 35 #[p, av, sv, F] w fun e w' => e = .returned (.tuple #[.slice none 0 0, .int .i64 2]) ∧ w' = w := by
  have HI : Hid (Calls Tryz.prog 60 #[sv] w fun e w' => e = .returned (.bool false) ∧ w' = w) := hi
  clear hi
  go_enter Tryz.func35, Tryz.ntmps35
  go_wp2_with (go_at_call 60; refine (HI.out).mono ?_; rintro e wx ⟨rfl, hw⟩; obtain rfl := hw.symm)
  go_ret2
  exact ⟨rfl, rfl⟩

set_option maxHeartbeats 1000000 in
theorem turned_msk (p av sv F : Value) (s : List Int) (N : Nat) (w : World) (hs : Byt w sv s) (hsl : s.length = 16 * N) (hN : 1 ≤ N) (hN' : N ≤ 256) (hm : Calls Tryz.prog 61 #[p, av, .int .i64 (N : Int)] w fun e w' => e = .returned (.tuple #[.slice none 0 0, .int .i64 2]) ∧ w' = w) :
    Calls Tryz.prog 35 #[p, av, sv, F] w fun e w' => e = .returned (.tuple #[.slice none 0 0, .int .i64 2]) ∧ w' = w := by
  have HM : Hid (Calls Tryz.prog 61 #[p, av, .int .i64 (N : Int)] w fun e w' => e = .returned (.tuple #[.slice none 0 0, .int .i64 2]) ∧ w' = w) := hm
  have HI : Hid (Calls Tryz.prog 60 #[sv] w fun e w' => e = .returned (.bool true) ∧ w' = w) := sector_any w sv s hs true (by simp; omega)
  obtain ⟨ao, ca, rfl, ha1, ha2, -, -, -⟩ := hs
  have d1 : (s.length : Int).tdiv 16 = (N : Int) := by rw [Int.tdiv_eq_ediv_of_nonneg (by omega)]; omega
  have d2 : IntKind.i64.wrap (N : Int) = N := by rw [IntKind.wrap_i64]; omega
  clear hm hsl
  go_enter Tryz.func35, Tryz.ntmps35
  go_wp2_with (first
    | (go_at_call 61; refine (HM.out).mono ?_; rintro e wx ⟨rfl, hw⟩; obtain rfl := hw.symm)
    | (go_at_call 60; refine (HI.out).mono ?_; rintro e wx ⟨rfl, hw⟩; obtain rfl := hw.symm))
  go_ret2
  exact ⟨rfl, rfl⟩

set_option maxHeartbeats 1000000 in
theorem xenc_any (c : Nat) (av sv : Value) (dk tk ab s : List Int) (N : Nat) (w : World) (hc : Cip w c dk tk) (hdl : dk.length = 32) (hda : AllB dk) (htl : tk.length = 32) (hta : AllB tk) (ha : Byt w av ab) (hal : ab.length = 16) (hs : Byt w sv s) (hsl : s.length = 16 * N) (hN : 1 ≤ N) (hN' : N ≤ 256) :
    Calls Tryz.prog 20 #[.pointer (some ⟨c, 0, none⟩), av, sv] w fun e w' => ∃ v', e = .returned (.tuple #[v', .int .i64 0]) ∧ Byt w' v' (run (xe dk) (nm16 (encr tk ab)) s N) ∧ Below w.heap.size w w' := by
  obtain ⟨kd, kt, c0, c1, k0, k1⟩ := hc
  have HT : Hid (Calls Tryz.prog 35 #[.pointer (some ⟨c, 0, none⟩), av, sv, .func (.func 36) #[.pointer (some ⟨kd, 0, none⟩)] #[]] w fun e w' => ∃ v', e = .returned (.tuple #[v', .int .i64 0]) ∧ Byt w' v' (run (xe dk) (nm16 (encr tk ab)) s N) ∧ Below w.heap.size w w') := turned_enc c kd av sv dk tk ab s N w ⟨kd, kt, c0, c1, k0, k1⟩ k0 hdl hda htl hta ha hal hs hsl hN hN'
  generalize run (xe dk) (nm16 (encr tk ab)) s N = zs at *
  clear c1 k0 k1 hdl hda htl hta ha hal hs hsl hN hN'
  have hmf := make_fn
  go_enter Tryz.func20, Tryz.ntmps20
  go_wp2_with (go_at_call 35; refine (HT.out).mono ?_; rintro e w1 ⟨v1, rfl, y1, B1⟩)
  go_ret2
  exact ⟨_, rfl, y1, B1⟩

set_option maxHeartbeats 1000000 in
theorem xenc_nil (av sv : Value) (w : World) :
    Calls Tryz.prog 20 #[.pointer none, av, sv] w fun e w' => e = .returned (.tuple #[.slice none 0 0, .int .i64 2]) ∧ w' = w := by
  go_enter Tryz.func20, Tryz.ntmps20
  go_wp2
  go_ret2
  exact ⟨rfl, rfl⟩

set_option maxHeartbeats 1000000 in
theorem xenc_turned (c : Nat) (q : Option Addr) (av sv : Value) (w : World) (c0 : w.cell? ⟨c, 0, none⟩ = some (.pointer q)) (ht : ∀ F, Calls Tryz.prog 35 #[.pointer (some ⟨c, 0, none⟩), av, sv, F] w fun e w' => e = .returned (.tuple #[.slice none 0 0, .int .i64 2]) ∧ w' = w) :
    Calls Tryz.prog 20 #[.pointer (some ⟨c, 0, none⟩), av, sv] w fun e w' => e = .returned (.tuple #[.slice none 0 0, .int .i64 2]) ∧ w' = w := by
  have HT : Hid (∀ F, Calls Tryz.prog 35 #[.pointer (some ⟨c, 0, none⟩), av, sv, F] w fun e w' => e = .returned (.tuple #[.slice none 0 0, .int .i64 2]) ∧ w' = w) := ht
  clear ht
  have hmf := make_fn
  go_enter Tryz.func20, Tryz.ntmps20
  go_wp2_with (go_at_call 35; refine (HT.out _).mono ?_; rintro e wx ⟨rfl, hw⟩; obtain rfl := hw.symm)
  go_ret2
  exact ⟨rfl, rfl⟩

/-- of a cipher that New made: the tweak is not sixteen bytes, or the bytes are no sector -/
theorem xenc_no (c : Nat) (av sv : Value) (dk tk ab s : List Int) (w : World) (hc : Cip w c dk tk) (ha : Byt w av ab) (hs : Byt w sv s) (hn : ¬ (ab.length = 16 ∧ 16 ≤ s.length ∧ s.length ≤ 4096 ∧ s.length % 16 = 0)) :
    Calls Tryz.prog 20 #[.pointer (some ⟨c, 0, none⟩), av, sv] w fun e w' => e = .returned (.tuple #[.slice none 0 0, .int .i64 2]) ∧ w' = w := by
  obtain ⟨kd, kt, c0, c1, k0, k1⟩ := hc
  refine xenc_turned c _ av sv w c0 fun F => ?_
  by_cases h : 16 ≤ s.length ∧ s.length ≤ 4096 ∧ s.length % 16 = 0
  · have hal : ¬ ab.length = 16 := fun e => hn ⟨e, h⟩
    exact turned_msk _ av sv F s (s.length / 16) w hs (by omega) (by omega) (by omega) (masks_len c av dk tk ab _ w ⟨kd, kt, c0, c1, k0, k1⟩ ha hal)
  · exact turned_sec _ av sv F w (sector_any w sv s hs false (by simp; omega))

/-- of a cipher that New did not make -/
theorem xenc_raw (c : Nat) (av sv : Value) (s : List Int) (w : World) (c0 : w.cell? ⟨c, 0, none⟩ = some (.pointer none)) (c1 : w.cell? ⟨c, 1, none⟩ = some (.pointer none)) (hs : Byt w sv s) :
    Calls Tryz.prog 20 #[.pointer (some ⟨c, 0, none⟩), av, sv] w fun e w' => e = .returned (.tuple #[.slice none 0 0, .int .i64 2]) ∧ w' = w := by
  refine xenc_turned c _ av sv w c0 fun F => ?_
  by_cases h : 16 ≤ s.length ∧ s.length ≤ 4096 ∧ s.length % 16 = 0
  · exact turned_msk _ av sv F s (s.length / 16) w hs (by omega) (by omega) (by omega) (masks_raw c _ av _ w c1 ⟨_, rfl⟩ (takes_nil av w))
  · exact turned_sec _ av sv F w (sector_any w sv s hs false (by simp; omega))

set_option maxHeartbeats 1000000 in
theorem xdec_any (c : Nat) (av sv : Value) (dk tk ab s : List Int) (N : Nat) (w : World) (hc : Cip w c dk tk) (hdl : dk.length = 32) (hda : AllB dk) (htl : tk.length = 32) (hta : AllB tk) (ha : Byt w av ab) (hal : ab.length = 16) (hs : Byt w sv s) (hsl : s.length = 16 * N) (hN : 1 ≤ N) (hN' : N ≤ 256) :
    Calls Tryz.prog 27 #[.pointer (some ⟨c, 0, none⟩), av, sv] w fun e w' => ∃ v', e = .returned (.tuple #[v', .int .i64 0]) ∧ Byt w' v' (run (xd dk) (nm16 (encr tk ab)) s N) ∧ Below w.heap.size w w' := by
  obtain ⟨kd, kt, c0, c1, k0, k1⟩ := hc
  have HT : Hid (Calls Tryz.prog 35 #[.pointer (some ⟨c, 0, none⟩), av, sv, .func (.func 50) #[.pointer (some ⟨kd, 0, none⟩)] #[]] w fun e w' => ∃ v', e = .returned (.tuple #[v', .int .i64 0]) ∧ Byt w' v' (run (xd dk) (nm16 (encr tk ab)) s N) ∧ Below w.heap.size w w') := turned_dec c kd av sv dk tk ab s N w ⟨kd, kt, c0, c1, k0, k1⟩ k0 hdl hda htl hta ha hal hs hsl hN hN'
  generalize run (xd dk) (nm16 (encr tk ab)) s N = zs at *
  clear c1 k0 k1 hdl hda htl hta ha hal hs hsl hN hN'
  have hmf := make_fn
  go_enter Tryz.func27, Tryz.ntmps27
  go_wp2_with (go_at_call 35; refine (HT.out).mono ?_; rintro e w1 ⟨v1, rfl, y1, B1⟩)
  go_ret2
  exact ⟨_, rfl, y1, B1⟩

set_option maxHeartbeats 1000000 in
theorem xdec_nil (av sv : Value) (w : World) :
    Calls Tryz.prog 27 #[.pointer none, av, sv] w fun e w' => e = .returned (.tuple #[.slice none 0 0, .int .i64 2]) ∧ w' = w := by
  go_enter Tryz.func27, Tryz.ntmps27
  go_wp2
  go_ret2
  exact ⟨rfl, rfl⟩

set_option maxHeartbeats 1000000 in
theorem xdec_turned (c : Nat) (q : Option Addr) (av sv : Value) (w : World) (c0 : w.cell? ⟨c, 0, none⟩ = some (.pointer q)) (ht : ∀ F, Calls Tryz.prog 35 #[.pointer (some ⟨c, 0, none⟩), av, sv, F] w fun e w' => e = .returned (.tuple #[.slice none 0 0, .int .i64 2]) ∧ w' = w) :
    Calls Tryz.prog 27 #[.pointer (some ⟨c, 0, none⟩), av, sv] w fun e w' => e = .returned (.tuple #[.slice none 0 0, .int .i64 2]) ∧ w' = w := by
  have HT : Hid (∀ F, Calls Tryz.prog 35 #[.pointer (some ⟨c, 0, none⟩), av, sv, F] w fun e w' => e = .returned (.tuple #[.slice none 0 0, .int .i64 2]) ∧ w' = w) := ht
  clear ht
  have hmf := make_fn
  go_enter Tryz.func27, Tryz.ntmps27
  go_wp2_with (go_at_call 35; refine (HT.out _).mono ?_; rintro e wx ⟨rfl, hw⟩; obtain rfl := hw.symm)
  go_ret2
  exact ⟨rfl, rfl⟩

/-- of a cipher that New made: the tweak is not sixteen bytes, or the bytes are no sector -/
theorem xdec_no (c : Nat) (av sv : Value) (dk tk ab s : List Int) (w : World) (hc : Cip w c dk tk) (ha : Byt w av ab) (hs : Byt w sv s) (hn : ¬ (ab.length = 16 ∧ 16 ≤ s.length ∧ s.length ≤ 4096 ∧ s.length % 16 = 0)) :
    Calls Tryz.prog 27 #[.pointer (some ⟨c, 0, none⟩), av, sv] w fun e w' => e = .returned (.tuple #[.slice none 0 0, .int .i64 2]) ∧ w' = w := by
  obtain ⟨kd, kt, c0, c1, k0, k1⟩ := hc
  refine xdec_turned c _ av sv w c0 fun F => ?_
  by_cases h : 16 ≤ s.length ∧ s.length ≤ 4096 ∧ s.length % 16 = 0
  · have hal : ¬ ab.length = 16 := fun e => hn ⟨e, h⟩
    exact turned_msk _ av sv F s (s.length / 16) w hs (by omega) (by omega) (by omega) (masks_len c av dk tk ab _ w ⟨kd, kt, c0, c1, k0, k1⟩ ha hal)
  · exact turned_sec _ av sv F w (sector_any w sv s hs false (by simp; omega))

/-- of a cipher that New did not make -/
theorem xdec_raw (c : Nat) (av sv : Value) (s : List Int) (w : World) (c0 : w.cell? ⟨c, 0, none⟩ = some (.pointer none)) (c1 : w.cell? ⟨c, 1, none⟩ = some (.pointer none)) (hs : Byt w sv s) :
    Calls Tryz.prog 27 #[.pointer (some ⟨c, 0, none⟩), av, sv] w fun e w' => e = .returned (.tuple #[.slice none 0 0, .int .i64 2]) ∧ w' = w := by
  refine xdec_turned c _ av sv w c0 fun F => ?_
  by_cases h : 16 ≤ s.length ∧ s.length ≤ 4096 ∧ s.length % 16 = 0
  · exact turned_msk _ av sv F s (s.length / 16) w hs (by omega) (by omega) (by omega) (masks_raw c _ av _ w c1 ⟨_, rfl⟩ (takes_nil av w))
  · exact turned_sec _ av sv F w (sector_any w sv s hs false (by simp; omega))
end Go.Proofs.YtbkaecjkgjkheaaGreatDoor.xt

/- What octet's NumLittle and the reference's Back, Little, Big, NumLittle and Num answer. No claim of its own. -/
namespace Go.Proofs.YtbkaecjkgjkheaaGreatDoor
open Go.RowKit
set_option maxRecDepth 20000

theorem rev_snoc (xs : List Int) (k : Nat) (h : k < xs.length) : xs.reverse.take (k + 1) = xs.reverse.take k ++ [gb xs (xs.length - 1 - k)] := by
  rw [List.take_succ_eq_append_getElem (by simpa using h)]
  simp [gb, List.getD, show xs.length - 1 - k < xs.length by omega]
theorem allB_take {xs : List Int} (h : AllB xs) (k : Nat) : AllB (xs.take k) := allB_mem fun x hx => by
  obtain ⟨i, hi, rfl⟩ := List.getElem_of_mem (List.mem_of_mem_take hx)
  have := h i
  simpa [gb, List.getD, hi] using this

set_option maxHeartbeats 2000000 in
theorem rlittle_any (n k0 : Int) (w : World) (hn : 0 ≤ n ∧ n ≤ 18446744073709551615) :
    Calls Tryz.prog 85 #[.int .u64 n, .int .i64 k0] w fun e w' => ∃ v, e = .returned v ∧ Byt w' v (le n (clamp k0 8)) ∧ Below w.heap.size w w' := by
  have hs : ((clamp k0 8 : Nat) : Int) = min (max k0 0) 8 := by unfold clamp; omega
  generalize hsd : clamp k0 8 = s at hs
  have HS : Hid ((s : Int) = min (max k0 0) 8) := hs
  have hs1 : s ≤ 8 := by omega
  have hn' : Hid (0 ≤ n ∧ n ≤ 18446744073709551615) := hn
  clear hsd hs hn
  go_enter Tryz.func85, Tryz.ntmps85
  go_wp2
  go_loopw [0, 5, 6] (fun m v i wr => ∃ k : Nat, k ≤ s ∧ i = .int .i64 k ∧ m = .int .u64 (sh n k) ∧ Own w.heap.size wr v (le n k) ∧ Below w.heap.size w wr) (fun _ _ i _ => s - (intOf i).toNat)
  case atStart => exact ⟨0, Nat.zero_le _, rfl, rfl, Own.empty w (Nat.le_refl _), (Below.refl _ _).alloc (Nat.le_refl _) _⟩
  case round =>
    obtain ⟨k, hk, rfl, rfl, hown, hbel⟩ := hrel
    have hsz := hbel.size
    by_cases hlt : k < s
    · have h1 : (k : Int) < k0 := by have := HS.out; omega
      have h2 : (k : Int) < 8 := by omega
      have bd := sh_bd n hn'.out k
      have e1 : IntKind.u8.wrap (sh n k % 256) = sh n k % 256 := by rw [IntKind.wrap_u8']; omega
      go_wp2_with (at_builtin; refine push_law wr rfl (.tmp 17) (.tmp 21) rfl w.heap.size (by omega) _ _ (sh n k % 256) rfl rfl hown (by rw [le_len]; omega) ?_; intro v' w1 hown' hbel')
      rw [← le_snoc] at hown'
      go_roundw
      case rel => exact ⟨k + 1, by omega, by go_num, rfl, hown', hbel.trans hbel'⟩
      case measure => simp [intOf]; omega
    · have hks : k = s := by omega
      subst hks
      by_cases h1 : (k : Int) < k0
      · have h2 : ¬ (k : Int) < 8 := by have := HS.out; omega
        go_wp2
        go_ret
        exact ⟨_, rfl, hown.byt (le_all _ _), hbel⟩
      · go_wp2
        go_ret
        exact ⟨_, rfl, hown.byt (le_all _ _), hbel⟩

set_option maxHeartbeats 2000000 in
theorem bak_any (v : Value) (xs : List Int) (w : World) (hb : Byt w v xs) (hl : xs.length ≤ 1048576) :
    Calls Tryz.prog 84 #[v] w fun e w' => ∃ v', e = .returned v' ∧ Byt w' v' xs.reverse ∧ Below w.heap.size w w' := by
  obtain ⟨ao, cap, rfl, h1, h2, h3, -, h5⟩ := hb
  have H5 : Hid (0 < xs.length → ∃ b off, ao = some ⟨b, off, none⟩ ∧ ∀ t, t < xs.length → w.cell? ⟨b, off + t, none⟩ = some (.int .u8 (gb xs t))) := h5
  have HA : Hid (AllB xs) := h3
  clear h5 h3
  go_enter Tryz.func84, Tryz.ntmps84
  go_wp2
  go_loopw [3, 4] (fun v i wr => ∃ k : Nat, k ≤ xs.length ∧ i = .int .i64 ((xs.length : Int) - 1 - k) ∧ Own w.heap.size wr v (xs.reverse.take k) ∧ Below w.heap.size w wr) (fun _ i _ => (intOf i + 1).toNat)
  case atStart => exact ⟨0, Nat.zero_le _, by simp, Own.empty w (Nat.le_refl _), (Below.refl _ _).alloc (Nat.le_refl _) _⟩
  case round =>
    obtain ⟨k, hk, rfl, hown, hbel⟩ := hrel
    have hsz := hbel.size
    by_cases hlt : k < xs.length
    · obtain ⟨b, off, rfl, hca⟩ := H5.out (by omega)
      have c0 := hca (xs.length - 1 - k) (by omega)
      have c1 : wr.cell? ⟨b, off + (xs.length - 1 - k), none⟩ = some (.int .u8 (gb xs (xs.length - 1 - k))) := by rw [hbel.cell (World.block_lt_of_cell? w _ c0)]; exact c0
      have e2 : ((xs.length : Int) - 1 - (k : Int)).toNat = xs.length - 1 - k := by omega
      clear c0 hca
      go_wp2_with (at_builtin; refine push_law wr rfl (.tmp 13) (.tmp 18) rfl w.heap.size (by omega) _ _ (gb xs (xs.length - 1 - k)) rfl rfl hown (by simp; omega) ?_; intro v' w1 hown' hbel')
      rw [← rev_snoc xs k hlt] at hown'
      go_roundw
      case rel => exact ⟨k + 1, by omega, by go_num, hown', hbel.trans hbel'⟩
      case measure => simp [intOf]; omega
    · have hks : k = xs.length := by omega
      subst hks
      rw [List.take_of_length_le (by simp)] at hown
      go_wp2
      go_ret
      exact ⟨_, rfl, hown.byt (allB_reverse HA.out), hbel⟩

/-- the number of the first eight bytes, the least first -/
def numL (xs : List Int) : Int := num (xs.take 8).reverse
theorem numL_rev (xs : List Int) : numL xs.reverse = num (last8 xs) := by
  unfold numL last8; rw [List.take_reverse, List.reverse_reverse]
theorem take8_snoc (xs : List Int) (s k : Nat) (hs : s = min xs.length 8) (h : k < s) : (xs.take 8).reverse.take (k + 1) = (xs.take 8).reverse.take k ++ [gb xs (s - 1 - k)] := by
  have hl : (xs.take 8).length = s := by simp; omega
  rw [rev_snoc (xs.take 8) k (by omega), hl]
  have : gb (xs.take 8) (s - 1 - k) = gb xs (s - 1 - k) := by simp [gb, List.getD, show s - 1 - k < 8 by omega]
  rw [this]

theorem mul_add (n x : Int) (hx : 0 ≤ x ∧ x ≤ 255) : IntKind.u64.wrap (IntKind.u64.wrap (n * 256) + x) = n * 256 % 18446744073709551616 + x := by
  rw [IntKind.wrap_u64, IntKind.wrap_u64]; omega

set_option maxHeartbeats 2000000 in
theorem rnumLittle_any (v : Value) (xs : List Int) (w : World) (hb : Byt w v xs) :
    Calls Tryz.prog 129 #[v] w fun e w' => e = .returned (.int .u64 (numL xs)) ∧ w' = w := by
  obtain ⟨ao, cap, rfl, h1, h2, h3, -, h5⟩ := hb
  have H5 : Hid (0 < xs.length → ∃ b off, ao = some ⟨b, off, none⟩ ∧ ∀ t, t < xs.length → w.cell? ⟨b, off + t, none⟩ = some (.int .u8 (gb xs t))) := h5
  have HA : Hid (AllB xs) := h3
  clear h5 h3
  obtain ⟨s, hs⟩ : ∃ s, s = min xs.length 8 := ⟨_, rfl⟩
  have HS2 : Hid (s = min xs.length 8) := hs
  have hs1 : s ≤ 8 := by omega
  have hs2 : s ≤ xs.length := by omega
  clear hs
  go_enter Tryz.func129, Tryz.ntmps129
  go_wp2
  all_goals
    go_loop [3, 4] (fun n i => ∃ k : Nat, k ≤ s ∧ i = .int .i64 ((s : Int) - 1 - k) ∧ n = .int .u64 (num ((xs.take 8).reverse.take k))) (fun _ i => (intOf i + 1).toNat)
    case atStart => exact ⟨0, Nat.zero_le _, by have := HS2.out; congr 1; omega, rfl⟩
    case round =>
      obtain ⟨k, hk, rfl, rfl⟩ := hrel
      by_cases hlt : k < s
      · obtain ⟨b, off, rfl, hca⟩ := H5.out (by omega)
        have c0 := hca (s - 1 - k) (by omega)
        have e2 : ((s : Int) - 1 - (k : Int)).toNat = s - 1 - k := by omega
        clear hca
        have SN : Hid (num ((xs.take 8).reverse.take (k + 1)) = num ((xs.take 8).reverse.take k) * 256 % 18446744073709551616 + gb xs (s - 1 - k)) := by
          show _ = _
          rw [take8_snoc xs s k HS2.out hlt, num_snoc]
        have gbd := HA.out (s - 1 - k)
        go_wp2
        go_round
        case rel => exact ⟨k + 1, by omega, by go_num, by rw [SN.out, mul_add _ _ (HA.out _)]⟩
        case measure => simp [intOf]; omega
      · have hks : k = s := by omega
        have e : Hid ((xs.take 8).reverse.take k = (xs.take 8).reverse) := List.take_of_length_le (by have := HS2.out; simp; omega)
        rw [e.out]
        go_wp2
        go_ret
        exact ⟨rfl, rfl⟩

set_option maxHeartbeats 2000000 in
theorem rbig_any (n k0 : Int) (w : World) (hn : 0 ≤ n ∧ n ≤ 18446744073709551615) :
    Calls Tryz.prog 44 #[.int .u64 n, .int .i64 k0] w fun e w' => ∃ v, e = .returned v ∧ Byt w' v (le n (clamp k0 8)).reverse ∧ Below w.heap.size w w' := by
  have hs := clamp_le k0 8 (by omega)
  have hn' : Hid (0 ≤ n ∧ n ≤ 18446744073709551615) := hn
  clear hn
  go_enter Tryz.func44, Tryz.ntmps44
  go_wp2_with (first
    | (go_at_call 85; refine (rlittle_any n k0 _ hn'.out).mono ?_; rintro e w1 ⟨v1, rfl, hv1, hb1⟩; have hz1 := hb1.size)
    | (go_at_call 84; refine (bak_any v1 _ _ hv1 (by rw [le_len]; omega)).mono ?_; rintro e w2 ⟨v2, rfl, hv2, hb2⟩))
  go_ret
  exact ⟨_, rfl, hv2, hb1.trans (hb2.mono hz1)⟩

set_option maxHeartbeats 2000000 in
theorem rnum_any (v : Value) (xs : List Int) (w : World) (hb : Byt w v xs) (hl : xs.length ≤ 1048576) :
    Calls Tryz.prog 126 #[v] w fun e w' => e = .returned (.int .u64 (num (last8 xs))) ∧ Below w.heap.size w w' := by
  rw [← numL_rev]
  go_enter Tryz.func126, Tryz.ntmps126
  go_wp2_with (first
    | (go_at_call 84; refine (bak_any v _ _ hb hl).mono ?_; rintro e w2 ⟨v2, rfl, hv2, hb2⟩)
    | (go_at_call 129; refine (rnumLittle_any v2 _ _ hv2).mono ?_; rintro e w3 ⟨rfl, hw⟩; obtain rfl := hw.symm))
  go_ret
  exact ⟨rfl, hb2⟩

theorem num_le (n : Int) (hn : 0 ≤ n ∧ n ≤ 18446744073709551615) : num (le n 8).reverse = n := by
  simp only [num, le, List.range, List.range.loop, List.map_cons, List.map_nil, List.reverse_cons, List.reverse_nil, List.nil_append, List.cons_append, List.foldl_cons, List.foldl_nil, sh]
  omega
theorem clamp88 : clamp 8 8 = 8 := by decide
theorem numL_le (n : Int) (hn : 0 ≤ n ∧ n ≤ 18446744073709551615) : numL (le n 8) = n := by
  unfold numL; rw [List.take_of_length_le (by rw [le_len]; omega)]; exact num_le n hn
theorem last8_le (n : Int) (hn : 0 ≤ n ∧ n ≤ 18446744073709551615) : num (last8 (le n 8).reverse) = n := by
  unfold last8; rw [List.length_reverse, le_len]; exact num_le n hn
end Go.Proofs.YtbkaecjkgjkheaaGreatDoor

/- The words of 32 bits: how they are rotated, and what the small functions of sha and of its reference answer. No claim of its own. -/
namespace Go.Proofs.YtbkaecjkgjkheaaGreatDoor.mc
open Go.RowKit
set_option maxRecDepth 20000

/-- a word rotated to the right -/
def rr (x : Int) (n : Nat) : Int := x / 2 ^ n + x % 2 ^ n * 2 ^ (32 - n)
def xr3 (a b c : Int) : Int := bits .xor .u32 (bits .xor .u32 a b) c
def sg0 (x : Int) : Int := xr3 (rr x 7) (rr x 18) (x / 8)
def sg1 (x : Int) : Int := xr3 (rr x 17) (rr x 19) (x / 1024)
def bg0 (x : Int) : Int := xr3 (rr x 2) (rr x 13) (rr x 22)
def bg1 (x : Int) : Int := xr3 (rr x 6) (rr x 11) (rr x 25)
def chs (x y z : Int) : Int := bits .xor .u32 (bits .and .u32 x y) (bits .and .u32 (4294967295 - x) z)
def maj (x y z : Int) : Int := xr3 (bits .and .u32 x y) (bits .and .u32 x z) (bits .and .u32 y z)

/-- a number of 32 bits -/
def W32 (x : Int) : Prop := 0 ≤ x ∧ x ≤ 4294967295

theorem not_u32 (x : Int) (hx : W32 x) : bits .xor .u32 IntKind.u32.max x = 4294967295 - x := by
  have e : IntKind.u32.max = 4294967295 := rfl
  rw [e, u32_xor _ _ (by omega) (by omega) hx.1 (by have := hx.2; omega)]
  obtain ⟨n, rfl⟩ := Int.eq_ofNat_of_zero_le hx.1
  have h2 : n < 2 ^ 32 := by have := hx.2; omega
  show ((4294967295 ^^^ n : Nat) : Int) = _
  have h3 : 4294967295 ^^^ n = 4294967295 - n := by
    have e : 4294967295 - n = 2 ^ 32 - (n + 1) := by omega
    rw [e]
    apply Nat.eq_of_testBit_eq
    intro i
    rw [Nat.testBit_xor, Nat.testBit_two_pow_sub_succ h2, show 4294967295 = 2 ^ 32 - 1 from rfl, Nat.testBit_two_pow_sub_one]
    by_cases hi : i < 32
    · simp [hi]
    · have : n.testBit i = false := Nat.testBit_lt_two_pow (Nat.lt_of_lt_of_le h2 (Nat.pow_le_pow_right (by omega) (by omega)))
      simp [hi, this]
  rw [h3]; omega

set_option maxHeartbeats 1000000 in
theorem choose_any (x y z : Int) (w : World) (hx : W32 x) :
    Calls Tryz.prog 105 #[.int .u32 x, .int .u32 y, .int .u32 z] w fun e w' => e = .returned (.int .u32 (chs x y z)) ∧ w' = w := by
  have HX : Hid (bits .xor .u32 IntKind.u32.max x = 4294967295 - x) := not_u32 x hx
  clear hx
  go_enter Tryz.func105, Tryz.ntmps105
  go_wp2
  go_ret
  refine ⟨ret_int ?_, rfl⟩
  rw [HX.out]; rfl

set_option maxHeartbeats 1000000 in
theorem majority_any (x y z : Int) (w : World) :
    Calls Tryz.prog 107 #[.int .u32 x, .int .u32 y, .int .u32 z] w fun e w' => e = .returned (.int .u32 (maj x y z)) ∧ w' = w := by
  go_enter Tryz.func107, Tryz.ntmps107
  go_wp2
  go_ret
  exact ⟨rfl, rfl⟩

theorem and31 (n : Nat) (h : 1 ≤ n ∧ n ≤ 31) : bits .and .u64 (IntKind.u64.wrap (-(n : Int))) 31 = 32 - n := by
  have h3 := u64_and (18446744073709551616 - (n : Int)) 31 (by omega) (by omega) (by omega) (by omega)
  rw [IntKind.wrap_u64, show -(n : Int) % 18446744073709551616 = 18446744073709551616 - n by omega, h3]
  have : (18446744073709551616 - (n : Int)).toNat = 18446744073709551616 - n := by omega
  rw [this, show (31 : Int).toNat = 2 ^ 5 - 1 from rfl, Nat.and_two_pow_sub_one_eq_mod]
  omega

theorem rot_eq (x : Int) (n : Nat) (hx : W32 x) (hn : 1 ≤ n ∧ n ≤ 31) : bits .or .u32 (x * 2 ^ (32 - n) % 4294967296) (x / 2 ^ (32 - (32 - n))) = rr x n := by
  obtain ⟨y, rfl⟩ := Int.eq_ofNat_of_zero_le hx.1
  have hy : y < 2 ^ 32 := by have := hx.2; omega
  have en : 32 - (32 - n) = n := by omega
  have e1 : (y : Int) * 2 ^ (32 - n) % 4294967296 = ((y % 2 ^ n * 2 ^ (32 - n) : Nat) : Int) := by
    have : y * 2 ^ (32 - n) % (2 ^ n * 2 ^ (32 - n)) = y % 2 ^ n * 2 ^ (32 - n) := Nat.mul_mod_mul_right _ _ _
    rw [← this, ← Nat.pow_add, show n + (32 - n) = 32 by omega]
    simp
  have e2 : (y : Int) / 2 ^ n = ((y / 2 ^ n : Nat) : Int) := by simp
  have e3 : (y : Int) % 2 ^ n = ((y % 2 ^ n : Nat) : Int) := by simp
  have h1 : y / 2 ^ n < 2 ^ (32 - n) := by
    rw [Nat.div_lt_iff_lt_mul (Nat.two_pow_pos n), ← Nat.pow_add, show 32 - n + n = 32 by omega]; exact hy
  have h2 : y % 2 ^ n * 2 ^ (32 - n) < 2 ^ 32 := by
    have : y % 2 ^ n < 2 ^ n := Nat.mod_lt _ (Nat.two_pow_pos n)
    calc y % 2 ^ n * 2 ^ (32 - n) < 2 ^ n * 2 ^ (32 - n) := Nat.mul_lt_mul_of_pos_right this (Nat.two_pow_pos _)
      _ = 2 ^ 32 := by rw [← Nat.pow_add, show n + (32 - n) = 32 by omega]
  have h3 : 2 ^ (32 - n) ≤ 2 ^ 32 := Nat.pow_le_pow_right (by omega) (by omega)
  rw [en, e1, e2, u32_or_nat _ _ (by omega) (by omega), rr, e2, e3]
  have e4 : y % 2 ^ n * 2 ^ (32 - n) ||| y / 2 ^ n = y % 2 ^ n * 2 ^ (32 - n) + y / 2 ^ n := by
    have := Nat.two_pow_add_eq_or_of_lt h1 (y % 2 ^ n)
    rw [Nat.mul_comm, this]
  rw [e4]
  simp
  omega

set_option maxHeartbeats 1000000 in
theorem rotateLeft_any (x : Int) (n : Nat) (w : World) (hx : W32 x) (hn : 1 ≤ n ∧ n ≤ 31) :
    Calls Tryz.prog 118 #[.int .u32 x, .int .i64 (-(n : Int))] w fun e w' => e = .returned (.int .u32 (rr x n)) ∧ w' = w := by
  have HX : Hid (W32 x) := hx
  have h1 := and31 n hn
  have h2 : ((32 : Int) - n).toNat = 32 - n := by omega
  clear hx
  go_enter Tryz.func118, Tryz.ntmps118
  go_wp2
  go_ret
  refine ⟨ret_int ?_, rfl⟩
  exact rot_eq x n HX.out hn

set_option maxHeartbeats 1000000 in
theorem power_any (n : Nat) (w : World) (hn : n ≤ 31) :
    Calls Tryz.prog 127 #[.int .i64 n] w fun e w' => e = .returned (.int .u32 (2 ^ n)) ∧ w' = w := by
  have HP : ∀ k : Nat, k < n → Hid (IntKind.u32.wrap ((2 : Int) ^ k * 2) = 2 ^ (k + 1)) := by
    intro k hk
    show _ = _
    rw [IntKind.wrap_u32, Int.pow_succ]
    have h1 : 2 ^ k ≤ 2 ^ 30 := Nat.pow_le_pow_right (by omega) (by omega)
    have h2 : ((2 ^ k : Nat) : Int) = 2 ^ k := by simp
    rw [← h2]
    generalize 2 ^ k = q at h1
    omega
  go_enter Tryz.func127, Tryz.ntmps127
  go_wp2
  go_loop [3, 4] (fun p i => ∃ k : Nat, k ≤ n ∧ i = .int .i64 k ∧ p = .int .u32 (2 ^ k)) (fun _ i => n - (intOf i).toNat)
  case atStart => exact ⟨0, Nat.zero_le _, rfl, rfl⟩
  case round =>
    obtain ⟨k, hk, rfl, rfl⟩ := hrel
    by_cases hlt : k < n
    · have H := HP k hlt
      clear HP
      obtain ⟨p, hp⟩ : ∃ p : Int, p = 2 ^ k := ⟨_, rfl⟩
      rw [← hp] at H ⊢
      clear hp
      go_wp2
      go_round
      case rel => exact ⟨k + 1, by omega, by go_num, by rw [← H.out, IntKind.wrap_u32]⟩
      case measure => simp [intOf]; omega
    · have hks : k = n := by omega
      subst hks
      clear HP
      go_wp2
      go_ret
      exact ⟨rfl, rfl⟩

set_option maxHeartbeats 1000000 in
theorem rotateRight_any (x : Int) (n : Nat) (w : World) (hx : W32 x) (hn : 1 ≤ n ∧ n ≤ 31) :
    Calls Tryz.prog 125 #[.int .u32 x, .int .i64 n] w fun e w' => e = .returned (.int .u32 (rr x n)) ∧ w' = w := by
  have HX : Hid (W32 x) := hx
  have h1 : IntKind.i64.wrap (-(n : Int)) = -(n : Int) := by rw [IntKind.wrap_i64]; omega
  clear hx
  go_enter Tryz.func125, Tryz.ntmps125
  go_wp2_with (go_at_call 118; refine (rotateLeft_any x n _ HX.out hn).mono ?_; rintro e w' ⟨rfl, hw⟩; obtain rfl := hw.symm)
  go_ret
  exact ⟨rfl, rfl⟩

theorem rr_bd (x : Int) (n : Nat) (hx : W32 x) (hn : 1 ≤ n ∧ n ≤ 31) : W32 (rr x n) := by
  rw [← rot_eq x n hx hn]
  have := bounds_u32 (wf_bits .or .u32 (x * 2 ^ (32 - n) % 4294967296) (x / 2 ^ (32 - (32 - n))))
  exact ⟨this.1, by omega⟩
theorem bits_bd (o : BinOp) (a b : Int) : W32 (bits o .u32 a b) := by
  have := bounds_u32 (wf_bits o .u32 a b)
  exact ⟨this.1, by omega⟩

set_option maxHeartbeats 1000000 in
theorem smallSigma0_any (x : Int) (w : World) (hx : W32 x) :
    Calls Tryz.prog 124 #[.int .u32 x] w fun e w' => e = .returned (.int .u32 (sg0 x)) ∧ w' = w := by
  have HX : Hid (W32 x) := hx
  clear hx
  go_enter Tryz.func124, Tryz.ntmps124
  go_wp2_with (first
    | (go_at_call_of 125 (Value.int .i64 7); refine (rotateRight_any x 7 _ HX.out (by omega)).mono ?_; rintro e w' ⟨rfl, hw⟩; obtain rfl := hw.symm)
    | (go_at_call_of 125 (Value.int .i64 18); refine (rotateRight_any x 18 _ HX.out (by omega)).mono ?_; rintro e w' ⟨rfl, hw⟩; obtain rfl := hw.symm))
  go_ret
  exact ⟨rfl, rfl⟩

set_option maxHeartbeats 1000000 in
theorem smallSigma1_any (x : Int) (w : World) (hx : W32 x) :
    Calls Tryz.prog 123 #[.int .u32 x] w fun e w' => e = .returned (.int .u32 (sg1 x)) ∧ w' = w := by
  have HX : Hid (W32 x) := hx
  clear hx
  go_enter Tryz.func123, Tryz.ntmps123
  go_wp2_with (first
    | (go_at_call_of 125 (Value.int .i64 17); refine (rotateRight_any x 17 _ HX.out (by omega)).mono ?_; rintro e w' ⟨rfl, hw⟩; obtain rfl := hw.symm)
    | (go_at_call_of 125 (Value.int .i64 19); refine (rotateRight_any x 19 _ HX.out (by omega)).mono ?_; rintro e w' ⟨rfl, hw⟩; obtain rfl := hw.symm))
  go_ret
  exact ⟨rfl, rfl⟩

set_option maxHeartbeats 1000000 in
theorem bigSigma0_any (x : Int) (w : World) (hx : W32 x) :
    Calls Tryz.prog 106 #[.int .u32 x] w fun e w' => e = .returned (.int .u32 (bg0 x)) ∧ w' = w := by
  have HX : Hid (W32 x) := hx
  clear hx
  go_enter Tryz.func106, Tryz.ntmps106
  go_wp2_with (first
    | (go_at_call_of 125 (Value.int .i64 2); refine (rotateRight_any x 2 _ HX.out (by omega)).mono ?_; rintro e w' ⟨rfl, hw⟩; obtain rfl := hw.symm)
    | (go_at_call_of 125 (Value.int .i64 13); refine (rotateRight_any x 13 _ HX.out (by omega)).mono ?_; rintro e w' ⟨rfl, hw⟩; obtain rfl := hw.symm)
    | (go_at_call_of 125 (Value.int .i64 22); refine (rotateRight_any x 22 _ HX.out (by omega)).mono ?_; rintro e w' ⟨rfl, hw⟩; obtain rfl := hw.symm))
  go_ret
  exact ⟨rfl, rfl⟩

set_option maxHeartbeats 1000000 in
theorem bigSigma1_any (x : Int) (w : World) (hx : W32 x) :
    Calls Tryz.prog 104 #[.int .u32 x] w fun e w' => e = .returned (.int .u32 (bg1 x)) ∧ w' = w := by
  have HX : Hid (W32 x) := hx
  clear hx
  go_enter Tryz.func104, Tryz.ntmps104
  go_wp2_with (first
    | (go_at_call_of 125 (Value.int .i64 6); refine (rotateRight_any x 6 _ HX.out (by omega)).mono ?_; rintro e w' ⟨rfl, hw⟩; obtain rfl := hw.symm)
    | (go_at_call_of 125 (Value.int .i64 11); refine (rotateRight_any x 11 _ HX.out (by omega)).mono ?_; rintro e w' ⟨rfl, hw⟩; obtain rfl := hw.symm)
    | (go_at_call_of 125 (Value.int .i64 25); refine (rotateRight_any x 25 _ HX.out (by omega)).mono ?_; rintro e w' ⟨rfl, hw⟩; obtain rfl := hw.symm))
  go_ret
  exact ⟨rfl, rfl⟩

theorem pow_bd (n : Nat) (hn : n ≤ 31) : (1 : Int) ≤ 2 ^ n ∧ (2 : Int) ^ n ≤ 2147483648 := by
  have h1 : 2 ^ n ≤ 2 ^ 31 := Nat.pow_le_pow_right (by omega) hn
  have h0 : 0 < 2 ^ n := Nat.two_pow_pos n
  have h2 : ((2 ^ n : Nat) : Int) = 2 ^ n := by simp
  rw [← h2]
  generalize 2 ^ n = q at h1 h0
  omega

set_option maxHeartbeats 2000000 in
theorem rotr_any (x : Int) (n : Nat) (w : World) (hx : W32 x) (hn : 1 ≤ n ∧ n ≤ 31) :
    Calls Tryz.prog 114 #[.int .u32 x, .int .i64 n] w fun e w' => e = .returned (.int .u32 (rr x n)) ∧ ∃ d, w' = w.drewN d := by
  have HB : Hid (W32 (rr x n)) := rr_bd x n hx hn
  have hp1 := pow_bd n hn.2
  have hq1 := pow_bd (32 - n) (by omega)
  have PA : Hid (∀ w0, Calls Tryz.prog 127 #[.int .i64 n] w0 fun e w' => e = .returned (.int .u32 (2 ^ n)) ∧ w' = w0) := fun w0 => power_any n w0 (by omega)
  have QA : Hid (∀ w0, Calls Tryz.prog 127 #[.int .i64 (32 - (n : Int))] w0 fun e w' => e = .returned (.int .u32 (2 ^ (32 - n))) ∧ w' = w0) := fun w0 => by
    have := power_any (32 - n) w0 (by omega)
    rwa [show ((32 - n : Nat) : Int) = 32 - (n : Int) by omega] at this
  have HR : Hid (rr x n = x / 2 ^ n + x % 2 ^ n * 2 ^ (32 - n)) := rfl
  obtain ⟨hx1, hx2⟩ := hx
  generalize (2 : Int) ^ n = p at *
  generalize (2 : Int) ^ (32 - n) = q at *
  have hp0 : ¬ p = 0 := by omega
  go_enter Tryz.func114, Tryz.ntmps114
  go_wp2
  go_quiet (first
    | (go_at_call_of 127 (Value.int .i64 (n : Int)); exact Calls.quiet_of_same (PA.out _))
    | (go_at_call 127; exact Calls.quiet_of_same (QA.out _)))
  go_wp2
  go_ret
  refine ⟨ret_int ?_, _, rfl⟩
  have h1 := HR.out
  have h2 := HB.out
  rw [h1] at h2 ⊢
  unfold W32 at h2
  generalize x / p = A at *
  generalize x % p * q = B at *
  omega
end Go.Proofs.YtbkaecjkgjkheaaGreatDoor.mc

/- The constants and the first state, of sha and of its reference. No claim of its own. -/
namespace Go.Proofs.YtbkaecjkgjkheaaGreatDoor.mc
open Go.RowKit
set_option maxRecDepth 20000

def kc : List Int := [0x428a2f98, 0x71374491, 0xb5c0fbcf, 0xe9b5dba5, 0x3956c25b, 0x59f111f1, 0x923f82a4, 0xab1c5ed5,
  0xd807aa98, 0x12835b01, 0x243185be, 0x550c7dc3, 0x72be5d74, 0x80deb1fe, 0x9bdc06a7, 0xc19bf174,
  0xe49b69c1, 0xefbe4786, 0x0fc19dc6, 0x240ca1cc, 0x2de92c6f, 0x4a7484aa, 0x5cb0a9dc, 0x76f988da,
  0x983e5152, 0xa831c66d, 0xb00327c8, 0xbf597fc7, 0xc6e00bf3, 0xd5a79147, 0x06ca6351, 0x14292967,
  0x27b70a85, 0x2e1b2138, 0x4d2c6dfc, 0x53380d13, 0x650a7354, 0x766a0abb, 0x81c2c92e, 0x92722c85,
  0xa2bfe8a1, 0xa81a664b, 0xc24b8b70, 0xc76c51a3, 0xd192e819, 0xd6990624, 0xf40e3585, 0x106aa070,
  0x19a4c116, 0x1e376c08, 0x2748774c, 0x34b0bcb5, 0x391c0cb3, 0x4ed8aa4a, 0x5b9cca4f, 0x682e6ff3,
  0x748f82ee, 0x78a5636f, 0x84c87814, 0x8cc70208, 0x90befffa, 0xa4506ceb, 0xbef9a3f7, 0xc67178f2]
def fst8 : List Int := [0x6a09e667, 0xbb67ae85, 0x3c6ef372, 0xa54ff53a, 0x510e527f, 0x9b05688c, 0x1f83d9ab, 0x5be0cd19]
/-- numbers as values -/
def ints (k : IntKind) (xs : List Int) : Array Value := (xs.map (Value.int k)).toArray

theorem ints_size (k : IntKind) (xs : List Int) : (ints k xs).size = xs.length := by simp [ints]
theorem ints_toList (k : IntKind) (xs : List Int) : (ints k xs).toList = xs.map (Value.int k) := by simp [ints]
theorem ints_one (k : IntKind) (xs : List Int) : (ints k xs).all (·.oneCell') = true := by
  rw [Array.all_eq_true_iff_forall_mem]
  intro v hv
  simp only [ints, List.mem_toArray, List.mem_map] at hv
  obtain ⟨x, _, rfl⟩ := hv
  rfl

set_option maxHeartbeats 2000000 in
theorem firstState_any (w : World) :
    Calls Tryz.prog 101 #[] w fun e w' => e = .returned (.agg (ints .u32 fst8)) ∧ Below w.heap.size w w' := by
  go_enter Tryz.func101, Tryz.ntmps101
  go_wp2
  refine bodyPost_ret (v := .agg (ints .u32 fst8)) ?_ rfl ⟨rfl, (Below.refl _ _).alloc (Nat.le_refl _) _⟩
  exact results_cell_row rfl _ _ w.heap.size 104 (ints .u32 fst8) (0, 0) _ rfl (heap_alloc_last w _) Tryz.underlying104 rfl (by kernel_rfl)
end Go.Proofs.YtbkaecjkgjkheaaGreatDoor.mc

/- Numbers that lie in a row of a block: how they are read, written, copied, and how they last. No claim of its own. -/
namespace Go.Proofs.YtbkaecjkgjkheaaGreatDoor.mc
open Go.RowKit
set_option maxRecDepth 20000

/-- the numbers xs lie in block b from place o on, and may be written -/
def Ar (w : World) (b o : Nat) (k : IntKind) (xs : List Int) : Prop := w.rangeAt b o (xs.map (Value.int k)) ∧ w.there b o xs.length

theorem Ar.cell {w : World} {b o : Nat} {k : IntKind} {xs : List Int} (h : Ar w b o k xs) (i : Nat) (hi : i < xs.length) : w.cell? ⟨b, o + i, none⟩ = some (.int k (gb xs i)) :=
  h.1 i _ (by simp [gb, List.getD, hi])
theorem Ar.cell0 {w : World} {b : Nat} {k : IntKind} {xs : List Int} (h : Ar w b 0 k xs) (i : Nat) (hi : i < xs.length) : w.cell? ⟨b, i, none⟩ = some (.int k (gb xs i)) := by
  have := h.cell i hi
  rwa [Nat.zero_add] at this
theorem Ar.free {w : World} {b o : Nat} {k : IntKind} {xs : List Int} (h : Ar w b o k xs) (i : Nat) (hi : i < xs.length) : w.frozen? ⟨b, o + i, none⟩ = false := (h.2 i hi).2
theorem Ar.free0 {w : World} {b : Nat} {k : IntKind} {xs : List Int} (h : Ar w b 0 k xs) (i : Nat) (hi : i < xs.length) : w.frozen? ⟨b, i, none⟩ = false := by
  have := h.free i hi
  rwa [Nat.zero_add] at this
theorem Ar.mk {w : World} {b o : Nat} {k : IntKind} {xs : List Int} (h : ∀ i, i < xs.length → w.cell? ⟨b, o + i, none⟩ = some (.int k (gb xs i)) ∧ w.frozen? ⟨b, o + i, none⟩ = false) : Ar w b o k xs := by
  refine ⟨fun j v hv => ?_, fun j hj => ?_⟩
  · have hj : j < xs.length := by have := (List.getElem?_eq_some_iff.1 hv).1; simpa using this
    rw [(h j hj).1, ← hv]
    simp [gb, List.getD, hj]
  · exact ⟨by rw [(h j hj).1]; rfl, (h j hj).2⟩
theorem Ar.lt {w : World} {b o : Nat} {k : IntKind} {xs : List Int} (h : Ar w b o k xs) (hp : 0 < xs.length) : b < w.heap.size := World.block_lt_of_cell? w _ (h.cell 0 hp)
theorem Ar.heap {w w' : World} {b o : Nat} {k : IntKind} {xs : List Int} (h : Ar w b o k xs) (e : w'.heap[b]? = w.heap[b]?) : Ar w' b o k xs :=
  Ar.mk fun i hi => ⟨by rw [World.cell?_of_block (w := w) (w' := w') (a := ⟨b, o + i, none⟩) e]; exact h.cell i hi, by rw [World.frozen?_of_block (w := w) (w' := w') (a := ⟨b, o + i, none⟩) e]; exact h.free i hi⟩
theorem Ar.below {w w' : World} {b o B : Nat} {k : IntKind} {xs : List Int} (h : Ar w b o k xs) (hb : Below B w w') (hB : b < B) : Ar w' b o k xs := h.heap (hb.block b hB)
theorem Ar.alloc {w : World} {b o : Nat} {k : IntKind} {xs : List Int} (h : Ar w b o k xs) (ob : Obj) : Ar (w.alloc ob) b o k xs := ⟨World.rangeAt_alloc h.1 ob, World.there_alloc h.2 ob⟩
theorem Ar.drewN {w : World} {b o : Nat} {k : IntKind} {xs : List Int} (h : Ar w b o k xs) (n : Nat) : Ar (w.drewN n) b o k xs := h.heap rfl
theorem Ar.other {w : World} {b o : Nat} {k : IntKind} {xs : List Int} (h : Ar w b o k xs) {p : Addr} (hp : b ≠ p.block) (u : Value) : Ar (w.setCell p u) b o k xs := h.heap (Below.heap_setCell w p u b hp)
theorem Ar.new (w : World) (t : TypeId) (k : IntKind) (xs : List Int) : Ar (w.alloc (.cells (ints k xs) t)) w.heap.size 0 k xs :=
  Ar.mk fun i hi => by
    have e := cell_of_row (w.alloc (.cells (ints k xs) t)) w.heap.size (0 + i) _ t (0, 0) (heap_alloc_last w _)
    refine ⟨by rw [e]; simp [ints, gb, List.getD, hi], ?_⟩
    exact World.frozen?_alloc_at _ _ _ _ rfl
theorem Ar.set {w : World} {b o : Nat} {k : IntKind} {xs : List Int} (h : Ar w b o k xs) (i : Nat) (hi : i < xs.length) (x : Int) : Ar (w.setCell ⟨b, o + i, none⟩ (.int k x)) b o k (xs.set i x) :=
  Ar.mk fun j hj => by
    rw [List.length_set] at hj
    refine ⟨?_, by rw [World.frozen?_setCell]; exact h.free j hj⟩
    by_cases e : i = j
    · subst e
      rw [World.cell?_setCell_same _ _ _ (h.cell i hi)]
      simp [gb, List.getD, hi]
    · rw [World.cell?_setCell_other _ _ _ _ (by intro hh; injection hh with _ h2; omega), h.cell j hj]
      simp [gb, List.getD, e]
theorem Ar.set0 {w : World} {b : Nat} {k : IntKind} {xs : List Int} (h : Ar w b 0 k xs) (i : Nat) (hi : i < xs.length) (x : Int) : Ar (w.setCell ⟨b, i, none⟩ (.int k x)) b 0 k (xs.set i x) := by
  have := h.set i hi x
  rwa [Nat.zero_add] at this
/-- what lies apart in the same block -/
theorem Ar.apart {w : World} {b o : Nat} {k : IntKind} {xs : List Int} (h : Ar w b o k xs) (b' o' : Nat) (vs : List Value) (hap : b ≠ b' ∨ o + xs.length ≤ o' ∨ o' + vs.length ≤ o) : Ar (w.setCells b' o' vs) b o k xs :=
  ⟨World.rangeAt_setCells_apart h.1 b' o' vs (by simpa using hap), World.there_setCells h.2 b' o' vs⟩
/-- a part is written -/
def laid (xs : List Int) (s : Nat) (ys : List Int) : List Int := xs.take s ++ ys ++ xs.drop (s + ys.length)
theorem laid_len (xs : List Int) (s : Nat) (ys : List Int) (h : s + ys.length ≤ xs.length) : (laid xs s ys).length = xs.length := by simp [laid]; omega
theorem gb_laid (xs : List Int) (s : Nat) (ys : List Int) (hs : s + ys.length ≤ xs.length) (j : Nat) : gb (laid xs s ys) j = if j < s then gb xs j else if j < s + ys.length then gb ys (j - s) else gb xs j := by
  have hm : (xs.take s).length = s := by simp; omega
  unfold gb laid
  by_cases h1 : j < s
  · rw [if_pos h1, List.append_assoc, List.getD_eq_getElem?_getD, List.getElem?_append_left (by omega), List.getElem?_take, if_pos h1]; rfl
  · rw [if_neg h1, List.append_assoc, List.getD_eq_getElem?_getD, List.getElem?_append_right (by omega), hm]
    by_cases h2 : j < s + ys.length
    · rw [if_pos h2, List.getElem?_append_left (by omega)]; rfl
    · rw [if_neg h2, List.getElem?_append_right (by omega), List.getElem?_drop, show s + ys.length + (j - s - ys.length) = j by omega]; rfl
theorem Ar.lay {w : World} {b o : Nat} {k : IntKind} {xs : List Int} (h : Ar w b o k xs) (s : Nat) (ys : List Int) (hs : s + ys.length ≤ xs.length) : Ar (w.setCells b (o + s) (ys.map (Value.int k))) b o k (laid xs s ys) :=
  Ar.mk fun j hj => by
    rw [laid_len xs s ys hs] at hj
    refine ⟨?_, by rw [World.frozen?_setCells]; exact h.free j hj⟩
    by_cases h1 : j < s
    · rw [World.cell?_setCells_out _ _ _ _ _ (fun _ _ => by left; show o + j < o + s; omega), h.cell j hj, gb_laid xs s ys hs, if_pos h1]
    · by_cases h2 : j < s + ys.length
      · have e := World.cell?_setCells_in b (ys.map (Value.int k)) (o + s) w (fun i hi => by
          simp only [List.length_map] at hi
          rw [show o + s + i = o + (s + i) by omega, h.cell (s + i) (by omega)]; rfl) (j - s) (by simp; omega)
        rw [show o + s + (j - s) = o + j by omega] at e
        rw [e, gb_laid xs s ys hs, if_neg h1, if_pos h2]
        simp [gb, List.getD, show j - s < ys.length by omega]
      · rw [World.cell?_setCells_out _ _ _ _ _ (fun _ _ => by right; simp; omega), h.cell j hj, gb_laid xs s ys hs, if_neg h1, if_neg h2]
/-- all of it is written -/
theorem Ar.whole {w : World} {b o : Nat} {k : IntKind} {xs : List Int} (ht : w.there b o xs.length) : Ar (w.setCells b o (xs.map (Value.int k))) b o k xs :=
  ⟨World.rangeAt_setCells_same w b o _ (by simpa using ht), World.there_setCells ht b o _⟩
theorem results_ar {fn : Func} {p : Tmp} {ty : TypeId} (h : fn.results = #[.cell p ty]) (tmps : Array Value) (w : World) (b o : Nat) (k : IntKind) (xs : List Int) (hp : tmps.getD p undef = .pointer (some ⟨b, o, none⟩)) (ha : Ar w b o k xs)
    (n : Nat) (e : TypeId) (hu : Tryz.prog.underlying ty = some (.array n e)) (hi : (Tryz.prog.info? ty).map (·.size) = some n) (hn : xs.length = n) : (results fn tmps).run Tryz.prog w = .ok (.agg (ints k xs)) w := by
  have hp' : tmps[p]?.getD undef = .pointer (some ⟨b, o, none⟩) := by simpa using hp
  have hl := run_loadVar_mid (P := Tryz.prog) w b o ty _ _ ha.1 hu rfl (by rw [hi]; simp [hn])
  simp [results, h, hp', asAddr, hl, ints]
/-- noughts -/
def z64 : List Int := List.replicate 64 0
def z8 : List Int := List.replicate 8 0

section
variable {ops : Array Oper} {rest : List Oper} {o : Oper} {a : Act} {Q : Exit → Act → World → Prop}
/-- a parameter that is an array gets a place -/
theorem box_law (w : World) (hg : o.guard = none) (x : Operand) (t : TypeId) (hop : o.op = Op.box t x) (k : IntKind) (xs : List Int) (hx : a.eval x = .agg (ints k xs))
    (hK : wpList Tryz.prog ops Q rest (a.put o.dst (.pointer (some ⟨w.heap.size, 0, none⟩))) (w.alloc (.cells (ints k xs) t))) :
    wpList Tryz.prog ops Q (o :: rest) a w := by
  refine wpList_plain hg fun K hK' => ?_
  unfold Oper.wp
  simp [execOp, hop, hx, Instr.box, newVar, newRow, Value.cells, Result.andThen]
  exact hK' _ _ hK
/-- a variable that is an array gets a place: noughts -/
theorem new_law (w : World) (hg : o.guard = none) (t : TypeId) (hop : o.op = Op.alloc t) (k : IntKind) (xs : List Int) (hz : (Tryz.prog.info? t).map (fun i => (i.zero, i.size)) = some (some (.agg (ints k xs)), xs.length))
    (hK : wpList Tryz.prog ops Q rest (a.put o.dst (.pointer (some ⟨w.heap.size, 0, none⟩))) (w.alloc (.cells (ints k xs) t))) :
    wpList Tryz.prog ops Q (o :: rest) a w := by
  refine wpList_plain hg fun K hK' => ?_
  have hz' := (zero_of_info hz).1
  unfold Oper.wp
  simp [execOp, hop, Instr.alloc, hz', newVar, newRow, Value.cells, Result.andThen]
  exact hK' _ _ hK
/-- a whole array is read -/
theorem load_law (w : World) (hg : o.guard = none) (x : Operand) (t : TypeId) (hop : o.op = Op.load t x) (k : IntKind) (xs : List Int) (b p : Nat) (hx : a.eval x = .pointer (some ⟨b, p, none⟩)) (h : Ar w b p k xs)
    (n : Nat) (e : TypeId) (hu : Tryz.prog.underlying t = some (.array n e)) (hi : (Tryz.prog.info? t).map (·.size) = some n) (hn : xs.length = n)
    (hK : wpList Tryz.prog ops Q rest (a.put o.dst (.agg (ints k xs))) w) :
    wpList Tryz.prog ops Q (o :: rest) a w :=
  wpList_load_mid hg t x hop b p hx _ _ h.1 hu rfl (by rw [hi]; simp [hn]) hK
/-- a whole array is written -/
theorem store_law (w : World) (hg : o.guard = none) (x y : Operand) (t : TypeId) (hop : o.op = Op.store t x y) (k : IntKind) (ys : List Int) (b p : Nat) (hx : a.eval x = .pointer (some ⟨b, p, none⟩)) (hy : a.eval y = .agg (ints k ys))
    (ht : w.there b p ys.length) (n : Nat) (hi : (Tryz.prog.info? t).map (·.size) = some n) (hn : ys.length = n)
    (hK : wpList Tryz.prog ops Q rest (a.put o.dst undef) (w.setCells b p (ys.map (Value.int k)))) :
    wpList Tryz.prog ops Q (o :: rest) a w :=
  wpList_store_mid hg t x y hop b p (ints k ys) hx hy (by rw [ints_size]; exact ht) (by rw [hi, ints_size, hn]) (ints_one k ys) (by rw [ints_toList]; exact hK)
/-- 'copy(d, s)' of bytes: as many as fit -/
theorem copy_law (w : World) (hg : o.guard = none) (x y : Operand) (hop : o.op = .call { callee := .builtin .copy, args := #[x, y], argTypes := #[22, 22] })
    (b p dl dc : Nat) (v : Value) (ys : List Int) (hx : a.eval x = .slice (some ⟨b, p, none⟩) dl dc) (hy : a.eval y = v) (hb : Byt w v ys) (ht : w.there b p (min ys.length dl))
    (hK : wpList Tryz.prog ops Q rest (a.put o.dst (.int .i64 ((min ys.length dl : Nat) : Int))) (w.setCells b p ((ys.take dl).map (Value.int .u8)))) :
    wpList Tryz.prog ops Q (o :: rest) a w := by
  refine wpList_plain hg fun K hK' => ?_
  obtain ⟨i0, hi, hz0, hz1, hz2⟩ := info_parts info_u8
  obtain ⟨ao, cap, rfl, h1, h2, h3, h4, h5⟩ := hb
  have hs : (Tryz.prog.info? 5).map (·.size) = some 1 := by rw [hi]; simp [hz1]
  have hrun : (Builtin.copy_ #[22, 22] o.type #[.slice (some ⟨b, p, none⟩) dl dc, .slice ao ys.length cap]).run Tryz.prog w = .ok (.int .i64 ((min ys.length dl : Nat) : Int)) (w.setCells b p ((ys.take dl).map (Value.int .u8))) := by
    by_cases hz : min ys.length dl = 0
    · have := run_copy_none (P := Tryz.prog) w 22 22 o.type 5 (some ⟨b, p, none⟩) ao dl dc ys.length cap Tryz.underlying22 hs hz
      rw [this, hz]
      have : ys.take dl = [] := by
        rcases Nat.eq_zero_or_pos dl with h | h
        · subst h; simp
        · have : ys = [] := List.eq_nil_of_length_eq_zero (by omega)
          subst this; simp
      rw [this]; rfl
    · obtain ⟨b', off, rfl, hc⟩ := h5 (by omega)
      have hlen : ((ys.take dl).map (Value.int .u8)).length = min ys.length dl := by simp; omega
      have := run_copy_cells (P := Tryz.prog) w 22 22 o.type 5 b p dl dc ⟨b', off, none⟩ ys.length cap ((ys.take dl).map (Value.int .u8)) Tryz.underlying22 hs hlen (fun j u hj => by
        have hj' : j < min ys.length dl := by rw [← hlen]; exact (List.getElem?_eq_some_iff.1 hj).1
        rw [Addr.add_mid, hc j (by omega), ← hj]
        simp [gb, List.getD, show j < dl by omega, show j < ys.length by omega]) (fun j hj => (ht j (by rw [← hlen]; exact hj)).1) (fun j hj => (ht j (by rw [← hlen]; exact hj)).2) (fun u hu => by
        simp only [List.mem_map] at hu
        obtain ⟨x, _, rfl⟩ := hu
        rfl)
      rw [this, hlen]; rfl
  unfold Oper.wp execOp
  simp only [hop, resolve, invoke, builtin, Sem.run_bind, Sem.run_pure, Result.andThen_ok, List.map_toArray, List.map_cons, List.map_nil, hx, hy, hrun]
  exact hK' _ _ hK
/-- an array's literal -/
theorem build_law (w : World) (hg : o.guard = none) (t : TypeId) (parts : Array (Nat × Operand)) (hop : o.op = Op.build t parts) (v : Value) (hrun : (Instr.build t (parts.map fun (i, x) => (i, a.eval x))).run Tryz.prog w = .ok v w)
    (hK : wpList Tryz.prog ops Q rest (a.put o.dst v) w) : wpList Tryz.prog ops Q (o :: rest) a w := by
  refine wpList_plain hg fun K hK' => ?_
  unfold Oper.wp execOp
  simp only [hop, Sem.run_bind, Sem.run_pure, Result.andThen_ok, hrun]
  exact hK' _ _ hK
end

theorem z_arr64w : (Tryz.prog.info? 127).map (fun i => (i.zero, i.size)) = some (some (.agg (ints .u32 z64)), z64.length) := by kernel_rfl
theorem z_arr64b : (Tryz.prog.info? 66).map (fun i => (i.zero, i.size)) = some (some (.agg (ints .u8 z64)), z64.length) := by kernel_rfl
theorem z_arr8 : (Tryz.prog.info? 104).map (fun i => (i.zero, i.size)) = some (some (.agg (ints .u32 z8)), z8.length) := by kernel_rfl
theorem i_arr64w : (Tryz.prog.info? 127).map (·.size) = some 64 := by kernel_rfl
theorem i_arr64b : (Tryz.prog.info? 66).map (·.size) = some 64 := by kernel_rfl
theorem i_arr8 : (Tryz.prog.info? 104).map (·.size) = some 8 := by kernel_rfl

set_option maxRecDepth 100000 in
set_option maxHeartbeats 2000000 in
theorem constants_any (w : World) :
    Calls Tryz.prog 102 #[] w fun e w' => e = .returned (.agg (ints .u32 kc)) ∧ Below w.heap.size w w' := by
  have HT : Hid ((w.alloc (.cells (ints .u32 z64) 127)).there w.heap.size 0 kc.length) := (Ar.new w 127 .u32 z64).2
  go_enter Tryz.func102, Tryz.ntmps102
  go_wp2_with (first
    | (refine new_law _ rfl 127 rfl .u32 z64 z_arr64w ?_)
    | (refine build_law _ rfl 127 _ rfl (.agg (ints .u32 kc)) (by kernel_rfl) ?_)
    | (refine store_law _ rfl (.tmp 0) (.tmp 1) 127 rfl .u32 kc _ _ rfl rfl HT.out 64 i_arr64w rfl ?_))
  refine bodyPost_ret (v := .agg (ints .u32 kc)) (results_ar rfl _ _ w.heap.size 0 .u32 kc rfl (Ar.whole HT.out) 64 23 Tryz.underlying127 i_arr64w rfl) rfl ⟨rfl, ?_⟩
  exact Lib.below_setCells _ (Nat.le_refl _) _ _ ((Below.refl _ _).alloc (Nat.le_refl _) _)
end Go.Proofs.YtbkaecjkgjkheaaGreatDoor.mc

