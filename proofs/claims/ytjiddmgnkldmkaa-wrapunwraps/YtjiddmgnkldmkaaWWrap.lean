/- What wrap's Wrap and Unwrap answer. No claim of its own. -/
import Derived.Test.YtjiddmgnkldmkaaWCat
namespace Go.Proofs.Ytjiddmgnkldmkaa.wr
open Go.RowKit

set_option linter.unusedSimpArgs false in
set_option maxRecDepth 20000 in
set_option maxHeartbeats 4000000 in
theorem wrap_any (kv bv : Value) (key b : List Int) (n : Nat) (w : World) (hk : Byt w kv key) (hkl : key.length = 32) (hb : Byt w bv b) (hbl : b.length = 8 * n) (hn : 2 ≤ n) (hn' : n ≤ 32) :
    Calls Try.prog 8 #[kv, bv] w fun e w' => ∃ v, e = .returned (.tuple #[v, .int .i64 0]) ∧ Byt w' v (wrapped key b n) ∧ Below w.heap.size w w' := by
  have hka := hk.all
  have hba := hb.all
  have S1 : Hid (Calls Try.prog 15 #[kv] w fun e w' => ∃ kb, e = .returned (.tuple #[.pointer (some ⟨kb, 0, none⟩), .int .i64 0]) ∧ KeyA w' kb key ∧ w.heap.size ≤ kb ∧ Below w.heap.size w w') := new_any kv key w hk hkl
  have S2 : Hid (∀ w, Calls Try.prog 16 #[.int .i64 (b.length : Int)] w fun e w' => e = .returned (.bool true) ∧ w' = w) := fun w => may_any _ w true (by simp; omega) (by omega) (by omega)
  have S4 : Hid (∀ c u w, Byt w u a6 → Byt w bv b → w.cell? ⟨c, 0, none⟩ = some u → w.cell? ⟨c, 1, none⟩ = some bv → Calls Try.prog 17 #[.slice (some ⟨c, 0, none⟩) 2 2] w fun e w' => ∃ r, e = .returned r ∧ Own w.heap.size w' r (ws key n (a6 ++ b) 0) ∧ Below w.heap.size w w') := fun c u w h1 h2 h3 h4 => concat_any c u bv a6 b w h1 h2 (by rw [a6_len]; omega) (by rw [a6_len]; omega) (by omega) h3 h4
  have fit : ∀ k, Fit (8 * n + 8) (ws key n (a6 ++ b) k) := fun k => ws_fit key hkl hka n (by omega) _ (a6_fit b n hbl hba) k
  have S5 : Hid (∀ g cap, 8 * n + 8 ≤ cap → ∀ w, Calls Try.prog 19 #[.slice (some ⟨g, 0, none⟩) (8 * n + 8) cap] w fun e w' => e = .returned (.int .i64 ((6 * n : Nat) : Int)) ∧ w' = w) := fun g cap _ w => last_any _ _ n cap w rfl (by omega)
  have S6 : Hid (∀ k, k < 6 * n → ∀ kb g cap w, 8 * n + 8 ≤ cap → KeyA w kb key → Ar w g 0 .u8 (ws key n (a6 ++ b) k) → Calls Try.prog 20 #[.pointer (some ⟨kb, 0, none⟩), .slice (some ⟨g, 0, none⟩) (8 * n + 8) cap, .int .i64 ((k + 1 : Nat) : Int)] w fun e w' => e = .returned (.int .i64 0) ∧ Ar w' g 0 .u8 (ws key n (a6 ++ b) (k + 1)) ∧ w.grownBy w' (some g)) := fun k hk kb g cap w hc h1 h2 => one_any kb g n (k + 1) cap key _ w h1 hkl hka h2 (fit k) (by omega) hn' (by omega) (by omega) hc
  have HW : Hid (wrapped key b n = ws key n (a6 ++ b) (6 * n)) := rfl
  have HL : Hid (∀ k, (ws key n (a6 ++ b) k).length = 8 * n + 8 ∧ AllB (ws key n (a6 ++ b) k)) := fun k => fit k
  have HV : Hid (Byt w bv b) := hb
  clear hk hka hba fit hkl
  obtain ⟨R, hR⟩ : ∃ R : Nat → List Int, R = ws key n (a6 ++ b) := ⟨_, rfl⟩
  rw [← hR] at S4 S6 HW HL
  clear hR
  generalize wrapped key b n = Z at *
  obtain ⟨bo, bc, rfl, hb1, hb2, -, -, -⟩ := hb
  rw [hbl] at S2 S4 HV hb1 ⊢
  clear hbl
  obtain ⟨m, hm⟩ : ∃ m, m = 8 * n := ⟨_, rfl⟩
  obtain ⟨L, hL⟩ : ∃ L, L = 8 * n + 8 := ⟨_, rfl⟩
  obtain ⟨T, hT⟩ : ∃ T, T = 6 * n := ⟨_, rfl⟩
  rw [← hm] at S2 S4 HV hb1 ⊢
  rw [← hL] at S5 S6 HL
  rw [← hT] at S5 S6 HW
  have HLN : Hid (L = 8 * n + 8 ∧ 2 ≤ n ∧ n ≤ 32) := ⟨hL, hn, hn'⟩
  have T0 : T ≤ 192 := by omega
  clear hm hL hT hn hn'
  have t0 : True := trivial
  have t1 : True := trivial
  have t2 : True := trivial
  have t3 : True := trivial
  go_enter Try.func8, Try.ntmps8
  go_wp2_with (first
    | (have q := t0; go_at_call 15; refine (S1.out).mono ?_; rintro e w1 ⟨kb, rfl, k1, l1, B1⟩; have K1 : Hid (KeyA w1 kb key) := k1; have lk := k1.lt; have V1 : Hid (Byt w1 (.slice bo m bc) b) := HV.out.below B1; clear k1 t0 q)
    | (have q := t1; go_at_call 16; refine (S2.out _).mono ?_; rintro e wx ⟨rfl, hw⟩; obtain rfl := hw.symm; clear t1 q)
    | (have q := t2; go_at_call 18; refine (first_any _).mono ?_; rintro e w2 ⟨v2, rfl, y2, B2⟩; have Y2 : Hid (Byt w2 v2 a6) := y2; obtain ⟨o2, c2, e2, -⟩ := y2; subst e2; have s2 := B2.size; have V2 : Hid (Byt w2 (.slice bo m bc) b) := V1.out.below B2; clear t2 q)
    | (have q := t3; go_at_call 17; refine (S4.out _ _ _ (Y2.out.below ((Below.refl _ _).alloc (Nat.le_refl _) _)) (V2.out.below ((Below.refl _ _).alloc (Nat.le_refl _) _)) (cell_new2 _ _ _ _).1 (cell_new2 _ _ _ _).2).mono ?_; rintro e w3 ⟨v3, rfl, o3, B3⟩; have O3 : Hid (Own (w2.alloc (.cells #[.slice o2 a6.length c2, .slice bo m bc] 22)).heap.size w3 v3 (R 0)) := o3; have B3' : Hid (Below (w2.alloc (.cells #[.slice o2 a6.length c2, .slice bo m bc] 22)).heap.size (w2.alloc (.cells #[.slice o2 a6.length c2, .slice bo m bc] 22)) w3) := B3; clear o3 B3 t3 q))
  have BA : Below w2.heap.size w2 (w2.alloc (.cells #[.slice o2 a6.length c2, .slice bo m bc] 22)) := (Below.refl _ _).alloc (Nat.le_refl _) _
  have sA := BA.size
  obtain ⟨g, cap, hv3, g1, g2, g3, g4⟩ := Own.ar O3.out (by rw [(HL.out 0).1]; have := HLN.out; omega)
  rw [(HL.out 0).1] at hv3 g2
  subst hv3
  have BW : Hid (Below w.heap.size w w3) := ((B1.trans (B2.mono B1.size)).trans (BA.mono (by have := B1.size; omega))).trans (B3'.out.mono (by have := B1.size; omega))
  have K3 : Hid (KeyA w3 kb key) := ((K1.out.below B2 lk).below BA (by omega)).below B3'.out (by omega)
  have A3 : Hid (Ar w3 g 0 .u8 (R 0)) := g4
  have lg : g < w3.heap.size := g4.lt (by rw [(HL.out 0).1]; have := HLN.out; omega)
  have lkg : kb < g := by omega
  have lwg : w.heap.size ≤ g := by have := B1.size; omega
  have C8 : Hid (L ≤ cap ∧ cap ≤ 9223372036854775807) := ⟨g2, g3⟩
  clear O3 B3' BA sA g1 g2 g3 g4 K1 V1 V2 Y2 B1 B2 s2 S1 S2 S4 HV
  go_loopw [9] (fun i wr => ∃ k : Nat, k ≤ T ∧ i = .int .i64 ((k + 1 : Nat) : Int) ∧ Ar wr g 0 .u8 (R k) ∧ Below g w3 wr) (fun i _ => T + 1 - (intOf i).toNat)
  case atStart => exact ⟨0, Nat.zero_le _, rfl, A3.out, Below.refl _ _⟩
  case round =>
    obtain ⟨k, hk, rfl, hA, hB⟩ := hrel
    have HA : Hid (Ar wr g 0 .u8 (R k)) := hA
    have HB : Hid (Below g w3 wr) := hB
    obtain ⟨j, hj⟩ : ∃ j, j = k + 1 := ⟨_, rfl⟩
    have HJ : Hid (j = k + 1) := hj
    rw [← hj]
    clear hA hB hj
    have u0 : True := trivial
    have u1' : True := trivial
    by_cases hlt : k < T
    · have k1 : (j : Int) ≤ (T : Int) := by have := HJ.out; omega
      have q3 : IntKind.i64.wrap ((j : Int) + 1) = (j : Int) + 1 := by rw [IntKind.wrap_i64]; have := HJ.out; omega
      have S6k : Hid (∀ w, KeyA w kb key → Ar w g 0 .u8 (R k) → Calls Try.prog 20 #[.pointer (some ⟨kb, 0, none⟩), .slice (some ⟨g, 0, none⟩) L cap, .int .i64 (j : Int)] w fun e w' => e = .returned (.int .i64 0) ∧ Ar w' g 0 .u8 (R (k + 1)) ∧ w.grownBy w' (some g)) := fun w h1 h2 => by rw [HJ.out]; exact S6.out k hlt kb g cap w C8.out.1 h1 h2
      go_wp2_with (first
        | (have q := u0; go_at_call 19; refine (S5.out _ _ C8.out.1 _).mono ?_; rintro e wx ⟨rfl, hw⟩; obtain rfl := hw.symm; clear u0 q)
        | (have q := u1'; go_at_call 20; refine (S6k.out _ (K3.out.below HB.out lkg) HA.out).mono ?_; rintro e w5 ⟨rfl, a5, G5⟩; have A5 : Hid (Ar w5 g 0 .u8 (R (k + 1))) := a5; have B5 : Hid (Below g w3 w5) := HB.out.trans (below_but G5 (by have := HB.out.size; omega)); clear u1' q a5 G5))
      go_roundw
      case rel => exact ⟨k + 1, by omega, by rw [HJ.out]; go_num, A5.out, B5.out⟩
      case measure => have := HJ.out; simp [intOf]; omega
    · have hkn : k = T := by omega
      subst hkn
      have k1 : ¬ ((j : Int) ≤ (k : Int)) := by have := HJ.out; omega
      go_wp2_with (go_at_call 19; refine (S5.out _ _ C8.out.1 _).mono ?_; rintro e wx ⟨rfl, hw⟩; obtain rfl := hw.symm)
      go_ret2
      exact ⟨_, rfl, by rw [HW.out]; exact HA.out.bytG (HL.out k).2 L cap (HL.out k).1 C8.out.1 C8.out.2, BW.out.trans (HB.out.mono lwg)⟩
end Go.Proofs.Ytjiddmgnkldmkaa.wr
