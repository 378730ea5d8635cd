/- What wrap's Unwrap answers, and Wrap and Unwrap of what may not be. No claim of its own. -/
import Derived.Test.YtjiddmgnkldmkaaWWrap
namespace Go.Proofs.Ytjiddmgnkldmkaa.wr
open Go.RowKit

set_option linter.unusedSimpArgs false in
set_option maxRecDepth 20000 in
set_option maxHeartbeats 4000000 in
theorem unwrap_any (kv bv : Value) (key c : List Int) (n : Nat) (w : World) (hk : Byt w kv key) (hkl : key.length = 32) (hb : Byt w bv c) (hbl : c.length = 8 * n + 8) (hn : 2 ≤ n) (hn' : n ≤ 32) :
    Calls Try.prog 13 #[kv, bv] w fun e w' => ((hd (unwr key c n) = a6 ∧ ∃ v, e = .returned (.tuple #[v, .int .i64 0]) ∧ Byt w' v ((unwr key c n).drop 8)) ∨ (¬ hd (unwr key c n) = a6 ∧ e = .returned (.tuple #[.slice none 0 0, .int .i64 16]))) ∧ Below w.heap.size w w' := by
  have hka := hk.all
  have hba := hb.all
  have S1 : Hid (Calls Try.prog 15 #[kv] w fun e w' => ∃ kb, e = .returned (.tuple #[.pointer (some ⟨kb, 0, none⟩), .int .i64 0]) ∧ KeyA w' kb key ∧ w.heap.size ≤ kb ∧ Below w.heap.size w w') := new_any kv key w hk hkl
  have S2 : Hid (∀ w, Calls Try.prog 16 #[.int .i64 ((8 * n : Nat) : Int)] w fun e w' => e = .returned (.bool true) ∧ w' = w) := fun w => may_any _ w true (by simp; omega) (by omega) (by omega)
  have S3 : Hid (∀ ad L cap w, Byt w (.slice (some ad) L cap) c → Calls Try.prog 25 #[.slice (some ad) L cap] w fun e w' => ∃ v', e = .returned v' ∧ Own w.heap.size w' v' (us key n c (6 * n) 0) ∧ Below w.heap.size w w') := fun ad L cap w h => clone_any w ad L cap c h (by omega)
  have fit : ∀ k, Fit (8 * n + 8) (us key n c (6 * n) k) := fun k => us_fit key hkl hka n (by omega) _ ⟨hbl, hba⟩ _ k
  have S5 : Hid (∀ g cap, 8 * n + 8 ≤ cap → ∀ w, Calls Try.prog 19 #[.slice (some ⟨g, 0, none⟩) (8 * n + 8) cap] w fun e w' => e = .returned (.int .i64 ((6 * n : Nat) : Int)) ∧ w' = w) := fun g cap _ w => last_any _ _ n cap w rfl (by omega)
  have S6 : Hid (∀ k, k < 6 * n → ∀ kb g cap w, 8 * n + 8 ≤ cap → KeyA w kb key → Ar w g 0 .u8 (us key n c (6 * n) k) → Calls Try.prog 26 #[.pointer (some ⟨kb, 0, none⟩), .slice (some ⟨g, 0, none⟩) (8 * n + 8) cap, .int .i64 ((6 * n - k : Nat) : Int)] w fun e w' => e = .returned (.int .i64 0) ∧ Ar w' g 0 .u8 (us key n c (6 * n) (k + 1)) ∧ w.grownBy w' (some g)) := fun k hk kb g cap w hc h1 h2 => unone_any kb g n (6 * n - k) cap key _ w h1 hkl hka h2 (fit k) (by omega) hn' (by omega) (by omega) hc
  have S7 : Hid (∀ g cap, 8 * n + 8 ≤ cap → ∀ w, Calls Try.prog 28 #[.slice (some ⟨g, 0, none⟩) (8 * n + 8) cap, .int .i64 0] w fun e w' => e = .returned (.slice (some ⟨g, 0, none⟩) 8 8) ∧ w' = w) := fun g cap hc w => cut_any g 0 _ cap 0 0 rfl w (by omega) hc (by omega)
  have HW : Hid (unwr key c n = us key n c (6 * n) (6 * n)) := rfl
  have HL : Hid (∀ k, (us key n c (6 * n) k).length = 8 * n + 8 ∧ AllB (us key n c (6 * n) k)) := fun k => fit k
  have HV : Hid (Byt w bv c) := hb
  clear hk hka hba fit hkl
  obtain ⟨R, hR⟩ : ∃ R : Nat → List Int, R = us key n c (6 * n) := ⟨_, rfl⟩
  rw [← hR] at S3 S6 HW HL
  clear hR
  generalize unwr key c n = Z at *
  obtain ⟨bo, bc, rfl, hb1, hb2, -, -, hb5⟩ := hb
  obtain ⟨bb, off, rfl, -⟩ := hb5 (by omega)
  rw [hbl] at HV hb1 ⊢
  clear hbl
  obtain ⟨m, hm⟩ : ∃ m, m = 8 * n := ⟨_, rfl⟩
  obtain ⟨L, hL⟩ : ∃ L, L = 8 * n + 8 := ⟨_, rfl⟩
  obtain ⟨T, hT⟩ : ∃ T, T = 6 * n := ⟨_, rfl⟩
  rw [← hm] at S2
  rw [← hL] at S5 S6 S7 HL HV hb1 ⊢
  rw [← hT] at S5 S6 HW
  have HLN : Hid (L = 8 * n + 8 ∧ 2 ≤ n ∧ n ≤ 32) := ⟨hL, hn, hn'⟩
  have T0 : T ≤ 192 := by omega
  have k8 : IntKind.i64.wrap ((L : Int) - 8) = (m : Int) := by rw [IntKind.wrap_i64]; omega
  clear hm hL hT hn hn'
  have t0 : True := trivial
  have t1 : True := trivial
  have t2 : True := trivial
  have t3 : True := trivial
  go_enter Try.func13, Try.ntmps13
  go_wp2_with (first
    | (have q := t0; go_at_call 15; refine (S1.out).mono ?_; rintro e w1 ⟨kb, rfl, k1, l1, B1⟩; have K1 : Hid (KeyA w1 kb key) := k1; have lk := k1.lt; have V1 : Hid (Byt w1 (.slice (some ⟨bb, off, none⟩) L bc) c) := HV.out.below B1; clear k1 t0 q)
    | (have q := t1; go_at_call 16; refine (S2.out _).mono ?_; rintro e wx ⟨rfl, hw⟩; obtain rfl := hw.symm; clear t1 q)
    | (have q := t2; go_at_call 25; refine (S3.out _ _ _ _ V1.out).mono ?_; rintro e w3 ⟨v3, rfl, o3, B3⟩; have O3 : Hid (Own w1.heap.size w3 v3 (R 0)) := o3; obtain ⟨g, cap, hv3, g1, g2, g3, g4⟩ := Own.ar o3 (by rw [(HL.out 0).1]; have := HLN.out; omega); rw [(HL.out 0).1] at hv3 g2; subst hv3; have A3 : Hid (Ar w3 g 0 .u8 (R 0)) := g4; have C8 : Hid (L ≤ cap ∧ cap ≤ 9223372036854775807) := ⟨g2, g3⟩; have lg : g < w3.heap.size := g4.lt (by rw [(HL.out 0).1]; have := HLN.out; omega); clear g2 g3 g4 o3 t2 q)
    | (have q := t3; go_at_call 19; refine (S5.out _ _ C8.out.1 _).mono ?_; rintro e wx ⟨rfl, hw⟩; obtain rfl := hw.symm; clear t3 q))
  have BW : Hid (Below w.heap.size w w3) := B1.trans (B3.mono B1.size)
  have K3 : Hid (KeyA w3 kb key) := K1.out.below B3 lk
  have lkg : kb < g := by omega
  have lwg : w.heap.size ≤ g := by have := B1.size; omega
  clear O3 B3 g1 K1 V1 B1 S1 S2 S3 HV
  go_loopw [9] (fun i wr => ∃ k : Nat, k ≤ T ∧ i = .int .i64 ((T - k : Nat) : Int) ∧ Ar wr g 0 .u8 (R k) ∧ Below g w3 wr) (fun i _ => (intOf i).toNat)
  case atStart => exact ⟨0, Nat.zero_le _, rfl, A3.out, Below.refl _ _⟩
  case round =>
    obtain ⟨k, hk, rfl, hA, hB⟩ := hrel
    have HA : Hid (Ar wr g 0 .u8 (R k)) := hA
    have HB : Hid (Below g w3 wr) := hB
    obtain ⟨j, hj⟩ : ∃ j, j = T - k := ⟨_, rfl⟩
    have HJ : Hid (j = T - k) := hj
    rw [← hj]
    clear hA hB hj
    by_cases hlt : k < T
    · have k1 : (j : Int) > 0 := by have := HJ.out; omega
      have q3 : IntKind.i64.wrap ((j : Int) - 1) = (j : Int) - 1 := by rw [IntKind.wrap_i64]; have := HJ.out; omega
      have S6k : Hid (∀ w, KeyA w kb key → Ar w g 0 .u8 (R k) → Calls Try.prog 26 #[.pointer (some ⟨kb, 0, none⟩), .slice (some ⟨g, 0, none⟩) L cap, .int .i64 (j : Int)] w fun e w' => e = .returned (.int .i64 0) ∧ Ar w' g 0 .u8 (R (k + 1)) ∧ w.grownBy w' (some g)) := fun w h1 h2 => by rw [HJ.out]; exact S6.out k hlt kb g cap w C8.out.1 h1 h2
      go_wp2_with (go_at_call 26; refine (S6k.out _ (K3.out.below HB.out lkg) HA.out).mono ?_; rintro e w5 ⟨rfl, a5, G5⟩; have A5 : Hid (Ar w5 g 0 .u8 (R (k + 1))) := a5; have B5 : Hid (Below g w3 w5) := HB.out.trans (below_but G5 (by have := HB.out.size; omega)); clear a5 G5)
      go_roundw
      case rel => exact ⟨k + 1, by omega, by have := HJ.out; rw [show ((T - (k + 1) : Nat) : Int) = (j : Int) - 1 by omega], A5.out, B5.out⟩
      case measure => have := HJ.out; simp [intOf]; omega
    · have hkn : k = T := by omega
      subst hkn
      have k1 : ¬ ((j : Int) > 0) := by have := HJ.out; omega
      have HZ : Hid (Z = R k) := HW.out
      have LZ : Hid ((R k).length = L) := (HL.out k).1
      have YH : Hid (Byt wr (.slice (some ⟨g, 0, none⟩) 8 8) (hd (R k))) := ar_hd HA.out (HL.out k).2 (by rw [LZ.out]; have := HLN.out; omega)
      have YA : Hid (Byt wr (.slice (some ⟨g, 0, none⟩) L cap) (R k)) := HA.out.bytG (HL.out k).2 L cap LZ.out C8.out.1 C8.out.2
      have BG : Hid (Below w.heap.size w wr) := BW.out.trans (HB.out.mono lwg)
      have HZ2 : Hid (hd Z = hd (R k)) := congrArg hd HZ.out
      have r0 : True := trivial
      have r1 : True := trivial
      have r2 : True := trivial
      have r3 : True := trivial
      by_cases hf : hd (R k) = a6
      · have dc : decide (hd (R k) = a6) = true := by simp [hf]
        have DC : Hid (decide (hd (R k) = a6) = true) := dc
        have HF : Hid (hd Z = a6) := by rw [HZ2.out]; exact hf
        have h8 : (8 : Nat) ≤ (R k).length := by rw [LZ.out]; have := HLN.out; omega
        have H8 : Hid ((8 : Nat) ≤ (R k).length) := h8
        clear dc hf h8
        go_wp2_with (first
          | (have q := r0; go_at_call 28; refine (S7.out _ _ C8.out.1 _).mono ?_; rintro e wx ⟨rfl, hw⟩; obtain rfl := hw.symm; clear r0 q)
          | (have q := r1; go_at_call 18; refine (first_any _).mono ?_; rintro e w5 ⟨v5, rfl, y5, B5⟩; have Y5 : Hid (Byt w5 v5 a6) := y5; have YH5 : Hid (Byt w5 (.slice (some ⟨g, 0, none⟩) 8 8) (hd (R k))) := YH.out.below B5; have YA5 : Hid (Byt w5 (.slice (some ⟨g, 0, none⟩) L cap) (R k)) := YA.out.below B5; have BG5 : Hid (Below w.heap.size w w5) := BG.out.trans (B5.mono BG.out.size); clear y5 B5 r1 q)
          | (have q := r2; go_at_call 27; refine (oSame_any _ _ _ _ _ YH5.out Y5.out).mono ?_; rintro e wx ⟨rfl, nn, hw⟩; rw [DC.out]; obtain ⟨w6, hw6⟩ : ∃ w6, w6 = w5.drewN nn := ⟨_, rfl⟩; rw [← hw6] at hw; have YA6 : Hid (Byt w6 (.slice (some ⟨g, 0, none⟩) L cap) (R k)) := (by rw [hw6]; exact byt_drawn YA5.out nn); have BG6 : Hid (Below w.heap.size w w6) := (by rw [hw6]; exact below_drawn BG5.out nn); clear hw6; obtain rfl := hw.symm; clear r2 q)
          | (have q := r3; refine cut_from _ rfl (.tmp 44) (.const (.int .i64 8)) rfl _ (R k) 8 8 rfl rfl rfl H8.out YA6.out ?_; intro v7 y7; have Y7 : Hid (Byt _ v7 ((R k).drop 8)) := y7; clear y7 r3 q))
        go_ret2
        exact ⟨.inl ⟨HF.out, _, rfl, by rw [HZ.out]; exact Y7.out⟩, BG6.out⟩
      · have dc : decide (hd (R k) = a6) = false := by simp [hf]
        have DC : Hid (decide (hd (R k) = a6) = false) := dc
        have HF : Hid (¬ hd Z = a6) := by rw [HZ2.out]; exact hf
        clear dc hf
        go_wp2_with (first
          | (have q := r0; go_at_call 28; refine (S7.out _ _ C8.out.1 _).mono ?_; rintro e wx ⟨rfl, hw⟩; obtain rfl := hw.symm; clear r0 q)
          | (have q := r1; go_at_call 18; refine (first_any _).mono ?_; rintro e w5 ⟨v5, rfl, y5, B5⟩; have Y5 : Hid (Byt w5 v5 a6) := y5; have YH5 : Hid (Byt w5 (.slice (some ⟨g, 0, none⟩) 8 8) (hd (R k))) := YH.out.below B5; have BG5 : Hid (Below w.heap.size w w5) := BG.out.trans (B5.mono BG.out.size); clear y5 B5 r1 q)
          | (have q := r2; go_at_call 27; refine (oSame_any _ _ _ _ _ YH5.out Y5.out).mono ?_; rintro e wx ⟨rfl, nn, hw⟩; rw [DC.out]; obtain ⟨w6, hw6⟩ : ∃ w6, w6 = w5.drewN nn := ⟨_, rfl⟩; rw [← hw6] at hw; have BG6 : Hid (Below w.heap.size w w6) := (by rw [hw6]; exact below_drawn BG5.out nn); clear hw6; obtain rfl := hw.symm; clear r2 q))
        go_ret2
        exact ⟨.inr ⟨HF.out, rfl⟩, BG6.out⟩

set_option maxHeartbeats 2000000 in
theorem wrap_no (kv bv : Value) (key b : List Int) (w : World) (hk : Byt w kv key) (hb : Byt w bv b) (hno : ¬ (key.length = 32 ∧ 16 ≤ (b.length : Int) ∧ (b.length : Int) ≤ 256 ∧ ((b.length : Int)) % 8 = 0)) :
    Calls Try.prog 8 #[kv, bv] w fun e w' => e = .returned (.tuple #[.slice none 0 0, .int .i64 2]) ∧ Below w.heap.size w w' := by
  have hlen := hb.len
  by_cases hl : key.length = 32
  · have S1 : Hid (Calls Try.prog 15 #[kv] w fun e w' => ∃ kb, e = .returned (.tuple #[.pointer (some ⟨kb, 0, none⟩), .int .i64 0]) ∧ KeyA w' kb key ∧ w.heap.size ≤ kb ∧ Below w.heap.size w w') := new_any kv key w hk hl
    have S2 : Hid (∀ w, Calls Try.prog 16 #[.int .i64 ((b.length : Int))] w fun e w' => e = .returned (.bool false) ∧ w' = w) := fun w => may_any _ w false (by rw [eq_comm, decide_eq_false_iff_not]; exact fun h => hno ⟨hl, h⟩) (by omega) (by omega)
    clear hk hno hl
    obtain ⟨bo, bc, rfl, hb1, hb2, -, -, -⟩ := hb
    go_enter Try.func8, Try.ntmps8
    go_wp2_with (first
      | (go_at_call 15; refine (S1.out).mono ?_; rintro e w1 ⟨kb, rfl, k1, l1, B1⟩; clear k1)
      | (go_at_call 16; refine (S2.out _).mono ?_; rintro e wx ⟨rfl, hw⟩; obtain rfl := hw.symm))
    go_ret2
    exact ⟨rfl, B1⟩
  · have S1 : Hid (Calls Try.prog 15 #[kv] w fun e w' => e = .returned (.tuple #[.pointer none, .int .i64 2]) ∧ w' = w) := new_no kv key w hk hl
    clear hk hno hl hlen hb
    go_enter Try.func8, Try.ntmps8
    go_wp2_with (go_at_call 15; refine (S1.out).mono ?_; rintro e wx ⟨rfl, hw⟩; obtain rfl := hw.symm)
    go_ret2
    exact ⟨rfl, Below.refl _ _⟩

set_option maxHeartbeats 2000000 in
theorem unwrap_no (kv bv : Value) (key b : List Int) (w : World) (hk : Byt w kv key) (hb : Byt w bv b) (hno : ¬ (key.length = 32 ∧ 16 ≤ (b.length : Int) - 8 ∧ (b.length : Int) - 8 ≤ 256 ∧ ((b.length : Int) - 8) % 8 = 0)) :
    Calls Try.prog 13 #[kv, bv] w fun e w' => e = .returned (.tuple #[.slice none 0 0, .int .i64 2]) ∧ Below w.heap.size w w' := by
  have hlen := hb.len
  by_cases hl : key.length = 32
  · have S1 : Hid (Calls Try.prog 15 #[kv] w fun e w' => ∃ kb, e = .returned (.tuple #[.pointer (some ⟨kb, 0, none⟩), .int .i64 0]) ∧ KeyA w' kb key ∧ w.heap.size ≤ kb ∧ Below w.heap.size w w') := new_any kv key w hk hl
    have S2 : Hid (∀ w, Calls Try.prog 16 #[.int .i64 ((b.length : Int) - 8)] w fun e w' => e = .returned (.bool false) ∧ w' = w) := fun w => may_any _ w false (by rw [eq_comm, decide_eq_false_iff_not]; exact fun h => hno ⟨hl, h⟩) (by omega) (by omega)
    have k8 : IntKind.i64.wrap ((b.length : Int) - 8) = (b.length : Int) - 8 := by rw [IntKind.wrap_i64]; omega
    clear hk hno hl
    obtain ⟨bo, bc, rfl, hb1, hb2, -, -, -⟩ := hb
    go_enter Try.func13, Try.ntmps13
    go_wp2_with (first
      | (go_at_call 15; refine (S1.out).mono ?_; rintro e w1 ⟨kb, rfl, k1, l1, B1⟩; clear k1)
      | (go_at_call 16; refine (S2.out _).mono ?_; rintro e wx ⟨rfl, hw⟩; obtain rfl := hw.symm))
    go_ret2
    exact ⟨rfl, B1⟩
  · have S1 : Hid (Calls Try.prog 15 #[kv] w fun e w' => e = .returned (.tuple #[.pointer none, .int .i64 2]) ∧ w' = w) := new_no kv key w hk hl
    clear hk hno hl hlen hb
    go_enter Try.func13, Try.ntmps13
    go_wp2_with (go_at_call 15; refine (S1.out).mono ?_; rintro e wx ⟨rfl, hw⟩; obtain rfl := hw.symm)
    go_ret2
    exact ⟨rfl, Below.refl _ _⟩
end Go.Proofs.Ytjiddmgnkldmkaa.wr
