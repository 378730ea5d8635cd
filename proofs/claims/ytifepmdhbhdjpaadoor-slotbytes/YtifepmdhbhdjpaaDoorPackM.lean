/- Texts put together (a claim holds few files). No claim of its own. -/
import Derived.Test.YtifepmdhbhdjpaaDoorPackL
import Derived.Lib.SliceRun
import Derived.Test.YtifepmdhbhdjpaaDoorPackD
/- What slices.Grow, Concat (of two) and Clone answer, and how many bytes may be wrapped. No claim of its own. -/
namespace Go.Proofs.YtifepmdhbhdjpaaDoor.wr
open Go.RowKit
set_option maxRecDepth 20000

set_option maxHeartbeats 1000000 in
theorem grow_any (n : Nat) (w : World) (hp : 0 < n) (hn : n ≤ 1000000) :
    Calls Tryd.prog 39 #[.slice none 0 0, .int .i64 (n : Int)] w fun e w' => ∃ v, e = .returned v ∧ Own w.heap.size w' v [] ∧ Below w.heap.size w w' := by
  have k1 : ¬ ((n : Int) < 0) := by omega
  have k2 : IntKind.i64.wrap ((n : Int) - 0) = (n : Int) := by rw [IntKind.wrap_i64]; omega
  have k3 : IntKind.i64.wrap (n : Int) = (n : Int) := by rw [IntKind.wrap_i64]; omega
  have k4 : (n : Int) > 0 := by omega
  go_enter Tryd.func39, Tryd.ntmps39
  go_wp2_with (at_builtin; refine zeros_law _ rfl (.tmp 20) (.tmp 21) rfl (n : Int) n rfl rfl rfl hp hn ?_; intro cap w1 c1 c2 o1 B1; have O1 : Hid (Own w.heap.size w1 (.slice (some ⟨w.heap.size, 0, none⟩) 0 cap) []) := o1; have c3 : (0 : Int) ≤ (cap : Int) := (by omega); clear o1)
  go_ret
  exact ⟨_, rfl, O1.out, B1⟩

theorem cell_new2 (w : World) (x y : Value) (t : TypeId) : (w.alloc (.cells #[x, y] t)).cell? ⟨w.heap.size, 0, none⟩ = some x ∧ (w.alloc (.cells #[x, y] t)).cell? ⟨w.heap.size, 1, none⟩ = some y := by
  constructor
  · rw [cell_of_row (w.alloc (.cells #[x, y] t)) w.heap.size 0 _ t (0, 0) (heap_alloc_last w _)]; rfl
  · rw [cell_of_row (w.alloc (.cells #[x, y] t)) w.heap.size 1 _ t (0, 0) (heap_alloc_last w _)]; rfl

set_option linter.unusedSimpArgs false in
set_option maxRecDepth 20000 in
set_option maxHeartbeats 4000000 in
theorem concat_any (c : Nat) (u v : Value) (xs ys : List Int) (w : World) (hu : Byt w u xs) (hv : Byt w v ys) (hx : 0 < xs.length) (hxl : xs.length ≤ 1000) (hyl : ys.length ≤ 1000) (h0 : w.cell? ⟨c, 0, none⟩ = some u) (h1 : w.cell? ⟨c, 1, none⟩ = some v) :
    Calls Tryd.prog 34 #[.slice (some ⟨c, 0, none⟩) 2 2] w fun e w' => ∃ r, e = .returned r ∧ Own w.heap.size w' r (xs ++ ys) ∧ Below w.heap.size w w' := by
  have HG : Hid (∀ w, Calls Tryd.prog 39 #[.slice none 0 0, .int .i64 ((xs.length + ys.length : Nat) : Int)] w fun e w' => ∃ v, e = .returned v ∧ Own w.heap.size w' v [] ∧ Below w.heap.size w w') := fun w => grow_any _ w (by omega) (by omega)
  have HU : Hid (Byt w u xs) := hu
  have HV : Hid (Byt w v ys) := hv
  have lc : c < w.heap.size := World.block_lt_of_cell? w _ h0
  obtain ⟨uo, uc, hue, -⟩ := hu
  obtain ⟨vo, vc, hve, -⟩ := hv
  obtain ⟨a, ha⟩ : ∃ a, a = xs.length := ⟨_, rfl⟩
  obtain ⟨b, hb⟩ : ∃ b, b = ys.length := ⟨_, rfl⟩
  have HA : Hid (a = xs.length) := ha
  have HB : Hid (b = ys.length) := hb
  rw [← ha] at hue HG hx hxl
  rw [← hb] at hve HG hyl
  clear ha hb
  subst hue
  subst hve
  have HC0 : Hid (w.cell? ⟨c, 0, none⟩ = some (.slice uo a uc)) := h0
  have HC1 : Hid (w.cell? ⟨c, 1, none⟩ = some (.slice vo b vc)) := h1
  go_enter Tryd.func34, Tryd.ntmps34
  go_wp2
  go_loopw [11, 3] (fun i z wr => ((i = .int .i64 0 ∧ z = .int .i64 0) ∨ (i = .int .i64 1 ∧ z = .int .i64 (a : Int)) ∨ (i = .int .i64 2 ∧ z = .int .i64 ((a + b : Nat) : Int))) ∧ wr = w) (fun i _ _ => 2 - (intOf i).toNat)
  case atStart => exact ⟨.inl ⟨rfl, rfl⟩, rfl⟩
  case round =>
    obtain ⟨⟨rfl, rfl⟩ | ⟨rfl, rfl⟩ | ⟨rfl, rfl⟩, rfl⟩ := hrel
    · have q1 : IntKind.i64.wrap (a : Int) = (a : Int) := by rw [IntKind.wrap_i64]; omega
      have q2 : ¬ ((a : Int) < 0) := by omega
      go_wp2
      go_roundw
      case rel => exact ⟨.inr (.inl ⟨rfl, rfl⟩), trivial⟩
      case measure => simp [intOf]
    · have q1 : IntKind.i64.wrap ((a : Int) + (b : Int)) = (a : Int) + (b : Int) := by rw [IntKind.wrap_i64]; omega
      have q2 : ¬ ((a : Int) + (b : Int) < 0) := by omega
      go_wp2
      go_roundw
      case rel => exact ⟨.inr (.inr ⟨rfl, rfl⟩), trivial⟩
      case measure => simp [intOf]
    · obtain ⟨wa, rfl⟩ : ∃ wx, wx = wr := ⟨_, rfl⟩
      go_wp2_with (go_at_call 39; refine (HG.out _).mono ?_; rintro e w1 ⟨v1, rfl, o1, B1⟩; have O1 : Hid (Own wa.heap.size w1 v1 []) := o1; clear o1)
      go_loopw [27, 6] (fun i o wx => ((i = .int .i64 0 ∧ Own wa.heap.size wx o []) ∨ (i = .int .i64 1 ∧ Own wa.heap.size wx o xs) ∨ (i = .int .i64 2 ∧ Own wa.heap.size wx o (xs ++ ys))) ∧ Below wa.heap.size wa wx) (fun i _ _ => 2 - (intOf i).toNat)
      case atStart => exact ⟨.inl ⟨rfl, O1.out⟩, B1⟩
      case round =>
        clear B1 O1
        obtain ⟨⟨rfl, o2⟩ | ⟨rfl, o2⟩ | ⟨rfl, o2⟩, B2⟩ := hrel
        · have cc : wr.cell? ⟨c, 0, none⟩ = some (.slice uo a uc) := (B2.cell lc).trans HC0.out
          have YY : Hid (Byt wr (.slice uo a uc) xs) := HU.out.below B2
          have O2 : Hid (Own wa.heap.size wr u6 []) := o2
          have z2 := B2.size
          clear o2
          go_wp2_with (at_builtin; refine pushs_lawG _ rfl (.tmp 31) (.tmp 32) rfl wa.heap.size z2 _ _ [] xs rfl rfl O2.out YY.out (by have := HA.out; have := HB.out; simp <;> omega) (by have := HA.out; have := HB.out; omega) ?_; intro v3 w3 o3 B3; have O3 : Hid (Own wa.heap.size w3 v3 ([] ++ xs)) := o3; clear o3)
          go_roundw
          case rel => exact ⟨.inr (.inl ⟨rfl, O3.out⟩), B2.trans B3⟩
          case measure => simp [intOf]
        · have cc : wr.cell? ⟨c, 1, none⟩ = some (.slice vo b vc) := (B2.cell lc).trans HC1.out
          have YY : Hid (Byt wr (.slice vo b vc) ys) := HV.out.below B2
          have O2 : Hid (Own wa.heap.size wr u6 xs) := o2
          have z2 := B2.size
          clear o2
          go_wp2_with (at_builtin; refine pushs_lawG _ rfl (.tmp 31) (.tmp 32) rfl wa.heap.size z2 _ _ xs ys rfl rfl O2.out YY.out (by have := HA.out; have := HB.out; simp <;> omega) (by have := HA.out; have := HB.out; omega) ?_; intro v3 w3 o3 B3; have O3 : Hid (Own wa.heap.size w3 v3 (xs ++ ys)) := o3; clear o3)
          go_roundw
          case rel => exact ⟨.inr (.inr ⟨rfl, O3.out⟩), B2.trans B3⟩
          case measure => simp [intOf]
        · go_wp2
          go_ret
          exact ⟨_, rfl, o2, B2⟩

set_option maxHeartbeats 1000000 in
theorem first_any (w : World) : Calls Tryd.prog 35 #[] w fun e w' => ∃ v, e = .returned v ∧ Byt w' v a6 ∧ Below w.heap.size w w' := by
  have H : Hid (∀ w, Calls Tryd.prog 40 #[.int .u8 166, .int .i64 8] w fun e w' => ∃ v, e = .returned v ∧ Byt w' v a6 ∧ Below w.heap.size w w') := fun w => by
    have := fill_any 166 8 w (by omega)
    rw [show clamp 8 65536 = 8 by unfold clamp; omega] at this
    exact this
  generalize a6 = zs at *
  go_enter Tryd.func35, Tryd.ntmps35
  go_wp2_with (go_at_call 40; refine (H.out _).mono ?_; rintro e w1 ⟨v1, rfl, y1, B1⟩)
  go_ret
  exact ⟨_, rfl, y1, B1⟩

set_option maxHeartbeats 1000000 in
theorem may_any (N : Int) (w : World) (b : Bool) (hb : b = decide (16 ≤ N ∧ N ≤ 256 ∧ N % 8 = 0)) (h1 : -1000 ≤ N) (h2 : N ≤ 9223372036854775807) :
    Calls Tryd.prog 33 #[.int .i64 N] w fun e w' => e = .returned (.bool b) ∧ w' = w := by
  have HB : Hid (b = decide (16 ≤ N ∧ N ≤ 256 ∧ N % 8 = 0)) := hb
  clear hb
  by_cases a1 : 16 ≤ N
  · have l1 : N ≥ 16 := a1
    obtain ⟨m, hm⟩ : ∃ m, m = N % 8 := ⟨_, rfl⟩
    have HM : Hid (m = N % 8) := hm
    have d1 : N.tmod 8 = m := by rw [Int.tmod_eq_emod_of_nonneg (by omega)]; exact hm.symm
    have d2 : IntKind.i64.wrap m = m := by rw [IntKind.wrap_i64]; omega
    clear hm
    by_cases a2 : N ≤ 256
    · by_cases a3 : m = 0
      · subst a3
        go_enter Tryd.func33, Tryd.ntmps33
        go_wp2
        go_ret
        exact ⟨ret_bool (by rw [HB.out, ← HM.out]; simp; omega), rfl⟩
      · go_enter Tryd.func33, Tryd.ntmps33
        go_wp2
        go_ret
        have e0 : (m == 0) = false := by simpa using a3
        exact ⟨ret_bool (by rw [HB.out, ← HM.out, e0]; simp [a3]), rfl⟩
    · go_enter Tryd.func33, Tryd.ntmps33
      go_wp2
      go_ret
      exact ⟨ret_bool (by rw [HB.out]; simp; omega), rfl⟩
  · go_enter Tryd.func33, Tryd.ntmps33
    go_wp2
    go_ret
    exact ⟨ret_bool (by rw [HB.out]; simp; omega), rfl⟩

end Go.Proofs.YtifepmdhbhdjpaaDoor.wr

/- What wrap's Wrap and Unwrap answer. No claim of its own. -/
namespace Go.Proofs.YtifepmdhbhdjpaaDoor.wr
open Go.RowKit
set_option maxRecDepth 20000

set_option linter.unusedSimpArgs false in
set_option maxRecDepth 20000 in
set_option maxHeartbeats 4000000 in
theorem wrap_any (kv bv : Value) (key b : List Int) (n : Nat) (w : World) (hk : Byt w kv key) (hkl : key.length = 32) (hb : Byt w bv b) (hbl : b.length = 8 * n) (hn : 2 ≤ n) (hn' : n ≤ 32) :
    Calls Tryd.prog 26 #[kv, bv] w fun e w' => ∃ v, e = .returned (.tuple #[v, .int .i64 0]) ∧ Byt w' v (wrapped key b n) ∧ Below w.heap.size w w' := by
  have hka := hk.all
  have hba := hb.all
  have S1 : Hid (Calls Tryd.prog 32 #[kv] w fun e w' => ∃ kb, e = .returned (.tuple #[.pointer (some ⟨kb, 0, none⟩), .int .i64 0]) ∧ KeyA w' kb key ∧ w.heap.size ≤ kb ∧ Below w.heap.size w w') := new_any kv key w hk hkl
  have S2 : Hid (∀ w, Calls Tryd.prog 33 #[.int .i64 (b.length : Int)] w fun e w' => e = .returned (.bool true) ∧ w' = w) := fun w => may_any _ w true (by simp; omega) (by omega) (by omega)
  have S4 : Hid (∀ c u w, Byt w u a6 → Byt w bv b → w.cell? ⟨c, 0, none⟩ = some u → w.cell? ⟨c, 1, none⟩ = some bv → Calls Tryd.prog 34 #[.slice (some ⟨c, 0, none⟩) 2 2] w fun e w' => ∃ r, e = .returned r ∧ Own w.heap.size w' r (ws key n (a6 ++ b) 0) ∧ Below w.heap.size w w') := fun c u w h1 h2 h3 h4 => concat_any c u bv a6 b w h1 h2 (by rw [a6_len]; omega) (by rw [a6_len]; omega) (by omega) h3 h4
  have fit : ∀ k, Fit (8 * n + 8) (ws key n (a6 ++ b) k) := fun k => ws_fit key hkl hka n (by omega) _ (a6_fit b n hbl hba) k
  have S5 : Hid (∀ g cap, 8 * n + 8 ≤ cap → ∀ w, Calls Tryd.prog 36 #[.slice (some ⟨g, 0, none⟩) (8 * n + 8) cap] w fun e w' => e = .returned (.int .i64 ((6 * n : Nat) : Int)) ∧ w' = w) := fun g cap _ w => last_any _ _ n cap w rfl (by omega)
  have S6 : Hid (∀ k, k < 6 * n → ∀ kb g cap w, 8 * n + 8 ≤ cap → KeyA w kb key → Ar w g 0 .u8 (ws key n (a6 ++ b) k) → Calls Tryd.prog 37 #[.pointer (some ⟨kb, 0, none⟩), .slice (some ⟨g, 0, none⟩) (8 * n + 8) cap, .int .i64 ((k + 1 : Nat) : Int)] w fun e w' => e = .returned (.int .i64 0) ∧ Ar w' g 0 .u8 (ws key n (a6 ++ b) (k + 1)) ∧ w.grownBy w' (some g)) := fun k hk kb g cap w hc h1 h2 => one_any kb g n (k + 1) cap key _ w h1 hkl hka h2 (fit k) (by omega) hn' (by omega) (by omega) hc
  have HW : Hid (wrapped key b n = ws key n (a6 ++ b) (6 * n)) := rfl
  have HL : Hid (∀ k, (ws key n (a6 ++ b) k).length = 8 * n + 8 ∧ AllB (ws key n (a6 ++ b) k)) := fun k => fit k
  have HV : Hid (Byt w bv b) := hb
  clear hk hka hba fit hkl
  obtain ⟨R, hR⟩ : ∃ R : Nat → List Int, R = ws key n (a6 ++ b) := ⟨_, rfl⟩
  rw [← hR] at S4 S6 HW HL
  clear hR
  generalize wrapped key b n = Z at *
  obtain ⟨bo, bc, rfl, hb1, hb2, -, -, -⟩ := hb
  rw [hbl] at S2 S4 HV hb1 ⊢
  clear hbl
  obtain ⟨m, hm⟩ : ∃ m, m = 8 * n := ⟨_, rfl⟩
  obtain ⟨L, hL⟩ : ∃ L, L = 8 * n + 8 := ⟨_, rfl⟩
  obtain ⟨T, hT⟩ : ∃ T, T = 6 * n := ⟨_, rfl⟩
  rw [← hm] at S2 S4 HV hb1 ⊢
  rw [← hL] at S5 S6 HL
  rw [← hT] at S5 S6 HW
  have HLN : Hid (L = 8 * n + 8 ∧ 2 ≤ n ∧ n ≤ 32) := ⟨hL, hn, hn'⟩
  have T0 : T ≤ 192 := by omega
  clear hm hL hT hn hn'
  have t0 : True := trivial
  have t1 : True := trivial
  have t2 : True := trivial
  have t3 : True := trivial
  go_enter Tryd.func26, Tryd.ntmps26
  go_wp2_with (first
    | (have q := t0; go_at_call 32; refine (S1.out).mono ?_; rintro e w1 ⟨kb, rfl, k1, l1, B1⟩; have K1 : Hid (KeyA w1 kb key) := k1; have lk := k1.lt; have V1 : Hid (Byt w1 (.slice bo m bc) b) := HV.out.below B1; clear k1 t0 q)
    | (have q := t1; go_at_call 33; refine (S2.out _).mono ?_; rintro e wx ⟨rfl, hw⟩; obtain rfl := hw.symm; clear t1 q)
    | (have q := t2; go_at_call 35; refine (first_any _).mono ?_; rintro e w2 ⟨v2, rfl, y2, B2⟩; have Y2 : Hid (Byt w2 v2 a6) := y2; obtain ⟨o2, c2, e2, -⟩ := y2; subst e2; have s2 := B2.size; have V2 : Hid (Byt w2 (.slice bo m bc) b) := V1.out.below B2; clear t2 q)
    | (have q := t3; go_at_call 34; refine (S4.out _ _ _ (Y2.out.below ((Below.refl _ _).alloc (Nat.le_refl _) _)) (V2.out.below ((Below.refl _ _).alloc (Nat.le_refl _) _)) (cell_new2 _ _ _ _).1 (cell_new2 _ _ _ _).2).mono ?_; rintro e w3 ⟨v3, rfl, o3, B3⟩; have O3 : Hid (Own (w2.alloc (.cells #[.slice o2 a6.length c2, .slice bo m bc] 23)).heap.size w3 v3 (R 0)) := o3; have B3' : Hid (Below (w2.alloc (.cells #[.slice o2 a6.length c2, .slice bo m bc] 23)).heap.size (w2.alloc (.cells #[.slice o2 a6.length c2, .slice bo m bc] 23)) w3) := B3; clear o3 B3 t3 q))
  have BA : Below w2.heap.size w2 (w2.alloc (.cells #[.slice o2 a6.length c2, .slice bo m bc] 23)) := (Below.refl _ _).alloc (Nat.le_refl _) _
  have sA := BA.size
  obtain ⟨g, cap, hv3, g1, g2, g3, g4⟩ := Own.ar O3.out (by rw [(HL.out 0).1]; have := HLN.out; omega)
  rw [(HL.out 0).1] at hv3 g2
  subst hv3
  have BW : Hid (Below w.heap.size w w3) := ((B1.trans (B2.mono B1.size)).trans (BA.mono (by have := B1.size; omega))).trans (B3'.out.mono (by have := B1.size; omega))
  have K3 : Hid (KeyA w3 kb key) := ((K1.out.below B2 lk).below BA (by omega)).below B3'.out (by omega)
  have A3 : Hid (Ar w3 g 0 .u8 (R 0)) := g4
  have lg : g < w3.heap.size := g4.lt (by rw [(HL.out 0).1]; have := HLN.out; omega)
  have lkg : kb < g := by omega
  have lwg : w.heap.size ≤ g := by have := B1.size; omega
  have C8 : Hid (L ≤ cap ∧ cap ≤ 9223372036854775807) := ⟨g2, g3⟩
  clear O3 B3' BA sA g1 g2 g3 g4 K1 V1 V2 Y2 B1 B2 s2 S1 S2 S4 HV
  go_loopw [9] (fun i wr => ∃ k : Nat, k ≤ T ∧ i = .int .i64 ((k + 1 : Nat) : Int) ∧ Ar wr g 0 .u8 (R k) ∧ Below g w3 wr) (fun i _ => T + 1 - (intOf i).toNat)
  case atStart => exact ⟨0, Nat.zero_le _, rfl, A3.out, Below.refl _ _⟩
  case round =>
    obtain ⟨k, hk, rfl, hA, hB⟩ := hrel
    have HA : Hid (Ar wr g 0 .u8 (R k)) := hA
    have HB : Hid (Below g w3 wr) := hB
    obtain ⟨j, hj⟩ : ∃ j, j = k + 1 := ⟨_, rfl⟩
    have HJ : Hid (j = k + 1) := hj
    rw [← hj]
    clear hA hB hj
    have u0 : True := trivial
    have u1' : True := trivial
    by_cases hlt : k < T
    · have k1 : (j : Int) ≤ (T : Int) := by have := HJ.out; omega
      have q3 : IntKind.i64.wrap ((j : Int) + 1) = (j : Int) + 1 := by rw [IntKind.wrap_i64]; have := HJ.out; omega
      have S6k : Hid (∀ w, KeyA w kb key → Ar w g 0 .u8 (R k) → Calls Tryd.prog 37 #[.pointer (some ⟨kb, 0, none⟩), .slice (some ⟨g, 0, none⟩) L cap, .int .i64 (j : Int)] w fun e w' => e = .returned (.int .i64 0) ∧ Ar w' g 0 .u8 (R (k + 1)) ∧ w.grownBy w' (some g)) := fun w h1 h2 => by rw [HJ.out]; exact S6.out k hlt kb g cap w C8.out.1 h1 h2
      go_wp2_with (first
        | (have q := u0; go_at_call 36; refine (S5.out _ _ C8.out.1 _).mono ?_; rintro e wx ⟨rfl, hw⟩; obtain rfl := hw.symm; clear u0 q)
        | (have q := u1'; go_at_call 37; refine (S6k.out _ (K3.out.below HB.out lkg) HA.out).mono ?_; rintro e w5 ⟨rfl, a5, G5⟩; have A5 : Hid (Ar w5 g 0 .u8 (R (k + 1))) := a5; have B5 : Hid (Below g w3 w5) := HB.out.trans (below_but G5 (by have := HB.out.size; omega)); clear u1' q a5 G5))
      go_roundw
      case rel => exact ⟨k + 1, by omega, by rw [HJ.out]; go_num, A5.out, B5.out⟩
      case measure => have := HJ.out; simp [intOf]; omega
    · have hkn : k = T := by omega
      subst hkn
      have k1 : ¬ ((j : Int) ≤ (k : Int)) := by have := HJ.out; omega
      go_wp2_with (go_at_call 36; refine (S5.out _ _ C8.out.1 _).mono ?_; rintro e wx ⟨rfl, hw⟩; obtain rfl := hw.symm)
      go_ret2
      exact ⟨_, rfl, by rw [HW.out]; exact HA.out.bytG (HL.out k).2 L cap (HL.out k).1 C8.out.1 C8.out.2, BW.out.trans (HB.out.mono lwg)⟩
end Go.Proofs.YtifepmdhbhdjpaaDoor.wr

/- What wrap's Unwrap answers, and Wrap and Unwrap of what may not be. No claim of its own. -/
namespace Go.Proofs.YtifepmdhbhdjpaaDoor.wr
open Go.RowKit
set_option maxRecDepth 20000

set_option maxHeartbeats 2000000 in
theorem wrap_no (kv bv : Value) (key b : List Int) (w : World) (hk : Byt w kv key) (hb : Byt w bv b) (hno : ¬ (key.length = 32 ∧ 16 ≤ (b.length : Int) ∧ (b.length : Int) ≤ 256 ∧ ((b.length : Int)) % 8 = 0)) :
    Calls Tryd.prog 26 #[kv, bv] w fun e w' => e = .returned (.tuple #[.slice none 0 0, .int .i64 2]) ∧ Below w.heap.size w w' := by
  have hlen := hb.len
  by_cases hl : key.length = 32
  · have S1 : Hid (Calls Tryd.prog 32 #[kv] w fun e w' => ∃ kb, e = .returned (.tuple #[.pointer (some ⟨kb, 0, none⟩), .int .i64 0]) ∧ KeyA w' kb key ∧ w.heap.size ≤ kb ∧ Below w.heap.size w w') := new_any kv key w hk hl
    have S2 : Hid (∀ w, Calls Tryd.prog 33 #[.int .i64 ((b.length : Int))] w fun e w' => e = .returned (.bool false) ∧ w' = w) := fun w => may_any _ w false (by rw [eq_comm, decide_eq_false_iff_not]; exact fun h => hno ⟨hl, h⟩) (by omega) (by omega)
    clear hk hno hl
    obtain ⟨bo, bc, rfl, hb1, hb2, -, -, -⟩ := hb
    go_enter Tryd.func26, Tryd.ntmps26
    go_wp2_with (first
      | (go_at_call 32; refine (S1.out).mono ?_; rintro e w1 ⟨kb, rfl, k1, l1, B1⟩; clear k1)
      | (go_at_call 33; refine (S2.out _).mono ?_; rintro e wx ⟨rfl, hw⟩; obtain rfl := hw.symm))
    go_ret2
    exact ⟨rfl, B1⟩
  · have S1 : Hid (Calls Tryd.prog 32 #[kv] w fun e w' => e = .returned (.tuple #[.pointer none, .int .i64 2]) ∧ w' = w) := new_no kv key w hk hl
    clear hk hno hl hlen hb
    go_enter Tryd.func26, Tryd.ntmps26
    go_wp2_with (go_at_call 32; refine (S1.out).mono ?_; rintro e wx ⟨rfl, hw⟩; obtain rfl := hw.symm)
    go_ret2
    exact ⟨rfl, Below.refl _ _⟩
end Go.Proofs.YtifepmdhbhdjpaaDoor.wr

/- What slot's Make answers. No claim of its own. -/
namespace Go.Proofs.YtifepmdhbhdjpaaDoor.so
open Go.RowKit Go.Proofs.YtifepmdhbhdjpaaDoor.fa Go.Proofs.YtifepmdhbhdjpaaDoor.he Go.Proofs.YtifepmdhbhdjpaaDoor.wr
set_option maxRecDepth 20000

set_option maxHeartbeats 4000000 in
theorem make_size (kv bv : Value) (ks bs : List Int) (n k n' c l e t : Int) (w : World) (hk : Byt w kv ks) (hb : Byt w bv bs) (hs : ¬ (1 ≤ n ∧ n ≤ 65535)) :
    Calls Tryd.prog 16 #[kv, .int .i64 n, .agg (he.hv k n' c l e t).toArray, bv] w fun x w' => x = .returned (.tuple #[.agg (sv false 0 0 0 (.slice none 0 0)).toArray, .int .i64 2]) ∧ Below w.heap.size w w' := by
  have SZ : Hid (∀ w0, Calls Tryd.prog 20 #[.int .i64 n] w0 fun x w' => x = .returned (.bool false) ∧ Below w0.heap.size w0 w') := fun w0 => (size_any n w0 false ((decide_eq_false hs).symm)).mono fun _ _ ⟨h1, h2⟩ => ⟨h1, by rw [h2]; exact Below.refl _ _⟩
  obtain ⟨ko, kc, rfl⟩ := form hk
  obtain ⟨bo, bc, rfl⟩ := form hb
  clear hk hb hs
  have t0 : (0 : Nat) = 0 := rfl
  go_enter Tryd.func16, Tryd.ntmps16
  go_wp2_with (first
    | (have q4 := t4; (with_reducible refine at_store ?_); refine store_lawC _ (sv false 0 0 0 (.slice none 0 0)) w1.heap.size 0 rfl rfl HR.out.2 rowy_slot.2 (sv_one _ _ _ _ rfl) ?_; intro w4 E9 R9 T9 B9; have K9 : ∀ k, k ≠ w1.heap.size → w4.heap[k]? = w3.heap[k]? := (by rw [E9.out]; exact fun k hk => heap_cells _ _ _ _ k hk); have HB0 : Hid (Vr w4 w.heap.size (he.hv k n' c l e t)) := HB0.out.heap (K9 _ (Nat.ne_of_lt LT_HB0_HR.out)); have NB_HR : Hid (NoB w4 w1.heap.size) := (by rw [E9.out]; exact NB_HR.out.set HR.out rfl (sv_nob _ _ _ _ _ _ _)); have HR : Hid (Vr w4 w1.heap.size (sv false 0 0 0 (.slice none 0 0))) := ⟨R9, T9⟩; have BB : Hid (Below w.heap.size w w4) := BB.out.trans (B9.mono LE_HR.out); clear hb0_0 hb0_1 hb0_2 hb0_3 hb0_4 hb0_5; have hb0_0 := HB0.out.cell 0 _ rfl; have hb0_1 := HB0.out.cell 1 _ rfl; have hb0_2 := HB0.out.cell 2 _ rfl; have hb0_3 := HB0.out.cell 3 _ rfl; have hb0_4 := HB0.out.cell 4 _ rfl; have hb0_5 := HB0.out.cell 5 _ rfl; clear E9 R9 T9 B9 K9; clear t4; have t5 : (1 : Nat) = 1 := rfl)
    | (have q3 := t3; refine build_law _ rfl 25 _ rfl (.agg (sv false 0 0 0 (.slice none 0 0)).toArray) (by kernel_rfl) ?_; clear t3; have t4 : (1 : Nat) = 1 := rfl)
    | (have q2 := t2; go_at_call 20; refine (SZ.out w2).mono ?_; rintro e9 w3 ⟨rfl, B9⟩; have HB0 : Hid (Vr w3 w.heap.size (he.hv k n' c l e t)) := HB0.out.below B9 (range_lt HB0.out.1 (Nat.succ_pos _)); have NB_HR : Hid (NoB w3 w1.heap.size) := NB_HR.out.heap (B9.block _ (range_lt HR.out.1 (Nat.succ_pos _))); have HR : Hid (Vr w3 w1.heap.size (sv false 0 0 0 (.slice none 0 0))) := HR.out.below B9 (range_lt HR.out.1 (Nat.succ_pos _)); have BB : Hid (Below w.heap.size w w3) := BB.out.trans (B9.mono BB.out.size); clear hb0_0 hb0_1 hb0_2 hb0_3 hb0_4 hb0_5; have hb0_0 := HB0.out.cell 0 _ rfl; have hb0_1 := HB0.out.cell 1 _ rfl; have hb0_2 := HB0.out.cell 2 _ rfl; have hb0_3 := HB0.out.cell 3 _ rfl; have hb0_4 := HB0.out.cell 4 _ rfl; have hb0_5 := HB0.out.cell 5 _ rfl; clear B9; clear t2; have t3 : (1 : Nat) = 1 := rfl)
    | (have q1 := t1; (with_reducible refine at_alloc ?_); refine new_lawN _ (sv false 0 0 0 (.slice none 0 0)) zero_slot (sv_nob _ _ _ _ _ _ _) ?_; intro w2 X9 N9 B9; have LT_HB0_HR : Hid (w.heap.size < w1.heap.size) := range_lt HB0.out.1 (Nat.succ_pos _); have LE_HR : Hid (w.heap.size ≤ w1.heap.size) := BB.out.size; have HB0 : Hid (Vr w2 w.heap.size (he.hv k n' c l e t)) := HB0.out.below B9 (range_lt HB0.out.1 (Nat.succ_pos _)); have HR : Hid (Vr w2 w1.heap.size (sv false 0 0 0 (.slice none 0 0))) := X9; have NB_HR : Hid (NoB w2 w1.heap.size) := N9; have BB : Hid (Below w.heap.size w w2) := BB.out.trans (B9.mono BB.out.size); clear hb0_0 hb0_1 hb0_2 hb0_3 hb0_4 hb0_5; have hb0_0 := HB0.out.cell 0 _ rfl; have hb0_1 := HB0.out.cell 1 _ rfl; have hb0_2 := HB0.out.cell 2 _ rfl; have hb0_3 := HB0.out.cell 3 _ rfl; have hb0_4 := HB0.out.cell 4 _ rfl; have hb0_5 := HB0.out.cell 5 _ rfl; clear X9 N9 B9; clear t1; have t2 : (1 : Nat) = 1 := rfl)
    | (have q0 := t0; refine box_lawC _ (he.hv k n' c l e t) rfl ?_; intro w1 X9 B9 l9; have HB0 : Hid (Vr w1 w.heap.size (he.hv k n' c l e t)) := X9; have BB : Hid (Below w.heap.size w w1) := B9; have hb0_0 := HB0.out.cell 0 _ rfl; have hb0_1 := HB0.out.cell 1 _ rfl; have hb0_2 := HB0.out.cell 2 _ rfl; have hb0_3 := HB0.out.cell 3 _ rfl; have hb0_4 := HB0.out.cell 4 _ rfl; have hb0_5 := HB0.out.cell 5 _ rfl; clear X9 B9 l9; clear t0; have t1 : (1 : Nat) = 1 := rfl))
  exact bodyPost_ret (v := .tuple #[.agg (sv false 0 0 0 (.slice none 0 0)).toArray, .int .i64 2]) (results_cv rfl _ _ w1.heap.size _ _ rowy_slot rfl rfl HR.out.1) rfl ⟨rfl, BB.out⟩

set_option maxHeartbeats 4000000 in
theorem make_len (kv bv : Value) (ks bs : List Int) (n k n' c l e t : Int) (w : World) (hk : Byt w kv ks) (hb : Byt w bv bs) (hs : 1 ≤ n ∧ n ≤ 65535) (hl : bs.length ≠ 96) :
    Calls Tryd.prog 16 #[kv, .int .i64 n, .agg (he.hv k n' c l e t).toArray, bv] w fun x w' => x = .returned (.tuple #[.agg (sv false 0 0 0 (.slice none 0 0)).toArray, .int .i64 2]) ∧ Below w.heap.size w w' := by
  have SZ : Hid (∀ w0, Calls Tryd.prog 20 #[.int .i64 n] w0 fun x w' => x = .returned (.bool true) ∧ Below w0.heap.size w0 w') := fun w0 => (size_any n w0 true ((decide_eq_true hs).symm)).mono fun _ _ ⟨h1, h2⟩ => ⟨h1, by rw [h2]; exact Below.refl _ _⟩
  obtain ⟨ko, kc, rfl⟩ := form hk
  obtain ⟨bo, bc, rfl⟩ := form hb
  have n96 : ((bs.length : Int) != 96) = true := bne_iff_ne.2 (by omega)
  clear hk hb hs hl
  have t0 : (0 : Nat) = 0 := rfl
  go_enter Tryd.func16, Tryd.ntmps16
  go_wp2_with (first
    | (have q4 := t4; (with_reducible refine at_store ?_); refine store_lawC _ (sv false 0 0 0 (.slice none 0 0)) w1.heap.size 0 rfl rfl HR.out.2 rowy_slot.2 (sv_one _ _ _ _ rfl) ?_; intro w4 E9 R9 T9 B9; have K9 : ∀ k, k ≠ w1.heap.size → w4.heap[k]? = w3.heap[k]? := (by rw [E9.out]; exact fun k hk => heap_cells _ _ _ _ k hk); have HB0 : Hid (Vr w4 w.heap.size (he.hv k n' c l e t)) := HB0.out.heap (K9 _ (Nat.ne_of_lt LT_HB0_HR.out)); have NB_HR : Hid (NoB w4 w1.heap.size) := (by rw [E9.out]; exact NB_HR.out.set HR.out rfl (sv_nob _ _ _ _ _ _ _)); have HR : Hid (Vr w4 w1.heap.size (sv false 0 0 0 (.slice none 0 0))) := ⟨R9, T9⟩; have BB : Hid (Below w.heap.size w w4) := BB.out.trans (B9.mono LE_HR.out); clear hb0_0 hb0_1 hb0_2 hb0_3 hb0_4 hb0_5; have hb0_0 := HB0.out.cell 0 _ rfl; have hb0_1 := HB0.out.cell 1 _ rfl; have hb0_2 := HB0.out.cell 2 _ rfl; have hb0_3 := HB0.out.cell 3 _ rfl; have hb0_4 := HB0.out.cell 4 _ rfl; have hb0_5 := HB0.out.cell 5 _ rfl; clear E9 R9 T9 B9 K9; clear t4; have t5 : (1 : Nat) = 1 := rfl)
    | (have q3 := t3; refine build_law _ rfl 25 _ rfl (.agg (sv false 0 0 0 (.slice none 0 0)).toArray) (by kernel_rfl) ?_; clear t3; have t4 : (1 : Nat) = 1 := rfl)
    | (have q2 := t2; go_at_call 20; refine (SZ.out w2).mono ?_; rintro e9 w3 ⟨rfl, B9⟩; have HB0 : Hid (Vr w3 w.heap.size (he.hv k n' c l e t)) := HB0.out.below B9 (range_lt HB0.out.1 (Nat.succ_pos _)); have NB_HR : Hid (NoB w3 w1.heap.size) := NB_HR.out.heap (B9.block _ (range_lt HR.out.1 (Nat.succ_pos _))); have HR : Hid (Vr w3 w1.heap.size (sv false 0 0 0 (.slice none 0 0))) := HR.out.below B9 (range_lt HR.out.1 (Nat.succ_pos _)); have BB : Hid (Below w.heap.size w w3) := BB.out.trans (B9.mono BB.out.size); clear hb0_0 hb0_1 hb0_2 hb0_3 hb0_4 hb0_5; have hb0_0 := HB0.out.cell 0 _ rfl; have hb0_1 := HB0.out.cell 1 _ rfl; have hb0_2 := HB0.out.cell 2 _ rfl; have hb0_3 := HB0.out.cell 3 _ rfl; have hb0_4 := HB0.out.cell 4 _ rfl; have hb0_5 := HB0.out.cell 5 _ rfl; clear B9; clear t2; have t3 : (1 : Nat) = 1 := rfl)
    | (have q1 := t1; (with_reducible refine at_alloc ?_); refine new_lawN _ (sv false 0 0 0 (.slice none 0 0)) zero_slot (sv_nob _ _ _ _ _ _ _) ?_; intro w2 X9 N9 B9; have LT_HB0_HR : Hid (w.heap.size < w1.heap.size) := range_lt HB0.out.1 (Nat.succ_pos _); have LE_HR : Hid (w.heap.size ≤ w1.heap.size) := BB.out.size; have HB0 : Hid (Vr w2 w.heap.size (he.hv k n' c l e t)) := HB0.out.below B9 (range_lt HB0.out.1 (Nat.succ_pos _)); have HR : Hid (Vr w2 w1.heap.size (sv false 0 0 0 (.slice none 0 0))) := X9; have NB_HR : Hid (NoB w2 w1.heap.size) := N9; have BB : Hid (Below w.heap.size w w2) := BB.out.trans (B9.mono BB.out.size); clear hb0_0 hb0_1 hb0_2 hb0_3 hb0_4 hb0_5; have hb0_0 := HB0.out.cell 0 _ rfl; have hb0_1 := HB0.out.cell 1 _ rfl; have hb0_2 := HB0.out.cell 2 _ rfl; have hb0_3 := HB0.out.cell 3 _ rfl; have hb0_4 := HB0.out.cell 4 _ rfl; have hb0_5 := HB0.out.cell 5 _ rfl; clear X9 N9 B9; clear t1; have t2 : (1 : Nat) = 1 := rfl)
    | (have q0 := t0; refine box_lawC _ (he.hv k n' c l e t) rfl ?_; intro w1 X9 B9 l9; have HB0 : Hid (Vr w1 w.heap.size (he.hv k n' c l e t)) := X9; have BB : Hid (Below w.heap.size w w1) := B9; have hb0_0 := HB0.out.cell 0 _ rfl; have hb0_1 := HB0.out.cell 1 _ rfl; have hb0_2 := HB0.out.cell 2 _ rfl; have hb0_3 := HB0.out.cell 3 _ rfl; have hb0_4 := HB0.out.cell 4 _ rfl; have hb0_5 := HB0.out.cell 5 _ rfl; clear X9 B9 l9; clear t0; have t1 : (1 : Nat) = 1 := rfl))
  exact bodyPost_ret (v := .tuple #[.agg (sv false 0 0 0 (.slice none 0 0)).toArray, .int .i64 2]) (results_cv rfl _ _ w1.heap.size _ _ rowy_slot rfl rfl HR.out.1) rfl ⟨rfl, BB.out⟩

set_option maxHeartbeats 4000000 in
theorem make_kek (kv bv : Value) (ks bs : List Int) (n k n' c l e t : Int) (w : World) (hk : Byt w kv ks) (hb : Byt w bv bs) (hs : 1 ≤ n ∧ n ≤ 65535) (hl : bs.length = 96) (hq : ks.length ≠ 32) :
    Calls Tryd.prog 16 #[kv, .int .i64 n, .agg (he.hv k n' c l e t).toArray, bv] w fun x w' => x = .returned (.tuple #[.agg (sv false 0 0 0 (.slice none 0 0)).toArray, .int .i64 2]) ∧ Below w.heap.size w w' := by
  have SZ : Hid (∀ w0, Calls Tryd.prog 20 #[.int .i64 n] w0 fun x w' => x = .returned (.bool true) ∧ Below w0.heap.size w0 w') := fun w0 => (size_any n w0 true ((decide_eq_true hs).symm)).mono fun _ _ ⟨h1, h2⟩ => ⟨h1, by rw [h2]; exact Below.refl _ _⟩
  have SW : Hid (∀ w0, Below w.heap.size w w0 → Calls Tryd.prog 26 #[kv, bv] w0 fun x w' => x = .returned (.tuple #[.slice none 0 0, .int .i64 2]) ∧ Below w0.heap.size w0 w') := fun w0 q => wrap_no kv bv ks bs w0 (hk.below q) (hb.below q) fun z => hq z.1
  obtain ⟨ko, kc, rfl⟩ := form hk
  obtain ⟨bo, bc, rfl⟩ := byt_form hb hl
  clear hk hb hs hl hq
  have t0 : (0 : Nat) = 0 := rfl
  go_enter Tryd.func16, Tryd.ntmps16
  go_wp2_with (first
    | (have q5 := t5; (with_reducible refine at_store ?_); refine store_lawC _ (sv false 0 0 0 (.slice none 0 0)) w1.heap.size 0 rfl rfl HR.out.2 rowy_slot.2 (sv_one _ _ _ _ rfl) ?_; intro w5 E9 R9 T9 B9; have K9 : ∀ k, k ≠ w1.heap.size → w5.heap[k]? = w4.heap[k]? := (by rw [E9.out]; exact fun k hk => heap_cells _ _ _ _ k hk); have HB0 : Hid (Vr w5 w.heap.size (he.hv k n' c l e t)) := HB0.out.heap (K9 _ (Nat.ne_of_lt LT_HB0_HR.out)); have NB_HR : Hid (NoB w5 w1.heap.size) := (by rw [E9.out]; exact NB_HR.out.set HR.out rfl (sv_nob _ _ _ _ _ _ _)); have HR : Hid (Vr w5 w1.heap.size (sv false 0 0 0 (.slice none 0 0))) := ⟨R9, T9⟩; have BB : Hid (Below w.heap.size w w5) := BB.out.trans (B9.mono LE_HR.out); clear hb0_0 hb0_1 hb0_2 hb0_3 hb0_4 hb0_5; have hb0_0 := HB0.out.cell 0 _ rfl; have hb0_1 := HB0.out.cell 1 _ rfl; have hb0_2 := HB0.out.cell 2 _ rfl; have hb0_3 := HB0.out.cell 3 _ rfl; have hb0_4 := HB0.out.cell 4 _ rfl; have hb0_5 := HB0.out.cell 5 _ rfl; clear E9 R9 T9 B9 K9; clear t5; have t6 : (1 : Nat) = 1 := rfl)
    | (have q4 := t4; refine build_law _ rfl 25 _ rfl (.agg (sv false 0 0 0 (.slice none 0 0)).toArray) (by kernel_rfl) ?_; clear t4; have t5 : (1 : Nat) = 1 := rfl)
    | (have q3 := t3; go_at_call 26; refine (SW.out w3 BB.out).mono ?_; rintro e9 w4 ⟨rfl, B9⟩; have HB0 : Hid (Vr w4 w.heap.size (he.hv k n' c l e t)) := HB0.out.below B9 (range_lt HB0.out.1 (Nat.succ_pos _)); have NB_HR : Hid (NoB w4 w1.heap.size) := NB_HR.out.heap (B9.block _ (range_lt HR.out.1 (Nat.succ_pos _))); have HR : Hid (Vr w4 w1.heap.size (sv false 0 0 0 (.slice none 0 0))) := HR.out.below B9 (range_lt HR.out.1 (Nat.succ_pos _)); have BB : Hid (Below w.heap.size w w4) := BB.out.trans (B9.mono BB.out.size); clear hb0_0 hb0_1 hb0_2 hb0_3 hb0_4 hb0_5; have hb0_0 := HB0.out.cell 0 _ rfl; have hb0_1 := HB0.out.cell 1 _ rfl; have hb0_2 := HB0.out.cell 2 _ rfl; have hb0_3 := HB0.out.cell 3 _ rfl; have hb0_4 := HB0.out.cell 4 _ rfl; have hb0_5 := HB0.out.cell 5 _ rfl; clear B9; clear t3; have t4 : (1 : Nat) = 1 := rfl)
    | (have q2 := t2; go_at_call 20; refine (SZ.out w2).mono ?_; rintro e9 w3 ⟨rfl, B9⟩; have HB0 : Hid (Vr w3 w.heap.size (he.hv k n' c l e t)) := HB0.out.below B9 (range_lt HB0.out.1 (Nat.succ_pos _)); have NB_HR : Hid (NoB w3 w1.heap.size) := NB_HR.out.heap (B9.block _ (range_lt HR.out.1 (Nat.succ_pos _))); have HR : Hid (Vr w3 w1.heap.size (sv false 0 0 0 (.slice none 0 0))) := HR.out.below B9 (range_lt HR.out.1 (Nat.succ_pos _)); have BB : Hid (Below w.heap.size w w3) := BB.out.trans (B9.mono BB.out.size); clear hb0_0 hb0_1 hb0_2 hb0_3 hb0_4 hb0_5; have hb0_0 := HB0.out.cell 0 _ rfl; have hb0_1 := HB0.out.cell 1 _ rfl; have hb0_2 := HB0.out.cell 2 _ rfl; have hb0_3 := HB0.out.cell 3 _ rfl; have hb0_4 := HB0.out.cell 4 _ rfl; have hb0_5 := HB0.out.cell 5 _ rfl; clear B9; clear t2; have t3 : (1 : Nat) = 1 := rfl)
    | (have q1 := t1; (with_reducible refine at_alloc ?_); refine new_lawN _ (sv false 0 0 0 (.slice none 0 0)) zero_slot (sv_nob _ _ _ _ _ _ _) ?_; intro w2 X9 N9 B9; have LT_HB0_HR : Hid (w.heap.size < w1.heap.size) := range_lt HB0.out.1 (Nat.succ_pos _); have LE_HR : Hid (w.heap.size ≤ w1.heap.size) := BB.out.size; have HB0 : Hid (Vr w2 w.heap.size (he.hv k n' c l e t)) := HB0.out.below B9 (range_lt HB0.out.1 (Nat.succ_pos _)); have HR : Hid (Vr w2 w1.heap.size (sv false 0 0 0 (.slice none 0 0))) := X9; have NB_HR : Hid (NoB w2 w1.heap.size) := N9; have BB : Hid (Below w.heap.size w w2) := BB.out.trans (B9.mono BB.out.size); clear hb0_0 hb0_1 hb0_2 hb0_3 hb0_4 hb0_5; have hb0_0 := HB0.out.cell 0 _ rfl; have hb0_1 := HB0.out.cell 1 _ rfl; have hb0_2 := HB0.out.cell 2 _ rfl; have hb0_3 := HB0.out.cell 3 _ rfl; have hb0_4 := HB0.out.cell 4 _ rfl; have hb0_5 := HB0.out.cell 5 _ rfl; clear X9 N9 B9; clear t1; have t2 : (1 : Nat) = 1 := rfl)
    | (have q0 := t0; refine box_lawC _ (he.hv k n' c l e t) rfl ?_; intro w1 X9 B9 l9; have HB0 : Hid (Vr w1 w.heap.size (he.hv k n' c l e t)) := X9; have BB : Hid (Below w.heap.size w w1) := B9; have hb0_0 := HB0.out.cell 0 _ rfl; have hb0_1 := HB0.out.cell 1 _ rfl; have hb0_2 := HB0.out.cell 2 _ rfl; have hb0_3 := HB0.out.cell 3 _ rfl; have hb0_4 := HB0.out.cell 4 _ rfl; have hb0_5 := HB0.out.cell 5 _ rfl; clear X9 B9 l9; clear t0; have t1 : (1 : Nat) = 1 := rfl))
  exact bodyPost_ret (v := .tuple #[.agg (sv false 0 0 0 (.slice none 0 0)).toArray, .int .i64 2]) (results_cv rfl _ _ w1.heap.size _ _ rowy_slot rfl rfl HR.out.1) rfl ⟨rfl, BB.out⟩

/-- what can't be made -/
theorem make_no (kv bv : Value) (ks bs : List Int) (n k n' c l e t : Int) (w : World) (hk : Byt w kv ks) (hb : Byt w bv bs) (h : ¬ (1 ≤ n ∧ n ≤ 65535 ∧ bs.length = 96 ∧ ks.length = 32)) :
    Calls Tryd.prog 16 #[kv, .int .i64 n, .agg (he.hv k n' c l e t).toArray, bv] w fun x w' => x = .returned (.tuple #[.agg (sv false 0 0 0 (.slice none 0 0)).toArray, .int .i64 2]) ∧ Below w.heap.size w w' := by
  by_cases h1 : 1 ≤ n ∧ n ≤ 65535
  · by_cases h2 : bs.length = 96
    · exact make_kek kv bv ks bs n k n' c l e t w hk hb h1 h2 fun q => h ⟨h1.1, h1.2, h2, q⟩
    · exact make_len kv bv ks bs n k n' c l e t w hk hb h1 h2
  · exact make_size kv bv ks bs n k n' c l e t w hk hb h1

set_option maxHeartbeats 4000000 in
theorem make_yes (kv bv : Value) (ks bs : List Int) (n k n' c l e t : Int) (w : World) (hk : Byt w kv ks) (hb : Byt w bv bs) (hs : 1 ≤ n ∧ n ≤ 65535) (hl : bs.length = 96) (hq : ks.length = 32) :
    Calls Tryd.prog 16 #[kv, .int .i64 n, .agg (he.hv k n' c l e t).toArray, bv] w fun x w' => ∃ wo wc, x = .returned (.tuple #[.agg (sv true n e t (.slice wo 104 wc)).toArray, .int .i64 0]) ∧ Byt w' (.slice wo 104 wc) (wrapped ks bs 12) ∧ Below w.heap.size w w' := by
  have SZ : Hid (∀ w0, Calls Tryd.prog 20 #[.int .i64 n] w0 fun x w' => x = .returned (.bool true) ∧ Below w0.heap.size w0 w') := fun w0 => (size_any n w0 true ((decide_eq_true hs).symm)).mono fun _ _ ⟨h1, h2⟩ => ⟨h1, by rw [h2]; exact Below.refl _ _⟩
  have SW : Hid (∀ w0, Below w.heap.size w w0 → Calls Tryd.prog 26 #[kv, bv] w0 fun x w' => ∃ wo wc, x = .returned (.tuple #[.slice wo 104 wc, .int .i64 0]) ∧ Byt w' (.slice wo 104 wc) (wrapped ks bs 12) ∧ Below w0.heap.size w0 w') := fun w0 q => (wrap_any kv bv ks bs 12 w0 (hk.below q) hq (hb.below q) hl (by omega) (by omega)).mono fun _ _ ⟨v, h1, h2, h3⟩ => by
    obtain ⟨wo, wc, rfl⟩ := byt_form h2 (wrapped_fit ks hq hk.all bs 12 (by omega) hl hb.all).1
    exact ⟨wo, wc, h1, h2, h3⟩
  obtain ⟨bo, bc, rfl⟩ := byt_form hb hl
  obtain ⟨ko, kc, rfl⟩ := byt_form hk hq
  generalize wrapped ks bs 12 = X at SW ⊢
  clear hk hb hs hl hq
  have t0 : (0 : Nat) = 0 := rfl
  go_enter Tryd.func16, Tryd.ntmps16
  go_wp2_with (first
    | (have q4 := t4; (with_reducible refine at_store ?_); refine store_lawC _ (sv true n e t (.slice wo 104 wc)) w1.heap.size 0 rfl rfl HR.out.2 rowy_slot.2 (sv_one _ _ _ _ rfl) ?_; intro w5 E9 R9 T9 B9; have K9 : ∀ k, k ≠ w1.heap.size → w5.heap[k]? = w4.heap[k]? := (by rw [E9.out]; exact fun k hk => heap_cells _ _ _ _ k hk); have HB0 : Hid (Vr w5 w.heap.size (he.hv k n' c l e t)) := HB0.out.heap (K9 _ (Nat.ne_of_lt LT_HB0_HR.out)); have HW : Hid (Byt w5 (.slice wo 104 wc) X) := byt_nob HW.out NB_HR.out K9; have NB_HR : Hid (NoB w5 w1.heap.size) := (by rw [E9.out]; exact NB_HR.out.set HR.out rfl (sv_nob _ _ _ _ _ _ _)); have HR : Hid (Vr w5 w1.heap.size (sv true n e t (.slice wo 104 wc))) := ⟨R9, T9⟩; have BB : Hid (Below w.heap.size w w5) := BB.out.trans (B9.mono LE_HR.out); clear hb0_0 hb0_1 hb0_2 hb0_3 hb0_4 hb0_5; have hb0_0 := HB0.out.cell 0 _ rfl; have hb0_1 := HB0.out.cell 1 _ rfl; have hb0_2 := HB0.out.cell 2 _ rfl; have hb0_3 := HB0.out.cell 3 _ rfl; have hb0_4 := HB0.out.cell 4 _ rfl; have hb0_5 := HB0.out.cell 5 _ rfl; clear E9 R9 T9 B9 K9; clear t4; have t5 : (1 : Nat) = 1 := rfl)
    | (have q3 := t3; go_at_call 26; refine (SW.out w3 BB.out).mono ?_; rintro e9 w4 ⟨wo, wc, rfl, Y9, B9⟩; have HB0 : Hid (Vr w4 w.heap.size (he.hv k n' c l e t)) := HB0.out.below B9 (range_lt HB0.out.1 (Nat.succ_pos _)); have NB_HR : Hid (NoB w4 w1.heap.size) := NB_HR.out.heap (B9.block _ (range_lt HR.out.1 (Nat.succ_pos _))); have HR : Hid (Vr w4 w1.heap.size (sv false 0 0 0 (.slice none 0 0))) := HR.out.below B9 (range_lt HR.out.1 (Nat.succ_pos _)); have HW : Hid (Byt w4 (.slice wo 104 wc) X) := Y9; have BB : Hid (Below w.heap.size w w4) := BB.out.trans (B9.mono BB.out.size); clear hb0_0 hb0_1 hb0_2 hb0_3 hb0_4 hb0_5; have hb0_0 := HB0.out.cell 0 _ rfl; have hb0_1 := HB0.out.cell 1 _ rfl; have hb0_2 := HB0.out.cell 2 _ rfl; have hb0_3 := HB0.out.cell 3 _ rfl; have hb0_4 := HB0.out.cell 4 _ rfl; have hb0_5 := HB0.out.cell 5 _ rfl; clear B9 Y9; clear t3; have t4 : (1 : Nat) = 1 := rfl)
    | (have q2 := t2; go_at_call 20; refine (SZ.out w2).mono ?_; rintro e9 w3 ⟨rfl, B9⟩; have HB0 : Hid (Vr w3 w.heap.size (he.hv k n' c l e t)) := HB0.out.below B9 (range_lt HB0.out.1 (Nat.succ_pos _)); have NB_HR : Hid (NoB w3 w1.heap.size) := NB_HR.out.heap (B9.block _ (range_lt HR.out.1 (Nat.succ_pos _))); have HR : Hid (Vr w3 w1.heap.size (sv false 0 0 0 (.slice none 0 0))) := HR.out.below B9 (range_lt HR.out.1 (Nat.succ_pos _)); have BB : Hid (Below w.heap.size w w3) := BB.out.trans (B9.mono BB.out.size); clear hb0_0 hb0_1 hb0_2 hb0_3 hb0_4 hb0_5; have hb0_0 := HB0.out.cell 0 _ rfl; have hb0_1 := HB0.out.cell 1 _ rfl; have hb0_2 := HB0.out.cell 2 _ rfl; have hb0_3 := HB0.out.cell 3 _ rfl; have hb0_4 := HB0.out.cell 4 _ rfl; have hb0_5 := HB0.out.cell 5 _ rfl; clear B9; clear t2; have t3 : (1 : Nat) = 1 := rfl)
    | (have q1 := t1; (with_reducible refine at_alloc ?_); refine new_lawN _ (sv false 0 0 0 (.slice none 0 0)) zero_slot (sv_nob _ _ _ _ _ _ _) ?_; intro w2 X9 N9 B9; have LT_HB0_HR : Hid (w.heap.size < w1.heap.size) := range_lt HB0.out.1 (Nat.succ_pos _); have LE_HR : Hid (w.heap.size ≤ w1.heap.size) := BB.out.size; have HB0 : Hid (Vr w2 w.heap.size (he.hv k n' c l e t)) := HB0.out.below B9 (range_lt HB0.out.1 (Nat.succ_pos _)); have HR : Hid (Vr w2 w1.heap.size (sv false 0 0 0 (.slice none 0 0))) := X9; have NB_HR : Hid (NoB w2 w1.heap.size) := N9; have BB : Hid (Below w.heap.size w w2) := BB.out.trans (B9.mono BB.out.size); clear hb0_0 hb0_1 hb0_2 hb0_3 hb0_4 hb0_5; have hb0_0 := HB0.out.cell 0 _ rfl; have hb0_1 := HB0.out.cell 1 _ rfl; have hb0_2 := HB0.out.cell 2 _ rfl; have hb0_3 := HB0.out.cell 3 _ rfl; have hb0_4 := HB0.out.cell 4 _ rfl; have hb0_5 := HB0.out.cell 5 _ rfl; clear X9 N9 B9; clear t1; have t2 : (1 : Nat) = 1 := rfl)
    | (have q0 := t0; refine box_lawC _ (he.hv k n' c l e t) rfl ?_; intro w1 X9 B9 l9; have HB0 : Hid (Vr w1 w.heap.size (he.hv k n' c l e t)) := X9; have BB : Hid (Below w.heap.size w w1) := B9; have hb0_0 := HB0.out.cell 0 _ rfl; have hb0_1 := HB0.out.cell 1 _ rfl; have hb0_2 := HB0.out.cell 2 _ rfl; have hb0_3 := HB0.out.cell 3 _ rfl; have hb0_4 := HB0.out.cell 4 _ rfl; have hb0_5 := HB0.out.cell 5 _ rfl; clear X9 B9 l9; clear t0; have t1 : (1 : Nat) = 1 := rfl))
  exact bodyPost_ret (v := .tuple #[.agg (sv true n e t (.slice wo 104 wc)).toArray, .int .i64 0]) (results_cv rfl _ _ w1.heap.size _ _ rowy_slot rfl rfl HR.out.1) rfl ⟨_, _, rfl, HW.out, BB.out⟩
end Go.Proofs.YtifepmdhbhdjpaaDoor.so

