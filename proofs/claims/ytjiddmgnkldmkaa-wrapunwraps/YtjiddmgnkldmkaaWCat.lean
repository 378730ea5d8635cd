/- What slices.Grow, Concat (of two) and Clone answer, and how many bytes may be wrapped. No claim of its own. -/
import Derived.Test.YtjiddmgnkldmkaaWOne
import Derived.Lib.SliceRun
namespace Go.Proofs.Ytjiddmgnkldmkaa.wr
open Go.RowKit

set_option maxHeartbeats 1000000 in
theorem grow_any (n : Nat) (w : World) (hp : 0 < n) (hn : n ≤ 1000000) :
    Calls Try.prog 32 #[.slice none 0 0, .int .i64 (n : Int)] w fun e w' => ∃ v, e = .returned v ∧ Own w.heap.size w' v [] ∧ Below w.heap.size w w' := by
  have k1 : ¬ ((n : Int) < 0) := by omega
  have k2 : IntKind.i64.wrap ((n : Int) - 0) = (n : Int) := by rw [IntKind.wrap_i64]; omega
  have k3 : IntKind.i64.wrap (n : Int) = (n : Int) := by rw [IntKind.wrap_i64]; omega
  have k4 : (n : Int) > 0 := by omega
  go_enter Try.func32, Try.ntmps32
  go_wp2_with (at_builtin; refine zeros_law _ rfl (.tmp 20) (.tmp 21) rfl (n : Int) n rfl rfl rfl hp hn ?_; intro cap w1 c1 c2 o1 B1; have O1 : Hid (Own w.heap.size w1 (.slice (some ⟨w.heap.size, 0, none⟩) 0 cap) []) := o1; have c3 : (0 : Int) ≤ (cap : Int) := (by omega); clear o1)
  go_ret
  exact ⟨_, rfl, O1.out, B1⟩

set_option maxHeartbeats 1000000 in
theorem clone_any (w : World) (ad : Addr) (n cap : Nat) (xs : List Int) (h : Byt w (.slice (some ad) n cap) xs) (hl : xs.length ≤ 1000000) :
    Calls Try.prog 25 #[.slice (some ad) n cap] w fun e w' => ∃ v', e = .returned v' ∧ Own w.heap.size w' v' xs ∧ Below w.heap.size w w' := by
  have HV : Hid (Byt (w.alloc (.cells #[] 5)) (.slice (some ad) n cap) xs) := h.below ((Below.refl _ _).alloc (Nat.le_refl _) _)
  have HO : Hid (Own w.heap.size (w.alloc (.cells #[] 5)) (.slice (some ⟨w.heap.size, 0, none⟩) 0 0) []) := Own.empty w (Nat.le_refl _)
  have B0 : Below w.heap.size w (w.alloc (.cells #[] 5)) := (Below.refl _ _).alloc (Nat.le_refl _) _
  have z0 := B0.size
  have qn : ∀ w : World, (binOp .eql 22 (.slice (some ad) n cap) (.slice none 0 0)).run Try.prog w = .ok (.bool false) w := fun w => Lib.run_eql_slice_nil w _ _ (some ad) n cap 0 0 Try.underlying22
  clear h
  go_enter Try.func25, Try.ntmps25
  go_wp2_with (refine pushs_lawG _ rfl (.tmp 5) (.tmp 6) rfl w.heap.size z0 _ _ [] xs rfl rfl HO.out HV.out (by simp) (by omega) ?_; intro v1 w1 O1 b1; rw [List.nil_append] at O1; have HO1 : Hid (Own w.heap.size w1 v1 xs) := O1; clear O1; have c1 : Below w.heap.size w w1 := B0.trans b1)
  go_ret
  exact ⟨_, rfl, HO1.out, c1⟩

theorem cell_new2 (w : World) (x y : Value) (t : TypeId) : (w.alloc (.cells #[x, y] t)).cell? ⟨w.heap.size, 0, none⟩ = some x ∧ (w.alloc (.cells #[x, y] t)).cell? ⟨w.heap.size, 1, none⟩ = some y := by
  constructor
  · rw [cell_of_row (w.alloc (.cells #[x, y] t)) w.heap.size 0 _ t (0, 0) (heap_alloc_last w _)]; rfl
  · rw [cell_of_row (w.alloc (.cells #[x, y] t)) w.heap.size 1 _ t (0, 0) (heap_alloc_last w _)]; rfl

set_option linter.unusedSimpArgs false in
set_option maxRecDepth 20000 in
set_option maxHeartbeats 4000000 in
theorem concat_any (c : Nat) (u v : Value) (xs ys : List Int) (w : World) (hu : Byt w u xs) (hv : Byt w v ys) (hx : 0 < xs.length) (hxl : xs.length ≤ 1000) (hyl : ys.length ≤ 1000) (h0 : w.cell? ⟨c, 0, none⟩ = some u) (h1 : w.cell? ⟨c, 1, none⟩ = some v) :
    Calls Try.prog 17 #[.slice (some ⟨c, 0, none⟩) 2 2] w fun e w' => ∃ r, e = .returned r ∧ Own w.heap.size w' r (xs ++ ys) ∧ Below w.heap.size w w' := by
  have HG : Hid (∀ w, Calls Try.prog 32 #[.slice none 0 0, .int .i64 ((xs.length + ys.length : Nat) : Int)] w fun e w' => ∃ v, e = .returned v ∧ Own w.heap.size w' v [] ∧ Below w.heap.size w w') := fun w => grow_any _ w (by omega) (by omega)
  have HU : Hid (Byt w u xs) := hu
  have HV : Hid (Byt w v ys) := hv
  have lc : c < w.heap.size := World.block_lt_of_cell? w _ h0
  obtain ⟨uo, uc, hue, -⟩ := hu
  obtain ⟨vo, vc, hve, -⟩ := hv
  obtain ⟨a, ha⟩ : ∃ a, a = xs.length := ⟨_, rfl⟩
  obtain ⟨b, hb⟩ : ∃ b, b = ys.length := ⟨_, rfl⟩
  have HA : Hid (a = xs.length) := ha
  have HB : Hid (b = ys.length) := hb
  rw [← ha] at hue HG hx hxl
  rw [← hb] at hve HG hyl
  clear ha hb
  subst hue
  subst hve
  have HC0 : Hid (w.cell? ⟨c, 0, none⟩ = some (.slice uo a uc)) := h0
  have HC1 : Hid (w.cell? ⟨c, 1, none⟩ = some (.slice vo b vc)) := h1
  go_enter Try.func17, Try.ntmps17
  go_wp2
  go_loopw [11, 3] (fun i z wr => ((i = .int .i64 0 ∧ z = .int .i64 0) ∨ (i = .int .i64 1 ∧ z = .int .i64 (a : Int)) ∨ (i = .int .i64 2 ∧ z = .int .i64 ((a + b : Nat) : Int))) ∧ wr = w) (fun i _ _ => 2 - (intOf i).toNat)
  case atStart => exact ⟨.inl ⟨rfl, rfl⟩, rfl⟩
  case round =>
    obtain ⟨⟨rfl, rfl⟩ | ⟨rfl, rfl⟩ | ⟨rfl, rfl⟩, rfl⟩ := hrel
    · have q1 : IntKind.i64.wrap (a : Int) = (a : Int) := by rw [IntKind.wrap_i64]; omega
      have q2 : ¬ ((a : Int) < 0) := by omega
      go_wp2
      go_roundw
      case rel => exact ⟨.inr (.inl ⟨rfl, rfl⟩), trivial⟩
      case measure => simp [intOf]
    · have q1 : IntKind.i64.wrap ((a : Int) + (b : Int)) = (a : Int) + (b : Int) := by rw [IntKind.wrap_i64]; omega
      have q2 : ¬ ((a : Int) + (b : Int) < 0) := by omega
      go_wp2
      go_roundw
      case rel => exact ⟨.inr (.inr ⟨rfl, rfl⟩), trivial⟩
      case measure => simp [intOf]
    · obtain ⟨wa, rfl⟩ : ∃ wx, wx = wr := ⟨_, rfl⟩
      go_wp2_with (go_at_call 32; refine (HG.out _).mono ?_; rintro e w1 ⟨v1, rfl, o1, B1⟩; have O1 : Hid (Own wa.heap.size w1 v1 []) := o1; clear o1)
      go_loopw [27, 6] (fun i o wx => ((i = .int .i64 0 ∧ Own wa.heap.size wx o []) ∨ (i = .int .i64 1 ∧ Own wa.heap.size wx o xs) ∨ (i = .int .i64 2 ∧ Own wa.heap.size wx o (xs ++ ys))) ∧ Below wa.heap.size wa wx) (fun i _ _ => 2 - (intOf i).toNat)
      case atStart => exact ⟨.inl ⟨rfl, O1.out⟩, B1⟩
      case round =>
        clear B1 O1
        obtain ⟨⟨rfl, o2⟩ | ⟨rfl, o2⟩ | ⟨rfl, o2⟩, B2⟩ := hrel
        · have cc : wr.cell? ⟨c, 0, none⟩ = some (.slice uo a uc) := (B2.cell lc).trans HC0.out
          have YY : Hid (Byt wr (.slice uo a uc) xs) := HU.out.below B2
          have O2 : Hid (Own wa.heap.size wr u6 []) := o2
          have z2 := B2.size
          clear o2
          go_wp2_with (at_builtin; refine pushs_lawG _ rfl (.tmp 31) (.tmp 32) rfl wa.heap.size z2 _ _ [] xs rfl rfl O2.out YY.out (by have := HA.out; have := HB.out; simp <;> omega) (by have := HA.out; have := HB.out; omega) ?_; intro v3 w3 o3 B3; have O3 : Hid (Own wa.heap.size w3 v3 ([] ++ xs)) := o3; clear o3)
          go_roundw
          case rel => exact ⟨.inr (.inl ⟨rfl, O3.out⟩), B2.trans B3⟩
          case measure => simp [intOf]
        · have cc : wr.cell? ⟨c, 1, none⟩ = some (.slice vo b vc) := (B2.cell lc).trans HC1.out
          have YY : Hid (Byt wr (.slice vo b vc) ys) := HV.out.below B2
          have O2 : Hid (Own wa.heap.size wr u6 xs) := o2
          have z2 := B2.size
          clear o2
          go_wp2_with (at_builtin; refine pushs_lawG _ rfl (.tmp 31) (.tmp 32) rfl wa.heap.size z2 _ _ xs ys rfl rfl O2.out YY.out (by have := HA.out; have := HB.out; simp <;> omega) (by have := HA.out; have := HB.out; omega) ?_; intro v3 w3 o3 B3; have O3 : Hid (Own wa.heap.size w3 v3 (xs ++ ys)) := o3; clear o3)
          go_roundw
          case rel => exact ⟨.inr (.inr ⟨rfl, O3.out⟩), B2.trans B3⟩
          case measure => simp [intOf]
        · go_wp2
          go_ret
          exact ⟨_, rfl, o2, B2⟩

set_option maxHeartbeats 1000000 in
theorem first_any (w : World) : Calls Try.prog 18 #[] w fun e w' => ∃ v, e = .returned v ∧ Byt w' v a6 ∧ Below w.heap.size w w' := by
  have H : Hid (∀ w, Calls Try.prog 33 #[.int .u8 166, .int .i64 8] w fun e w' => ∃ v, e = .returned v ∧ Byt w' v a6 ∧ Below w.heap.size w w') := fun w => by
    have := fill_any 166 8 w (by omega)
    rw [show clamp 8 65536 = 8 by unfold clamp; omega] at this
    exact this
  generalize a6 = zs at *
  go_enter Try.func18, Try.ntmps18
  go_wp2_with (go_at_call 33; refine (H.out _).mono ?_; rintro e w1 ⟨v1, rfl, y1, B1⟩)
  go_ret
  exact ⟨_, rfl, y1, B1⟩

set_option maxHeartbeats 1000000 in
theorem may_any (N : Int) (w : World) (b : Bool) (hb : b = decide (16 ≤ N ∧ N ≤ 256 ∧ N % 8 = 0)) (h1 : -1000 ≤ N) (h2 : N ≤ 9223372036854775807) :
    Calls Try.prog 16 #[.int .i64 N] w fun e w' => e = .returned (.bool b) ∧ w' = w := by
  have HB : Hid (b = decide (16 ≤ N ∧ N ≤ 256 ∧ N % 8 = 0)) := hb
  clear hb
  by_cases a1 : 16 ≤ N
  · have l1 : N ≥ 16 := a1
    obtain ⟨m, hm⟩ : ∃ m, m = N % 8 := ⟨_, rfl⟩
    have HM : Hid (m = N % 8) := hm
    have d1 : N.tmod 8 = m := by rw [Int.tmod_eq_emod_of_nonneg (by omega)]; exact hm.symm
    have d2 : IntKind.i64.wrap m = m := by rw [IntKind.wrap_i64]; omega
    clear hm
    by_cases a2 : N ≤ 256
    · by_cases a3 : m = 0
      · subst a3
        go_enter Try.func16, Try.ntmps16
        go_wp2
        go_ret
        exact ⟨ret_bool (by rw [HB.out, ← HM.out]; simp; omega), rfl⟩
      · go_enter Try.func16, Try.ntmps16
        go_wp2
        go_ret
        have e0 : (m == 0) = false := by simpa using a3
        exact ⟨ret_bool (by rw [HB.out, ← HM.out, e0]; simp [a3]), rfl⟩
    · go_enter Try.func16, Try.ntmps16
      go_wp2
      go_ret
      exact ⟨ret_bool (by rw [HB.out]; simp; omega), rfl⟩
  · go_enter Try.func16, Try.ntmps16
    go_wp2
    go_ret
    exact ⟨ret_bool (by rw [HB.out]; simp; omega), rfl⟩

set_option maxHeartbeats 1000000 in
theorem right_any (N : Int) (w : World) (b : Bool) (hb : b = decide (16 ≤ N ∧ N ≤ 256 ∧ N % 8 = 0)) (h1 : -1000 ≤ N) (h2 : N ≤ 9223372036854775807) :
    Calls Try.prog 9 #[.int .i64 N] w fun e w' => e = .returned (.bool b) ∧ w' = w := by
  have HB : Hid (b = decide (16 ≤ N ∧ N ≤ 256 ∧ N % 8 = 0)) := hb
  clear hb
  by_cases a1 : 16 ≤ N
  · have l1 : N ≥ 16 := a1
    obtain ⟨m, hm⟩ : ∃ m, m = N % 8 := ⟨_, rfl⟩
    have HM : Hid (m = N % 8) := hm
    have d1 : N.tmod 8 = m := by rw [Int.tmod_eq_emod_of_nonneg (by omega)]; exact hm.symm
    have d2 : IntKind.i64.wrap m = m := by rw [IntKind.wrap_i64]; omega
    clear hm
    by_cases a2 : N ≤ 256
    · by_cases a3 : m = 0
      · subst a3
        go_enter Try.func9, Try.ntmps9
        go_wp2
        go_ret
        exact ⟨ret_bool (by rw [HB.out, ← HM.out]; simp; omega), rfl⟩
      · go_enter Try.func9, Try.ntmps9
        go_wp2
        go_ret
        have e0 : (m == 0) = false := by simpa using a3
        exact ⟨ret_bool (by rw [HB.out, ← HM.out, e0]; simp [a3]), rfl⟩
    · go_enter Try.func9, Try.ntmps9
      go_wp2
      go_ret
      exact ⟨ret_bool (by rw [HB.out]; simp; omega), rfl⟩
  · go_enter Try.func9, Try.ntmps9
    go_wp2
    go_ret
    exact ⟨ret_bool (by rw [HB.out]; simp; omega), rfl⟩

end Go.Proofs.Ytjiddmgnkldmkaa.wr
