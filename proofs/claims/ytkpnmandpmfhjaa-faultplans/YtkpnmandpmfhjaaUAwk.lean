/- That fault answers at all. No claim of its own. -/
import Derived.Test.YtkpnmandpmfhjaaUSet
import Derived.Test.YtkpnmandpmfhjaaUOne
namespace Go.Proofs.Ytkpnmandpmfhjaa.fa
open Go.RowKit

theorem byt_one (w : World) (x : Int) (h : 0 ≤ x ∧ x ≤ 255) : Byt (w.alloc (.cells #[.int .u8 x] 5)) (.slice (some ⟨w.heap.size, 0, none⟩) 1 1) [x] :=
  (Ar.new w 5 .u8 [x]).bytG (allB_mem fun y hy => by simp at hy; subst hy; exact h) 1 1 rfl (by omega) (by omega)
theorem awk_val : pgl [255] [15] (mb [48]) = [207] := by decide +kernel
theorem awk_bit : bo [] 3 = true := by decide +kernel
theorem awk_three (w : World) : Byt (((w.alloc (.cells #[.int .u8 255] 5)).alloc (.cells #[.int .u8 15] 5)).alloc (.cells #[.int .u8 48] 5)) (.slice (some ⟨w.heap.size, 0, none⟩) 1 1) [255] ∧
    Byt (((w.alloc (.cells #[.int .u8 255] 5)).alloc (.cells #[.int .u8 15] 5)).alloc (.cells #[.int .u8 48] 5)) (.slice (some ⟨w.heap.size + 1, 0, none⟩) 1 1) [15] ∧
    Byt (((w.alloc (.cells #[.int .u8 255] 5)).alloc (.cells #[.int .u8 15] 5)).alloc (.cells #[.int .u8 48] 5)) (.slice (some ⟨w.heap.size + 1 + 1, 0, none⟩) 1 1) [48] ∧
    Below w.heap.size w (((w.alloc (.cells #[.int .u8 255] 5)).alloc (.cells #[.int .u8 15] 5)).alloc (.cells #[.int .u8 48] 5)) := by
  have y1 := byt_one w 255 (by decide)
  have B1 : Below w.heap.size w (w.alloc (.cells #[.int .u8 255] 5)) := (Below.refl _ _).alloc (Nat.le_refl _) _
  have z1 : (w.alloc (.cells #[.int .u8 255] 5)).heap.size = w.heap.size + 1 := by simp
  generalize w.alloc (.cells #[.int .u8 255] 5) = w1 at *
  have y2 := byt_one w1 15 (by decide)
  have B2 : Below w1.heap.size w1 (w1.alloc (.cells #[.int .u8 15] 5)) := (Below.refl _ _).alloc (Nat.le_refl _) _
  have z2 : (w1.alloc (.cells #[.int .u8 15] 5)).heap.size = w1.heap.size + 1 := by simp
  generalize w1.alloc (.cells #[.int .u8 15] 5) = w2 at *
  have y3 := byt_one w2 48 (by decide)
  have B3 : Below w2.heap.size w2 (w2.alloc (.cells #[.int .u8 48] 5)) := (Below.refl _ _).alloc (Nat.le_refl _) _
  generalize w2.alloc (.cells #[.int .u8 48] 5) = w3 at *
  rw [z2, z1] at y3
  rw [z1] at y2
  exact ⟨(y1.below B2).below B3, y2.below B3, y3, (B1.trans (B2.mono (by omega))).trans (B3.mono (by omega))⟩

set_option maxHeartbeats 2000000 in
theorem awake_any (w : World) : Calls Try.prog 10 #[] w fun e w' => e = .returned (.bool true) ∧ Below w.heap.size w w' := by
  have SC : Hid (∀ va vb vm w0, Byt w0 va [255] → Byt w0 vb [15] → Byt w0 vm [48] → Calls Try.prog 11 #[va, vb, vm] w0 fun e w' => ∃ g off cap, e = .returned (.tuple #[.slice (some ⟨g, off, none⟩) 1 cap, .int .i64 0]) ∧ w'.cell? ⟨g, off, none⟩ = some (.int .u8 207) ∧ Below w0.heap.size w0 w') := fun va vb vm w0 h1 h2 h3 => by
    refine (clear_any va vb vm _ _ _ w0 h1 h2 h3 rfl (by decide)).mono ?_
    rintro e w' ⟨v, he, hy, hb⟩
    rw [awk_val] at hy
    obtain ⟨ao, cap, rfl, -, -, -, -, hc⟩ := hy
    obtain ⟨g, off, rfl, hc2⟩ := hc (by decide)
    exact ⟨g, off, cap, he, hc2 0 (by decide), hb⟩
  have SB : Hid (∀ w0, Calls Try.prog 8 #[.slice none 0 0, .int .i64 3] w0 fun e w' => e = .returned (.bool true) ∧ Below w0.heap.size w0 w') := fun w0 => by
    have := fbit_any (.slice none 0 0) [] 3 w0 (Byt.nil w0) (by omega)
    rwa [awk_bit] at this
  have t0 : (0 : Nat) = 0 := rfl
  go_enter Try.func10, Try.ntmps10
  go_wp2_with (first
    | (have q1 := t1; go_at_call 8; refine (SB.out _).mono ?_; rintro e w2 ⟨rfl, B2⟩; clear t1)
    | (have q0 := t0; go_at_call 11; refine (SC.out _ _ _ _ (awk_three w).1 (awk_three w).2.1 (awk_three w).2.2.1).mono ?_; rintro e w1 ⟨g, off, cap, rfl, c1, B1⟩; clear t0; have t1 : (1 : Nat) = 1 := rfl))
  go_ret
  have B0 := (awk_three w).2.2.2
  exact ⟨rfl, B0.trans ((B1.mono B0.size).trans (B2.mono (Nat.le_trans B0.size B1.size)))⟩
end Go.Proofs.Ytkpnmandpmfhjaa.fa
