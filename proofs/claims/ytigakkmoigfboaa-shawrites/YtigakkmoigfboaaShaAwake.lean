/- That the statements' own question 'does the program answer at all?' is answered by yes. No claim of its own. -/
import Derived.Test.YtigakkmoigfboaaSum
import Derived.Lib.SlBytesConst
namespace Go.Proofs.Ytigakkmoigfboaa
open Go.RowKit

/-- the bytes of a constant string, as the model marks them -/
theorem byt_const (w : World) (xs : List Int) (ha : AllB xs) (hl : xs.length ≤ 9223372036854775807) (fr : Nat × Nat) :
    Byt (w.alloc (.cells (xs.map (Value.int .u8)).toArray 5 fr)) (.slice (some ⟨w.heap.size, 0, none⟩) xs.length xs.length) xs := by
  refine ⟨_, _, rfl, Nat.le_refl _, hl, ha, (by intro h; cases h), fun _ => ⟨w.heap.size, 0, rfl, fun t ht => ?_⟩⟩
  rw [cell_of_row _ w.heap.size (0 + t) _ 5 fr (heap_alloc_last w _)]
  simp [gb, List.getD, ht]

set_option maxHeartbeats 2000000 in
theorem awake_any (w : World) :
    Calls Try.prog 7 #[] w fun e w' => e = .returned (.bool true) ∧ Below w.heap.size w w' := by
  have HB : Hid (Byt (w.alloc (.cells #[.int .u8 97, .int .u8 98, .int .u8 99] 5 (3, 4))) (.slice (some ⟨w.heap.size, 0, none⟩) 3 3) [97, 98, 99]) := byt_const w [97, 98, 99] (allB_mem (by simp)) (by simp) (3, 4)
  have B1 : Below w.heap.size w (w.alloc (.cells #[.int .u8 97, .int .u8 98, .int .u8 99] 5 (3, 4))) := (Below.refl _ _).alloc (Nat.le_refl _) _
  have HS : Hid (gb (sumOf [97, 98, 99]) 0 = 186 ∧ gb (sumOf [97, 98, 99]) 31 = 173) := sum_abc
  have HL : Hid ((sumOf [97, 98, 99]).length = 32) := catw_len _ 8
  have kcv := fun (w : World) (C : Array Value) (n c : Nat) => Lib.run_convert_bytes_const (P := Try.prog) w 22 5 C n c Try.underlying22 Try.underlying5
  go_enter Try.func7, Try.ntmps7
  go_wp2_with (first
    | (go_at_call 9; refine (sum_any _ _ [97, 98, 99] HB.out (by simp)).mono ?_; rintro e w1 ⟨v1, rfl, hv1, ⟨g1, rfl, hg1, ar1⟩, hb1⟩; clear hv1; have d0 : w1.cell? ⟨g1, 0, none⟩ = some (.int .u8 186) := by { have := ar1.cell0 0 (by rw [HL.out]; omega); rwa [HS.out.1] at this }; have d31 : w1.cell? ⟨g1, 31, none⟩ = some (.int .u8 173) := by { have := ar1.cell0 31 (by rw [HL.out]; omega); rwa [HS.out.2] at this }; clear ar1)
    | fail)
  go_ret
  exact ⟨rfl, B1.trans (hb1.mono B1.size)⟩
end Go.Proofs.Ytigakkmoigfboaa
