/- That twice answers at all; two slices that hold the same, or not. No claim of its own. -/
import Derived.Test.YtjojimffolagmaaTList
import Derived.Test.YtjojimffolagmaaTRef
import Derived.Test.YtjojimffolagmaaArrO
namespace Go.Proofs.Ytjojimffolagmaa
open Go.RowKit

theorem awk_val : bt16 (td (nm16 (z16.set 15 128))) = [135, 0, 0, 0, 0, 0, 0, 0, 0, 0, 0, 0, 0, 0, 0, 0] := by decide +kernel

set_option maxHeartbeats 2000000 in
theorem awake_any (w : World) : Calls Try.prog 8 #[] w fun e w' => e = .returned (.bool true) ∧ Below w.heap.size w w' := by
  have HD : Hid (∀ v w', Byt w' v (z16.set 15 128) → Calls Try.prog 9 #[v] w' fun e w'' => ∃ g, e = .returned (.tuple #[.slice (some ⟨g, 0, none⟩) 16 16, .int .i64 0]) ∧ Ar w'' g 0 .u8 [135, 0, 0, 0, 0, 0, 0, 0, 0, 0, 0, 0, 0, 0, 0, 0] ∧ w'.heap.size ≤ g ∧ Below w'.heap.size w' w'') := fun v w' h => by
    have := double_any v _ w' h (by decide)
    rwa [awk_val] at this
  have HZ : Hid (AllB (z16.set 15 128) ∧ (z16.set 15 128).length = 16) := ⟨allB_mem (by decide), by decide⟩
  go_enter Try.func8, Try.ntmps8
  go_wp2_with (first
    | (have q2 := s2; go_at_call 9; refine (HD.out _ _ Y2.out).mono ?_; rintro e w3 ⟨g3, rfl, A3, h3, B3⟩; have c0 : w3.cell? ⟨g3, 0, none⟩ = some (.int .u8 135) := A3.cell0 0 (by decide); have c15 : w3.cell? ⟨g3, 15, none⟩ = some (.int .u8 0) := A3.cell0 15 (by decide); clear A3)
    | (have q1 := s1; refine set_lawF _ rfl (.tmp 6) _ 5 rfl .u8 128 w.heap.size 15 z16 rfl rfl HO1.out (by decide) i_u8 ?_; intro w2 A2 B2; have s2 := B2.size; have Y2 : Hid (Byt w2 (.slice (some ⟨w.heap.size, 0, none⟩) 16 16) (z16.set 15 128)) := A2.bytG HZ.out.1 16 16 HZ.out.2 (by omega) (by omega); clear A2)
    | (at_make; refine make_law _ rfl _ _ rfl w.heap.size (Nat.le_refl _) 16 16 rfl rfl rfl (by omega) ?_; intro w1 hown B1 s1; have HO1 : Hid (Ar w1 w.heap.size 0 .u8 z16) := hown.arG; clear hown))
  go_ret
  exact ⟨rfl, (B1.trans B2).trans (B3.mono (by omega))⟩
end Go.Proofs.Ytjojimffolagmaa
