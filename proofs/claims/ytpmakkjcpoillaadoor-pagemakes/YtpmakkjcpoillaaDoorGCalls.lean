/- What geometry's calls answer, of a geometry that is right and of one that is not. No claim of its own. -/
import Derived.Test.YtpmakkjcpoillaaDoorGCheck
namespace Go.Proofs.YtpmakkjcpoillaaDoor.ge
open Go.RowKit
set_option maxRecDepth 20000

set_option maxHeartbeats 1000000 in
theorem psize_no (g : List Int) (hl : g.length = 6) (h : ¬ Rt g) (w : World) :
    Calls Tryd.prog 28 #[.agg (ints .i64 g)] w fun x w' => x = .returned (.int .i64 0) ∧ Below w.heap.size w w' := by
  have S : Hid (∀ w, Calls Tryd.prog 23 #[.agg (ints .i64 g)] w fun x w' => x = .returned (.int .i64 2) ∧ Below w.heap.size w w') := check_no g hl h
  clear h
  have t0 : (0 : Nat) = 0 := rfl
  go_enter Tryd.func28, Tryd.ntmps28
  go_wp2_with (first
    | (have q1 := t1; go_at_call 23; refine (S.out _).mono ?_; rintro e w2 ⟨rfl, B2⟩; have HX : Hid (Ar w2 w.heap.size 0 .i64 g) := HX.out.below B2 (HX.out.lt (by omega)); obtain ⟨e0, e1, e2, e3, e4, e5⟩ := geo_cells HX.out hl; have BB : Hid (Below w.heap.size w w2) := BB.out.trans (B2.mono BB.out.size); have t2 : (0 : Nat) = 0 := rfl; clear B2 t1)
    | (have q1 := HX; refine load_lawS _ (by rfl) _ _ rfl (load_geo HX.out hl) ?_)
    | (have q0 := t0; refine box_lawF _ rfl (.tmp 0) 23 rfl .i64 g rfl ?_; intro w1 X1 B1 L1; have HX : Hid (Ar w1 w.heap.size 0 .i64 g) := X1; obtain ⟨f0, f1, f2, f3, f4, f5⟩ := geo_cells X1 hl; have BB : Hid (Below w.heap.size w w1) := B1; have t1 : (0 : Nat) = 0 := rfl; clear X1 t0 B1))
  go_ret
  exact ⟨rfl, BB.out⟩

set_option maxHeartbeats 1000000 in
theorem psize_yes (g : List Int) (hl : g.length = 6) (h : Rt g) (w : World) :
    Calls Tryd.prog 28 #[.agg (ints .i64 g)] w fun x w' => x = .returned (.int .i64 (gb g 2 + 88)) ∧ Below w.heap.size w w' := by
  have S : Hid (∀ w, Calls Tryd.prog 23 #[.agg (ints .i64 g)] w fun x w' => x = .returned (.int .i64 0) ∧ Below w.heap.size w w') := check_yes g hl h
  have q1 : IntKind.i64.wrap (gb g 2 + 88) = gb g 2 + 88 := by obtain ⟨⟨-, -, h, -⟩, -⟩ := h; rw [IntKind.wrap_i64]; omega
  clear h
  have t0 : (0 : Nat) = 0 := rfl
  go_enter Tryd.func28, Tryd.ntmps28
  go_wp2_with (first
    | (have q1 := t1; go_at_call 23; refine (S.out _).mono ?_; rintro e w2 ⟨rfl, B2⟩; have HX : Hid (Ar w2 w.heap.size 0 .i64 g) := HX.out.below B2 (HX.out.lt (by omega)); obtain ⟨e0, e1, e2, e3, e4, e5⟩ := geo_cells HX.out hl; have BB : Hid (Below w.heap.size w w2) := BB.out.trans (B2.mono BB.out.size); have t2 : (0 : Nat) = 0 := rfl; clear B2 t1)
    | (have q1 := HX; refine load_lawS _ (by rfl) _ _ rfl (load_geo HX.out hl) ?_)
    | (have q0 := t0; refine box_lawF _ rfl (.tmp 0) 23 rfl .i64 g rfl ?_; intro w1 X1 B1 L1; have HX : Hid (Ar w1 w.heap.size 0 .i64 g) := X1; obtain ⟨f0, f1, f2, f3, f4, f5⟩ := geo_cells X1 hl; have BB : Hid (Below w.heap.size w w1) := B1; have t1 : (0 : Nat) = 0 := rfl; clear X1 t0 B1))
  go_ret
  exact ⟨rfl, BB.out⟩

theorem bound_wraps {g : List Int} (h : Rt g) : wrap64 (wrap64 (wrap64 (wrap64 (40 * gb g 0) * gb g 0) * gb g 1) * gb g 1) = 40 * gb g 0 * gb g 0 * gb g 1 * gb g 1 := by
  obtain ⟨⟨h0, h1, -⟩, -⟩ := h
  generalize gb g 0 = b at *
  generalize gb g 1 = p at *
  have a0 : 0 ≤ 40 * b * b := Int.mul_nonneg (by omega) (by omega)
  have a1 : 40 * b * b ≤ 40 * 64 * 64 := Int.mul_le_mul (by omega) (by omega) (by omega) (by omega)
  have b0 : 0 ≤ 40 * b * b * p := Int.mul_nonneg (by omega) (by omega)
  have b1 : 40 * b * b * p ≤ 40 * 64 * 64 * 32 := Int.mul_le_mul a1 (by omega) (by omega) (by omega)
  have c0 : 0 ≤ 40 * b * b * p * p := Int.mul_nonneg (by omega) (by omega)
  have c1 : 40 * b * b * p * p ≤ 40 * 64 * 64 * 32 * 32 := Int.mul_le_mul b1 (by omega) (by omega) (by omega)
  have W : ∀ x : Int, 0 ≤ x → x ≤ 40 * 64 * 64 * 32 * 32 → wrap64 x = x := fun x h1 h2 => by
    unfold wrap64
    omega
  rw [W (40 * b) (by omega) (by omega), W (40 * b * b) a0 (by omega), W (40 * b * b * p) b0 (by omega), W _ c0 c1]
end Go.Proofs.YtpmakkjcpoillaaDoor.ge
