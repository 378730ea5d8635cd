/- That the program answers at all. No claim of its own. -/
import Derived.Test.YtpdmcpmkhofhdaaGCalls
namespace Go.Proofs.Ytpdmcpmkhofhdaa.ge
open Go.RowKit

/-- the chapter's example -/
def ex : List Int := [10, 16, 64, 1, 4, 1]
theorem ex_right : Rt ex := ⟨⟨by decide, by decide, by decide, by decide, by decide, by decide⟩, by decide, by decide, by decide⟩
theorem zero_wrong : ¬ Rt (List.replicate 6 0) := fun h => absurd h.1.1.1 (by decide)
theorem zero_geo : (Try.prog.info? 23).map (fun i => (i.zero, i.size)) = some (some (.agg (ints .i64 (List.replicate 6 0))), (List.replicate 6 (0 : Int)).length) := by kernel_rfl

set_option maxHeartbeats 2000000 in
theorem awake_any (w : World) : Calls Try.prog 15 #[] w fun x w' => x = .returned (.bool true) ∧ Below w.heap.size w w' := by
  have S1 : Hid (∀ w, Calls Try.prog 10 #[.agg (ints .i64 ex)] w fun x w' => x = .returned (.int .i64 6) ∧ Below w.heap.size w w') := data_yes ex rfl ex_right
  have S2 : Hid (∀ w, Calls Try.prog 9 #[.agg (ints .i64 ex)] w fun x w' => x = .returned (.int .i64 0) ∧ Below w.heap.size w w') := check_yes ex rfl ex_right
  have S3 : Hid (∀ w, Calls Try.prog 9 #[.agg (ints .i64 (List.replicate 6 0))] w fun x w' => x = .returned (.int .i64 2) ∧ Below w.heap.size w w') := check_no (List.replicate 6 0) rfl zero_wrong
  have hl : ex.length = 6 := rfl
  have t0 : (0 : Nat) = 0 := rfl
  go_enter Try.func15, Try.ntmps15
  go_wp2_with (first
    | (have q5 := t5; go_at_call 9; refine (S3.out _).mono ?_; rintro e w5 ⟨rfl, B5⟩; have BB : Hid (Below w.heap.size w w5) := BB.out.trans (B5.mono BB.out.size); clear B5 t5)
    | (have q4 := t4; go_at_call 9; refine (S2.out _).mono ?_; rintro e w4 ⟨rfl, B4⟩; have BB : Hid (Below w.heap.size w w4) := BB.out.trans (B4.mono BB.out.size); have t5 : (0 : Nat) = 0 := rfl; clear B4 t4)
    | (have q3 := t3; go_at_call 10; refine (S1.out _).mono ?_; rintro e w3 ⟨rfl, B3⟩; have HX : Hid (Ar w3 w.heap.size 0 .i64 ex) := HX.out.below B3 (HX.out.lt (by omega)); have BB : Hid (Below w.heap.size w w3) := BB.out.trans (B3.mono BB.out.size); have t4 : (0 : Nat) = 0 := rfl; clear B3 t3)
    | (have q1 := HX; refine load_lawS _ (by rfl) _ _ rfl (load_geo HX.out hl) ?_)
    | (have q2 := t2; refine store_lawF _ rfl (.tmp 1) (.tmp 2) 23 rfl .i64 (List.replicate 6 0) ex _ rfl rfl X1 6 size_geo rfl rfl ?_; intro w2 X2 B2; have HX : Hid (Ar w2 w.heap.size 0 .i64 ex) := X2; have BB : Hid (Below w.heap.size w w2) := B1.trans B2; have t3 : (0 : Nat) = 0 := rfl; clear X1 X2 B1 B2 t2)
    | (have q0 := t0; refine new_lawF _ rfl 23 rfl .i64 (List.replicate 6 0) zero_geo ?_; intro w1 X1 B1 L1; have t2 : (0 : Nat) = 0 := rfl; clear t0))
  go_ret
  exact ⟨rfl, BB.out⟩
end Go.Proofs.Ytpdmcpmkhofhdaa.ge
