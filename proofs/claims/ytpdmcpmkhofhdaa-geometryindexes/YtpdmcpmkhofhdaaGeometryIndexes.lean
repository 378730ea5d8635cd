/- P11.1: any page's number, or that there is none; the program answers at all. -/
import Derived.Test.YtpdmcpmkhofhdaaGRight
import Derived.Test.YtpdmcpmkhofhdaaGAwk
import Derived.Test.YtpdmcpmkhofhdaaGOpen
import Derived.Test.YtpdmcpmkhofhdaaGIdx
namespace Go.Proofs.Ytpdmcpmkhofhdaa.geometryIndexes
open Go.ChangeShapes Go.WideShapes Go.ChangeAt Go.RowKit

open Go.Proofs.Ytpdmcpmkhofhdaa.ge

set_option maxHeartbeats 4000000 in
theorem walk_wrong (g p : List Int) (w : World) (hl : g.length = 6) (hp : p.length = 2) (h : ¬ Rt g) :
    Calls Try.prog 4 #[.agg (ints .i64 g), .agg (ints .i64 p)] w fun e w' => e = .returned (.bool true) ∧ Below w.heap.size w w' := by
  have SR : Hid (∀ w, Calls Try.prog 8 #[.agg (ints .i64 g)] w fun x w' => x = .returned (.bool false) ∧ Below w.heap.size w w') := right_no g hl h
  have SA : Hid (∀ w, Calls Try.prog 15 #[] w fun x w' => x = .returned (.bool true) ∧ Below w.heap.size w w') := awake_any
  have SI : Hid (∀ w, Calls Try.prog 17 #[.agg (ints .i64 g), .agg (ints .i64 p)] w fun x w' => x = .returned (.tuple #[.int .i64 0, .int .i64 2]) ∧ Below w.heap.size w w') := index_no g p hl hp (fun q => h q.1)
  have t0 : (0 : Nat) = 0 := rfl
  clear h
  go_enter Try.func4, Try.ntmps4
  go_wp2_with (first
    | (have q4 := t4; go_at_call 15; refine (SA.out _).mono ?_; rintro e w5 ⟨rfl, B5⟩; have HX : Hid (Ar w5 w.heap.size 0 .i64 g) := HX.out.below B5 (HX.out.lt (by omega)); have HP : Hid (Ar w5 w1.heap.size 0 .i64 p) := HP.out.below B5 (HP.out.lt (by omega)); have BB : Hid (Below w.heap.size w w5) := BB.out.trans (B5.mono BB.out.size); have t5 : (0 : Nat) = 0 := rfl; clear B5 t4)
    | (have q3 := t3; go_at_call 8; refine (SR.out _).mono ?_; rintro e w4 ⟨rfl, B4⟩; have HX : Hid (Ar w4 w.heap.size 0 .i64 g) := HX.out.below B4 (HX.out.lt (by omega)); have HP : Hid (Ar w4 w1.heap.size 0 .i64 p) := HP.out.below B4 (HP.out.lt (by omega)); obtain ⟨e0, e1, e2, e3, e4, e5⟩ := geo_cells HX.out hl; obtain ⟨p0, p1⟩ := place_cells HP.out hp; have BB : Hid (Below w.heap.size w w4) := BB.out.trans (B4.mono BB.out.size); have t4 : (0 : Nat) = 0 := rfl; clear B4 t3)
    | (have q2 := t2; go_at_call 17; refine (SI.out _).mono ?_; rintro e w3 ⟨rfl, B3⟩; have HX : Hid (Ar w3 w.heap.size 0 .i64 g) := HX.out.below B3 (HX.out.lt (by omega)); have HP : Hid (Ar w3 w1.heap.size 0 .i64 p) := HP.out.below B3 (HP.out.lt (by omega)); have BB : Hid (Below w.heap.size w w3) := BB.out.trans (B3.mono BB.out.size); have t3 : (0 : Nat) = 0 := rfl; clear B3 t2)
    | (have q9 := HX; refine load_lawS _ (by rfl) _ _ rfl (load_geo HX.out hl) ?_)
    | (have q9 := HP; refine load_lawS _ (by rfl) _ _ rfl (load_place HP.out hp) ?_)
    | (have q1 := t1; refine box_lawF _ rfl (.tmp 1) 30 rfl .i64 p rfl ?_; intro w2 X2 B2 L2; have HP : Hid (Ar w2 w1.heap.size 0 .i64 p) := X2; have HX : Hid (Ar w2 w.heap.size 0 .i64 g) := HX.out.below B2 L1; have BB : Hid (Below w.heap.size w w2) := BB.out.trans (B2.mono BB.out.size); have t2 : (0 : Nat) = 0 := rfl; clear X2 t1 B2)
    | (have q0 := t0; refine box_lawF _ rfl (.tmp 0) 23 rfl .i64 g rfl ?_; intro w1 X1 B1 L1; have HX : Hid (Ar w1 w.heap.size 0 .i64 g) := X1; have BB : Hid (Below w.heap.size w w1) := B1; have t1 : (0 : Nat) = 0 := rfl; clear X1 t0 B1))
  go_ret
  exact ⟨rfl, BB.out⟩

set_option maxHeartbeats 4000000 in
theorem walk_n0 (g p : List Int) (w : World) (hl : g.length = 6) (hp : p.length = 2) (h : Rt g) (h0 : gb p 0 < 0) :
    Calls Try.prog 4 #[.agg (ints .i64 g), .agg (ints .i64 p)] w fun e w' => e = .returned (.bool true) ∧ Below w.heap.size w w' := by
  have SR : Hid (∀ w, Calls Try.prog 8 #[.agg (ints .i64 g)] w fun x w' => x = .returned (.bool true) ∧ Below w.heap.size w w') := right_yes g hl h
  have SA : Hid (∀ w, Calls Try.prog 15 #[] w fun x w' => x = .returned (.bool true) ∧ Below w.heap.size w w') := awake_any
  have SI : Hid (∀ w, Calls Try.prog 17 #[.agg (ints .i64 g), .agg (ints .i64 p)] w fun x w' => x = .returned (.tuple #[.int .i64 0, .int .i64 2]) ∧ Below w.heap.size w w') := index_no g p hl hp (fun q => q.2.1 h0)
  have t0 : (0 : Nat) = 0 := rfl
  clear h
  go_enter Try.func4, Try.ntmps4
  go_wp2_with (first
    | (have q4 := t4; go_at_call 15; refine (SA.out _).mono ?_; rintro e w5 ⟨rfl, B5⟩; have HX : Hid (Ar w5 w.heap.size 0 .i64 g) := HX.out.below B5 (HX.out.lt (by omega)); have HP : Hid (Ar w5 w1.heap.size 0 .i64 p) := HP.out.below B5 (HP.out.lt (by omega)); have BB : Hid (Below w.heap.size w w5) := BB.out.trans (B5.mono BB.out.size); have t5 : (0 : Nat) = 0 := rfl; clear B5 t4)
    | (have q3 := t3; go_at_call 8; refine (SR.out _).mono ?_; rintro e w4 ⟨rfl, B4⟩; have HX : Hid (Ar w4 w.heap.size 0 .i64 g) := HX.out.below B4 (HX.out.lt (by omega)); have HP : Hid (Ar w4 w1.heap.size 0 .i64 p) := HP.out.below B4 (HP.out.lt (by omega)); obtain ⟨e0, e1, e2, e3, e4, e5⟩ := geo_cells HX.out hl; obtain ⟨p0, p1⟩ := place_cells HP.out hp; have BB : Hid (Below w.heap.size w w4) := BB.out.trans (B4.mono BB.out.size); have t4 : (0 : Nat) = 0 := rfl; clear B4 t3)
    | (have q2 := t2; go_at_call 17; refine (SI.out _).mono ?_; rintro e w3 ⟨rfl, B3⟩; have HX : Hid (Ar w3 w.heap.size 0 .i64 g) := HX.out.below B3 (HX.out.lt (by omega)); have HP : Hid (Ar w3 w1.heap.size 0 .i64 p) := HP.out.below B3 (HP.out.lt (by omega)); have BB : Hid (Below w.heap.size w w3) := BB.out.trans (B3.mono BB.out.size); have t3 : (0 : Nat) = 0 := rfl; clear B3 t2)
    | (have q9 := HX; refine load_lawS _ (by rfl) _ _ rfl (load_geo HX.out hl) ?_)
    | (have q9 := HP; refine load_lawS _ (by rfl) _ _ rfl (load_place HP.out hp) ?_)
    | (have q1 := t1; refine box_lawF _ rfl (.tmp 1) 30 rfl .i64 p rfl ?_; intro w2 X2 B2 L2; have HP : Hid (Ar w2 w1.heap.size 0 .i64 p) := X2; have HX : Hid (Ar w2 w.heap.size 0 .i64 g) := HX.out.below B2 L1; have BB : Hid (Below w.heap.size w w2) := BB.out.trans (B2.mono BB.out.size); have t2 : (0 : Nat) = 0 := rfl; clear X2 t1 B2)
    | (have q0 := t0; refine box_lawF _ rfl (.tmp 0) 23 rfl .i64 g rfl ?_; intro w1 X1 B1 L1; have HX : Hid (Ar w1 w.heap.size 0 .i64 g) := X1; have BB : Hid (Below w.heap.size w w1) := B1; have t1 : (0 : Nat) = 0 := rfl; clear X1 t0 B1))
  go_ret
  exact ⟨rfl, BB.out⟩

set_option maxHeartbeats 4000000 in
theorem walk_n1 (g p : List Int) (w : World) (hl : g.length = 6) (hp : p.length = 2) (h : Rt g) (h0 : ¬ gb p 0 < 0) (h1 : gb g 0 ≤ gb p 0) :
    Calls Try.prog 4 #[.agg (ints .i64 g), .agg (ints .i64 p)] w fun e w' => e = .returned (.bool true) ∧ Below w.heap.size w w' := by
  have SR : Hid (∀ w, Calls Try.prog 8 #[.agg (ints .i64 g)] w fun x w' => x = .returned (.bool true) ∧ Below w.heap.size w w') := right_yes g hl h
  have SA : Hid (∀ w, Calls Try.prog 15 #[] w fun x w' => x = .returned (.bool true) ∧ Below w.heap.size w w') := awake_any
  have SI : Hid (∀ w, Calls Try.prog 17 #[.agg (ints .i64 g), .agg (ints .i64 p)] w fun x w' => x = .returned (.tuple #[.int .i64 0, .int .i64 2]) ∧ Below w.heap.size w w') := index_no g p hl hp (fun q => q.2.2.1 h1)
  have t0 : (0 : Nat) = 0 := rfl
  clear h
  go_enter Try.func4, Try.ntmps4
  go_wp2_with (first
    | (have q4 := t4; go_at_call 15; refine (SA.out _).mono ?_; rintro e w5 ⟨rfl, B5⟩; have HX : Hid (Ar w5 w.heap.size 0 .i64 g) := HX.out.below B5 (HX.out.lt (by omega)); have HP : Hid (Ar w5 w1.heap.size 0 .i64 p) := HP.out.below B5 (HP.out.lt (by omega)); have BB : Hid (Below w.heap.size w w5) := BB.out.trans (B5.mono BB.out.size); have t5 : (0 : Nat) = 0 := rfl; clear B5 t4)
    | (have q3 := t3; go_at_call 8; refine (SR.out _).mono ?_; rintro e w4 ⟨rfl, B4⟩; have HX : Hid (Ar w4 w.heap.size 0 .i64 g) := HX.out.below B4 (HX.out.lt (by omega)); have HP : Hid (Ar w4 w1.heap.size 0 .i64 p) := HP.out.below B4 (HP.out.lt (by omega)); obtain ⟨e0, e1, e2, e3, e4, e5⟩ := geo_cells HX.out hl; obtain ⟨p0, p1⟩ := place_cells HP.out hp; have BB : Hid (Below w.heap.size w w4) := BB.out.trans (B4.mono BB.out.size); have t4 : (0 : Nat) = 0 := rfl; clear B4 t3)
    | (have q2 := t2; go_at_call 17; refine (SI.out _).mono ?_; rintro e w3 ⟨rfl, B3⟩; have HX : Hid (Ar w3 w.heap.size 0 .i64 g) := HX.out.below B3 (HX.out.lt (by omega)); have HP : Hid (Ar w3 w1.heap.size 0 .i64 p) := HP.out.below B3 (HP.out.lt (by omega)); have BB : Hid (Below w.heap.size w w3) := BB.out.trans (B3.mono BB.out.size); have t3 : (0 : Nat) = 0 := rfl; clear B3 t2)
    | (have q9 := HX; refine load_lawS _ (by rfl) _ _ rfl (load_geo HX.out hl) ?_)
    | (have q9 := HP; refine load_lawS _ (by rfl) _ _ rfl (load_place HP.out hp) ?_)
    | (have q1 := t1; refine box_lawF _ rfl (.tmp 1) 30 rfl .i64 p rfl ?_; intro w2 X2 B2 L2; have HP : Hid (Ar w2 w1.heap.size 0 .i64 p) := X2; have HX : Hid (Ar w2 w.heap.size 0 .i64 g) := HX.out.below B2 L1; have BB : Hid (Below w.heap.size w w2) := BB.out.trans (B2.mono BB.out.size); have t2 : (0 : Nat) = 0 := rfl; clear X2 t1 B2)
    | (have q0 := t0; refine box_lawF _ rfl (.tmp 0) 23 rfl .i64 g rfl ?_; intro w1 X1 B1 L1; have HX : Hid (Ar w1 w.heap.size 0 .i64 g) := X1; have BB : Hid (Below w.heap.size w w1) := B1; have t1 : (0 : Nat) = 0 := rfl; clear X1 t0 B1))
  go_ret
  exact ⟨rfl, BB.out⟩

set_option maxHeartbeats 4000000 in
theorem walk_n2 (g p : List Int) (w : World) (hl : g.length = 6) (hp : p.length = 2) (h : Rt g) (h0 : ¬ gb p 0 < 0) (h1 : ¬ gb g 0 ≤ gb p 0) (h2 : gb p 1 < 0) :
    Calls Try.prog 4 #[.agg (ints .i64 g), .agg (ints .i64 p)] w fun e w' => e = .returned (.bool true) ∧ Below w.heap.size w w' := by
  have SR : Hid (∀ w, Calls Try.prog 8 #[.agg (ints .i64 g)] w fun x w' => x = .returned (.bool true) ∧ Below w.heap.size w w') := right_yes g hl h
  have SA : Hid (∀ w, Calls Try.prog 15 #[] w fun x w' => x = .returned (.bool true) ∧ Below w.heap.size w w') := awake_any
  have SI : Hid (∀ w, Calls Try.prog 17 #[.agg (ints .i64 g), .agg (ints .i64 p)] w fun x w' => x = .returned (.tuple #[.int .i64 0, .int .i64 2]) ∧ Below w.heap.size w w') := index_no g p hl hp (fun q => q.2.2.2.1 h2)
  have t0 : (0 : Nat) = 0 := rfl
  clear h
  go_enter Try.func4, Try.ntmps4
  go_wp2_with (first
    | (have q4 := t4; go_at_call 15; refine (SA.out _).mono ?_; rintro e w5 ⟨rfl, B5⟩; have HX : Hid (Ar w5 w.heap.size 0 .i64 g) := HX.out.below B5 (HX.out.lt (by omega)); have HP : Hid (Ar w5 w1.heap.size 0 .i64 p) := HP.out.below B5 (HP.out.lt (by omega)); have BB : Hid (Below w.heap.size w w5) := BB.out.trans (B5.mono BB.out.size); have t5 : (0 : Nat) = 0 := rfl; clear B5 t4)
    | (have q3 := t3; go_at_call 8; refine (SR.out _).mono ?_; rintro e w4 ⟨rfl, B4⟩; have HX : Hid (Ar w4 w.heap.size 0 .i64 g) := HX.out.below B4 (HX.out.lt (by omega)); have HP : Hid (Ar w4 w1.heap.size 0 .i64 p) := HP.out.below B4 (HP.out.lt (by omega)); obtain ⟨e0, e1, e2, e3, e4, e5⟩ := geo_cells HX.out hl; obtain ⟨p0, p1⟩ := place_cells HP.out hp; have BB : Hid (Below w.heap.size w w4) := BB.out.trans (B4.mono BB.out.size); have t4 : (0 : Nat) = 0 := rfl; clear B4 t3)
    | (have q2 := t2; go_at_call 17; refine (SI.out _).mono ?_; rintro e w3 ⟨rfl, B3⟩; have HX : Hid (Ar w3 w.heap.size 0 .i64 g) := HX.out.below B3 (HX.out.lt (by omega)); have HP : Hid (Ar w3 w1.heap.size 0 .i64 p) := HP.out.below B3 (HP.out.lt (by omega)); have BB : Hid (Below w.heap.size w w3) := BB.out.trans (B3.mono BB.out.size); have t3 : (0 : Nat) = 0 := rfl; clear B3 t2)
    | (have q9 := HX; refine load_lawS _ (by rfl) _ _ rfl (load_geo HX.out hl) ?_)
    | (have q9 := HP; refine load_lawS _ (by rfl) _ _ rfl (load_place HP.out hp) ?_)
    | (have q1 := t1; refine box_lawF _ rfl (.tmp 1) 30 rfl .i64 p rfl ?_; intro w2 X2 B2 L2; have HP : Hid (Ar w2 w1.heap.size 0 .i64 p) := X2; have HX : Hid (Ar w2 w.heap.size 0 .i64 g) := HX.out.below B2 L1; have BB : Hid (Below w.heap.size w w2) := BB.out.trans (B2.mono BB.out.size); have t2 : (0 : Nat) = 0 := rfl; clear X2 t1 B2)
    | (have q0 := t0; refine box_lawF _ rfl (.tmp 0) 23 rfl .i64 g rfl ?_; intro w1 X1 B1 L1; have HX : Hid (Ar w1 w.heap.size 0 .i64 g) := X1; have BB : Hid (Below w.heap.size w w1) := B1; have t1 : (0 : Nat) = 0 := rfl; clear X1 t0 B1))
  go_ret
  exact ⟨rfl, BB.out⟩

set_option maxHeartbeats 4000000 in
theorem walk_n3 (g p : List Int) (w : World) (hl : g.length = 6) (hp : p.length = 2) (h : Rt g) (h0 : ¬ gb p 0 < 0) (h1 : ¬ gb g 0 ≤ gb p 0) (h2 : ¬ gb p 1 < 0) (h3 : gb g 1 ≤ gb p 1) :
    Calls Try.prog 4 #[.agg (ints .i64 g), .agg (ints .i64 p)] w fun e w' => e = .returned (.bool true) ∧ Below w.heap.size w w' := by
  have SR : Hid (∀ w, Calls Try.prog 8 #[.agg (ints .i64 g)] w fun x w' => x = .returned (.bool true) ∧ Below w.heap.size w w') := right_yes g hl h
  have SA : Hid (∀ w, Calls Try.prog 15 #[] w fun x w' => x = .returned (.bool true) ∧ Below w.heap.size w w') := awake_any
  have SI : Hid (∀ w, Calls Try.prog 17 #[.agg (ints .i64 g), .agg (ints .i64 p)] w fun x w' => x = .returned (.tuple #[.int .i64 0, .int .i64 2]) ∧ Below w.heap.size w w') := index_no g p hl hp (fun q => q.2.2.2.2 h3)
  have t0 : (0 : Nat) = 0 := rfl
  clear h
  go_enter Try.func4, Try.ntmps4
  go_wp2_with (first
    | (have q4 := t4; go_at_call 15; refine (SA.out _).mono ?_; rintro e w5 ⟨rfl, B5⟩; have HX : Hid (Ar w5 w.heap.size 0 .i64 g) := HX.out.below B5 (HX.out.lt (by omega)); have HP : Hid (Ar w5 w1.heap.size 0 .i64 p) := HP.out.below B5 (HP.out.lt (by omega)); have BB : Hid (Below w.heap.size w w5) := BB.out.trans (B5.mono BB.out.size); have t5 : (0 : Nat) = 0 := rfl; clear B5 t4)
    | (have q3 := t3; go_at_call 8; refine (SR.out _).mono ?_; rintro e w4 ⟨rfl, B4⟩; have HX : Hid (Ar w4 w.heap.size 0 .i64 g) := HX.out.below B4 (HX.out.lt (by omega)); have HP : Hid (Ar w4 w1.heap.size 0 .i64 p) := HP.out.below B4 (HP.out.lt (by omega)); obtain ⟨e0, e1, e2, e3, e4, e5⟩ := geo_cells HX.out hl; obtain ⟨p0, p1⟩ := place_cells HP.out hp; have BB : Hid (Below w.heap.size w w4) := BB.out.trans (B4.mono BB.out.size); have t4 : (0 : Nat) = 0 := rfl; clear B4 t3)
    | (have q2 := t2; go_at_call 17; refine (SI.out _).mono ?_; rintro e w3 ⟨rfl, B3⟩; have HX : Hid (Ar w3 w.heap.size 0 .i64 g) := HX.out.below B3 (HX.out.lt (by omega)); have HP : Hid (Ar w3 w1.heap.size 0 .i64 p) := HP.out.below B3 (HP.out.lt (by omega)); have BB : Hid (Below w.heap.size w w3) := BB.out.trans (B3.mono BB.out.size); have t3 : (0 : Nat) = 0 := rfl; clear B3 t2)
    | (have q9 := HX; refine load_lawS _ (by rfl) _ _ rfl (load_geo HX.out hl) ?_)
    | (have q9 := HP; refine load_lawS _ (by rfl) _ _ rfl (load_place HP.out hp) ?_)
    | (have q1 := t1; refine box_lawF _ rfl (.tmp 1) 30 rfl .i64 p rfl ?_; intro w2 X2 B2 L2; have HP : Hid (Ar w2 w1.heap.size 0 .i64 p) := X2; have HX : Hid (Ar w2 w.heap.size 0 .i64 g) := HX.out.below B2 L1; have BB : Hid (Below w.heap.size w w2) := BB.out.trans (B2.mono BB.out.size); have t2 : (0 : Nat) = 0 := rfl; clear X2 t1 B2)
    | (have q0 := t0; refine box_lawF _ rfl (.tmp 0) 23 rfl .i64 g rfl ?_; intro w1 X1 B1 L1; have HX : Hid (Ar w1 w.heap.size 0 .i64 g) := X1; have BB : Hid (Below w.heap.size w w1) := B1; have t1 : (0 : Nat) = 0 := rfl; clear X1 t0 B1))
  go_ret
  exact ⟨rfl, BB.out⟩

set_option maxHeartbeats 4000000 in
theorem walk_yes (g p : List Int) (w : World) (hl : g.length = 6) (hp : p.length = 2) (h : Rt g) (h0 : ¬ gb p 0 < 0) (h1 : ¬ gb g 0 ≤ gb p 0) (h2 : ¬ gb p 1 < 0) (h3 : ¬ gb g 1 ≤ gb p 1) :
    Calls Try.prog 4 #[.agg (ints .i64 g), .agg (ints .i64 p)] w fun e w' => e = .returned (.bool true) ∧ Below w.heap.size w w' := by
  have SR : Hid (∀ w, Calls Try.prog 8 #[.agg (ints .i64 g)] w fun x w' => x = .returned (.bool true) ∧ Below w.heap.size w w') := right_yes g hl h
  have SA : Hid (∀ w, Calls Try.prog 15 #[] w fun x w' => x = .returned (.bool true) ∧ Below w.heap.size w w') := awake_any
  have SI : Hid (∀ w, Calls Try.prog 17 #[.agg (ints .i64 g), .agg (ints .i64 p)] w fun x w' => x = .returned (.tuple #[.int .i64 (gb p 0 * gb g 1 + gb p 1), .int .i64 0]) ∧ Below w.heap.size w w') := index_yes g p hl hp h h0 h1 h2 h3
  obtain ⟨m, hm⟩ : ∃ m, m = gb p 0 * gb g 1 := ⟨_, rfl⟩
  have m0 : 0 ≤ m := by rw [hm]; exact Int.mul_nonneg (by omega) (by obtain ⟨⟨-, h, -⟩, -⟩ := h; omega)
  have m1 : m ≤ 64 * 32 := by rw [hm]; exact Int.mul_le_mul (by obtain ⟨⟨h, -⟩, -⟩ := h; omega) (by obtain ⟨⟨-, h, -⟩, -⟩ := h; omega) (by obtain ⟨⟨-, h, -⟩, -⟩ := h; omega) (by omega)
  have qm : gb p 0 * gb g 1 = m := hm.symm
  rw [qm] at SI
  have q1 : IntKind.i64.wrap m = m := by rw [IntKind.wrap_i64]; omega
  have q2 : IntKind.i64.wrap (m + gb p 1) = m + gb p 1 := by obtain ⟨⟨-, h, -⟩, -⟩ := h; rw [IntKind.wrap_i64]; omega
  obtain ⟨z, hz⟩ : ∃ z, m + gb p 1 = z := ⟨_, rfl⟩
  rw [hz] at q2 SI
  have t0 : (0 : Nat) = 0 := rfl
  clear h hm m0 m1
  go_enter Try.func4, Try.ntmps4
  go_wp2_with (first
    | (have q4 := t4; go_at_call 15; refine (SA.out _).mono ?_; rintro e w5 ⟨rfl, B5⟩; have HX : Hid (Ar w5 w.heap.size 0 .i64 g) := HX.out.below B5 (HX.out.lt (by omega)); have HP : Hid (Ar w5 w1.heap.size 0 .i64 p) := HP.out.below B5 (HP.out.lt (by omega)); have BB : Hid (Below w.heap.size w w5) := BB.out.trans (B5.mono BB.out.size); have t5 : (0 : Nat) = 0 := rfl; clear B5 t4)
    | (have q3 := t3; go_at_call 8; refine (SR.out _).mono ?_; rintro e w4 ⟨rfl, B4⟩; have HX : Hid (Ar w4 w.heap.size 0 .i64 g) := HX.out.below B4 (HX.out.lt (by omega)); have HP : Hid (Ar w4 w1.heap.size 0 .i64 p) := HP.out.below B4 (HP.out.lt (by omega)); obtain ⟨e0, e1, e2, e3, e4, e5⟩ := geo_cells HX.out hl; obtain ⟨p0, p1⟩ := place_cells HP.out hp; have BB : Hid (Below w.heap.size w w4) := BB.out.trans (B4.mono BB.out.size); have t4 : (0 : Nat) = 0 := rfl; clear B4 t3)
    | (have q2 := t2; go_at_call 17; refine (SI.out _).mono ?_; rintro e w3 ⟨rfl, B3⟩; have HX : Hid (Ar w3 w.heap.size 0 .i64 g) := HX.out.below B3 (HX.out.lt (by omega)); have HP : Hid (Ar w3 w1.heap.size 0 .i64 p) := HP.out.below B3 (HP.out.lt (by omega)); have BB : Hid (Below w.heap.size w w3) := BB.out.trans (B3.mono BB.out.size); have t3 : (0 : Nat) = 0 := rfl; clear B3 t2)
    | (have q9 := HX; refine load_lawS _ (by rfl) _ _ rfl (load_geo HX.out hl) ?_)
    | (have q9 := HP; refine load_lawS _ (by rfl) _ _ rfl (load_place HP.out hp) ?_)
    | (have q1 := t1; refine box_lawF _ rfl (.tmp 1) 30 rfl .i64 p rfl ?_; intro w2 X2 B2 L2; have HP : Hid (Ar w2 w1.heap.size 0 .i64 p) := X2; have HX : Hid (Ar w2 w.heap.size 0 .i64 g) := HX.out.below B2 L1; have BB : Hid (Below w.heap.size w w2) := BB.out.trans (B2.mono BB.out.size); have t2 : (0 : Nat) = 0 := rfl; clear X2 t1 B2)
    | (have q0 := t0; refine box_lawF _ rfl (.tmp 0) 23 rfl .i64 g rfl ?_; intro w1 X1 B1 L1; have HX : Hid (Ar w1 w.heap.size 0 .i64 g) := X1; have BB : Hid (Below w.heap.size w w1) := B1; have t1 : (0 : Nat) = 0 := rfl; clear X1 t0 B1))
  go_ret
  exact ⟨rfl, BB.out⟩

theorem walk (g p : List Int) (w : World) (hl : g.length = 6) (hp : p.length = 2) : Calls Try.prog 4 #[.agg (ints .i64 g), .agg (ints .i64 p)] w fun e w' => e = .returned (.bool true) ∧ Below w.heap.size w w' := by
  by_cases h : Rt g
  · by_cases h0 : gb p 0 < 0
    · exact walk_n0 g p w hl hp h h0
    · by_cases h1 : gb g 0 ≤ gb p 0
      · exact walk_n1 g p w hl hp h h0 h1
      · by_cases h2 : gb p 1 < 0
        · exact walk_n2 g p w hl hp h h0 h1 h2
        · by_cases h3 : gb g 1 ≤ gb p 1
          · exact walk_n3 g p w hl hp h h0 h1 h2 h3
          · exact walk_yes g p w hl hp h h0 h1 h2 h3
  · exact walk_wrong g p w hl hp h

theorem params : ∀ t ∈ Try.f4.params.toList, Try.prog.readableRec t = true ∧ t < Try.prog.types.size := by
  rw [Try.params4]
  intro t ht
  simp at ht
  rcases ht with rfl | rfl
  · exact ⟨by kernel_rfl, of_decide_eq_true (by kernel_rfl)⟩
  · exact ⟨by kernel_rfl, of_decide_eq_true (by kernel_rfl)⟩

theorem contract (H : Type) (enc : TypeId × Value → H) (W : World) (base : Nat) (args : Array Value) (ds gs : List (DataW H)) (before : List MemPlace)
    (hval : ∀ (j : Nat) t v, Try.f4.params[j]? = some t → args[j]? = some v → Value.okWide Try.prog W .any base t v)
    (hW : DataW.Whole enc Try.prog Try.f4.params.toList Rows.geometryIndexesSpec.vars false W args.toList ds gs before) :
    Calls Try.prog 4 args W fun e W' => ∃ v, e = .returned v ∧ Rows.geometryIndexesSpec.post enc Try.prog Try.f4 false true false false W args v W' := by
  have hW' := hW
  obtain ⟨p, q, hA0, hV, rfl, hfz, hnd⟩ := hW
  have hA : DataW.TrodAll enc Try.prog W 0 (fun _ => true) true Try.f4.params.toList args.toList ds p := hA0
  rw [Try.params4] at hA hval
  obtain ⟨v0, v1, d0, d1, p0, p1, rfl, rfl, rfl, h0, h1⟩ := trodAll_two hA
  obtain ⟨rfl, rfl⟩ := trodVars_none hV
  obtain ⟨g0, rfl, n0⟩ := geo_open (hval 0 23 v0 rfl rfl) h0
  obtain ⟨g1, rfl, n1⟩ := place_open (hval 1 30 v1 rfl rfl) h1
  clear hA0
  refine (walk g0 g1 W n0 n1).mono fun e W' ⟨he, hg⟩ => ?_
  subst he
  exact ⟨_, rfl, post_law rfl (by kernel_rfl) params rfl rfl rfl hW' hg⟩

theorem laid_met (os : Os) : laidMet Try.prog Rows.geometryIndexesRow.laid ((World.holding Try.prog os ⟨#[], #[], []⟩).forCall (fun _ _ => 0) ⟨#[], #[.agg #[.int .i64 0, .int .i64 0, .int .i64 0, .int .i64 0, .int .i64 0, .int .i64 0], .agg #[.int .i64 0, .int .i64 0]], []⟩).memory :=
  laidMet_of_run' 8 (by kernel_rfl) (by kernel_rfl)
theorem reads (os : Os) {H : Type} (enc : TypeId × Value → H) : ∃ places, DataW.whole enc Try.prog ((World.holding Try.prog os ⟨#[], #[], []⟩).forCall (fun _ _ => 0) ⟨#[], #[.agg #[.int .i64 0, .int .i64 0, .int .i64 0, .int .i64 0, .int .i64 0, .int .i64 0], .agg #[.int .i64 0, .int .i64 0]], []⟩).memory Try.f4.params.toList Rows.geometryIndexesSpec.vars false #[Value.agg #[.int .i64 0, .int .i64 0, .int .i64 0, .int .i64 0, .int .i64 0, .int .i64 0], Value.agg #[.int .i64 0, .int .i64 0]].toList 8 = some ([.agg [.lit (.int .i64 0), .lit (.int .i64 0), .lit (.int .i64 0), .lit (.int .i64 0), .lit (.int .i64 0), .lit (.int .i64 0)], .agg [.lit (.int .i64 0), .lit (.int .i64 0)]], [], places) :=
  ⟨[], by kernel_rfl⟩

set_option maxRecDepth 100000 in
theorem lifted (os : Os) (started : os.Started) (H : Type) (enc : TypeId × Value → H) (F : Stop.Interp) :
    ReturnsInHanded {} Try.checked os 4 .any ((OpenSpec.ofChange Rows.geometryIndexesSpec).preRow enc Try.prog Try.f4 Rows.geometryIndexesRow.domain false Rows.geometryIndexesRow.laid) (((OpenSpec.ofChange Rows.geometryIndexesSpec).at F).post enc Try.prog Try.f4 false true false false) := by
  obtain ⟨places, hx⟩ := reads os enc
  refine returnsInHanded_of_row (C := Try.checked) (s := OpenSpec.ofChange Rows.geometryIndexesSpec) own started (by kernel_rfl) Try.func4
    (witness_row_at (enc := enc) (C := Try.checked) false (World.holding Try.prog os ⟨#[], #[], []⟩) #[.agg #[.int .i64 0, .int .i64 0, .int .i64 0, .int .i64 0, .int .i64 0, .int .i64 0], .agg #[.int .i64 0, .int .i64 0]] rfl (by kernel_rfl) (by kernel_rfl) (by kernel_rfl)
      (OpenSpec.preRow_of_cond 8 hx (by kernel_rfl) (fun k hk => by cases hk) (by kernel_rfl) (laid_met os))) ?_
  intro W base args ds gs before hval hW _ _ _ _ _ _
  exact contract H enc W base args ds gs before hval hW

theorem said : Rows.GeometryIndexesSaid :=
  OpenClaim.holds_of_cond 4 Try.f4 rfl rfl rfl rfl rfl rfl rfl ⟨rfl, rfl, rfl, rfl, rfl⟩ rfl rfl rfl rfl rfl (by kernel_rfl) Try.func4 (by kernel_rfl)
    (of_decide_eq_true (by kernel_rfl)) (by unfold Func.isWrapper; first | (rw [if_pos (by decide +kernel)]; kernel_rfl) | (rw [if_neg (by decide +kernel)]; exact ⟨rfl, rfl⟩))
    (fun os started H enc _ F => by rw [OpenClaim.pre_eq_preRow]; exact lifted os started H enc F)
end Go.Proofs.Ytpdmcpmkhofhdaa.geometryIndexes

namespace Go.Proofs.Ytpdmcpmkhofhdaa
theorem geometryIndexes_said : Rows.GeometryIndexesSaid := geometryIndexes.said
#print axioms geometryIndexes_said
end Go.Proofs.Ytpdmcpmkhofhdaa
