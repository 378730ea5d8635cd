/- What geometry's Fit and Room answer. No claim of its own. -/
import Derived.Test.YtpdmcpmkhofhdaaGLeft
namespace Go.Proofs.Ytpdmcpmkhofhdaa.ge
open Go.RowKit

set_option maxHeartbeats 1000000 in
theorem fit_wrong (g : List Int) (v : Value) (w : World) (hl : g.length = 6) (h : ¬ Rt g) :
    Calls Try.prog 20 #[.agg (ints .i64 g), v] w fun x w' => x = .returned (.int .i64 2) ∧ Below w.heap.size w w' := by
  have S : Hid (∀ w', Below w.heap.size w w' → Calls Try.prog 30 #[.agg (ints .i64 g), v] w' fun x w'' => x = .returned (.tuple #[.int .i64 0, .int .i64 2]) ∧ Below w'.heap.size w' w'') := fun w' _ => left_wrong g v hl h w'
  clear h
  have t0 : (0 : Nat) = 0 := rfl
  go_enter Try.func20, Try.ntmps20
  go_wp2_with (first
    | (have q1 := t1; go_at_call 30; refine (S.out _ BB.out).mono ?_; rintro e w2 ⟨rfl, B2⟩; have HX : Hid (Ar w2 w.heap.size 0 .i64 g) := HX.out.below B2 (HX.out.lt (by omega)); have BB : Hid (Below w.heap.size w w2) := BB.out.trans (B2.mono BB.out.size); have t2 : (0 : Nat) = 0 := rfl; clear B2 t1)
    | (have q9 := HX; refine load_lawS _ (by rfl) _ _ rfl (load_geo HX.out hl) ?_)
    | (have q0 := t0; refine box_lawF _ rfl (.tmp 0) 23 rfl .i64 g rfl ?_; intro w1 X1 B1 L1; have HX : Hid (Ar w1 w.heap.size 0 .i64 g) := X1; have BB : Hid (Below w.heap.size w w1) := B1; have t1 : (0 : Nat) = 0 := rfl; clear X1 t0 B1))
  go_ret
  exact ⟨rfl, BB.out⟩

set_option maxHeartbeats 1000000 in
theorem fit_range (g : List Int) (v : Value) (xs : List Int) (w : World) (hl : g.length = 6) (h : Rt g) (u D sp : Nat) (hu : gb g 1 = (u : Int) + 1) (hu1 : 3 ≤ u ∧ u ≤ 31) (hD : gb g 0 = (D : Int) + 4) (hD1 : D ≤ 60) (hsp : gb g 3 = (sp : Int)) (hsp1 : sp ≤ 8) (hv : Nums w v xs) (hn : xs.length ≤ 1000000) (hI : ¬ InR xs) :
    Calls Try.prog 20 #[.agg (ints .i64 g), v] w fun x w' => x = .returned (.int .i64 13) ∧ Below w.heap.size w w' := by
  have S : Hid (∀ w', Below w.heap.size w w' → Calls Try.prog 30 #[.agg (ints .i64 g), v] w' fun x w'' => x = .returned (.tuple #[.int .i64 0, .int .i64 13]) ∧ Below w'.heap.size w' w'') := fun w' hb => left_any g v xs w' hl h u D sp hu hu1 hD hD1 hsp hsp1 (hv.below hb) hn _ _ (fun _ => ⟨rfl, rfl⟩) (fun q => absurd q hI) (fun q => absurd q.1 hI)
  clear h hu hu1 hD hsp hv
  have t0 : (0 : Nat) = 0 := rfl
  go_enter Try.func20, Try.ntmps20
  go_wp2_with (first
    | (have q1 := t1; go_at_call 30; refine (S.out _ BB.out).mono ?_; rintro e w2 ⟨rfl, B2⟩; have HX : Hid (Ar w2 w.heap.size 0 .i64 g) := HX.out.below B2 (HX.out.lt (by omega)); have BB : Hid (Below w.heap.size w w2) := BB.out.trans (B2.mono BB.out.size); have t2 : (0 : Nat) = 0 := rfl; clear B2 t1)
    | (have q9 := HX; refine load_lawS _ (by rfl) _ _ rfl (load_geo HX.out hl) ?_)
    | (have q0 := t0; refine box_lawF _ rfl (.tmp 0) 23 rfl .i64 g rfl ?_; intro w1 X1 B1 L1; have HX : Hid (Ar w1 w.heap.size 0 .i64 g) := X1; have BB : Hid (Below w.heap.size w w1) := B1; have t1 : (0 : Nat) = 0 := rfl; clear X1 t0 B1))
  go_ret
  exact ⟨rfl, BB.out⟩

set_option maxHeartbeats 1000000 in
theorem fit_space (g : List Int) (v : Value) (xs : List Int) (w : World) (hl : g.length = 6) (h : Rt g) (u D sp : Nat) (hu : gb g 1 = (u : Int) + 1) (hu1 : 3 ≤ u ∧ u ≤ 31) (hD : gb g 0 = (D : Int) + 4) (hD1 : D ≤ 60) (hsp : gb g 3 = (sp : Int)) (hsp1 : sp ≤ 8) (hv : Nums w v xs) (hn : xs.length ≤ 1000000) (hI : InR xs) (hF : ¬ Fits D sp u xs) :
    Calls Try.prog 20 #[.agg (ints .i64 g), v] w fun x w' => x = .returned (.int .i64 14) ∧ Below w.heap.size w w' := by
  have S : Hid (∀ w', Below w.heap.size w w' → Calls Try.prog 30 #[.agg (ints .i64 g), v] w' fun x w'' => x = .returned (.tuple #[.int .i64 0, .int .i64 14]) ∧ Below w'.heap.size w' w'') := fun w' hb => left_any g v xs w' hl h u D sp hu hu1 hD hD1 hsp hsp1 (hv.below hb) hn _ _ (fun q => absurd hI q) (fun _ _ => ⟨rfl, rfl⟩) (fun q => absurd q hF)
  clear h hu hu1 hD hsp hv
  have t0 : (0 : Nat) = 0 := rfl
  go_enter Try.func20, Try.ntmps20
  go_wp2_with (first
    | (have q1 := t1; go_at_call 30; refine (S.out _ BB.out).mono ?_; rintro e w2 ⟨rfl, B2⟩; have HX : Hid (Ar w2 w.heap.size 0 .i64 g) := HX.out.below B2 (HX.out.lt (by omega)); have BB : Hid (Below w.heap.size w w2) := BB.out.trans (B2.mono BB.out.size); have t2 : (0 : Nat) = 0 := rfl; clear B2 t1)
    | (have q9 := HX; refine load_lawS _ (by rfl) _ _ rfl (load_geo HX.out hl) ?_)
    | (have q0 := t0; refine box_lawF _ rfl (.tmp 0) 23 rfl .i64 g rfl ?_; intro w1 X1 B1 L1; have HX : Hid (Ar w1 w.heap.size 0 .i64 g) := X1; have BB : Hid (Below w.heap.size w w1) := B1; have t1 : (0 : Nat) = 0 := rfl; clear X1 t0 B1))
  go_ret
  exact ⟨rfl, BB.out⟩

set_option maxHeartbeats 1000000 in
theorem fit_ok (g : List Int) (v : Value) (xs : List Int) (w : World) (hl : g.length = 6) (h : Rt g) (u D sp : Nat) (hu : gb g 1 = (u : Int) + 1) (hu1 : 3 ≤ u ∧ u ≤ 31) (hD : gb g 0 = (D : Int) + 4) (hD1 : D ≤ 60) (hsp : gb g 3 = (sp : Int)) (hsp1 : sp ≤ 8) (hv : Nums w v xs) (hn : xs.length ≤ 1000000) (hF : Fits D sp u xs) :
    Calls Try.prog 20 #[.agg (ints .i64 g), v] w fun x w' => x = .returned (.int .i64 0) ∧ Below w.heap.size w w' := by
  have S : Hid (∀ w', Below w.heap.size w w' → Calls Try.prog 30 #[.agg (ints .i64 g), v] w' fun x w'' => x = .returned (.tuple #[.int .i64 ((D : Int) - (sp : Int) - (sumq u xs : Nat)), .int .i64 0]) ∧ Below w'.heap.size w' w'') := fun w' hb => left_any g v xs w' hl h u D sp hu hu1 hD hD1 hsp hsp1 (hv.below hb) hn _ _ (fun q => absurd hF.1 q) (fun _ q => absurd hF q) (fun _ => ⟨rfl, rfl⟩)
  generalize (D : Int) - (sp : Int) - (sumq u xs : Nat) = z at *
  clear h hu hu1 hD hsp hv
  have t0 : (0 : Nat) = 0 := rfl
  go_enter Try.func20, Try.ntmps20
  go_wp2_with (first
    | (have q1 := t1; go_at_call 30; refine (S.out _ BB.out).mono ?_; rintro e w2 ⟨rfl, B2⟩; have HX : Hid (Ar w2 w.heap.size 0 .i64 g) := HX.out.below B2 (HX.out.lt (by omega)); have BB : Hid (Below w.heap.size w w2) := BB.out.trans (B2.mono BB.out.size); have t2 : (0 : Nat) = 0 := rfl; clear B2 t1)
    | (have q9 := HX; refine load_lawS _ (by rfl) _ _ rfl (load_geo HX.out hl) ?_)
    | (have q0 := t0; refine box_lawF _ rfl (.tmp 0) 23 rfl .i64 g rfl ?_; intro w1 X1 B1 L1; have HX : Hid (Ar w1 w.heap.size 0 .i64 g) := X1; have BB : Hid (Below w.heap.size w w1) := B1; have t1 : (0 : Nat) = 0 := rfl; clear X1 t0 B1))
  go_ret
  exact ⟨rfl, BB.out⟩

set_option maxHeartbeats 1000000 in
theorem room_wrong (g : List Int) (v : Value) (w : World) (hl : g.length = 6) (h : ¬ Rt g) :
    Calls Try.prog 21 #[.agg (ints .i64 g), v] w fun x w' => x = .returned (.int .i64 0) ∧ Below w.heap.size w w' := by
  have S : Hid (∀ w', Below w.heap.size w w' → Calls Try.prog 30 #[.agg (ints .i64 g), v] w' fun x w'' => x = .returned (.tuple #[.int .i64 0, .int .i64 2]) ∧ Below w'.heap.size w' w'') := fun w' _ => left_wrong g v hl h w'
  clear h
  have t0 : (0 : Nat) = 0 := rfl
  go_enter Try.func21, Try.ntmps21
  go_wp2_with (first
    | (have q1 := t1; go_at_call 30; refine (S.out _ BB.out).mono ?_; rintro e w2 ⟨rfl, B2⟩; have HX : Hid (Ar w2 w.heap.size 0 .i64 g) := HX.out.below B2 (HX.out.lt (by omega)); have BB : Hid (Below w.heap.size w w2) := BB.out.trans (B2.mono BB.out.size); have t2 : (0 : Nat) = 0 := rfl; clear B2 t1)
    | (have q9 := HX; refine load_lawS _ (by rfl) _ _ rfl (load_geo HX.out hl) ?_)
    | (have q0 := t0; refine box_lawF _ rfl (.tmp 0) 23 rfl .i64 g rfl ?_; intro w1 X1 B1 L1; have HX : Hid (Ar w1 w.heap.size 0 .i64 g) := X1; have BB : Hid (Below w.heap.size w w1) := B1; have t1 : (0 : Nat) = 0 := rfl; clear X1 t0 B1))
  go_ret
  exact ⟨rfl, BB.out⟩

set_option maxHeartbeats 1000000 in
theorem room_range (g : List Int) (v : Value) (xs : List Int) (w : World) (hl : g.length = 6) (h : Rt g) (u D sp : Nat) (hu : gb g 1 = (u : Int) + 1) (hu1 : 3 ≤ u ∧ u ≤ 31) (hD : gb g 0 = (D : Int) + 4) (hD1 : D ≤ 60) (hsp : gb g 3 = (sp : Int)) (hsp1 : sp ≤ 8) (hv : Nums w v xs) (hn : xs.length ≤ 1000000) (hI : ¬ InR xs) :
    Calls Try.prog 21 #[.agg (ints .i64 g), v] w fun x w' => x = .returned (.int .i64 0) ∧ Below w.heap.size w w' := by
  have S : Hid (∀ w', Below w.heap.size w w' → Calls Try.prog 30 #[.agg (ints .i64 g), v] w' fun x w'' => x = .returned (.tuple #[.int .i64 0, .int .i64 13]) ∧ Below w'.heap.size w' w'') := fun w' hb => left_any g v xs w' hl h u D sp hu hu1 hD hD1 hsp hsp1 (hv.below hb) hn _ _ (fun _ => ⟨rfl, rfl⟩) (fun q => absurd q hI) (fun q => absurd q.1 hI)
  clear h hu hu1 hD hsp hv
  have t0 : (0 : Nat) = 0 := rfl
  go_enter Try.func21, Try.ntmps21
  go_wp2_with (first
    | (have q1 := t1; go_at_call 30; refine (S.out _ BB.out).mono ?_; rintro e w2 ⟨rfl, B2⟩; have HX : Hid (Ar w2 w.heap.size 0 .i64 g) := HX.out.below B2 (HX.out.lt (by omega)); have BB : Hid (Below w.heap.size w w2) := BB.out.trans (B2.mono BB.out.size); have t2 : (0 : Nat) = 0 := rfl; clear B2 t1)
    | (have q9 := HX; refine load_lawS _ (by rfl) _ _ rfl (load_geo HX.out hl) ?_)
    | (have q0 := t0; refine box_lawF _ rfl (.tmp 0) 23 rfl .i64 g rfl ?_; intro w1 X1 B1 L1; have HX : Hid (Ar w1 w.heap.size 0 .i64 g) := X1; have BB : Hid (Below w.heap.size w w1) := B1; have t1 : (0 : Nat) = 0 := rfl; clear X1 t0 B1))
  go_ret
  exact ⟨rfl, BB.out⟩

set_option maxHeartbeats 1000000 in
theorem room_space (g : List Int) (v : Value) (xs : List Int) (w : World) (hl : g.length = 6) (h : Rt g) (u D sp : Nat) (hu : gb g 1 = (u : Int) + 1) (hu1 : 3 ≤ u ∧ u ≤ 31) (hD : gb g 0 = (D : Int) + 4) (hD1 : D ≤ 60) (hsp : gb g 3 = (sp : Int)) (hsp1 : sp ≤ 8) (hv : Nums w v xs) (hn : xs.length ≤ 1000000) (hI : InR xs) (hF : ¬ Fits D sp u xs) :
    Calls Try.prog 21 #[.agg (ints .i64 g), v] w fun x w' => x = .returned (.int .i64 0) ∧ Below w.heap.size w w' := by
  have S : Hid (∀ w', Below w.heap.size w w' → Calls Try.prog 30 #[.agg (ints .i64 g), v] w' fun x w'' => x = .returned (.tuple #[.int .i64 0, .int .i64 14]) ∧ Below w'.heap.size w' w'') := fun w' hb => left_any g v xs w' hl h u D sp hu hu1 hD hD1 hsp hsp1 (hv.below hb) hn _ _ (fun q => absurd hI q) (fun _ _ => ⟨rfl, rfl⟩) (fun q => absurd q hF)
  clear h hu hu1 hD hsp hv
  have t0 : (0 : Nat) = 0 := rfl
  go_enter Try.func21, Try.ntmps21
  go_wp2_with (first
    | (have q1 := t1; go_at_call 30; refine (S.out _ BB.out).mono ?_; rintro e w2 ⟨rfl, B2⟩; have HX : Hid (Ar w2 w.heap.size 0 .i64 g) := HX.out.below B2 (HX.out.lt (by omega)); have BB : Hid (Below w.heap.size w w2) := BB.out.trans (B2.mono BB.out.size); have t2 : (0 : Nat) = 0 := rfl; clear B2 t1)
    | (have q9 := HX; refine load_lawS _ (by rfl) _ _ rfl (load_geo HX.out hl) ?_)
    | (have q0 := t0; refine box_lawF _ rfl (.tmp 0) 23 rfl .i64 g rfl ?_; intro w1 X1 B1 L1; have HX : Hid (Ar w1 w.heap.size 0 .i64 g) := X1; have BB : Hid (Below w.heap.size w w1) := B1; have t1 : (0 : Nat) = 0 := rfl; clear X1 t0 B1))
  go_ret
  exact ⟨rfl, BB.out⟩

set_option maxHeartbeats 1000000 in
theorem room_four (g : List Int) (v : Value) (xs : List Int) (w : World) (hl : g.length = 6) (h : Rt g) (u D sp : Nat) (hu : gb g 1 = (u : Int) + 1) (hu1 : 3 ≤ u ∧ u ≤ 31) (hD : gb g 0 = (D : Int) + 4) (hD1 : D ≤ 60) (hsp : gb g 3 = (sp : Int)) (hsp1 : sp ≤ 8) (hv : Nums w v xs) (hn : xs.length ≤ 1000000) (hF : Fits D sp u xs) (h4 : xs.length = 4) :
    Calls Try.prog 21 #[.agg (ints .i64 g), v] w fun x w' => x = .returned (.int .i64 0) ∧ Below w.heap.size w w' := by
  have S : Hid (∀ w', Below w.heap.size w w' → Calls Try.prog 30 #[.agg (ints .i64 g), v] w' fun x w'' => x = .returned (.tuple #[.int .i64 ((D : Int) - (sp : Int) - (sumq u xs : Nat)), .int .i64 0]) ∧ Below w'.heap.size w' w'') := fun w' hb => left_any g v xs w' hl h u D sp hu hu1 hD hD1 hsp hsp1 (hv.below hb) hn _ _ (fun q => absurd hF.1 q) (fun _ q => absurd hF q) (fun _ => ⟨rfl, rfl⟩)
  obtain ⟨ao, ca, rfl, -, -, -, -⟩ := id hv
  rw [h4] at S ⊢
  generalize (D : Int) - (sp : Int) - (sumq u xs : Nat) = z at *
  clear h hu hu1 hD hsp hv h4 hF hn
  have t0 : (0 : Nat) = 0 := rfl
  go_enter Try.func21, Try.ntmps21
  go_wp2_with (first
    | (have q1 := t1; go_at_call 30; refine (S.out _ BB.out).mono ?_; rintro e w2 ⟨rfl, B2⟩; have HX : Hid (Ar w2 w.heap.size 0 .i64 g) := HX.out.below B2 (HX.out.lt (by omega)); have BB : Hid (Below w.heap.size w w2) := BB.out.trans (B2.mono BB.out.size); have t2 : (0 : Nat) = 0 := rfl; clear B2 t1)
    | (have q9 := HX; refine load_lawS _ (by rfl) _ _ rfl (load_geo HX.out hl) ?_)
    | (have q0 := t0; refine box_lawF _ rfl (.tmp 0) 23 rfl .i64 g rfl ?_; intro w1 X1 B1 L1; have HX : Hid (Ar w1 w.heap.size 0 .i64 g) := X1; have BB : Hid (Below w.heap.size w w1) := B1; have t1 : (0 : Nat) = 0 := rfl; clear X1 t0 B1))
  go_ret
  exact ⟨rfl, BB.out⟩

set_option maxHeartbeats 1000000 in
theorem room_few (g : List Int) (v : Value) (xs : List Int) (w : World) (hl : g.length = 6) (h : Rt g) (u D sp : Nat) (hu : gb g 1 = (u : Int) + 1) (hu1 : 3 ≤ u ∧ u ≤ 31) (hD : gb g 0 = (D : Int) + 4) (hD1 : D ≤ 60) (hsp : gb g 3 = (sp : Int)) (hsp1 : sp ≤ 8) (hv : Nums w v xs) (hn : xs.length ≤ 1000000) (hF : Fits D sp u xs) (h4 : xs.length ≠ 4) (h2 : D ≤ sp + sumq u xs + 2) :
    Calls Try.prog 21 #[.agg (ints .i64 g), v] w fun x w' => x = .returned (.int .i64 0) ∧ Below w.heap.size w w' := by
  have S : Hid (∀ w', Below w.heap.size w w' → Calls Try.prog 30 #[.agg (ints .i64 g), v] w' fun x w'' => x = .returned (.tuple #[.int .i64 ((D : Int) - (sp : Int) - (sumq u xs : Nat)), .int .i64 0]) ∧ Below w'.heap.size w' w'') := fun w' hb => left_any g v xs w' hl h u D sp hu hu1 hD hD1 hsp hsp1 (hv.below hb) hn _ _ (fun q => absurd hF.1 q) (fun _ q => absurd hF q) (fun _ => ⟨rfl, rfl⟩)
  have z2 : (D : Int) - (sp : Int) - (sumq u xs : Nat) ≤ 2 := by omega
  generalize (D : Int) - (sp : Int) - (sumq u xs : Nat) = z at *
  obtain ⟨ao, ca, rfl, -, -, -, -⟩ := id hv
  have n4 : (xs.length : Int) ≠ 4 := by omega
  generalize xs.length = n at *
  clear h hu hu1 hD hsp hv h4 hF hn h2
  have t0 : (0 : Nat) = 0 := rfl
  go_enter Try.func21, Try.ntmps21
  go_wp2_with (first
    | (have q1 := t1; go_at_call 30; refine (S.out _ BB.out).mono ?_; rintro e w2 ⟨rfl, B2⟩; have HX : Hid (Ar w2 w.heap.size 0 .i64 g) := HX.out.below B2 (HX.out.lt (by omega)); have BB : Hid (Below w.heap.size w w2) := BB.out.trans (B2.mono BB.out.size); have t2 : (0 : Nat) = 0 := rfl; clear B2 t1)
    | (have q9 := HX; refine load_lawS _ (by rfl) _ _ rfl (load_geo HX.out hl) ?_)
    | (have q0 := t0; refine box_lawF _ rfl (.tmp 0) 23 rfl .i64 g rfl ?_; intro w1 X1 B1 L1; have HX : Hid (Ar w1 w.heap.size 0 .i64 g) := X1; have BB : Hid (Below w.heap.size w w1) := B1; have t1 : (0 : Nat) = 0 := rfl; clear X1 t0 B1))
  go_ret
  exact ⟨rfl, BB.out⟩

set_option maxHeartbeats 1000000 in
theorem room_much (g : List Int) (v : Value) (xs : List Int) (w : World) (hl : g.length = 6) (h : Rt g) (u D sp : Nat) (hu : gb g 1 = (u : Int) + 1) (hu1 : 3 ≤ u ∧ u ≤ 31) (hD : gb g 0 = (D : Int) + 4) (hD1 : D ≤ 60) (hsp : gb g 3 = (sp : Int)) (hsp1 : sp ≤ 8) (hv : Nums w v xs) (hn : xs.length ≤ 1000000) (hF : Fits D sp u xs) (h4 : xs.length ≠ 4) (h2 : sp + sumq u xs + 3 ≤ D) :
    Calls Try.prog 21 #[.agg (ints .i64 g), v] w fun x w' => x = .returned (.int .i64 (((D - sp - sumq u xs - 2) * u : Nat) : Int)) ∧ Below w.heap.size w w' := by
  have S : Hid (∀ w', Below w.heap.size w w' → Calls Try.prog 30 #[.agg (ints .i64 g), v] w' fun x w'' => x = .returned (.tuple #[.int .i64 ((D : Int) - (sp : Int) - (sumq u xs : Nat)), .int .i64 0]) ∧ Below w'.heap.size w' w'') := fun w' hb => left_any g v xs w' hl h u D sp hu hu1 hD hD1 hsp hsp1 (hv.below hb) hn _ _ (fun q => absurd hF.1 q) (fun _ q => absurd hF q) (fun _ => ⟨rfl, rfl⟩)
  have SD : Hid (∀ w, Calls Try.prog 27 #[.agg (ints .i64 g)] w fun x w' => x = .returned (.int .i64 (u : Int)) ∧ Below w.heap.size w w') := fun w => by
    have := dp_any g w hl h.1
    rwa [show gb g 1 - 1 = (u : Int) by omega] at this
  obtain ⟨a, ha⟩ : ∃ a, a = D - sp - sumq u xs - 2 := ⟨_, rfl⟩
  have hz : (D : Int) - (sp : Int) - (sumq u xs : Nat) = (a : Int) + 2 := by omega
  have ha2 : a ≤ 60 := by omega
  rw [← ha]
  rw [hz] at S
  have z2 : decide ((a : Int) + 2 ≤ 2) = false := decide_eq_false (by omega)
  have q2 : IntKind.i64.wrap ((a : Int) + 2 - 2) = (a : Int) := by rw [IntKind.wrap_i64]; omega
  obtain ⟨m, hm⟩ : ∃ m : Nat, m = a * u := ⟨_, rfl⟩
  have hm1 : m ≤ 1860 := by rw [hm]; exact Nat.le_trans (Nat.mul_le_mul ha2 hu1.2) (by omega)
  have qm : (a : Int) * (u : Int) = (m : Int) := by rw [hm]; simp
  have q3 : IntKind.i64.wrap (m : Int) = (m : Int) := by rw [IntKind.wrap_i64]; omega
  have q4 : (m : Int) ≤ 65535 := by omega
  have q5 : min (m : Int) 65535 = (m : Int) := by omega
  rw [← hm]
  obtain ⟨y, hy⟩ : ∃ y, y = (a : Int) + 2 := ⟨_, rfl⟩
  rw [← hy] at S z2 q2
  obtain ⟨ao, ca, rfl, -, -, -, -⟩ := id hv
  have n4 : ((xs.length : Int) == 4) = false := by rw [beq_eq_false_iff_ne]; omega
  generalize xs.length = n at *
  clear h hu hu1 hD hsp hv h4 hF hn h2 ha hz hm hy
  have t0 : (0 : Nat) = 0 := rfl
  go_enter Try.func21, Try.ntmps21
  go_wp2_with (first
    | (have q2 := t2; go_at_call 27; refine (SD.out _).mono ?_; rintro e w3 ⟨rfl, B3⟩; have BB : Hid (Below w.heap.size w w3) := BB.out.trans (B3.mono BB.out.size); clear B3 t2)
    | (have q1 := t1; go_at_call 30; refine (S.out _ BB.out).mono ?_; rintro e w2 ⟨rfl, B2⟩; have HX : Hid (Ar w2 w.heap.size 0 .i64 g) := HX.out.below B2 (HX.out.lt (by omega)); have BB : Hid (Below w.heap.size w w2) := BB.out.trans (B2.mono BB.out.size); have t2 : (0 : Nat) = 0 := rfl; clear B2 t1)
    | (have q9 := HX; refine load_lawS _ (by rfl) _ _ rfl (load_geo HX.out hl) ?_)
    | (have q0 := t0; refine box_lawF _ rfl (.tmp 0) 23 rfl .i64 g rfl ?_; intro w1 X1 B1 L1; have HX : Hid (Ar w1 w.heap.size 0 .i64 g) := X1; have BB : Hid (Below w.heap.size w w1) := B1; have t1 : (0 : Nat) = 0 := rfl; clear X1 t0 B1))
  go_ret
  exact ⟨rfl, BB.out⟩

theorem room_any (g : List Int) (v : Value) (xs : List Int) (w : World) (hl : g.length = 6) (h : Rt g) (u D sp : Nat) (hu : gb g 1 = (u : Int) + 1) (hu1 : 3 ≤ u ∧ u ≤ 31) (hD : gb g 0 = (D : Int) + 4) (hD1 : D ≤ 60) (hsp : gb g 3 = (sp : Int)) (hsp1 : sp ≤ 8) (hv : Nums w v xs) (hn : xs.length ≤ 1000000) (hF : Fits D sp u xs) :
    Calls Try.prog 21 #[.agg (ints .i64 g), v] w fun x w' => x = .returned (.int .i64 ((room D sp u xs : Nat) : Int)) ∧ Below w.heap.size w w' := by
  by_cases h4 : xs.length = 4
  · have e : room D sp u xs = 0 := by unfold room; rw [if_neg (by omega)]
    rw [e]
    exact room_four g v xs w hl h u D sp hu hu1 hD hD1 hsp hsp1 hv hn hF h4
  · by_cases h2 : sp + sumq u xs + 3 ≤ D
    · have hm : (D - sp - sumq u xs - 2) * u ≤ 60 * 31 := Nat.mul_le_mul (by omega) hu1.2
      have e : room D sp u xs = (D - sp - sumq u xs - 2) * u := by
        unfold room
        rw [if_pos ⟨by have := hF.2.1; omega, h2⟩]
        omega
      rw [e]
      exact room_much g v xs w hl h u D sp hu hu1 hD hD1 hsp hsp1 hv hn hF h4 h2
    · have e : room D sp u xs = 0 := by unfold room; rw [if_neg (by omega)]
      rw [e]
      exact room_few g v xs w hl h u D sp hu hu1 hD hD1 hsp hsp1 hv hn hF h4 (by omega)
end Go.Proofs.Ytpdmcpmkhofhdaa.ge
