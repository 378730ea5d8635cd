/- P11.2, P11.3: do any namespaces fit; the greatest size of one more: it fits, and one more sector does not; the program answers at all. -/
import Derived.Test.YtpdmcpmkhofhdaaGRight
import Derived.Test.YtpdmcpmkhofhdaaGAwk
import Derived.Test.YtpdmcpmkhofhdaaGOpen
import Derived.Test.YtpdmcpmkhofhdaaGFit
import Derived.Test.YtpdmcpmkhofhdaaGRefF
import Derived.Test.YtpdmcpmkhofhdaaGStep
namespace Go.Proofs.Ytpdmcpmkhofhdaa.geometryFits
open Go.ChangeShapes Go.WideShapes Go.ChangeAt Go.RowKit

open Go.Proofs.Ytpdmcpmkhofhdaa.ge

set_option maxHeartbeats 1000000 in
theorem walk_long (g : List Int) (v : Value) (xs : List Int) (w : World) (hv : Nums w v xs) (hn : 100 < xs.length) :
    Calls Try.prog 6 #[.agg (ints .i64 g), v] w fun e w' => e = .returned (.bool true) ∧ Below w.heap.size w w' := by
  have SA : Hid (∀ w, Calls Try.prog 15 #[] w fun x w' => x = .returned (.bool true) ∧ Below w.heap.size w w') := awake_any
  obtain ⟨ao, ca, rfl, -, -, -, -⟩ := hv
  have hn1 : (100 : Int) < (xs.length : Int) := by omega
  generalize xs.length = n at *
  have t0 : (0 : Nat) = 0 := rfl
  go_enter Try.func6, Try.ntmps6
  go_wp2_with (first
    | (go_at_call 15; refine (SA.out _).mono ?_; rintro e w2 ⟨rfl, B2⟩; have BB : Hid (Below w.heap.size w w2) := BB.out.trans (B2.mono BB.out.size))
    | (have q0 := t0; refine box_lawF _ rfl (.tmp 0) 23 rfl .i64 g rfl ?_; intro w1 X1 B1 L1; have HX : Hid (Ar w1 w.heap.size 0 .i64 g) := X1; have BB : Hid (Below w.heap.size w w1) := B1; have t1 : (0 : Nat) = 0 := rfl; clear X1 t0 B1))
  go_ret
  exact ⟨rfl, BB.out⟩

set_option maxHeartbeats 4000000 in
theorem walk_wrong (g : List Int) (v : Value) (xs : List Int) (w : World) (hl : g.length = 6) (hv : Nums w v xs) (hn : xs.length ≤ 100) (h : ¬ Rt g) :
    Calls Try.prog 6 #[.agg (ints .i64 g), v] w fun e w' => e = .returned (.bool true) ∧ Below w.heap.size w w' := by
  have SR : Hid (∀ w', Below w.heap.size w w' → Calls Try.prog 8 #[.agg (ints .i64 g)] w' fun x w'' => x = .returned (.bool false) ∧ Below w'.heap.size w' w'') := fun w' _ => right_no g hl h w'
  have SA : Hid (∀ w', Below w.heap.size w w' → Calls Try.prog 15 #[] w' fun x w'' => x = .returned (.bool true) ∧ Below w'.heap.size w' w'') := fun w' _ => awake_any w'
  have S1 : Hid (∀ w', Below w.heap.size w w' → Calls Try.prog 20 #[.agg (ints .i64 g), v] w' fun x w'' => x = .returned (.int .i64 2) ∧ Below w'.heap.size w' w'') := fun w' hb => fit_wrong g v w' hl h
  have S2 : Hid (∀ w', Below w.heap.size w w' → Calls Try.prog 21 #[.agg (ints .i64 g), v] w' fun x w'' => x = .returned (.int .i64 0) ∧ Below w'.heap.size w' w'') := fun w' hb => room_wrong g v w' hl h
  obtain ⟨ao, ca, rfl, -, -, -, -⟩ := id hv
  obtain ⟨n, hnn⟩ : ∃ n, n = xs.length := ⟨_, rfl⟩
  rw [← hnn] at S1 S2 ⊢
  have hn1 : ¬ (100 : Int) < (n : Int) := by omega
  clear hnn hv hn h
  have t0 : (0 : Nat) = 0 := rfl
  go_enter Try.func6, Try.ntmps6
  go_wp2_with (first
    | (have q4 := t4; go_at_call 15; refine (SA.out _ BB.out).mono ?_; rintro e w6 ⟨rfl, B6⟩; have HX : Hid (Ar w6 w.heap.size 0 .i64 g) := HX.out.below B6 (HX.out.lt (by omega)); have BB : Hid (Below w.heap.size w w6) := BB.out.trans (B6.mono BB.out.size); have t5 : (0 : Nat) = 0 := rfl; clear B6 t4)
    | (have q3 := t3; go_at_call 8; refine (SR.out _ BB.out).mono ?_; rintro e w4 ⟨rfl, B4⟩; have HX : Hid (Ar w4 w.heap.size 0 .i64 g) := HX.out.below B4 (HX.out.lt (by omega)); have BB : Hid (Below w.heap.size w w4) := BB.out.trans (B4.mono BB.out.size); have t4 : (0 : Nat) = 0 := rfl; clear B4 t3)
    | (have q2 := t2; go_at_call 21; refine (S2.out _ BB.out).mono ?_; rintro e w3 ⟨rfl, B3⟩; have HX : Hid (Ar w3 w.heap.size 0 .i64 g) := HX.out.below B3 (HX.out.lt (by omega)); have BB : Hid (Below w.heap.size w w3) := BB.out.trans (B3.mono BB.out.size); have t3 : (0 : Nat) = 0 := rfl; clear B3 t2)
    | (have q1 := t1; go_at_call 20; refine (S1.out _ BB.out).mono ?_; rintro e w2 ⟨rfl, B2⟩; have HX : Hid (Ar w2 w.heap.size 0 .i64 g) := HX.out.below B2 (HX.out.lt (by omega)); have BB : Hid (Below w.heap.size w w2) := BB.out.trans (B2.mono BB.out.size); have t2 : (0 : Nat) = 0 := rfl; clear B2 t1)
    | (have q9 := HX; refine load_lawS _ (by rfl) _ _ rfl (load_geo HX.out hl) ?_)
    | (have q0 := t0; refine box_lawF _ rfl (.tmp 0) 23 rfl .i64 g rfl ?_; intro w1 X1 B1 L1; have HX : Hid (Ar w1 w.heap.size 0 .i64 g) := X1; have BB : Hid (Below w.heap.size w w1) := B1; have t1 : (0 : Nat) = 0 := rfl; clear X1 t0 B1))
  go_ret
  exact ⟨rfl, BB.out⟩

set_option maxHeartbeats 4000000 in
theorem walk_range (g : List Int) (v : Value) (xs : List Int) (w : World) (hl : g.length = 6) (hv : Nums w v xs) (hn : xs.length ≤ 100) (h : Rt g) (u D sp : Nat) (hu : gb g 1 = (u : Int) + 1) (hu1 : 3 ≤ u ∧ u ≤ 31) (hD : gb g 0 = (D : Int) + 4) (hD1 : D ≤ 60) (hsp : gb g 3 = (sp : Int)) (hsp1 : sp ≤ 8) (hI : ¬ InR xs) :
    Calls Try.prog 6 #[.agg (ints .i64 g), v] w fun e w' => e = .returned (.bool true) ∧ Below w.heap.size w w' := by
  have SR : Hid (∀ w', Below w.heap.size w w' → Calls Try.prog 8 #[.agg (ints .i64 g)] w' fun x w'' => x = .returned (.bool true) ∧ Below w'.heap.size w' w'') := fun w' _ => right_yes g hl h w'
  have SA : Hid (∀ w', Below w.heap.size w w' → Calls Try.prog 15 #[] w' fun x w'' => x = .returned (.bool true) ∧ Below w'.heap.size w' w'') := fun w' _ => awake_any w'
  have S1 : Hid (∀ w', Below w.heap.size w w' → Calls Try.prog 20 #[.agg (ints .i64 g), v] w' fun x w'' => x = .returned (.int .i64 13) ∧ Below w'.heap.size w' w'') := fun w' hb => fit_range g v xs w' hl h u D sp hu hu1 hD hD1 hsp hsp1 (hv.below hb) (by omega) hI
  have S2 : Hid (∀ w', Below w.heap.size w w' → Calls Try.prog 21 #[.agg (ints .i64 g), v] w' fun x w'' => x = .returned (.int .i64 0) ∧ Below w'.heap.size w' w'') := fun w' hb => room_range g v xs w' hl h u D sp hu hu1 hD hD1 hsp hsp1 (hv.below hb) (by omega) hI
  have S3 : Hid (∀ w', Below w.heap.size w w' → Calls Try.prog 22 #[.agg (ints .i64 g), v] w' fun x w'' => x = .returned (.int .i64 13) ∧ Below w'.heap.size w' w'') := fun w' hb => rfit_any g v xs w' hl u D sp hu hu1 hD hD1 hsp hsp1 (hv.below hb) (by omega) _ (fun _ => rfl) (fun q => absurd q hI) (fun q => absurd q.1 hI)
  obtain ⟨ao, ca, rfl, -, -, -, -⟩ := id hv
  obtain ⟨n, hnn⟩ : ∃ n, n = xs.length := ⟨_, rfl⟩
  rw [← hnn] at S1 S2 S3 ⊢
  have hn1 : ¬ (100 : Int) < (n : Int) := by omega
  clear hnn hv hn h hu hu1 hD hsp
  have t0 : (0 : Nat) = 0 := rfl
  go_enter Try.func6, Try.ntmps6
  go_wp2_with (first
    | (have q5 := t5; go_at_call 15; refine (SA.out _ BB.out).mono ?_; rintro e w6 ⟨rfl, B6⟩; have HX : Hid (Ar w6 w.heap.size 0 .i64 g) := HX.out.below B6 (HX.out.lt (by omega)); have BB : Hid (Below w.heap.size w w6) := BB.out.trans (B6.mono BB.out.size); have t6 : (0 : Nat) = 0 := rfl; clear B6 t5)
    | (have q4 := t4; go_at_call 22; refine (S3.out _ BB.out).mono ?_; rintro e w5 ⟨rfl, B5⟩; have HX : Hid (Ar w5 w.heap.size 0 .i64 g) := HX.out.below B5 (HX.out.lt (by omega)); have BB : Hid (Below w.heap.size w w5) := BB.out.trans (B5.mono BB.out.size); have t5 : (0 : Nat) = 0 := rfl; clear B5 t4)
    | (have q3 := t3; go_at_call 8; refine (SR.out _ BB.out).mono ?_; rintro e w4 ⟨rfl, B4⟩; have HX : Hid (Ar w4 w.heap.size 0 .i64 g) := HX.out.below B4 (HX.out.lt (by omega)); have BB : Hid (Below w.heap.size w w4) := BB.out.trans (B4.mono BB.out.size); have t4 : (0 : Nat) = 0 := rfl; clear B4 t3)
    | (have q2 := t2; go_at_call 21; refine (S2.out _ BB.out).mono ?_; rintro e w3 ⟨rfl, B3⟩; have HX : Hid (Ar w3 w.heap.size 0 .i64 g) := HX.out.below B3 (HX.out.lt (by omega)); have BB : Hid (Below w.heap.size w w3) := BB.out.trans (B3.mono BB.out.size); have t3 : (0 : Nat) = 0 := rfl; clear B3 t2)
    | (have q1 := t1; go_at_call 20; refine (S1.out _ BB.out).mono ?_; rintro e w2 ⟨rfl, B2⟩; have HX : Hid (Ar w2 w.heap.size 0 .i64 g) := HX.out.below B2 (HX.out.lt (by omega)); have BB : Hid (Below w.heap.size w w2) := BB.out.trans (B2.mono BB.out.size); have t2 : (0 : Nat) = 0 := rfl; clear B2 t1)
    | (have q9 := HX; refine load_lawS _ (by rfl) _ _ rfl (load_geo HX.out hl) ?_)
    | (have q0 := t0; refine box_lawF _ rfl (.tmp 0) 23 rfl .i64 g rfl ?_; intro w1 X1 B1 L1; have HX : Hid (Ar w1 w.heap.size 0 .i64 g) := X1; have BB : Hid (Below w.heap.size w w1) := B1; have t1 : (0 : Nat) = 0 := rfl; clear X1 t0 B1))
  go_ret
  exact ⟨rfl, BB.out⟩

set_option maxHeartbeats 4000000 in
theorem walk_space (g : List Int) (v : Value) (xs : List Int) (w : World) (hl : g.length = 6) (hv : Nums w v xs) (hn : xs.length ≤ 100) (h : Rt g) (u D sp : Nat) (hu : gb g 1 = (u : Int) + 1) (hu1 : 3 ≤ u ∧ u ≤ 31) (hD : gb g 0 = (D : Int) + 4) (hD1 : D ≤ 60) (hsp : gb g 3 = (sp : Int)) (hsp1 : sp ≤ 8) (hI : InR xs) (hF : ¬ Fits D sp u xs) :
    Calls Try.prog 6 #[.agg (ints .i64 g), v] w fun e w' => e = .returned (.bool true) ∧ Below w.heap.size w w' := by
  have SR : Hid (∀ w', Below w.heap.size w w' → Calls Try.prog 8 #[.agg (ints .i64 g)] w' fun x w'' => x = .returned (.bool true) ∧ Below w'.heap.size w' w'') := fun w' _ => right_yes g hl h w'
  have SA : Hid (∀ w', Below w.heap.size w w' → Calls Try.prog 15 #[] w' fun x w'' => x = .returned (.bool true) ∧ Below w'.heap.size w' w'') := fun w' _ => awake_any w'
  have S1 : Hid (∀ w', Below w.heap.size w w' → Calls Try.prog 20 #[.agg (ints .i64 g), v] w' fun x w'' => x = .returned (.int .i64 14) ∧ Below w'.heap.size w' w'') := fun w' hb => fit_space g v xs w' hl h u D sp hu hu1 hD hD1 hsp hsp1 (hv.below hb) (by omega) hI hF
  have S2 : Hid (∀ w', Below w.heap.size w w' → Calls Try.prog 21 #[.agg (ints .i64 g), v] w' fun x w'' => x = .returned (.int .i64 0) ∧ Below w'.heap.size w' w'') := fun w' hb => room_space g v xs w' hl h u D sp hu hu1 hD hD1 hsp hsp1 (hv.below hb) (by omega) hI hF
  have S3 : Hid (∀ w', Below w.heap.size w w' → Calls Try.prog 22 #[.agg (ints .i64 g), v] w' fun x w'' => x = .returned (.int .i64 14) ∧ Below w'.heap.size w' w'') := fun w' hb => rfit_any g v xs w' hl u D sp hu hu1 hD hD1 hsp hsp1 (hv.below hb) (by omega) _ (fun q => absurd hI q) (fun _ _ => rfl) (fun q => absurd q hF)
  obtain ⟨ao, ca, rfl, -, -, -, -⟩ := id hv
  obtain ⟨n, hnn⟩ : ∃ n, n = xs.length := ⟨_, rfl⟩
  rw [← hnn] at S1 S2 S3 ⊢
  have hn1 : ¬ (100 : Int) < (n : Int) := by omega
  clear hnn hv hn h hu hu1 hD hsp
  have t0 : (0 : Nat) = 0 := rfl
  go_enter Try.func6, Try.ntmps6
  go_wp2_with (first
    | (have q5 := t5; go_at_call 15; refine (SA.out _ BB.out).mono ?_; rintro e w6 ⟨rfl, B6⟩; have HX : Hid (Ar w6 w.heap.size 0 .i64 g) := HX.out.below B6 (HX.out.lt (by omega)); have BB : Hid (Below w.heap.size w w6) := BB.out.trans (B6.mono BB.out.size); have t6 : (0 : Nat) = 0 := rfl; clear B6 t5)
    | (have q4 := t4; go_at_call 22; refine (S3.out _ BB.out).mono ?_; rintro e w5 ⟨rfl, B5⟩; have HX : Hid (Ar w5 w.heap.size 0 .i64 g) := HX.out.below B5 (HX.out.lt (by omega)); have BB : Hid (Below w.heap.size w w5) := BB.out.trans (B5.mono BB.out.size); have t5 : (0 : Nat) = 0 := rfl; clear B5 t4)
    | (have q3 := t3; go_at_call 8; refine (SR.out _ BB.out).mono ?_; rintro e w4 ⟨rfl, B4⟩; have HX : Hid (Ar w4 w.heap.size 0 .i64 g) := HX.out.below B4 (HX.out.lt (by omega)); have BB : Hid (Below w.heap.size w w4) := BB.out.trans (B4.mono BB.out.size); have t4 : (0 : Nat) = 0 := rfl; clear B4 t3)
    | (have q2 := t2; go_at_call 21; refine (S2.out _ BB.out).mono ?_; rintro e w3 ⟨rfl, B3⟩; have HX : Hid (Ar w3 w.heap.size 0 .i64 g) := HX.out.below B3 (HX.out.lt (by omega)); have BB : Hid (Below w.heap.size w w3) := BB.out.trans (B3.mono BB.out.size); have t3 : (0 : Nat) = 0 := rfl; clear B3 t2)
    | (have q1 := t1; go_at_call 20; refine (S1.out _ BB.out).mono ?_; rintro e w2 ⟨rfl, B2⟩; have HX : Hid (Ar w2 w.heap.size 0 .i64 g) := HX.out.below B2 (HX.out.lt (by omega)); have BB : Hid (Below w.heap.size w w2) := BB.out.trans (B2.mono BB.out.size); have t2 : (0 : Nat) = 0 := rfl; clear B2 t1)
    | (have q9 := HX; refine load_lawS _ (by rfl) _ _ rfl (load_geo HX.out hl) ?_)
    | (have q0 := t0; refine box_lawF _ rfl (.tmp 0) 23 rfl .i64 g rfl ?_; intro w1 X1 B1 L1; have HX : Hid (Ar w1 w.heap.size 0 .i64 g) := X1; have BB : Hid (Below w.heap.size w w1) := B1; have t1 : (0 : Nat) = 0 := rfl; clear X1 t0 B1))
  go_ret
  exact ⟨rfl, BB.out⟩

theorem room_small (D sp u : Nat) (xs : List Int) (hD : D ≤ 60) (hu : u ≤ 31) : room D sp u xs ≤ 1860 := by
  unfold room
  split
  · have : (D - sp - sumq u xs - 2) * u ≤ 60 * 31 := Nat.mul_le_mul (by omega) hu
    omega
  · omega

set_option maxRecDepth 20000 in
set_option maxHeartbeats 8000000 in
theorem walk_ok (g : List Int) (v : Value) (xs : List Int) (w : World) (hl : g.length = 6) (hv : Nums w v xs) (hn : xs.length ≤ 100) (h : Rt g) (u D sp : Nat) (hu : gb g 1 = (u : Int) + 1) (hu1 : 3 ≤ u ∧ u ≤ 31) (hD : gb g 0 = (D : Int) + 4) (hD1 : D ≤ 60) (hsp : gb g 3 = (sp : Int)) (hsp1 : sp ≤ 8) (hF : Fits D sp u xs) :
    Calls Try.prog 6 #[.agg (ints .i64 g), v] w fun e w' => e = .returned (.bool true) ∧ Below w.heap.size w w' := by
  have SR : Hid (∀ w', Below w.heap.size w w' → Calls Try.prog 8 #[.agg (ints .i64 g)] w' fun x w'' => x = .returned (.bool true) ∧ Below w'.heap.size w' w'') := fun w' _ => right_yes g hl h w'
  have SA : Hid (∀ w, Calls Try.prog 15 #[] w fun x w' => x = .returned (.bool true) ∧ Below w.heap.size w w') := awake_any
  have S1 : Hid (∀ w', Below w.heap.size w w' → Calls Try.prog 20 #[.agg (ints .i64 g), v] w' fun x w'' => x = .returned (.int .i64 0) ∧ Below w'.heap.size w' w'') := fun w' hb => fit_ok g v xs w' hl h u D sp hu hu1 hD hD1 hsp hsp1 (hv.below hb) (by omega) hF
  have S2 : Hid (∀ w', Below w.heap.size w w' → Calls Try.prog 21 #[.agg (ints .i64 g), v] w' fun x w'' => x = .returned (.int .i64 ((room D sp u xs : Nat) : Int)) ∧ Below w'.heap.size w' w'') := fun w' hb => room_any g v xs w' hl h u D sp hu hu1 hD hD1 hsp hsp1 (hv.below hb) (by omega) hF
  have S3 : Hid (∀ w', Below w.heap.size w w' → Calls Try.prog 22 #[.agg (ints .i64 g), v] w' fun x w'' => x = .returned (.int .i64 0) ∧ Below w'.heap.size w' w'') := fun w' hb => rfit_any g v xs w' hl u D sp hu hu1 hD hD1 hsp hsp1 (hv.below hb) (by omega) _ (fun q => absurd hF.1 q) (fun _ q => absurd hF q) (fun _ => rfl)
  have hr1 := room_small D sp u xs hD1 hu1.2
  have S4' : Hid (0 < room D sp u xs → ∀ y w', Nums w' y (xs ++ [((room D sp u xs : Nat) : Int)]) → Calls Try.prog 22 #[.agg (ints .i64 g), y] w' fun x w'' => ∃ z, x = .returned z ∧ z = .int .i64 0 ∧ Below w'.heap.size w' w'') := fun hp y w' hy => by
    have hf := room_fits D sp u (by omega) xs hF hp
    exact (rfit_any g y _ w' hl u D sp hu hu1 hD hD1 hsp hsp1 hy (by rw [List.length_append]; simp; omega) 0 (fun q => absurd hf.1 q) (fun _ q => absurd hf q) (fun _ => rfl)).mono fun _ _ ⟨he, hb⟩ => ⟨_, he, rfl, hb⟩
  have S5 : Hid (∀ y w', Nums w' y (xs ++ [((room D sp u xs : Nat) : Int) + 1]) → Calls Try.prog 22 #[.agg (ints .i64 g), y] w' fun x w'' => ∃ z, x = .returned z ∧ z = .int .i64 14 ∧ Below w'.heap.size w' w'') := fun y w' hy => by
    have hf := room_more D sp u (by omega) xs hF (by omega)
    have hi : InR (xs ++ [((room D sp u xs + 1 : Nat) : Int)]) := (inr_app _ _).2 ⟨hF.1, (inr_one _).2 ⟨by omega, by omega⟩⟩
    rw [show ((room D sp u xs : Nat) : Int) + 1 = ((room D sp u xs + 1 : Nat) : Int) by omega] at hy
    exact (rfit_any g y _ w' hl u D sp hu hu1 hD hD1 hsp hsp1 hy (by rw [List.length_append]; simp; omega) 14 (fun q => absurd hi q) (fun _ _ => rfl) (fun q => absurd q hf)).mono fun _ _ ⟨he, hb⟩ => ⟨_, he, rfl, hb⟩
  have SA' : Hid (∀ w, Calls Try.prog 15 #[] w fun x w' => ∃ z, x = .returned z ∧ z = .bool true ∧ Below w.heap.size w w') := fun w => (awake_any w).mono fun _ _ ⟨he, hb⟩ => ⟨_, he, rfl, hb⟩
  have HV : Hid (Nums w v xs) := hv
  obtain ⟨ao, ca, rfl, -, -, -, -⟩ := hv
  obtain ⟨n, hnn⟩ : ∃ n, n = xs.length := ⟨_, rfl⟩
  have HN : Hid (n = xs.length ∧ n ≤ 100) := ⟨hnn, by omega⟩
  rw [← hnn] at S1 S2 S3 HV ⊢
  generalize room D sp u xs = r at *
  have hn1 : ¬ (100 : Int) < (n : Int) := by omega
  have r0 : ¬ (r : Int) < 0 := by omega
  have r1 : ¬ (65535 : Int) < (r : Int) := by omega
  have r2 : ((r : Int) == 65535) = false := by rw [beq_eq_false_iff_ne]; omega
  have r3 : IntKind.i64.wrap ((r : Int) + 1) = (r : Int) + 1 := by rw [IntKind.wrap_i64]; omega
  clear hnn hn h hu hu1 hD hsp hF
  have t0 : (0 : Nat) = 0 := rfl
  go_enter Try.func6, Try.ntmps6
  go_wp2_with (first
    | (have q4 := t4; go_at_call 22; refine (S3.out _ BB.out).mono ?_; rintro e w5 ⟨rfl, B5⟩; have HX : Hid (Ar w5 w.heap.size 0 .i64 g) := HX.out.below B5 (HX.out.lt (by omega)); have BB : Hid (Below w.heap.size w w5) := BB.out.trans (B5.mono BB.out.size); have t5 : (0 : Nat) = 0 := rfl; clear B5 t4)
    | (have q3 := t3; go_at_call 8; refine (SR.out _ BB.out).mono ?_; rintro e w4 ⟨rfl, B4⟩; have HX : Hid (Ar w4 w.heap.size 0 .i64 g) := HX.out.below B4 (HX.out.lt (by omega)); have BB : Hid (Below w.heap.size w w4) := BB.out.trans (B4.mono BB.out.size); have t4 : (0 : Nat) = 0 := rfl; clear B4 t3)
    | (have q2 := t2; go_at_call 21; refine (S2.out _ BB.out).mono ?_; rintro e w3 ⟨rfl, B3⟩; have HX : Hid (Ar w3 w.heap.size 0 .i64 g) := HX.out.below B3 (HX.out.lt (by omega)); have BB : Hid (Below w.heap.size w w3) := BB.out.trans (B3.mono BB.out.size); have t3 : (0 : Nat) = 0 := rfl; clear B3 t2)
    | (have q1 := t1; go_at_call 20; refine (S1.out _ BB.out).mono ?_; rintro e w2 ⟨rfl, B2⟩; have HX : Hid (Ar w2 w.heap.size 0 .i64 g) := HX.out.below B2 (HX.out.lt (by omega)); have BB : Hid (Below w.heap.size w w2) := BB.out.trans (B2.mono BB.out.size); have t2 : (0 : Nat) = 0 := rfl; clear B2 t1)
    | (have q9 := HX; refine load_lawS _ (by rfl) _ _ rfl (load_geo HX.out hl) ?_)
    | (have q0 := t0; refine box_lawF _ rfl (.tmp 0) 23 rfl .i64 g rfl ?_; intro w1 X1 B1 L1; have HX : Hid (Ar w1 w.heap.size 0 .i64 g) := X1; have BB : Hid (Below w.heap.size w w1) := B1; have t1 : (0 : Nat) = 0 := rfl; clear X1 t0 B1))
  clear S1 S2 S3 SR t5
  have LG := Hid.mk' (load_class HX.out hl)
  go_cut [59] (fun c wc => c = .bool false ∧ Below w5.heap.size w5 wc)
  case first =>
    by_cases hr0 : r = 0
    · subst hr0
      clear S4' S5 r0 r1 r2 r3
      refine wp_region_held_drew (S := fun w' => Below w5.heap.size w5 w') (by kernel_rfl) (Below.refl _ _).drew (fun hS => ?_)
      obtain ⟨x0, hx0⟩ : ∃ x, x = w5.drew := ⟨_, rfl⟩
      rw [← hx0] at hS ⊢
      clear hx0
      refine take_lawH 0 (some 47) (.int .i64 ((0 : Nat) : Int)) rfl rfl (by kernel_rfl) (by kernel_rfl) (by kernel_rfl) (fun _ _ _ h => h) (Or.inl ⟨by rfl, fun w' hw' => by rfl⟩) hS ?_
      simp only [Act.put, List.setIfInBounds_toArray, List.set_cons_zero, List.set_cons_succ]
      refine take_lawH 1 (some 48) (.bool false) rfl rfl (by kernel_rfl) (by kernel_rfl) (by kernel_rfl) (fun _ _ _ h => h) (Or.inl ⟨by rfl, fun w' hw' => by go_simp⟩) hS ?_
      simp only [Act.put, List.setIfInBounds_toArray, List.set_cons_zero, List.set_cons_succ]
      refine take_lawH 2 (some 49) (.bool false) rfl rfl (by kernel_rfl) (by kernel_rfl) (by kernel_rfl) (fun _ _ _ h => h) (Or.inl ⟨by rfl, fun w' hw' => by rfl⟩) hS ?_
      simp only [Act.put, List.setIfInBounds_toArray, List.set_cons_zero, List.set_cons_succ]
      refine take_lawH 3 (some 50) undef rfl rfl (by kernel_rfl) (by kernel_rfl) (by kernel_rfl) (fun _ _ _ h => h) (Or.inr ⟨by rfl, rfl⟩) hS ?_
      simp only [Act.put, List.setIfInBounds_toArray, List.set_cons_zero, List.set_cons_succ]
      refine take_lawH 4 (some 51) undef rfl rfl (by kernel_rfl) (by kernel_rfl) (by kernel_rfl) (fun _ _ _ h => h) (Or.inr ⟨by rfl, rfl⟩) hS ?_
      simp only [Act.put, List.setIfInBounds_toArray, List.set_cons_zero, List.set_cons_succ]
      refine take_lawH 5 (some 52) undef rfl rfl (by kernel_rfl) (by kernel_rfl) (by kernel_rfl) (fun _ _ _ h => h) (Or.inr ⟨by rfl, rfl⟩) hS ?_
      simp only [Act.put, List.setIfInBounds_toArray, List.set_cons_zero, List.set_cons_succ]
      refine take_lawH 6 (some 53) undef rfl rfl (by kernel_rfl) (by kernel_rfl) (by kernel_rfl) (fun _ _ _ h => h) (Or.inr ⟨by rfl, rfl⟩) hS ?_
      simp only [Act.put, List.setIfInBounds_toArray, List.set_cons_zero, List.set_cons_succ]
      refine take_lawH 7 (some 54) undef rfl rfl (by kernel_rfl) (by kernel_rfl) (by kernel_rfl) (fun _ _ _ h => h) (Or.inr ⟨by rfl, rfl⟩) hS ?_
      simp only [Act.put, List.setIfInBounds_toArray, List.set_cons_zero, List.set_cons_succ]
      refine take_lawH 8 (some 55) undef rfl rfl (by kernel_rfl) (by kernel_rfl) (by kernel_rfl) (fun _ _ _ h => h) (Or.inr ⟨by rfl, rfl⟩) hS ?_
      simp only [Act.put, List.setIfInBounds_toArray, List.set_cons_zero, List.set_cons_succ]
      refine take_lawH 9 (some 56) undef rfl rfl (by kernel_rfl) (by kernel_rfl) (by kernel_rfl) (fun _ _ _ h => h) (Or.inr ⟨by rfl, rfl⟩) hS ?_
      simp only [Act.put, List.setIfInBounds_toArray, List.set_cons_zero, List.set_cons_succ]
      refine take_lawH 10 (some 57) undef rfl rfl (by kernel_rfl) (by kernel_rfl) (by kernel_rfl) (fun _ _ _ h => h) (Or.inr ⟨by rfl, rfl⟩) hS ?_
      simp only [Act.put, List.setIfInBounds_toArray, List.set_cons_zero, List.set_cons_succ]
      refine take_lawH 11 (some 58) undef rfl rfl (by kernel_rfl) (by kernel_rfl) (by kernel_rfl) (fun _ _ _ h => h) (Or.inr ⟨by rfl, rfl⟩) hS ?_
      simp only [Act.put, List.setIfInBounds_toArray, List.set_cons_zero, List.set_cons_succ]
      refine take_lawH 12 (some 59) (.bool false) rfl rfl (by kernel_rfl) (by kernel_rfl) (by kernel_rfl) (fun _ _ _ h => h) (Or.inl ⟨by rfl, fun w' hw' => by rfl⟩) hS ?_
      simp only [Act.put, List.setIfInBounds_toArray, List.set_cons_zero, List.set_cons_succ]
      refine wpAnyH_done (by kernel_rfl) ?_ _
      go_wp2_with fail
      go_meet
      exact ⟨rfl, hS⟩
    · have rp : (0 : Int) < (r : Int) := by omega
      have S4 := Hid.mk' (S4'.out (by omega))
      clear S4' S5 r0 r1 r2 r3 hr0
      refine wp_region_held_drew (S := fun w' => Below w5.heap.size w5 w') (by kernel_rfl) (Below.refl _ _).drew (fun hS => ?_)
      obtain ⟨x0, hx0⟩ : ∃ x, x = w5.drew := ⟨_, rfl⟩
      rw [← hx0] at hS ⊢
      clear hx0
      have hS0 := hS
      refine take_lawH 0 (some 47) (.int .i64 (r : Int)) rfl rfl (by kernel_rfl) (by kernel_rfl) (by kernel_rfl) (fun _ _ _ h => h) (Or.inl ⟨by rfl, fun w' hw' => by rfl⟩) hS ?_
      simp only [Act.put, List.setIfInBounds_toArray, List.set_cons_zero, List.set_cons_succ]
      refine take_lawH 1 (some 48) (.bool true) rfl rfl (by kernel_rfl) (by kernel_rfl) (by kernel_rfl) (fun _ _ _ h => h) (Or.inl ⟨by rfl, fun w' hw' => by go_simp; omega⟩) hS ?_
      simp only [Act.put, List.setIfInBounds_toArray, List.set_cons_zero, List.set_cons_succ]
      refine take_lawH 2 (some 49) (.bool true) rfl rfl (by kernel_rfl) (by kernel_rfl) (by kernel_rfl) (fun _ _ _ h => h) (Or.inl ⟨by rfl, fun w' hw' => by rfl⟩) hS ?_
      simp only [Act.put, List.setIfInBounds_toArray, List.set_cons_zero, List.set_cons_succ]
      refine take_lawH 3 (some 50) (.agg (ints .i64 g)) rfl rfl (by kernel_rfl) (by kernel_rfl) (by kernel_rfl) (fun _ _ _ h => h) (Or.inl ⟨by rfl, fun w' hw' => by exact exec_loadS 23 (.tmp 2) rfl _ rfl _ _ (LG.out w' hw')⟩) hS ?_
      simp only [Act.put, List.setIfInBounds_toArray, List.set_cons_zero, List.set_cons_succ]
      refine take_lawH 5 (some 52) (.slice ao n ca) rfl rfl (by kernel_rfl) (by kernel_rfl) (by kernel_rfl) (fun _ _ _ h => h) (Or.inl ⟨by rfl, fun w' hw' => by rfl⟩) hS ?_
      simp only [Act.put, List.setIfInBounds_toArray, List.set_cons_zero, List.set_cons_succ]
      refine take_lawH 7 (some 54) (.int .i64 (r : Int)) rfl rfl (by kernel_rfl) (by kernel_rfl) (by kernel_rfl) (fun _ _ _ h => h) (Or.inl ⟨by rfl, fun w' hw' => by rfl⟩) hS ?_
      simp only [Act.put, List.setIfInBounds_toArray, List.set_cons_zero, List.set_cons_succ]
      refine wpAnyH_ready (rs := [4, 8]) (by kernel_rfl) (by simp) ?_
      refine AllReadyH.cons rfl (fun K hK => ?_) (AllReadyH.cons rfl (fun K hK => ?_) AllReadyH.nil)
      · refine step_nilI _ (by rfl) (some 51) rfl rfl fun x1 ox1 bx1 sx1 => ?_
        have hS : Below w5.heap.size w5 x1 := hS.trans (bx1.mono hS.size)
        have hlt1 := sx1
        obtain ⟨B0, hB⟩ : ∃ B, B = x0.heap.size := ⟨_, rfl⟩
        rw [← hB] at ox1 hlt1
        have hB0 : w5.heap.size ≤ B0 := by rw [hB]; exact hS0.size
        have O51 : Hid (OwnI B0 x1 (.slice (some ⟨B0, 0, none⟩) 0 0) []) := ox1
        have hH : B0 ≤ x1.heap.size := Nat.le_of_lt hlt1
        rw [← hB]
        clear bx1 sx1 ox1 hB
        refine hK.out _ _ hS (fun _ => ?_)
        simp only [Act.put, List.setIfInBounds_toArray, List.set_cons_zero, List.set_cons_succ]
        clear hK K
        refine wpAnyH_ready (rs := [6, 8]) (by kernel_rfl) (by simp) ?_
        refine AllReadyH.cons rfl (fun K hK => ?_) (AllReadyH.cons rfl (fun K hK => ?_) AllReadyH.nil)
        · refine step_pushsI _ (by rfl) (some 53) rfl (.tmp 51) (.tmp 52) rfl B0 hH _ _ [] xs rfl rfl O51.out (HV.out.below (BB.out.trans (hS.mono BB.out.size))) (by simp) (by have := HN.out; omega) fun v53 x2 px2 bx2 gx2 => ?_
          have O53 : Hid (OwnI B0 x2 v53 xs) := px2
          have hS : Below w5.heap.size w5 x2 := hS.trans (bx2.mono hB0)
          have hH : B0 ≤ x2.heap.size := Nat.le_trans hH bx2.size
          clear px2 bx2 gx2 O51
          refine hK.out _ _ hS (fun _ => ?_)
          simp only [Act.put, List.setIfInBounds_toArray, List.set_cons_zero, List.set_cons_succ]
          clear hK K
          refine wpAnyH_ready (rs := [8]) (by kernel_rfl) (by simp) ?_
          refine AllReadyH.cons rfl (fun K hK => ?_) AllReadyH.nil
          refine step_oneI _ (by rfl) (some 55) rfl (.tmp 54) rfl ((r : Int)) rfl fun x3 ox3 bx3 sx3 => ?_
          have hS : Below w5.heap.size w5 x3 := hS.trans (bx3.mono hS.size)
          have N55 : Hid (Nums x3 (.slice (some ⟨x2.heap.size, 0, none⟩) 1 1) [(r : Int)]) := ox3.nums
          have O53 : Hid (OwnI B0 x3 v53 xs) := O53.out.below bx3
          have hH : B0 ≤ x3.heap.size := Nat.le_trans hH bx3.size
          clear ox3 bx3 sx3
          refine hK.out _ _ hS (fun _ => ?_)
          simp only [Act.put, List.setIfInBounds_toArray, List.set_cons_zero, List.set_cons_succ]
          clear hK K
          obtain ⟨gg, hgg⟩ : ∃ g, g = x2.heap.size := ⟨_, rfl⟩
          rw [← hgg] at N55 ⊢
          clear hgg
          refine wpAnyH_ready (rs := [9]) (by kernel_rfl) (by simp) ?_
          refine AllReadyH.cons rfl (fun K hK => ?_) AllReadyH.nil
          refine step_pushsI _ (by rfl) (some 56) rfl (.tmp 53) (.tmp 55) rfl B0 hH _ _ xs [(r : Int)] rfl rfl O53.out N55.out (by have := HN.out; omega) (by simp) fun v56 y9 o9 b9 _ => ?_
          have hS : Below w5.heap.size w5 y9 := hS.trans (b9.mono hB0)
          have N56 : Hid (Nums y9 v56 (xs ++ [(r : Int)])) := o9.nums
          clear o9 b9 O53 N55
          refine hK.out _ _ hS (fun _ => ?_)
          simp only [Act.put, List.setIfInBounds_toArray, List.set_cons_zero, List.set_cons_succ]
          clear hK K
          refine wpAnyH_ready (rs := [10]) (by kernel_rfl) (by simp) ?_
          refine AllReadyH.cons rfl (fun K hK => ?_) AllReadyH.nil
          refine step_callW _ (by rfl) (some 57) rfl 22 #[.tmp 50, .tmp 56] #[23, 37] rfl (fun q w' => by rfl) #[.agg (ints .i64 g), v56] (by simp only [List.map_toArray, List.map_cons, List.map_nil]; rfl) _ (S4.out _ _ N56.out) ?_
          rintro _ y10 ⟨rfl, b10⟩
          have hS : Below w5.heap.size w5 y10 := hS.trans (b10.mono hS.size)
          clear b10
          refine hK.out _ _ hS (fun _ => ?_)
          simp only [Act.put, List.setIfInBounds_toArray, List.set_cons_zero, List.set_cons_succ]
          clear hK K
          refine take_lawH 11 (some 58) (.bool false) rfl rfl (by kernel_rfl) (by kernel_rfl) (by kernel_rfl) (fun _ _ _ h => h) (Or.inl ⟨by rfl, fun w' hw' => by go_simp⟩) hS ?_
          simp only [Act.put, List.setIfInBounds_toArray, List.set_cons_zero, List.set_cons_succ]
          refine take_lawH 12 (some 59) (.bool false) rfl rfl (by kernel_rfl) (by kernel_rfl) (by kernel_rfl) (fun _ _ _ h => h) (Or.inl ⟨by rfl, fun w' hw' => by rfl⟩) hS ?_
          simp only [Act.put, List.setIfInBounds_toArray, List.set_cons_zero, List.set_cons_succ]
          refine wpAnyH_done (by kernel_rfl) ?_ _
          go_wp2_with fail
          go_meet
          exact ⟨rfl, hS⟩
        · refine step_oneI _ (by rfl) (some 55) rfl (.tmp 54) rfl ((r : Int)) rfl fun x2 ox2 bx2 sx2 => ?_
          have hS : Below w5.heap.size w5 x2 := hS.trans (bx2.mono hS.size)
          have N55 : Hid (Nums x2 (.slice (some ⟨x1.heap.size, 0, none⟩) 1 1) [(r : Int)]) := ox2.nums
          have O51 : Hid (OwnI B0 x2 (.slice (some ⟨B0, 0, none⟩) 0 0) []) := O51.out.below bx2
          have hH : B0 ≤ x2.heap.size := Nat.le_trans hH bx2.size
          clear ox2 bx2 sx2
          refine hK.out _ _ hS (fun _ => ?_)
          simp only [Act.put, List.setIfInBounds_toArray, List.set_cons_zero, List.set_cons_succ]
          clear hK K
          obtain ⟨gg, hgg⟩ : ∃ g, g = x1.heap.size := ⟨_, rfl⟩
          rw [← hgg] at N55 hlt1 ⊢
          clear hgg
          refine wpAnyH_ready (rs := [6]) (by kernel_rfl) (by simp) ?_
          refine AllReadyH.cons rfl (fun K hK => ?_) AllReadyH.nil
          refine step_pushsI _ (by rfl) (some 53) rfl (.tmp 51) (.tmp 52) rfl B0 hH _ _ [] xs rfl rfl O51.out (HV.out.below (BB.out.trans (hS.mono BB.out.size))) (by simp) (by have := HN.out; omega) fun v53 x3 px3 bx3 gx3 => ?_
          have O53 : Hid (OwnI B0 x3 v53 xs) := px3
          have hS : Below w5.heap.size w5 x3 := hS.trans (bx3.mono hB0)
          have N55 : Hid (Nums x3 (.slice (some ⟨gg, 0, none⟩) 1 1) [(r : Int)]) := N55.out.grownBy gx3 (by intro e; have e' : some gg = some B0 := e; injection e' with e'; omega)
          have hH : B0 ≤ x3.heap.size := Nat.le_trans hH bx3.size
          clear px3 bx3 gx3 O51
          refine hK.out _ _ hS (fun _ => ?_)
          simp only [Act.put, List.setIfInBounds_toArray, List.set_cons_zero, List.set_cons_succ]
          clear hK K
          refine wpAnyH_ready (rs := [9]) (by kernel_rfl) (by simp) ?_
          refine AllReadyH.cons rfl (fun K hK => ?_) AllReadyH.nil
          refine step_pushsI _ (by rfl) (some 56) rfl (.tmp 53) (.tmp 55) rfl B0 hH _ _ xs [(r : Int)] rfl rfl O53.out N55.out (by have := HN.out; omega) (by simp) fun v56 y9 o9 b9 _ => ?_
          have hS : Below w5.heap.size w5 y9 := hS.trans (b9.mono hB0)
          have N56 : Hid (Nums y9 v56 (xs ++ [(r : Int)])) := o9.nums
          clear o9 b9 O53 N55
          refine hK.out _ _ hS (fun _ => ?_)
          simp only [Act.put, List.setIfInBounds_toArray, List.set_cons_zero, List.set_cons_succ]
          clear hK K
          refine wpAnyH_ready (rs := [10]) (by kernel_rfl) (by simp) ?_
          refine AllReadyH.cons rfl (fun K hK => ?_) AllReadyH.nil
          refine step_callW _ (by rfl) (some 57) rfl 22 #[.tmp 50, .tmp 56] #[23, 37] rfl (fun q w' => by rfl) #[.agg (ints .i64 g), v56] (by simp only [List.map_toArray, List.map_cons, List.map_nil]; rfl) _ (S4.out _ _ N56.out) ?_
          rintro _ y10 ⟨rfl, b10⟩
          have hS : Below w5.heap.size w5 y10 := hS.trans (b10.mono hS.size)
          clear b10
          refine hK.out _ _ hS (fun _ => ?_)
          simp only [Act.put, List.setIfInBounds_toArray, List.set_cons_zero, List.set_cons_succ]
          clear hK K
          refine take_lawH 11 (some 58) (.bool false) rfl rfl (by kernel_rfl) (by kernel_rfl) (by kernel_rfl) (fun _ _ _ h => h) (Or.inl ⟨by rfl, fun w' hw' => by go_simp⟩) hS ?_
          simp only [Act.put, List.setIfInBounds_toArray, List.set_cons_zero, List.set_cons_succ]
          refine take_lawH 12 (some 59) (.bool false) rfl rfl (by kernel_rfl) (by kernel_rfl) (by kernel_rfl) (fun _ _ _ h => h) (Or.inl ⟨by rfl, fun w' hw' => by rfl⟩) hS ?_
          simp only [Act.put, List.setIfInBounds_toArray, List.set_cons_zero, List.set_cons_succ]
          refine wpAnyH_done (by kernel_rfl) ?_ _
          go_wp2_with fail
          go_meet
          exact ⟨rfl, hS⟩
      · refine step_oneI _ (by rfl) (some 55) rfl (.tmp 54) rfl ((r : Int)) rfl fun x1 ox1 bx1 sx1 => ?_
        have hS : Below w5.heap.size w5 x1 := hS.trans (bx1.mono hS.size)
        have N55 : Hid (Nums x1 (.slice (some ⟨x0.heap.size, 0, none⟩) 1 1) [(r : Int)]) := ox1.nums
        have hgx := sx1
        clear ox1 bx1 sx1
        refine hK.out _ _ hS (fun _ => ?_)
        simp only [Act.put, List.setIfInBounds_toArray, List.set_cons_zero, List.set_cons_succ]
        clear hK K
        generalize x0.heap.size = gg at *
        refine wpAnyH_ready (rs := [4]) (by kernel_rfl) (by simp) ?_
        refine AllReadyH.cons rfl (fun K hK => ?_) AllReadyH.nil
        have hS1 := hS
        refine step_nilI _ (by rfl) (some 51) rfl rfl fun x2 ox2 bx2 sx2 => ?_
        have hS : Below w5.heap.size w5 x2 := hS.trans (bx2.mono hS.size)
        obtain ⟨B0, hB⟩ : ∃ B, B = x1.heap.size := ⟨_, rfl⟩
        rw [← hB] at ox2
        have hB0 : w5.heap.size ≤ B0 := by rw [hB]; exact hS1.size
        have O51 : Hid (OwnI B0 x2 (.slice (some ⟨B0, 0, none⟩) 0 0) []) := ox2
        have N55 : Hid (Nums x2 (.slice (some ⟨gg, 0, none⟩) 1 1) [(r : Int)]) := N55.out.below bx2
        have hgb : gg < B0 := by rw [hB]; exact hgx
        have hH : B0 ≤ x2.heap.size := by rw [hB]; exact bx2.size
        rw [← hB]
        clear bx2 sx2 ox2 hB hS1
        refine hK.out _ _ hS (fun _ => ?_)
        simp only [Act.put, List.setIfInBounds_toArray, List.set_cons_zero, List.set_cons_succ]
        clear hK K
        refine wpAnyH_ready (rs := [6]) (by kernel_rfl) (by simp) ?_
        refine AllReadyH.cons rfl (fun K hK => ?_) AllReadyH.nil
        refine step_pushsI _ (by rfl) (some 53) rfl (.tmp 51) (.tmp 52) rfl B0 hH _ _ [] xs rfl rfl O51.out (HV.out.below (BB.out.trans (hS.mono BB.out.size))) (by simp) (by have := HN.out; omega) fun v53 x3 px3 bx3 gx3 => ?_
        have O53 : Hid (OwnI B0 x3 v53 xs) := px3
        have hS : Below w5.heap.size w5 x3 := hS.trans (bx3.mono hB0)
        have N55 : Hid (Nums x3 (.slice (some ⟨gg, 0, none⟩) 1 1) [(r : Int)]) := N55.out.grownBy gx3 (by intro e; have e' : some gg = some B0 := e; injection e' with e'; omega)
        have hH : B0 ≤ x3.heap.size := Nat.le_trans hH bx3.size
        clear px3 bx3 gx3 O51
        refine hK.out _ _ hS (fun _ => ?_)
        simp only [Act.put, List.setIfInBounds_toArray, List.set_cons_zero, List.set_cons_succ]
        clear hK K
        refine wpAnyH_ready (rs := [9]) (by kernel_rfl) (by simp) ?_
        refine AllReadyH.cons rfl (fun K hK => ?_) AllReadyH.nil
        refine step_pushsI _ (by rfl) (some 56) rfl (.tmp 53) (.tmp 55) rfl B0 hH _ _ xs [(r : Int)] rfl rfl O53.out N55.out (by have := HN.out; omega) (by simp) fun v56 y9 o9 b9 _ => ?_
        have hS : Below w5.heap.size w5 y9 := hS.trans (b9.mono hB0)
        have N56 : Hid (Nums y9 v56 (xs ++ [(r : Int)])) := o9.nums
        clear o9 b9 O53 N55
        refine hK.out _ _ hS (fun _ => ?_)
        simp only [Act.put, List.setIfInBounds_toArray, List.set_cons_zero, List.set_cons_succ]
        clear hK K
        refine wpAnyH_ready (rs := [10]) (by kernel_rfl) (by simp) ?_
        refine AllReadyH.cons rfl (fun K hK => ?_) AllReadyH.nil
        refine step_callW _ (by rfl) (some 57) rfl 22 #[.tmp 50, .tmp 56] #[23, 37] rfl (fun q w' => by rfl) #[.agg (ints .i64 g), v56] (by simp only [List.map_toArray, List.map_cons, List.map_nil]; rfl) _ (S4.out _ _ N56.out) ?_
        rintro _ y10 ⟨rfl, b10⟩
        have hS : Below w5.heap.size w5 y10 := hS.trans (b10.mono hS.size)
        clear b10
        refine hK.out _ _ hS (fun _ => ?_)
        simp only [Act.put, List.setIfInBounds_toArray, List.set_cons_zero, List.set_cons_succ]
        clear hK K
        refine take_lawH 11 (some 58) (.bool false) rfl rfl (by kernel_rfl) (by kernel_rfl) (by kernel_rfl) (fun _ _ _ h => h) (Or.inl ⟨by rfl, fun w' hw' => by go_simp⟩) hS ?_
        simp only [Act.put, List.setIfInBounds_toArray, List.set_cons_zero, List.set_cons_succ]
        refine take_lawH 12 (some 59) (.bool false) rfl rfl (by kernel_rfl) (by kernel_rfl) (by kernel_rfl) (fun _ _ _ h => h) (Or.inl ⟨by rfl, fun w' hw' => by rfl⟩) hS ?_
        simp only [Act.put, List.setIfInBounds_toArray, List.set_cons_zero, List.set_cons_succ]
        refine wpAnyH_done (by kernel_rfl) ?_ _
        go_wp2_with fail
        go_meet
        exact ⟨rfl, hS⟩
  case rest =>
    obtain ⟨rfl, hS⟩ := hcut
    have HX : Hid (Ar wc w.heap.size 0 .i64 g) := HX.out.below hS (HX.out.lt (by omega))
    have BB : Hid (Below w.heap.size w wc) := BB.out.trans (hS.mono BB.out.size)
    have LG := Hid.mk' (load_class HX.out hl)
    clear hS S4'
    go_wp2
    go_cut [4] (fun c wd => c = .bool true ∧ Below wc.heap.size wc wd)
    case first =>
      refine wp_region_held_drew (S := fun w' => Below wc.heap.size wc w') (by kernel_rfl) (Below.refl _ _).drew (fun hS => ?_)
      obtain ⟨x0, hx0⟩ : ∃ x, x = wc.drew := ⟨_, rfl⟩
      rw [← hx0] at hS ⊢
      clear hx0
      have hS0 := hS
      refine take_lawH 0 (some 60) (.int .i64 (r : Int)) rfl rfl (by kernel_rfl) (by kernel_rfl) (by kernel_rfl) (fun _ _ _ h => h) (Or.inl ⟨by rfl, fun w' hw' => by rfl⟩) hS ?_
      simp only [Act.put, List.setIfInBounds_toArray, List.set_cons_zero, List.set_cons_succ]
      refine take_lawH 1 (some 61) (.bool false) rfl rfl (by kernel_rfl) (by kernel_rfl) (by kernel_rfl) (fun _ _ _ h => h) (Or.inl ⟨by rfl, fun w' hw' => by go_simp⟩) hS ?_
      simp only [Act.put, List.setIfInBounds_toArray, List.set_cons_zero, List.set_cons_succ]
      refine take_lawH 2 (some 62) (.bool false) rfl rfl (by kernel_rfl) (by kernel_rfl) (by kernel_rfl) (fun _ _ _ h => h) (Or.inl ⟨by rfl, fun w' hw' => by rfl⟩) hS ?_
      simp only [Act.put, List.setIfInBounds_toArray, List.set_cons_zero, List.set_cons_succ]
      refine take_lawH 3 (some 63) (.agg (ints .i64 g)) rfl rfl (by kernel_rfl) (by kernel_rfl) (by kernel_rfl) (fun _ _ _ h => h) (Or.inl ⟨by rfl, fun w' hw' => by exact exec_loadS 23 (.tmp 2) rfl _ rfl _ _ (LG.out w' hw')⟩) hS ?_
      simp only [Act.put, List.setIfInBounds_toArray, List.set_cons_zero, List.set_cons_succ]
      refine take_lawH 5 (some 65) (.slice ao n ca) rfl rfl (by kernel_rfl) (by kernel_rfl) (by kernel_rfl) (fun _ _ _ h => h) (Or.inl ⟨by rfl, fun w' hw' => by rfl⟩) hS ?_
      simp only [Act.put, List.setIfInBounds_toArray, List.set_cons_zero, List.set_cons_succ]
      refine take_lawH 7 (some 67) (.int .i64 (r : Int)) rfl rfl (by kernel_rfl) (by kernel_rfl) (by kernel_rfl) (fun _ _ _ h => h) (Or.inl ⟨by rfl, fun w' hw' => by rfl⟩) hS ?_
      simp only [Act.put, List.setIfInBounds_toArray, List.set_cons_zero, List.set_cons_succ]
      refine take_lawH 8 (some 68) (.int .i64 ((r : Int) + 1)) rfl rfl (by kernel_rfl) (by kernel_rfl) (by kernel_rfl) (fun _ _ _ h => h) (Or.inl ⟨by rfl, fun w' hw' => by go_simp⟩) hS ?_
      simp only [Act.put, List.setIfInBounds_toArray, List.set_cons_zero, List.set_cons_succ]
      refine wpAnyH_ready (rs := [4, 9]) (by kernel_rfl) (by simp) ?_
      refine AllReadyH.cons rfl (fun K hK => ?_) (AllReadyH.cons rfl (fun K hK => ?_) AllReadyH.nil)
      · refine step_nilI _ (by rfl) (some 64) rfl rfl fun x1 ox1 bx1 sx1 => ?_
        have hS : Below wc.heap.size wc x1 := hS.trans (bx1.mono hS.size)
        have hlt1 := sx1
        obtain ⟨B0, hB⟩ : ∃ B, B = x0.heap.size := ⟨_, rfl⟩
        rw [← hB] at ox1 hlt1
        have hB0 : wc.heap.size ≤ B0 := by rw [hB]; exact hS0.size
        have O51 : Hid (OwnI B0 x1 (.slice (some ⟨B0, 0, none⟩) 0 0) []) := ox1
        have hH : B0 ≤ x1.heap.size := Nat.le_of_lt hlt1
        rw [← hB]
        clear bx1 sx1 ox1 hB
        refine hK.out _ _ hS (fun _ => ?_)
        simp only [Act.put, List.setIfInBounds_toArray, List.set_cons_zero, List.set_cons_succ]
        clear hK K
        refine wpAnyH_ready (rs := [6, 9]) (by kernel_rfl) (by simp) ?_
        refine AllReadyH.cons rfl (fun K hK => ?_) (AllReadyH.cons rfl (fun K hK => ?_) AllReadyH.nil)
        · refine step_pushsI _ (by rfl) (some 66) rfl (.tmp 64) (.tmp 65) rfl B0 hH _ _ [] xs rfl rfl O51.out (HV.out.below (BB.out.trans (hS.mono BB.out.size))) (by simp) (by have := HN.out; omega) fun v53 x2 px2 bx2 gx2 => ?_
          have O53 : Hid (OwnI B0 x2 v53 xs) := px2
          have hS : Below wc.heap.size wc x2 := hS.trans (bx2.mono hB0)
          have hH : B0 ≤ x2.heap.size := Nat.le_trans hH bx2.size
          clear px2 bx2 gx2 O51
          refine hK.out _ _ hS (fun _ => ?_)
          simp only [Act.put, List.setIfInBounds_toArray, List.set_cons_zero, List.set_cons_succ]
          clear hK K
          refine wpAnyH_ready (rs := [9]) (by kernel_rfl) (by simp) ?_
          refine AllReadyH.cons rfl (fun K hK => ?_) AllReadyH.nil
          refine step_oneI _ (by rfl) (some 69) rfl (.tmp 68) rfl (((r : Int) + 1)) rfl fun x3 ox3 bx3 sx3 => ?_
          have hS : Below wc.heap.size wc x3 := hS.trans (bx3.mono hS.size)
          have N55 : Hid (Nums x3 (.slice (some ⟨x2.heap.size, 0, none⟩) 1 1) [((r : Int) + 1)]) := ox3.nums
          have O53 : Hid (OwnI B0 x3 v53 xs) := O53.out.below bx3
          have hH : B0 ≤ x3.heap.size := Nat.le_trans hH bx3.size
          clear ox3 bx3 sx3
          refine hK.out _ _ hS (fun _ => ?_)
          simp only [Act.put, List.setIfInBounds_toArray, List.set_cons_zero, List.set_cons_succ]
          clear hK K
          obtain ⟨gg, hgg⟩ : ∃ g, g = x2.heap.size := ⟨_, rfl⟩
          rw [← hgg] at N55 ⊢
          clear hgg
          refine wpAnyH_ready (rs := [10]) (by kernel_rfl) (by simp) ?_
          refine AllReadyH.cons rfl (fun K hK => ?_) AllReadyH.nil
          refine step_pushsI _ (by rfl) (some 70) rfl (.tmp 66) (.tmp 69) rfl B0 hH _ _ xs [((r : Int) + 1)] rfl rfl O53.out N55.out (by have := HN.out; omega) (by simp) fun v56 y9 o9 b9 _ => ?_
          have hS : Below wc.heap.size wc y9 := hS.trans (b9.mono hB0)
          have N56 : Hid (Nums y9 v56 (xs ++ [((r : Int) + 1)])) := o9.nums
          clear o9 b9 O53 N55
          refine hK.out _ _ hS (fun _ => ?_)
          simp only [Act.put, List.setIfInBounds_toArray, List.set_cons_zero, List.set_cons_succ]
          clear hK K
          refine wpAnyH_ready (rs := [11]) (by kernel_rfl) (by simp) ?_
          refine AllReadyH.cons rfl (fun K hK => ?_) AllReadyH.nil
          refine step_callW _ (by rfl) (some 71) rfl 22 #[.tmp 63, .tmp 70] #[23, 37] rfl (fun q w' => by rfl) #[.agg (ints .i64 g), v56] (by simp only [List.map_toArray, List.map_cons, List.map_nil]; rfl) _ (S5.out _ _ N56.out) ?_
          rintro _ y10 ⟨rfl, b10⟩
          have hS : Below wc.heap.size wc y10 := hS.trans (b10.mono hS.size)
          clear b10
          refine hK.out _ _ hS (fun _ => ?_)
          simp only [Act.put, List.setIfInBounds_toArray, List.set_cons_zero, List.set_cons_succ]
          clear hK K
          refine take_lawH 12 (some 72) (.bool true) rfl rfl (by kernel_rfl) (by kernel_rfl) (by kernel_rfl) (fun _ _ _ h => h) (Or.inl ⟨by rfl, fun w' hw' => by go_simp⟩) hS ?_
          simp only [Act.put, List.setIfInBounds_toArray, List.set_cons_zero, List.set_cons_succ]
          refine take_lawH 13 (some 73) (.bool true) rfl rfl (by kernel_rfl) (by kernel_rfl) (by kernel_rfl) (fun _ _ _ h => h) (Or.inl ⟨by rfl, fun w' hw' => by rfl⟩) hS ?_
          simp only [Act.put, List.setIfInBounds_toArray, List.set_cons_zero, List.set_cons_succ]
          refine take_lawH 14 (some 74) (.bool true) rfl rfl (by kernel_rfl) (by kernel_rfl) (by kernel_rfl) (fun _ _ _ h => h) (Or.inl ⟨by rfl, fun w' hw' => by rfl⟩) hS ?_
          simp only [Act.put, List.setIfInBounds_toArray, List.set_cons_zero, List.set_cons_succ]
          refine wpAnyH_ready (rs := [15]) (by kernel_rfl) (by simp) ?_
          refine AllReadyH.cons rfl (fun K hK => ?_) AllReadyH.nil
          refine step_callW _ (by rfl) (some 75) rfl 15 #[] #[] rfl (fun q w' => by rfl) #[] (by simp only [List.map_toArray, List.map_nil]) _ (SA'.out _) ?_
          rintro _ y11 ⟨rfl, b11⟩
          have hS : Below wc.heap.size wc y11 := hS.trans (b11.mono hS.size)
          clear b11
          refine hK.out _ _ hS (fun _ => ?_)
          simp only [Act.put, List.setIfInBounds_toArray, List.set_cons_zero, List.set_cons_succ]
          clear hK K
          refine take_lawH 16 (some 76) (.bool true) rfl rfl (by kernel_rfl) (by kernel_rfl) (by kernel_rfl) (fun _ _ _ h => h) (Or.inl ⟨by rfl, fun w' hw' => by rfl⟩) hS ?_
          simp only [Act.put, List.setIfInBounds_toArray, List.set_cons_zero, List.set_cons_succ]
          refine wpAnyH_ready (rs := [17]) (by kernel_rfl) (by simp) ?_
          refine AllReadyH.cons rfl (fun K hK => ?_) AllReadyH.nil
          refine step_movG _ rfl (some 4) rfl (.tmp 76) rfl (.bool true) rfl ?_
          refine hK.out _ _ hS (fun _ => ?_)
          simp only [Act.put, List.setIfInBounds_toArray, List.set_cons_zero, List.set_cons_succ]
          clear hK K
          refine wpAnyH_done (by kernel_rfl) ?_ _
          go_wp2_with fail
          go_meet
          exact ⟨rfl, hS⟩
        · refine step_oneI _ (by rfl) (some 69) rfl (.tmp 68) rfl (((r : Int) + 1)) rfl fun x2 ox2 bx2 sx2 => ?_
          have hS : Below wc.heap.size wc x2 := hS.trans (bx2.mono hS.size)
          have N55 : Hid (Nums x2 (.slice (some ⟨x1.heap.size, 0, none⟩) 1 1) [((r : Int) + 1)]) := ox2.nums
          have O51 : Hid (OwnI B0 x2 (.slice (some ⟨B0, 0, none⟩) 0 0) []) := O51.out.below bx2
          have hH : B0 ≤ x2.heap.size := Nat.le_trans hH bx2.size
          clear ox2 bx2 sx2
          refine hK.out _ _ hS (fun _ => ?_)
          simp only [Act.put, List.setIfInBounds_toArray, List.set_cons_zero, List.set_cons_succ]
          clear hK K
          obtain ⟨gg, hgg⟩ : ∃ g, g = x1.heap.size := ⟨_, rfl⟩
          rw [← hgg] at N55 hlt1 ⊢
          clear hgg
          refine wpAnyH_ready (rs := [6]) (by kernel_rfl) (by simp) ?_
          refine AllReadyH.cons rfl (fun K hK => ?_) AllReadyH.nil
          refine step_pushsI _ (by rfl) (some 66) rfl (.tmp 64) (.tmp 65) rfl B0 hH _ _ [] xs rfl rfl O51.out (HV.out.below (BB.out.trans (hS.mono BB.out.size))) (by simp) (by have := HN.out; omega) fun v53 x3 px3 bx3 gx3 => ?_
          have O53 : Hid (OwnI B0 x3 v53 xs) := px3
          have hS : Below wc.heap.size wc x3 := hS.trans (bx3.mono hB0)
          have N55 : Hid (Nums x3 (.slice (some ⟨gg, 0, none⟩) 1 1) [((r : Int) + 1)]) := N55.out.grownBy gx3 (by intro e; have e' : some gg = some B0 := e; injection e' with e'; omega)
          have hH : B0 ≤ x3.heap.size := Nat.le_trans hH bx3.size
          clear px3 bx3 gx3 O51
          refine hK.out _ _ hS (fun _ => ?_)
          simp only [Act.put, List.setIfInBounds_toArray, List.set_cons_zero, List.set_cons_succ]
          clear hK K
          refine wpAnyH_ready (rs := [10]) (by kernel_rfl) (by simp) ?_
          refine AllReadyH.cons rfl (fun K hK => ?_) AllReadyH.nil
          refine step_pushsI _ (by rfl) (some 70) rfl (.tmp 66) (.tmp 69) rfl B0 hH _ _ xs [((r : Int) + 1)] rfl rfl O53.out N55.out (by have := HN.out; omega) (by simp) fun v56 y9 o9 b9 _ => ?_
          have hS : Below wc.heap.size wc y9 := hS.trans (b9.mono hB0)
          have N56 : Hid (Nums y9 v56 (xs ++ [((r : Int) + 1)])) := o9.nums
          clear o9 b9 O53 N55
          refine hK.out _ _ hS (fun _ => ?_)
          simp only [Act.put, List.setIfInBounds_toArray, List.set_cons_zero, List.set_cons_succ]
          clear hK K
          refine wpAnyH_ready (rs := [11]) (by kernel_rfl) (by simp) ?_
          refine AllReadyH.cons rfl (fun K hK => ?_) AllReadyH.nil
          refine step_callW _ (by rfl) (some 71) rfl 22 #[.tmp 63, .tmp 70] #[23, 37] rfl (fun q w' => by rfl) #[.agg (ints .i64 g), v56] (by simp only [List.map_toArray, List.map_cons, List.map_nil]; rfl) _ (S5.out _ _ N56.out) ?_
          rintro _ y10 ⟨rfl, b10⟩
          have hS : Below wc.heap.size wc y10 := hS.trans (b10.mono hS.size)
          clear b10
          refine hK.out _ _ hS (fun _ => ?_)
          simp only [Act.put, List.setIfInBounds_toArray, List.set_cons_zero, List.set_cons_succ]
          clear hK K
          refine take_lawH 12 (some 72) (.bool true) rfl rfl (by kernel_rfl) (by kernel_rfl) (by kernel_rfl) (fun _ _ _ h => h) (Or.inl ⟨by rfl, fun w' hw' => by go_simp⟩) hS ?_
          simp only [Act.put, List.setIfInBounds_toArray, List.set_cons_zero, List.set_cons_succ]
          refine take_lawH 13 (some 73) (.bool true) rfl rfl (by kernel_rfl) (by kernel_rfl) (by kernel_rfl) (fun _ _ _ h => h) (Or.inl ⟨by rfl, fun w' hw' => by rfl⟩) hS ?_
          simp only [Act.put, List.setIfInBounds_toArray, List.set_cons_zero, List.set_cons_succ]
          refine take_lawH 14 (some 74) (.bool true) rfl rfl (by kernel_rfl) (by kernel_rfl) (by kernel_rfl) (fun _ _ _ h => h) (Or.inl ⟨by rfl, fun w' hw' => by rfl⟩) hS ?_
          simp only [Act.put, List.setIfInBounds_toArray, List.set_cons_zero, List.set_cons_succ]
          refine wpAnyH_ready (rs := [15]) (by kernel_rfl) (by simp) ?_
          refine AllReadyH.cons rfl (fun K hK => ?_) AllReadyH.nil
          refine step_callW _ (by rfl) (some 75) rfl 15 #[] #[] rfl (fun q w' => by rfl) #[] (by simp only [List.map_toArray, List.map_nil]) _ (SA'.out _) ?_
          rintro _ y11 ⟨rfl, b11⟩
          have hS : Below wc.heap.size wc y11 := hS.trans (b11.mono hS.size)
          clear b11
          refine hK.out _ _ hS (fun _ => ?_)
          simp only [Act.put, List.setIfInBounds_toArray, List.set_cons_zero, List.set_cons_succ]
          clear hK K
          refine take_lawH 16 (some 76) (.bool true) rfl rfl (by kernel_rfl) (by kernel_rfl) (by kernel_rfl) (fun _ _ _ h => h) (Or.inl ⟨by rfl, fun w' hw' => by rfl⟩) hS ?_
          simp only [Act.put, List.setIfInBounds_toArray, List.set_cons_zero, List.set_cons_succ]
          refine wpAnyH_ready (rs := [17]) (by kernel_rfl) (by simp) ?_
          refine AllReadyH.cons rfl (fun K hK => ?_) AllReadyH.nil
          refine step_movG _ rfl (some 4) rfl (.tmp 76) rfl (.bool true) rfl ?_
          refine hK.out _ _ hS (fun _ => ?_)
          simp only [Act.put, List.setIfInBounds_toArray, List.set_cons_zero, List.set_cons_succ]
          clear hK K
          refine wpAnyH_done (by kernel_rfl) ?_ _
          go_wp2_with fail
          go_meet
          exact ⟨rfl, hS⟩
      · refine step_oneI _ (by rfl) (some 69) rfl (.tmp 68) rfl (((r : Int) + 1)) rfl fun x1 ox1 bx1 sx1 => ?_
        have hS : Below wc.heap.size wc x1 := hS.trans (bx1.mono hS.size)
        have N55 : Hid (Nums x1 (.slice (some ⟨x0.heap.size, 0, none⟩) 1 1) [((r : Int) + 1)]) := ox1.nums
        have hgx := sx1
        clear ox1 bx1 sx1
        refine hK.out _ _ hS (fun _ => ?_)
        simp only [Act.put, List.setIfInBounds_toArray, List.set_cons_zero, List.set_cons_succ]
        clear hK K
        generalize x0.heap.size = gg at *
        refine wpAnyH_ready (rs := [4]) (by kernel_rfl) (by simp) ?_
        refine AllReadyH.cons rfl (fun K hK => ?_) AllReadyH.nil
        have hS1 := hS
        refine step_nilI _ (by rfl) (some 64) rfl rfl fun x2 ox2 bx2 sx2 => ?_
        have hS : Below wc.heap.size wc x2 := hS.trans (bx2.mono hS.size)
        obtain ⟨B0, hB⟩ : ∃ B, B = x1.heap.size := ⟨_, rfl⟩
        rw [← hB] at ox2
        have hB0 : wc.heap.size ≤ B0 := by rw [hB]; exact hS1.size
        have O51 : Hid (OwnI B0 x2 (.slice (some ⟨B0, 0, none⟩) 0 0) []) := ox2
        have N55 : Hid (Nums x2 (.slice (some ⟨gg, 0, none⟩) 1 1) [((r : Int) + 1)]) := N55.out.below bx2
        have hgb : gg < B0 := by rw [hB]; exact hgx
        have hH : B0 ≤ x2.heap.size := by rw [hB]; exact bx2.size
        rw [← hB]
        clear bx2 sx2 ox2 hB hS1
        refine hK.out _ _ hS (fun _ => ?_)
        simp only [Act.put, List.setIfInBounds_toArray, List.set_cons_zero, List.set_cons_succ]
        clear hK K
        refine wpAnyH_ready (rs := [6]) (by kernel_rfl) (by simp) ?_
        refine AllReadyH.cons rfl (fun K hK => ?_) AllReadyH.nil
        refine step_pushsI _ (by rfl) (some 66) rfl (.tmp 64) (.tmp 65) rfl B0 hH _ _ [] xs rfl rfl O51.out (HV.out.below (BB.out.trans (hS.mono BB.out.size))) (by simp) (by have := HN.out; omega) fun v53 x3 px3 bx3 gx3 => ?_
        have O53 : Hid (OwnI B0 x3 v53 xs) := px3
        have hS : Below wc.heap.size wc x3 := hS.trans (bx3.mono hB0)
        have N55 : Hid (Nums x3 (.slice (some ⟨gg, 0, none⟩) 1 1) [((r : Int) + 1)]) := N55.out.grownBy gx3 (by intro e; have e' : some gg = some B0 := e; injection e' with e'; omega)
        have hH : B0 ≤ x3.heap.size := Nat.le_trans hH bx3.size
        clear px3 bx3 gx3 O51
        refine hK.out _ _ hS (fun _ => ?_)
        simp only [Act.put, List.setIfInBounds_toArray, List.set_cons_zero, List.set_cons_succ]
        clear hK K
        refine wpAnyH_ready (rs := [10]) (by kernel_rfl) (by simp) ?_
        refine AllReadyH.cons rfl (fun K hK => ?_) AllReadyH.nil
        refine step_pushsI _ (by rfl) (some 70) rfl (.tmp 66) (.tmp 69) rfl B0 hH _ _ xs [((r : Int) + 1)] rfl rfl O53.out N55.out (by have := HN.out; omega) (by simp) fun v56 y9 o9 b9 _ => ?_
        have hS : Below wc.heap.size wc y9 := hS.trans (b9.mono hB0)
        have N56 : Hid (Nums y9 v56 (xs ++ [((r : Int) + 1)])) := o9.nums
        clear o9 b9 O53 N55
        refine hK.out _ _ hS (fun _ => ?_)
        simp only [Act.put, List.setIfInBounds_toArray, List.set_cons_zero, List.set_cons_succ]
        clear hK K
        refine wpAnyH_ready (rs := [11]) (by kernel_rfl) (by simp) ?_
        refine AllReadyH.cons rfl (fun K hK => ?_) AllReadyH.nil
        refine step_callW _ (by rfl) (some 71) rfl 22 #[.tmp 63, .tmp 70] #[23, 37] rfl (fun q w' => by rfl) #[.agg (ints .i64 g), v56] (by simp only [List.map_toArray, List.map_cons, List.map_nil]; rfl) _ (S5.out _ _ N56.out) ?_
        rintro _ y10 ⟨rfl, b10⟩
        have hS : Below wc.heap.size wc y10 := hS.trans (b10.mono hS.size)
        clear b10
        refine hK.out _ _ hS (fun _ => ?_)
        simp only [Act.put, List.setIfInBounds_toArray, List.set_cons_zero, List.set_cons_succ]
        clear hK K
        refine take_lawH 12 (some 72) (.bool true) rfl rfl (by kernel_rfl) (by kernel_rfl) (by kernel_rfl) (fun _ _ _ h => h) (Or.inl ⟨by rfl, fun w' hw' => by go_simp⟩) hS ?_
        simp only [Act.put, List.setIfInBounds_toArray, List.set_cons_zero, List.set_cons_succ]
        refine take_lawH 13 (some 73) (.bool true) rfl rfl (by kernel_rfl) (by kernel_rfl) (by kernel_rfl) (fun _ _ _ h => h) (Or.inl ⟨by rfl, fun w' hw' => by rfl⟩) hS ?_
        simp only [Act.put, List.setIfInBounds_toArray, List.set_cons_zero, List.set_cons_succ]
        refine take_lawH 14 (some 74) (.bool true) rfl rfl (by kernel_rfl) (by kernel_rfl) (by kernel_rfl) (fun _ _ _ h => h) (Or.inl ⟨by rfl, fun w' hw' => by rfl⟩) hS ?_
        simp only [Act.put, List.setIfInBounds_toArray, List.set_cons_zero, List.set_cons_succ]
        refine wpAnyH_ready (rs := [15]) (by kernel_rfl) (by simp) ?_
        refine AllReadyH.cons rfl (fun K hK => ?_) AllReadyH.nil
        refine step_callW _ (by rfl) (some 75) rfl 15 #[] #[] rfl (fun q w' => by rfl) #[] (by simp only [List.map_toArray, List.map_nil]) _ (SA'.out _) ?_
        rintro _ y11 ⟨rfl, b11⟩
        have hS : Below wc.heap.size wc y11 := hS.trans (b11.mono hS.size)
        clear b11
        refine hK.out _ _ hS (fun _ => ?_)
        simp only [Act.put, List.setIfInBounds_toArray, List.set_cons_zero, List.set_cons_succ]
        clear hK K
        refine take_lawH 16 (some 76) (.bool true) rfl rfl (by kernel_rfl) (by kernel_rfl) (by kernel_rfl) (fun _ _ _ h => h) (Or.inl ⟨by rfl, fun w' hw' => by rfl⟩) hS ?_
        simp only [Act.put, List.setIfInBounds_toArray, List.set_cons_zero, List.set_cons_succ]
        refine wpAnyH_ready (rs := [17]) (by kernel_rfl) (by simp) ?_
        refine AllReadyH.cons rfl (fun K hK => ?_) AllReadyH.nil
        refine step_movG _ rfl (some 4) rfl (.tmp 76) rfl (.bool true) rfl ?_
        refine hK.out _ _ hS (fun _ => ?_)
        simp only [Act.put, List.setIfInBounds_toArray, List.set_cons_zero, List.set_cons_succ]
        clear hK K
        refine wpAnyH_done (by kernel_rfl) ?_ _
        go_wp2_with fail
        go_meet
        exact ⟨rfl, hS⟩
    case rest =>
      obtain ⟨rfl, hS⟩ := hcut
      go_wp2
      go_ret
      exact ⟨rfl, BB.out.trans (hS.mono BB.out.size)⟩

/-- a right geometry's numbers, as whole ones -/
theorem geo_nats {g : List Int} (h : Rt g) : ∃ u D sp : Nat, gb g 1 = (u : Int) + 1 ∧ (3 ≤ u ∧ u ≤ 31) ∧ gb g 0 = (D : Int) + 4 ∧ D ≤ 60 ∧ gb g 3 = (sp : Int) ∧ sp ≤ 8 := by
  obtain ⟨⟨h0, h1, -, h3, -⟩, -⟩ := h
  exact ⟨(gb g 1 - 1).toNat, (gb g 0 - 4).toNat, (gb g 3).toNat, by omega, by omega, by omega, by omega, by omega, by omega⟩

theorem walk (g : List Int) (v : Value) (xs : List Int) (w : World) (hl : g.length = 6) (hv : Nums w v xs) : Calls Try.prog 6 #[.agg (ints .i64 g), v] w fun e w' => e = .returned (.bool true) ∧ Below w.heap.size w w' := by
  by_cases hn : 100 < xs.length
  · exact walk_long g v xs w hv hn
  · by_cases h : Rt g
    · obtain ⟨u, D, sp, hu, hu1, hD, hD1, hsp, hsp1⟩ := geo_nats h
      by_cases hI : InR xs
      · by_cases hF : Fits D sp u xs
        · exact walk_ok g v xs w hl hv (by omega) h u D sp hu hu1 hD hD1 hsp hsp1 hF
        · exact walk_space g v xs w hl hv (by omega) h u D sp hu hu1 hD hD1 hsp hsp1 hI hF
      · exact walk_range g v xs w hl hv (by omega) h u D sp hu hu1 hD hD1 hsp hsp1 hI
    · exact walk_wrong g v xs w hl hv (by omega) h

theorem params : ∀ t ∈ Try.f6.params.toList, Try.prog.readableRec t = true ∧ t < Try.prog.types.size := by
  rw [Try.params6]
  intro t ht
  simp at ht
  rcases ht with rfl | rfl
  · exact ⟨by kernel_rfl, of_decide_eq_true (by kernel_rfl)⟩
  · exact ⟨by kernel_rfl, of_decide_eq_true (by kernel_rfl)⟩

theorem contract (H : Type) (enc : TypeId × Value → H) (W : World) (base : Nat) (args : Array Value) (ds gs : List (DataW H)) (before : List MemPlace)
    (hval : ∀ (j : Nat) t v, Try.f6.params[j]? = some t → args[j]? = some v → Value.okWide Try.prog W .any base t v)
    (hW : DataW.Whole enc Try.prog Try.f6.params.toList Rows.geometryFitsSpec.vars false W args.toList ds gs before) :
    Calls Try.prog 6 args W fun e W' => ∃ v, e = .returned v ∧ Rows.geometryFitsSpec.post enc Try.prog Try.f6 false true false false W args v W' := by
  have hW' := hW
  obtain ⟨p, q, hA0, hV, rfl, hfz, hnd⟩ := hW
  have hA : DataW.TrodAll enc Try.prog W 0 (fun _ => true) true Try.f6.params.toList args.toList ds p := hA0
  rw [Try.params6] at hA hval
  obtain ⟨v0, v1, d0, d1, p0, p1, rfl, rfl, rfl, h0, h1⟩ := trodAll_two hA
  obtain ⟨rfl, rfl⟩ := trodVars_none hV
  obtain ⟨g0, rfl, n0⟩ := geo_open (hval 0 23 v0 rfl rfl) h0
  obtain ⟨xs1, b1⟩ := ints_open (hval 1 37 v1 rfl rfl) h1
  clear hA0
  refine (walk g0 v1 xs1 W n0 b1).mono fun e W' ⟨he, hg⟩ => ?_
  subst he
  exact ⟨_, rfl, post_law rfl (by kernel_rfl) params rfl rfl rfl hW' hg⟩

theorem laid_met (os : Os) : laidMet Try.prog Rows.geometryFitsRow.laid ((World.holding Try.prog os ⟨#[], #[], []⟩).forCall (fun _ _ => 0) ⟨#[], #[.agg #[.int .i64 0, .int .i64 0, .int .i64 0, .int .i64 0, .int .i64 0, .int .i64 0], .slice none 0 0], []⟩).memory :=
  laidMet_of_run' 8 (by kernel_rfl) (by kernel_rfl)
theorem reads (os : Os) {H : Type} (enc : TypeId × Value → H) : ∃ places, DataW.whole enc Try.prog ((World.holding Try.prog os ⟨#[], #[], []⟩).forCall (fun _ _ => 0) ⟨#[], #[.agg #[.int .i64 0, .int .i64 0, .int .i64 0, .int .i64 0, .int .i64 0, .int .i64 0], .slice none 0 0], []⟩).memory Try.f6.params.toList Rows.geometryFitsSpec.vars false #[Value.agg #[.int .i64 0, .int .i64 0, .int .i64 0, .int .i64 0, .int .i64 0, .int .i64 0], Value.slice none 0 0].toList 8 = some ([.agg [.lit (.int .i64 0), .lit (.int .i64 0), .lit (.int .i64 0), .lit (.int .i64 0), .lit (.int .i64 0), .lit (.int .i64 0)], .nil], [], places) :=
  ⟨[], by kernel_rfl⟩

set_option maxRecDepth 100000 in
theorem lifted (os : Os) (started : os.Started) (H : Type) (enc : TypeId × Value → H) (F : Stop.Interp) :
    ReturnsInHanded {} Try.checked os 6 .any ((OpenSpec.ofChange Rows.geometryFitsSpec).preRow enc Try.prog Try.f6 Rows.geometryFitsRow.domain false Rows.geometryFitsRow.laid) (((OpenSpec.ofChange Rows.geometryFitsSpec).at F).post enc Try.prog Try.f6 false true false false) := by
  obtain ⟨places, hx⟩ := reads os enc
  refine returnsInHanded_of_row (C := Try.checked) (s := OpenSpec.ofChange Rows.geometryFitsSpec) own started (by kernel_rfl) Try.func6
    (witness_row_at (enc := enc) (C := Try.checked) false (World.holding Try.prog os ⟨#[], #[], []⟩) #[.agg #[.int .i64 0, .int .i64 0, .int .i64 0, .int .i64 0, .int .i64 0, .int .i64 0], .slice none 0 0] rfl (by kernel_rfl) (by kernel_rfl) (by kernel_rfl)
      (OpenSpec.preRow_of_cond 8 hx (by kernel_rfl) (fun k hk => by cases hk) (by kernel_rfl) (laid_met os))) ?_
  intro W base args ds gs before hval hW _ _ _ _ _ _
  exact contract H enc W base args ds gs before hval hW

theorem said : Rows.GeometryFitsSaid :=
  OpenClaim.holds_of_cond 6 Try.f6 rfl rfl rfl rfl rfl rfl rfl ⟨rfl, rfl, rfl, rfl, rfl⟩ rfl rfl rfl rfl rfl (by kernel_rfl) Try.func6 (by kernel_rfl)
    (of_decide_eq_true (by kernel_rfl)) (by unfold Func.isWrapper; first | (rw [if_pos (by decide +kernel)]; kernel_rfl) | (rw [if_neg (by decide +kernel)]; exact ⟨rfl, rfl⟩))
    (fun os started H enc _ F => by rw [OpenClaim.pre_eq_preRow]; exact lifted os started H enc F)
end Go.Proofs.Ytpdmcpmkhofhdaa.geometryFits

namespace Go.Proofs.Ytpdmcpmkhofhdaa
theorem geometryFits_said : Rows.GeometryFitsSaid := geometryFits.said
#print axioms geometryFits_said
end Go.Proofs.Ytpdmcpmkhofhdaa
