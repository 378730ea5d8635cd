/- P11.4: fewer namespaces, or one that is smaller, fit where more, or a greater one, do; the program answers at all. -/
import Derived.Test.YtpdmcpmkhofhdaaGAwk
import Derived.Test.YtpdmcpmkhofhdaaGOpen
import Derived.Test.YtpdmcpmkhofhdaaGFit
import Derived.Test.YtpdmcpmkhofhdaaGSet
namespace Go.Proofs.Ytpdmcpmkhofhdaa.geometryFewer
open Go.ChangeShapes Go.WideShapes Go.ChangeAt Go.RowKit

open Go.Proofs.Ytpdmcpmkhofhdaa.ge

set_option maxHeartbeats 4000000 in
theorem walk_long (g : List Int) (v : Value) (xs : List Int) (p : List Int) (w : World) (hl : g.length = 6) (hv : Nums w v xs) (hp : p.length = 2) (hn : 100 < xs.length) :
    Calls Try.prog 7 #[.agg (ints .i64 g), v, .agg (ints .i64 p)] w fun e w' => e = .returned (.bool true) ∧ Below w.heap.size w w' := by
  have SA : Hid (∀ w', Below w.heap.size w w' → Calls Try.prog 15 #[] w' fun x w'' => x = .returned (.bool true) ∧ Below w'.heap.size w' w'') := fun w' _ => awake_any w'
  obtain ⟨ao, ca, rfl, -, -, -, -⟩ := hv
  have hn1 : (100 : Int) < (xs.length : Int) := by omega
  generalize xs.length = n at *
  have t0 : (0 : Nat) = 0 := rfl
  go_enter Try.func7, Try.ntmps7
  go_wp2_with (first
    | (have q2 := t2; go_at_call 15; refine (SA.out _ BB.out).mono ?_; rintro e w4 ⟨rfl, B4⟩; have HX : Hid (Ar w4 w.heap.size 0 .i64 g) := HX.out.below B4 (HX.out.lt (by omega)); have BB : Hid (Below w.heap.size w w4) := BB.out.trans (B4.mono BB.out.size); have t3 : (0 : Nat) = 0 := rfl; clear B4 t2)
    | (have q9 := HX; refine load_lawS _ (by rfl) _ _ rfl (load_geo HX.out hl) ?_)
    | (have q1 := t1; refine box_lawF _ rfl (.tmp 2) 41 rfl .i64 p rfl ?_; intro w2 X2 B2 L2; have a0 := X2.cell0 0 (by omega); have a1 := X2.cell0 1 (by omega); have HX : Hid (Ar w2 w.heap.size 0 .i64 g) := HX.out.below B2 L1; have BB : Hid (Below w.heap.size w w2) := BB.out.trans (B2.mono BB.out.size); have t2 : (0 : Nat) = 0 := rfl; clear X2 t1 B2)
    | (have q0 := t0; refine box_lawF _ rfl (.tmp 0) 23 rfl .i64 g rfl ?_; intro w1 X1 B1 L1; have HX : Hid (Ar w1 w.heap.size 0 .i64 g) := X1; have BB : Hid (Below w.heap.size w w1) := B1; have t1 : (0 : Nat) = 0 := rfl; clear X1 t0 B1))
  go_ret
  exact ⟨rfl, BB.out⟩

set_option maxHeartbeats 4000000 in
theorem walk_unfit (g : List Int) (v : Value) (xs : List Int) (p : List Int) (w : World) (hl : g.length = 6) (hv : Nums w v xs) (hp : p.length = 2) (hn : xs.length ≤ 100) (e : Int) (he : e ≠ 0) (hS : ∀ w', Below w.heap.size w w' → Calls Try.prog 20 #[.agg (ints .i64 g), v] w' fun x w'' => x = .returned (.int .i64 e) ∧ Below w'.heap.size w' w'') :
    Calls Try.prog 7 #[.agg (ints .i64 g), v, .agg (ints .i64 p)] w fun e w' => e = .returned (.bool true) ∧ Below w.heap.size w w' := by
  have SA : Hid (∀ w', Below w.heap.size w w' → Calls Try.prog 15 #[] w' fun x w'' => x = .returned (.bool true) ∧ Below w'.heap.size w' w'') := fun w' _ => awake_any w'
  have S1 : Hid (∀ w', Below w.heap.size w w' → Calls Try.prog 20 #[.agg (ints .i64 g), v] w' fun x w'' => x = .returned (.int .i64 e) ∧ Below w'.heap.size w' w'') := hS
  obtain ⟨ao, ca, rfl, -, -, -, -⟩ := id hv
  obtain ⟨n, hnn⟩ : ∃ n, n = xs.length := ⟨_, rfl⟩
  rw [← hnn] at S1 ⊢
  have hn1 : ¬ (100 : Int) < (n : Int) := by omega
  have he1 : (e != 0) = true := by simpa using he
  clear hnn hv hn hS
  have t0 : (0 : Nat) = 0 := rfl
  go_enter Try.func7, Try.ntmps7
  go_wp2_with (first
    | (have q3 := t3; go_at_call 15; refine (SA.out _ BB.out).mono ?_; rintro e w4 ⟨rfl, B4⟩; have HX : Hid (Ar w4 w.heap.size 0 .i64 g) := HX.out.below B4 (HX.out.lt (by omega)); have BB : Hid (Below w.heap.size w w4) := BB.out.trans (B4.mono BB.out.size); have t4 : (0 : Nat) = 0 := rfl; clear B4 t3)
    | (have q2 := t2; go_at_call 20; refine (S1.out _ BB.out).mono ?_; rintro e w3 ⟨rfl, B3⟩; have HX : Hid (Ar w3 w.heap.size 0 .i64 g) := HX.out.below B3 (HX.out.lt (by omega)); have BB : Hid (Below w.heap.size w w3) := BB.out.trans (B3.mono BB.out.size); have t3 : (0 : Nat) = 0 := rfl; clear B3 t2)
    | (have q9 := HX; refine load_lawS _ (by rfl) _ _ rfl (load_geo HX.out hl) ?_)
    | (have q1 := t1; refine box_lawF _ rfl (.tmp 2) 41 rfl .i64 p rfl ?_; intro w2 X2 B2 L2; have a0 := X2.cell0 0 (by omega); have a1 := X2.cell0 1 (by omega); have HX : Hid (Ar w2 w.heap.size 0 .i64 g) := HX.out.below B2 L1; have BB : Hid (Below w.heap.size w w2) := BB.out.trans (B2.mono BB.out.size); have t2 : (0 : Nat) = 0 := rfl; clear X2 t1 B2)
    | (have q0 := t0; refine box_lawF _ rfl (.tmp 0) 23 rfl .i64 g rfl ?_; intro w1 X1 B1 L1; have HX : Hid (Ar w1 w.heap.size 0 .i64 g) := X1; have BB : Hid (Below w.heap.size w w1) := B1; have t1 : (0 : Nat) = 0 := rfl; clear X1 t0 B1))
  go_ret
  exact ⟨rfl, BB.out⟩

set_option maxHeartbeats 4000000 in
theorem walk_n0 (g : List Int) (v : Value) (xs : List Int) (p : List Int) (w : World) (hl : g.length = 6) (hv : Nums w v xs) (hp : p.length = 2) (hn : xs.length ≤ 100) (hS : ∀ w', Below w.heap.size w w' → Calls Try.prog 20 #[.agg (ints .i64 g), v] w' fun x w'' => x = .returned (.int .i64 0) ∧ Below w'.heap.size w' w'') (h0 : gb p 0 < 0) :
    Calls Try.prog 7 #[.agg (ints .i64 g), v, .agg (ints .i64 p)] w fun e w' => e = .returned (.bool true) ∧ Below w.heap.size w w' := by
  have SA : Hid (∀ w', Below w.heap.size w w' → Calls Try.prog 15 #[] w' fun x w'' => x = .returned (.bool true) ∧ Below w'.heap.size w' w'') := fun w' _ => awake_any w'
  have S1 : Hid (∀ w', Below w.heap.size w w' → Calls Try.prog 20 #[.agg (ints .i64 g), v] w' fun x w'' => x = .returned (.int .i64 0) ∧ Below w'.heap.size w' w'') := hS
  obtain ⟨ao, ca, rfl, -, -, -, -⟩ := id hv
  obtain ⟨n, hnn⟩ : ∃ n, n = xs.length := ⟨_, rfl⟩
  rw [← hnn] at S1 ⊢
  have hn1 : ¬ (100 : Int) < (n : Int) := by omega
  clear hnn hv hn hS
  have t0 : (0 : Nat) = 0 := rfl
  go_enter Try.func7, Try.ntmps7
  go_wp2_with (first
    | (have q3 := t3; go_at_call 15; refine (SA.out _ BB.out).mono ?_; rintro e w4 ⟨rfl, B4⟩; have HX : Hid (Ar w4 w.heap.size 0 .i64 g) := HX.out.below B4 (HX.out.lt (by omega)); have BB : Hid (Below w.heap.size w w4) := BB.out.trans (B4.mono BB.out.size); have t4 : (0 : Nat) = 0 := rfl; clear B4 t3)
    | (have q2 := t2; go_at_call 20; refine (S1.out _ BB.out).mono ?_; rintro e w3 ⟨rfl, B3⟩; have HX : Hid (Ar w3 w.heap.size 0 .i64 g) := HX.out.below B3 (HX.out.lt (by omega)); have BB : Hid (Below w.heap.size w w3) := BB.out.trans (B3.mono BB.out.size); have t3 : (0 : Nat) = 0 := rfl; clear B3 t2)
    | (have q9 := HX; refine load_lawS _ (by rfl) _ _ rfl (load_geo HX.out hl) ?_)
    | (have q1 := t1; refine box_lawF _ rfl (.tmp 2) 41 rfl .i64 p rfl ?_; intro w2 X2 B2 L2; have a0 := X2.cell0 0 (by omega); have a1 := X2.cell0 1 (by omega); have HX : Hid (Ar w2 w.heap.size 0 .i64 g) := HX.out.below B2 L1; have BB : Hid (Below w.heap.size w w2) := BB.out.trans (B2.mono BB.out.size); have t2 : (0 : Nat) = 0 := rfl; clear X2 t1 B2)
    | (have q0 := t0; refine box_lawF _ rfl (.tmp 0) 23 rfl .i64 g rfl ?_; intro w1 X1 B1 L1; have HX : Hid (Ar w1 w.heap.size 0 .i64 g) := X1; have BB : Hid (Below w.heap.size w w1) := B1; have t1 : (0 : Nat) = 0 := rfl; clear X1 t0 B1))
  go_ret
  exact ⟨rfl, BB.out⟩

set_option maxHeartbeats 4000000 in
theorem walk_n1 (g : List Int) (v : Value) (xs : List Int) (p : List Int) (w : World) (hl : g.length = 6) (hv : Nums w v xs) (hp : p.length = 2) (hn : xs.length ≤ 100) (hS : ∀ w', Below w.heap.size w w' → Calls Try.prog 20 #[.agg (ints .i64 g), v] w' fun x w'' => x = .returned (.int .i64 0) ∧ Below w'.heap.size w' w'') (h0 : ¬ gb p 0 < 0) (h1 : (xs.length : Int) ≤ gb p 0) :
    Calls Try.prog 7 #[.agg (ints .i64 g), v, .agg (ints .i64 p)] w fun e w' => e = .returned (.bool true) ∧ Below w.heap.size w w' := by
  have SA : Hid (∀ w', Below w.heap.size w w' → Calls Try.prog 15 #[] w' fun x w'' => x = .returned (.bool true) ∧ Below w'.heap.size w' w'') := fun w' _ => awake_any w'
  have S1 : Hid (∀ w', Below w.heap.size w w' → Calls Try.prog 20 #[.agg (ints .i64 g), v] w' fun x w'' => x = .returned (.int .i64 0) ∧ Below w'.heap.size w' w'') := hS
  obtain ⟨ao, ca, rfl, -, -, -, -⟩ := id hv
  obtain ⟨n, hnn⟩ : ∃ n, n = xs.length := ⟨_, rfl⟩
  rw [← hnn] at S1 ⊢
  have hn1 : ¬ (100 : Int) < (n : Int) := by omega
  rw [← hnn] at h1
  clear hnn hv hn hS
  have t0 : (0 : Nat) = 0 := rfl
  go_enter Try.func7, Try.ntmps7
  go_wp2_with (first
    | (have q3 := t3; go_at_call 15; refine (SA.out _ BB.out).mono ?_; rintro e w4 ⟨rfl, B4⟩; have HX : Hid (Ar w4 w.heap.size 0 .i64 g) := HX.out.below B4 (HX.out.lt (by omega)); have BB : Hid (Below w.heap.size w w4) := BB.out.trans (B4.mono BB.out.size); have t4 : (0 : Nat) = 0 := rfl; clear B4 t3)
    | (have q2 := t2; go_at_call 20; refine (S1.out _ BB.out).mono ?_; rintro e w3 ⟨rfl, B3⟩; have HX : Hid (Ar w3 w.heap.size 0 .i64 g) := HX.out.below B3 (HX.out.lt (by omega)); have BB : Hid (Below w.heap.size w w3) := BB.out.trans (B3.mono BB.out.size); have t3 : (0 : Nat) = 0 := rfl; clear B3 t2)
    | (have q9 := HX; refine load_lawS _ (by rfl) _ _ rfl (load_geo HX.out hl) ?_)
    | (have q1 := t1; refine box_lawF _ rfl (.tmp 2) 41 rfl .i64 p rfl ?_; intro w2 X2 B2 L2; have a0 := X2.cell0 0 (by omega); have a1 := X2.cell0 1 (by omega); have HX : Hid (Ar w2 w.heap.size 0 .i64 g) := HX.out.below B2 L1; have BB : Hid (Below w.heap.size w w2) := BB.out.trans (B2.mono BB.out.size); have t2 : (0 : Nat) = 0 := rfl; clear X2 t1 B2)
    | (have q0 := t0; refine box_lawF _ rfl (.tmp 0) 23 rfl .i64 g rfl ?_; intro w1 X1 B1 L1; have HX : Hid (Ar w1 w.heap.size 0 .i64 g) := X1; have BB : Hid (Below w.heap.size w w1) := B1; have t1 : (0 : Nat) = 0 := rfl; clear X1 t0 B1))
  go_ret
  exact ⟨rfl, BB.out⟩

set_option maxHeartbeats 4000000 in
theorem walk_n2 (g : List Int) (v : Value) (xs : List Int) (p : List Int) (w : World) (hl : g.length = 6) (hv : Nums w v xs) (hp : p.length = 2) (hn : xs.length ≤ 100) (hS : ∀ w', Below w.heap.size w w' → Calls Try.prog 20 #[.agg (ints .i64 g), v] w' fun x w'' => x = .returned (.int .i64 0) ∧ Below w'.heap.size w' w'') (h0 : ¬ gb p 0 < 0) (h1 : ¬ (xs.length : Int) ≤ gb p 0) (h2 : gb p 1 < 0) :
    Calls Try.prog 7 #[.agg (ints .i64 g), v, .agg (ints .i64 p)] w fun e w' => e = .returned (.bool true) ∧ Below w.heap.size w w' := by
  have SA : Hid (∀ w', Below w.heap.size w w' → Calls Try.prog 15 #[] w' fun x w'' => x = .returned (.bool true) ∧ Below w'.heap.size w' w'') := fun w' _ => awake_any w'
  have S1 : Hid (∀ w', Below w.heap.size w w' → Calls Try.prog 20 #[.agg (ints .i64 g), v] w' fun x w'' => x = .returned (.int .i64 0) ∧ Below w'.heap.size w' w'') := hS
  obtain ⟨ao, ca, rfl, -, -, -, -⟩ := id hv
  obtain ⟨n, hnn⟩ : ∃ n, n = xs.length := ⟨_, rfl⟩
  rw [← hnn] at S1 ⊢
  have hn1 : ¬ (100 : Int) < (n : Int) := by omega
  rw [← hnn] at h1
  clear hnn hv hn hS
  have t0 : (0 : Nat) = 0 := rfl
  go_enter Try.func7, Try.ntmps7
  go_wp2_with (first
    | (have q3 := t3; go_at_call 15; refine (SA.out _ BB.out).mono ?_; rintro e w4 ⟨rfl, B4⟩; have HX : Hid (Ar w4 w.heap.size 0 .i64 g) := HX.out.below B4 (HX.out.lt (by omega)); have BB : Hid (Below w.heap.size w w4) := BB.out.trans (B4.mono BB.out.size); have t4 : (0 : Nat) = 0 := rfl; clear B4 t3)
    | (have q2 := t2; go_at_call 20; refine (S1.out _ BB.out).mono ?_; rintro e w3 ⟨rfl, B3⟩; have HX : Hid (Ar w3 w.heap.size 0 .i64 g) := HX.out.below B3 (HX.out.lt (by omega)); have BB : Hid (Below w.heap.size w w3) := BB.out.trans (B3.mono BB.out.size); have t3 : (0 : Nat) = 0 := rfl; clear B3 t2)
    | (have q9 := HX; refine load_lawS _ (by rfl) _ _ rfl (load_geo HX.out hl) ?_)
    | (have q1 := t1; refine box_lawF _ rfl (.tmp 2) 41 rfl .i64 p rfl ?_; intro w2 X2 B2 L2; have a0 := X2.cell0 0 (by omega); have a1 := X2.cell0 1 (by omega); have HX : Hid (Ar w2 w.heap.size 0 .i64 g) := HX.out.below B2 L1; have BB : Hid (Below w.heap.size w w2) := BB.out.trans (B2.mono BB.out.size); have t2 : (0 : Nat) = 0 := rfl; clear X2 t1 B2)
    | (have q0 := t0; refine box_lawF _ rfl (.tmp 0) 23 rfl .i64 g rfl ?_; intro w1 X1 B1 L1; have HX : Hid (Ar w1 w.heap.size 0 .i64 g) := X1; have BB : Hid (Below w.heap.size w w1) := B1; have t1 : (0 : Nat) = 0 := rfl; clear X1 t0 B1))
  go_ret
  exact ⟨rfl, BB.out⟩

set_option maxHeartbeats 4000000 in
theorem walk_n3 (g : List Int) (v : Value) (xs : List Int) (p : List Int) (w : World) (hl : g.length = 6) (hv : Nums w v xs) (hp : p.length = 2) (hn : xs.length ≤ 100) (hS : ∀ w', Below w.heap.size w w' → Calls Try.prog 20 #[.agg (ints .i64 g), v] w' fun x w'' => x = .returned (.int .i64 0) ∧ Below w'.heap.size w' w'') (h0 : ¬ gb p 0 < 0) (h1 : ¬ (xs.length : Int) ≤ gb p 0) (h2 : ¬ gb p 1 < 0) (h3 : gb xs (gb p 0).toNat ≤ gb p 1) :
    Calls Try.prog 7 #[.agg (ints .i64 g), v, .agg (ints .i64 p)] w fun e w' => e = .returned (.bool true) ∧ Below w.heap.size w w' := by
  have SA : Hid (∀ w', Below w.heap.size w w' → Calls Try.prog 15 #[] w' fun x w'' => x = .returned (.bool true) ∧ Below w'.heap.size w' w'') := fun w' _ => awake_any w'
  have S1 : Hid (∀ w', Below w.heap.size w w' → Calls Try.prog 20 #[.agg (ints .i64 g), v] w' fun x w'' => x = .returned (.int .i64 0) ∧ Below w'.heap.size w' w'') := hS
  obtain ⟨k, hk⟩ : ∃ k : Nat, gb p 0 = (k : Int) := ⟨(gb p 0).toNat, by omega⟩
  have hkn : k < xs.length := by omega
  rw [hk, Int.toNat_natCast] at h3
  have HV : Hid (Nums w v xs) := hv
  obtain ⟨ao, ca, rfl, ha1, ha2, -, ha5⟩ := id hv
  obtain ⟨bb, bo, rfl, hcc⟩ := ha5 (by omega)
  have hc : w.cell? ⟨bb, bo + k, none⟩ = some (.int .i64 (gb xs k)) := hcc k hkn
  have hbl : bb < w.heap.size := World.block_lt_of_cell? w _ hc
  obtain ⟨n, hnn⟩ : ∃ n, n = xs.length := ⟨_, rfl⟩
  obtain ⟨s, hs⟩ : ∃ s, s = gb xs k := ⟨_, rfl⟩
  rw [← hs] at hc
  have HC : Hid (w.cell? ⟨bb, bo + k, none⟩ = some (.int .i64 s)) := hc
  have HN : Hid (n = xs.length ∧ n ≤ 100) := ⟨hnn, by omega⟩
  rw [← hnn] at S1 HV hkn ha1 ⊢
  have hn1 : ¬ (100 : Int) < (n : Int) := by omega
  have k0 : ¬ (k : Int) < 0 := by omega
  have k1 : ¬ (n : Int) ≤ (k : Int) := by omega
  have k2 : (k : Int) < (n : Int) := by omega
  have k3 : (0 : Int) ≤ (k : Int) := by omega
  have kw : IntKind.i64.wrap (k : Int) = (k : Int) := by rw [IntKind.wrap_i64]; omega
  rw [← hs] at h3
  have HK : Hid (gb p 0 = (k : Int)) := hk
  clear hnn hv hn hS hcc hc hs hk h0 h1 ha5 HV
  have t0 : (0 : Nat) = 0 := rfl
  go_enter Try.func7, Try.ntmps7
  go_wp2_with (first
    | (have q3 := t3; go_at_call 15; refine (SA.out _ BB.out).mono ?_; rintro e w4 ⟨rfl, B4⟩; have HX : Hid (Ar w4 w.heap.size 0 .i64 g) := HX.out.below B4 (HX.out.lt (by omega)); have BB : Hid (Below w.heap.size w w4) := BB.out.trans (B4.mono BB.out.size); have t4 : (0 : Nat) = 0 := rfl; clear B4 t3)
    | (have q2 := t2; go_at_call 20; refine (S1.out _ BB.out).mono ?_; rintro e w3 ⟨rfl, B3⟩; have HX : Hid (Ar w3 w.heap.size 0 .i64 g) := HX.out.below B3 (HX.out.lt (by omega)); have BB : Hid (Below w.heap.size w w3) := BB.out.trans (B3.mono BB.out.size); have c3 : w3.cell? ⟨bb, bo + k, none⟩ = some (.int .i64 s) := (by rw [BB.out.cell hbl]; exact HC.out); clear c2; have t3 : (0 : Nat) = 0 := rfl; clear B3 t2)
    | (have q9 := HX; refine load_lawS _ (by rfl) _ _ rfl (load_geo HX.out hl) ?_)
    | (have q1 := t1; refine box_lawF _ rfl (.tmp 2) 41 rfl .i64 p rfl ?_; intro w2 X2 B2 L2; have a0 : w2.cell? ⟨w1.heap.size, 0, none⟩ = some (.int .i64 (k : Int)) := (by rw [X2.cell0 0 (by omega), HK.out]); have a1 := X2.cell0 1 (by omega); have HX : Hid (Ar w2 w.heap.size 0 .i64 g) := HX.out.below B2 L1; have BB : Hid (Below w.heap.size w w2) := BB.out.trans (B2.mono BB.out.size); have c2 : w2.cell? ⟨bb, bo + k, none⟩ = some (.int .i64 s) := (by rw [BB.out.cell hbl]; exact HC.out); have t2 : (0 : Nat) = 0 := rfl; clear X2 t1 B2)
    | (have q0 := t0; refine box_lawF _ rfl (.tmp 0) 23 rfl .i64 g rfl ?_; intro w1 X1 B1 L1; have HX : Hid (Ar w1 w.heap.size 0 .i64 g) := X1; have BB : Hid (Below w.heap.size w w1) := B1; have t1 : (0 : Nat) = 0 := rfl; clear X1 t0 B1))
  go_ret
  exact ⟨rfl, BB.out⟩

set_option maxRecDepth 20000 in
set_option maxHeartbeats 8000000 in
theorem walk_yes (g : List Int) (v : Value) (xs : List Int) (p : List Int) (w : World) (hl : g.length = 6) (hv : Nums w v xs) (hp : p.length = 2) (hn : xs.length ≤ 100) (h : Rt g) (u D sp : Nat) (hu : gb g 1 = (u : Int) + 1) (hu1 : 3 ≤ u ∧ u ≤ 31) (hD : gb g 0 = (D : Int) + 4) (hD1 : D ≤ 60) (hsp : gb g 3 = (sp : Int)) (hsp1 : sp ≤ 8) (hF : Fits D sp u xs) (h0 : ¬ gb p 0 < 0) (h1 : ¬ (xs.length : Int) ≤ gb p 0) (h2 : ¬ gb p 1 < 0) (h3 : ¬ gb xs (gb p 0).toNat ≤ gb p 1) :
    Calls Try.prog 7 #[.agg (ints .i64 g), v, .agg (ints .i64 p)] w fun e w' => e = .returned (.bool true) ∧ Below w.heap.size w w' := by
  have SA : Hid (∀ w', Below w.heap.size w w' → Calls Try.prog 15 #[] w' fun x w'' => x = .returned (.bool true) ∧ Below w'.heap.size w' w'') := fun w' _ => awake_any w'
  obtain ⟨k, hk⟩ : ∃ k : Nat, gb p 0 = (k : Int) := ⟨(gb p 0).toNat, by omega⟩
  have hkn : k < xs.length := by omega
  rw [hk, Int.toNat_natCast] at h3
  have hin := inr_at hF.1 k hkn
  obtain ⟨y, hy⟩ : ∃ y, y = gb xs k - gb p 1 := ⟨_, rfl⟩
  have F1 := fits_without D sp u xs k hkn hF
  have F2 := fits_set D sp u (by omega) xs k y hkn (by omega) (by omega) hF
  have S1 : Hid (∀ w', Below w.heap.size w w' → Calls Try.prog 20 #[.agg (ints .i64 g), v] w' fun x w'' => x = .returned (.int .i64 0) ∧ Below w'.heap.size w' w'') := fun w' hb => fit_ok g v xs w' hl h u D sp hu hu1 hD hD1 hsp hsp1 (hv.below hb) (by omega) hF
  have S5 : Hid (∀ q w', Below w.heap.size w w' → Nums w' q (xs.take k ++ xs.drop (k + 1)) → Calls Try.prog 20 #[.agg (ints .i64 g), q] w' fun x w'' => x = .returned (.int .i64 0) ∧ Below w'.heap.size w' w'') := fun q w' _ hq => fit_ok g q _ w' hl h u D sp hu hu1 hD hD1 hsp hsp1 hq (by rw [List.length_append, List.length_take, List.length_drop]; omega) F1
  have S6 : Hid (∀ q w', Below w.heap.size w w' → Nums w' q (xs.set k y) → Calls Try.prog 20 #[.agg (ints .i64 g), q] w' fun x w'' => x = .returned (.int .i64 0) ∧ Below w'.heap.size w' w'') := fun q w' _ hq => fit_ok g q _ w' hl h u D sp hu hu1 hD hD1 hsp hsp1 hq (by rw [List.length_set]; omega) F2
  have qy : IntKind.i64.wrap (gb xs k - gb p 1) = y := by rw [hy, IntKind.wrap_i64]; omega
  have HV : Hid (Nums w v xs) := hv
  obtain ⟨ao, ca, rfl, ha1, ha2, -, ha5⟩ := id hv
  obtain ⟨bb, bo, rfl, hcc⟩ := ha5 (by omega)
  have hc : w.cell? ⟨bb, bo + k, none⟩ = some (.int .i64 (gb xs k)) := hcc k hkn
  have hbl : bb < w.heap.size := World.block_lt_of_cell? w _ hc
  obtain ⟨n, hnn⟩ : ∃ n, n = xs.length := ⟨_, rfl⟩
  obtain ⟨s, hs⟩ : ∃ s, s = gb xs k := ⟨_, rfl⟩
  rw [← hs] at hc
  have HC : Hid (w.cell? ⟨bb, bo + k, none⟩ = some (.int .i64 s)) := hc
  have HN : Hid (n = xs.length ∧ n ≤ 100) := ⟨hnn, by omega⟩
  rw [← hnn] at S1 HV hkn ha1 ⊢
  have hn1 : ¬ (100 : Int) < (n : Int) := by omega
  have k0 : ¬ (k : Int) < 0 := by omega
  have k1 : ¬ (n : Int) ≤ (k : Int) := by omega
  have k2 : (k : Int) < (n : Int) := by omega
  have k3 : (0 : Int) ≤ (k : Int) := by omega
  have kw : IntKind.i64.wrap (k : Int) = (k : Int) := by rw [IntKind.wrap_i64]; omega
  rw [← hs] at h3 qy
  have k4 : IntKind.i64.wrap ((k : Int) + 1) = (k : Int) + 1 := by rw [IntKind.wrap_i64]; omega
  have HK : Hid (gb p 0 = (k : Int)) := hk
  clear hnn hv hn hcc hc hs hk h0 h1 ha5 hy F1 F2 hin h hu hu1 hD hsp hF
  have t0 : (0 : Nat) = 0 := rfl
  go_enter Try.func7, Try.ntmps7
  go_wp2_with (first
    | (have q2 := t2; go_at_call 20; refine (S1.out _ BB.out).mono ?_; rintro e w3 ⟨rfl, B3⟩; have HX : Hid (Ar w3 w.heap.size 0 .i64 g) := HX.out.below B3 (HX.out.lt (by omega)); have BB : Hid (Below w.heap.size w w3) := BB.out.trans (B3.mono BB.out.size); have c3 : w3.cell? ⟨bb, bo + k, none⟩ = some (.int .i64 s) := (by rw [BB.out.cell hbl]; exact HC.out); clear c2; have t3 : (0 : Nat) = 0 := rfl; clear B3 t2)
    | (have q9 := HX; refine load_lawS _ (by rfl) _ _ rfl (load_geo HX.out hl) ?_)
    | (have q1 := t1; refine box_lawF _ rfl (.tmp 2) 41 rfl .i64 p rfl ?_; intro w2 X2 B2 L2; have a0 : w2.cell? ⟨w1.heap.size, 0, none⟩ = some (.int .i64 (k : Int)) := (by rw [X2.cell0 0 (by omega), HK.out]); have a1 := X2.cell0 1 (by omega); have HX : Hid (Ar w2 w.heap.size 0 .i64 g) := HX.out.below B2 L1; have BB : Hid (Below w.heap.size w w2) := BB.out.trans (B2.mono BB.out.size); have c2 : w2.cell? ⟨bb, bo + k, none⟩ = some (.int .i64 s) := (by rw [BB.out.cell hbl]; exact HC.out); have t2 : (0 : Nat) = 0 := rfl; clear X2 t1 B2)
    | (have q0 := t0; refine box_lawF _ rfl (.tmp 0) 23 rfl .i64 g rfl ?_; intro w1 X1 B1 L1; have HX : Hid (Ar w1 w.heap.size 0 .i64 g) := X1; have BB : Hid (Below w.heap.size w w1) := B1; have t1 : (0 : Nat) = 0 := rfl; clear X1 t0 B1))
  refine wp_region_held_drew (S := fun w' => Below w3.heap.size w3 w') (by kernel_rfl) (Below.refl _ _).drew (fun hS => ?_)
  obtain ⟨x0, hx0⟩ : ∃ x, x = w3.drew := ⟨_, rfl⟩
  rw [← hx0] at hS ⊢
  clear hx0
  have hS0 := hS
  refine take_lawH 1 (some 47) (.slice (some ⟨bb, bo, none⟩) n ca) rfl rfl (by kernel_rfl) (by kernel_rfl) (by kernel_rfl) (fun _ _ _ h => h) (Or.inl ⟨by rfl, fun w' hw' => by rfl⟩) hS ?_
  simp only [Act.put, List.setIfInBounds_toArray, List.set_cons_zero, List.set_cons_succ]
  refine take_lawH 2 (some 48) (.int .i64 (k : Int)) rfl rfl (by kernel_rfl) (by kernel_rfl) (by kernel_rfl) (fun _ _ _ h => h) (Or.inl ⟨by rfl, fun w' hw' => by rfl⟩) hS ?_
  simp only [Act.put, List.setIfInBounds_toArray, List.set_cons_zero, List.set_cons_succ]
  refine take_lawH 3 (some 49) (sl (.slice (some ⟨bb, bo, none⟩) n ca) 0 k) rfl rfl (by kernel_rfl) (by kernel_rfl) (by kernel_rfl) (fun _ _ _ h => h) (y_to (by rfl) (.tmp 47) (.tmp 48) rfl _ xs w HV.out (k : Int) k rfl rfl rfl (by have := HN.out; omega)).yieldsIf hS ?_
  simp only [Act.put, List.setIfInBounds_toArray, List.set_cons_zero, List.set_cons_succ]
  refine take_lawH 5 (some 51) (.slice (some ⟨bb, bo, none⟩) n ca) rfl rfl (by kernel_rfl) (by kernel_rfl) (by kernel_rfl) (fun _ _ _ h => h) (Or.inl ⟨by rfl, fun w' hw' => by rfl⟩) hS ?_
  simp only [Act.put, List.setIfInBounds_toArray, List.set_cons_zero, List.set_cons_succ]
  refine take_lawH 6 (some 52) (.int .i64 (k : Int)) rfl rfl (by kernel_rfl) (by kernel_rfl) (by kernel_rfl) (fun _ _ _ h => h) (Or.inl ⟨by rfl, fun w' hw' => by rfl⟩) hS ?_
  simp only [Act.put, List.setIfInBounds_toArray, List.set_cons_zero, List.set_cons_succ]
  refine take_lawH 7 (some 53) (.int .i64 ((k : Int) + 1)) rfl rfl (by kernel_rfl) (by kernel_rfl) (by kernel_rfl) (fun _ _ _ h => h) (Or.inl ⟨by rfl, fun w' hw' => by go_simp⟩) hS ?_
  simp only [Act.put, List.setIfInBounds_toArray, List.set_cons_zero, List.set_cons_succ]
  refine take_lawH 8 (some 54) (sl (.slice (some ⟨bb, bo, none⟩) n ca) (k + 1) xs.length) rfl rfl (by kernel_rfl) (by kernel_rfl) (by kernel_rfl) (fun _ _ _ h => h) (y_from (by rfl) (.tmp 51) (.tmp 53) rfl _ xs w HV.out ((k : Int) + 1) (k + 1) rfl rfl (by omega) (by have := HN.out; omega)).yieldsIf hS ?_
  simp only [Act.put, List.setIfInBounds_toArray, List.set_cons_zero, List.set_cons_succ]
  refine wpAnyH_ready (rs := [0]) (by kernel_rfl) (by simp) ?_
  refine AllReadyH.cons rfl (fun K hK => ?_) AllReadyH.nil
  refine step_nilI _ (by rfl) (some 46) rfl rfl fun x1 ox1 bx1 sx1 => ?_
  have hS : Below w3.heap.size w3 x1 := hS.trans (bx1.mono hS.size)
  obtain ⟨B0, hB⟩ : ∃ B, B = x0.heap.size := ⟨_, rfl⟩
  rw [← hB] at ox1 sx1
  have hB0 : w3.heap.size ≤ B0 := by rw [hB]; exact hS0.size
  have hH : B0 ≤ x1.heap.size := Nat.le_of_lt sx1
  rw [← hB]
  refine hK.out _ _ hS (fun _ => ?_)
  simp only [Act.put, List.setIfInBounds_toArray, List.set_cons_zero, List.set_cons_succ]
  clear hK K
  refine wpAnyH_ready (rs := [4]) (by kernel_rfl) (by simp) ?_
  refine AllReadyH.cons rfl (fun K hK => ?_) AllReadyH.nil
  refine step_pushsI _ (by rfl) (some 50) rfl (.tmp 46) (.tmp 49) rfl B0 hH _ _ [] (xs.take k) rfl rfl ox1 (sl_to (HV.out.below (BB.out.trans (hS.mono BB.out.size))) k (by have := HN.out; omega)) (by simp) (by rw [List.length_take]; have := HN.out; omega) fun v50 x2 o2 b2 _ => ?_
  have hS : Below w3.heap.size w3 x2 := hS.trans (b2.mono hB0)
  have hH2 : B0 ≤ x2.heap.size := Nat.le_trans hH b2.size
  refine hK.out _ _ hS (fun _ => ?_)
  simp only [Act.put, List.setIfInBounds_toArray, List.set_cons_zero, List.set_cons_succ]
  clear hK K
  refine wpAnyH_ready (rs := [9]) (by kernel_rfl) (by simp) ?_
  refine AllReadyH.cons rfl (fun K hK => ?_) AllReadyH.nil
  refine step_pushsI _ (by rfl) (some 55) rfl (.tmp 50) (.tmp 54) rfl B0 hH2 _ _ (xs.take k) (xs.drop (k + 1)) rfl rfl o2 (sl_from (HV.out.below (BB.out.trans (hS.mono BB.out.size))) (k + 1) (by have := HN.out; omega)) (by rw [List.length_take]; have := HN.out; omega) (by rw [List.length_drop]; have := HN.out; omega) fun v55 x3 o3 b3 _ => ?_
  have hS : Below w3.heap.size w3 x3 := hS.trans (b3.mono hB0)
  have NF : Hid (Nums x3 v55 (xs.take k ++ xs.drop (k + 1))) := o3.nums
  refine hK.out _ _ hS (fun _ => ?_)
  simp only [Act.put, List.setIfInBounds_toArray, List.set_cons_zero, List.set_cons_succ]
  clear hK K
  refine wpAnyH_ready (rs := [10]) (by kernel_rfl) (by simp) ?_
  refine AllReadyH.cons rfl (fun K hK => ?_) AllReadyH.nil
  refine step_movG _ rfl (some 9) rfl (.tmp 55) rfl (v55) rfl ?_
  refine hK.out _ _ hS (fun _ => ?_)
  simp only [Act.put, List.setIfInBounds_toArray, List.set_cons_zero, List.set_cons_succ]
  clear hK K
  refine wpAnyH_done (by kernel_rfl) ?_ _
  have HX : Hid (Ar x3 w.heap.size 0 .i64 g) := HX.out.below hS (HX.out.lt (by omega))
  have BB : Hid (Below w.heap.size w x3) := BB.out.trans (hS.mono BB.out.size)
  have d3 : x3.cell? ⟨bb, bo + k, none⟩ = some (.int .i64 s) := by rw [BB.out.cell hbl]; exact HC.out
  clear hS hS0 bx1 sx1 ox1 hB hH hH2 o2 b2 o3 b3 c3
  have t4 : (0 : Nat) = 0 := rfl
  go_wp2_with (first
    | (have q8 := t8; go_at_call 15; refine (SA.out _ BB.out).mono ?_; rintro e w8 ⟨rfl, B8⟩; have BB : Hid (Below w.heap.size w w8) := BB.out.trans (B8.mono BB.out.size); clear B8 t8)
    | (have q7 := t7; go_at_call 20; refine (S6.out _ _ BB.out NO.out).mono ?_; rintro e w7 ⟨rfl, B7⟩; have BB : Hid (Below w.heap.size w w7) := BB.out.trans (B7.mono BB.out.size); have t8 : (0 : Nat) = 0 := rfl; clear B7 t7)
    | (have q6 := t6; go_at_call 20; refine (S5.out _ _ BB.out NF.out).mono ?_; rintro e w6 ⟨rfl, B6⟩; have HX : Hid (Ar w6 w.heap.size 0 .i64 g) := HX.out.below B6 (HX.out.lt (by omega)); have NO : Hid (Nums w6 (.slice (some ⟨go, 0, none⟩) n co) (xs.set k y)) := NO.out.below B6; have BB : Hid (Below w.heap.size w w6) := BB.out.trans (B6.mono BB.out.size); have t7 : (0 : Nat) = 0 := rfl; clear B6 t6)
    | (have q5 := t5; refine set_lawF _ rfl (.tmp 67) (.tmp 66) 3 rfl .i64 y go k xs rfl rfl AO.out (by have := HN.out; omega) i_int ?_; intro w5 A5 B5; have NF : Hid (Nums w5 v55 (xs.take k ++ xs.drop (k + 1))) := NF.out.below (B4.out.trans (B5.mono hgo)); have HX : Hid (Ar w5 w.heap.size 0 .i64 g) := HX.out.below (B4.out.trans (B5.mono hgo)) (HX.out.lt (by omega)); have BB : Hid (Below w.heap.size w w5) := BB.out.trans ((B4.out.trans (B5.mono hgo)).mono BB.out.size); have NO : Hid (Nums w5 (.slice (some ⟨go, 0, none⟩) n co) (xs.set k y)) := Go.Proofs.Ytpdmcpmkhofhdaa.ge.Ar.nums A5 (by rw [List.length_set]; exact HN.out.1.symm) ho1 ho2; have t6 : (0 : Nat) = 0 := rfl; clear A5 B5 t5)
    | (have q4 := t4; at_builtin; refine pushs_lawI _ rfl (.tmp 56) (.tmp 57) rfl x3.heap.size (by simp) _ _ [] xs rfl rfl (OwnI.empty x3 (Nat.le_refl _)) (HV.out.below (BB.out.trans (((Below.refl _ _).alloc (Nat.le_refl _) _).mono BB.out.size))) (by simp) (by have := HN.out; omega) ?_; intro v4 w4 o4 b4; have B4 : Hid (Below x3.heap.size x3 w4) := ((Below.refl _ _).alloc (Nat.le_refl _) _).trans b4; obtain ⟨go, co, rfl, ho1, ho2, hgo, hgl, a4⟩ := o4.ar (by rw [List.nil_append]; have := HN.out; omega); rw [List.nil_append] at ho1 a4; rw [List.nil_append, ← HN.out.1]; rw [← HN.out.1] at ho1; have AO : Hid (Ar w4 go 0 .i64 xs) := a4; have d4 : w4.cell? ⟨bb, bo + k, none⟩ = some (.int .i64 s) := (by rw [B4.out.cell (Nat.lt_of_lt_of_le hbl BB.out.size)]; exact d3); have t5 : (0 : Nat) = 0 := rfl; clear o4 b4 a4 t4)
    | (have q9 := HX; refine load_lawS _ (by rfl) _ _ rfl (load_geo HX.out hl) ?_))
  go_ret
  exact ⟨rfl, BB.out⟩

/-- a right geometry's numbers, as whole ones -/
theorem geo_nats {g : List Int} (h : Rt g) : ∃ u D sp : Nat, gb g 1 = (u : Int) + 1 ∧ (3 ≤ u ∧ u ≤ 31) ∧ gb g 0 = (D : Int) + 4 ∧ D ≤ 60 ∧ gb g 3 = (sp : Int) ∧ sp ≤ 8 := by
  obtain ⟨⟨h0, h1, -, h3, -⟩, -⟩ := h
  exact ⟨(gb g 1 - 1).toNat, (gb g 0 - 4).toNat, (gb g 3).toNat, by omega, by omega, by omega, by omega, by omega, by omega⟩

theorem walk (g : List Int) (v : Value) (xs : List Int) (p : List Int) (w : World) (hl : g.length = 6) (hv : Nums w v xs) (hp : p.length = 2) : Calls Try.prog 7 #[.agg (ints .i64 g), v, .agg (ints .i64 p)] w fun e w' => e = .returned (.bool true) ∧ Below w.heap.size w w' := by
  by_cases hn : 100 < xs.length
  · exact walk_long g v xs p w hl hv hp hn
  · by_cases h : Rt g
    · obtain ⟨u, D, sp, hu, hu1, hD, hD1, hsp, hsp1⟩ := geo_nats h
      by_cases hI : InR xs
      · by_cases hF : Fits D sp u xs
        · have hS : ∀ w', Below w.heap.size w w' → Calls Try.prog 20 #[.agg (ints .i64 g), v] w' fun x w'' => x = .returned (.int .i64 0) ∧ Below w'.heap.size w' w'' := fun w' hb => fit_ok g v xs w' hl h u D sp hu hu1 hD hD1 hsp hsp1 (hv.below hb) (by omega) hF
          by_cases h0 : gb p 0 < 0
          · exact walk_n0 g v xs p w hl hv hp (by omega) hS h0
          · by_cases h1 : (xs.length : Int) ≤ gb p 0
            · exact walk_n1 g v xs p w hl hv hp (by omega) hS h0 h1
            · by_cases h2 : gb p 1 < 0
              · exact walk_n2 g v xs p w hl hv hp (by omega) hS h0 h1 h2
              · by_cases h3 : gb xs (gb p 0).toNat ≤ gb p 1
                · exact walk_n3 g v xs p w hl hv hp (by omega) hS h0 h1 h2 h3
                · exact walk_yes g v xs p w hl hv hp (by omega) h u D sp hu hu1 hD hD1 hsp hsp1 hF h0 h1 h2 h3
        · exact walk_unfit g v xs p w hl hv hp (by omega) 14 (by decide) fun w' hb => fit_space g v xs w' hl h u D sp hu hu1 hD hD1 hsp hsp1 (hv.below hb) (by omega) hI hF
      · exact walk_unfit g v xs p w hl hv hp (by omega) 13 (by decide) fun w' hb => fit_range g v xs w' hl h u D sp hu hu1 hD hD1 hsp hsp1 (hv.below hb) (by omega) hI
    · exact walk_unfit g v xs p w hl hv hp (by omega) 2 (by decide) fun w' _ => fit_wrong g v w' hl h

theorem params : ∀ t ∈ Try.f7.params.toList, Try.prog.readableRec t = true ∧ t < Try.prog.types.size := by
  rw [Try.params7]
  intro t ht
  simp at ht
  rcases ht with rfl | rfl | rfl
  · exact ⟨by kernel_rfl, of_decide_eq_true (by kernel_rfl)⟩
  · exact ⟨by kernel_rfl, of_decide_eq_true (by kernel_rfl)⟩
  · exact ⟨by kernel_rfl, of_decide_eq_true (by kernel_rfl)⟩

theorem contract (H : Type) (enc : TypeId × Value → H) (W : World) (base : Nat) (args : Array Value) (ds gs : List (DataW H)) (before : List MemPlace)
    (hval : ∀ (j : Nat) t v, Try.f7.params[j]? = some t → args[j]? = some v → Value.okWide Try.prog W .any base t v)
    (hW : DataW.Whole enc Try.prog Try.f7.params.toList Rows.geometryFewerSpec.vars false W args.toList ds gs before) :
    Calls Try.prog 7 args W fun e W' => ∃ v, e = .returned v ∧ Rows.geometryFewerSpec.post enc Try.prog Try.f7 false true false false W args v W' := by
  have hW' := hW
  obtain ⟨p, q, hA0, hV, rfl, hfz, hnd⟩ := hW
  have hA : DataW.TrodAll enc Try.prog W 0 (fun _ => true) true Try.f7.params.toList args.toList ds p := hA0
  rw [Try.params7] at hA hval
  obtain ⟨v0, v1, v2, d0, d1, d2, p0, p1, p2, rfl, rfl, rfl, h0, h1, h2⟩ := trodAll_three hA
  obtain ⟨rfl, rfl⟩ := trodVars_none hV
  obtain ⟨g0, rfl, n0⟩ := geo_open (hval 0 23 v0 rfl rfl) h0
  obtain ⟨xs1, b1⟩ := ints_open (hval 1 37 v1 rfl rfl) h1
  obtain ⟨g2, rfl, n2⟩ := arr2i_open (hval 2 41 v2 rfl rfl) h2
  clear hA0
  refine (walk g0 v1 xs1 g2 W n0 b1 n2).mono fun e W' ⟨he, hg⟩ => ?_
  subst he
  exact ⟨_, rfl, post_law rfl (by kernel_rfl) params rfl rfl rfl hW' hg⟩

theorem laid_met (os : Os) : laidMet Try.prog Rows.geometryFewerRow.laid ((World.holding Try.prog os ⟨#[], #[], []⟩).forCall (fun _ _ => 0) ⟨#[], #[.agg #[.int .i64 0, .int .i64 0, .int .i64 0, .int .i64 0, .int .i64 0, .int .i64 0], .slice none 0 0, .agg #[.int .i64 0, .int .i64 0]], []⟩).memory :=
  laidMet_of_run' 8 (by kernel_rfl) (by kernel_rfl)
theorem reads (os : Os) {H : Type} (enc : TypeId × Value → H) : ∃ places, DataW.whole enc Try.prog ((World.holding Try.prog os ⟨#[], #[], []⟩).forCall (fun _ _ => 0) ⟨#[], #[.agg #[.int .i64 0, .int .i64 0, .int .i64 0, .int .i64 0, .int .i64 0, .int .i64 0], .slice none 0 0, .agg #[.int .i64 0, .int .i64 0]], []⟩).memory Try.f7.params.toList Rows.geometryFewerSpec.vars false #[Value.agg #[.int .i64 0, .int .i64 0, .int .i64 0, .int .i64 0, .int .i64 0, .int .i64 0], Value.slice none 0 0, Value.agg #[.int .i64 0, .int .i64 0]].toList 8 = some ([.agg [.lit (.int .i64 0), .lit (.int .i64 0), .lit (.int .i64 0), .lit (.int .i64 0), .lit (.int .i64 0), .lit (.int .i64 0)], .nil, .agg [.lit (.int .i64 0), .lit (.int .i64 0)]], [], places) :=
  ⟨[], by kernel_rfl⟩

set_option maxRecDepth 100000 in
theorem lifted (os : Os) (started : os.Started) (H : Type) (enc : TypeId × Value → H) (F : Stop.Interp) :
    ReturnsInHanded {} Try.checked os 7 .any ((OpenSpec.ofChange Rows.geometryFewerSpec).preRow enc Try.prog Try.f7 Rows.geometryFewerRow.domain false Rows.geometryFewerRow.laid) (((OpenSpec.ofChange Rows.geometryFewerSpec).at F).post enc Try.prog Try.f7 false true false false) := by
  obtain ⟨places, hx⟩ := reads os enc
  refine returnsInHanded_of_row (C := Try.checked) (s := OpenSpec.ofChange Rows.geometryFewerSpec) own started (by kernel_rfl) Try.func7
    (witness_row_at (enc := enc) (C := Try.checked) false (World.holding Try.prog os ⟨#[], #[], []⟩) #[.agg #[.int .i64 0, .int .i64 0, .int .i64 0, .int .i64 0, .int .i64 0, .int .i64 0], .slice none 0 0, .agg #[.int .i64 0, .int .i64 0]] rfl (by kernel_rfl) (by kernel_rfl) (by kernel_rfl)
      (OpenSpec.preRow_of_cond 8 hx (by kernel_rfl) (fun k hk => by cases hk) (by kernel_rfl) (laid_met os))) ?_
  intro W base args ds gs before hval hW _ _ _ _ _ _
  exact contract H enc W base args ds gs before hval hW

theorem said : Rows.GeometryFewerSaid :=
  OpenClaim.holds_of_cond 7 Try.f7 rfl rfl rfl rfl rfl rfl rfl ⟨rfl, rfl, rfl, rfl, rfl⟩ rfl rfl rfl rfl rfl (by kernel_rfl) Try.func7 (by kernel_rfl)
    (of_decide_eq_true (by kernel_rfl)) (by unfold Func.isWrapper; first | (rw [if_pos (by decide +kernel)]; kernel_rfl) | (rw [if_neg (by decide +kernel)]; exact ⟨rfl, rfl⟩))
    (fun os started H enc _ F => by rw [OpenClaim.pre_eq_preRow]; exact lifted os started H enc F)
end Go.Proofs.Ytpdmcpmkhofhdaa.geometryFewer

namespace Go.Proofs.Ytpdmcpmkhofhdaa
theorem geometryFewer_said : Rows.GeometryFewerSaid := geometryFewer.said
#print axioms geometryFewer_said
end Go.Proofs.Ytpdmcpmkhofhdaa
