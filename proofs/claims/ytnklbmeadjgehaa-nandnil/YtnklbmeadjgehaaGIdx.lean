/- What geometry's Index and Quota answer. No claim of its own. -/
import Derived.Test.YtnklbmeadjgehaaGCalls
import Derived.Test.YtnklbmeadjgehaaGRefA
namespace Go.Proofs.Ytnklbmeadjgehaa.ge
open Go.RowKit
set_option maxRecDepth 20000

theorem size_place : (Try.prog.info? 43).map (·.size) = some 2 := by kernel_rfl
theorem und_place : ∃ d, Try.prog.underlying 43 = some d ∧ d.isRow = true := ⟨_, Try.underlying43, rfl⟩
/-- a place is read -/
theorem load_place {w : World} {b : Nat} {g : List Int} (h : Ar w b 0 .i64 g) (hl : g.length = 2) : (Instr.loadAt 43 (.pointer (some ⟨b, 0, none⟩))).run Try.prog w = .ok (.agg (ints .i64 g)) w := by
  obtain ⟨d, hu, hd⟩ := und_place
  have := run_loadVar_mid (P := Try.prog) w b 0 43 _ _ h.1 hu hd (by rw [size_place]; simp [hl])
  simp only [Instr.loadAt, Instr.sureAddr, Sem.run_bind, Sem.run_pure, Result.andThen_ok, this]
  rfl
theorem place_cells {w : World} {b : Nat} {g : List Int} (h : Ar w b 0 .i64 g) (hl : g.length = 2) : w.cell? ⟨b, 0, none⟩ = some (.int .i64 (gb g 0)) ∧ w.cell? ⟨b, 1, none⟩ = some (.int .i64 (gb g 1)) :=
  ⟨h.cell0 0 (by omega), h.cell0 1 (by omega)⟩

set_option maxHeartbeats 2000000 in
theorem index_wrong (g p : List Int) (hl : g.length = 6) (hp : p.length = 2) (h : ¬ Rt g) (w : World) :
    Calls Try.prog 69 #[.agg (ints .i64 g), .agg (ints .i64 p)] w fun x w' => x = .returned (.tuple #[.int .i64 0, .int .i64 2]) ∧ Below w.heap.size w w' := by
  have S : Hid (∀ w, Calls Try.prog 33 #[.agg (ints .i64 g)] w fun x w' => x = .returned (.int .i64 2) ∧ Below w.heap.size w w') := check_no g hl h
  clear h
  have t0 : (0 : Nat) = 0 := rfl
  go_enter Try.func69, Try.ntmps69
  go_wp2_with (first
    | (have q2 := t2; go_at_call 33; refine (S.out _).mono ?_; rintro e w3 ⟨rfl, B3⟩; have HX : Hid (Ar w3 w.heap.size 0 .i64 g) := HX.out.below B3 (HX.out.lt (by omega)); obtain ⟨e0, e1, e2, e3, e4, e5⟩ := geo_cells HX.out hl; have HP : Hid (Ar w3 w1.heap.size 0 .i64 p) := HP.out.below B3 (HP.out.lt (by omega)); obtain ⟨p0, p1⟩ := place_cells HP.out hp; have BB : Hid (Below w.heap.size w w3) := BB.out.trans (B3.mono BB.out.size); clear B3 t2)
    | (have q9 := HX; refine load_lawS _ (by rfl) _ _ rfl (load_geo HX.out hl) ?_)
    | (have q1 := t1; refine box_lawF _ rfl (.tmp 1) 43 rfl .i64 p rfl ?_; intro w2 X2 B2 L2; have HP : Hid (Ar w2 w1.heap.size 0 .i64 p) := X2; have HX : Hid (Ar w2 w.heap.size 0 .i64 g) := HX.out.below B2 L1; have BB : Hid (Below w.heap.size w w2) := BB.out.trans (B2.mono BB.out.size); have t2 : (0 : Nat) = 0 := rfl; clear X2 t1 B2)
    | (have q0 := t0; refine box_lawF _ rfl (.tmp 0) 23 rfl .i64 g rfl ?_; intro w1 X1 B1 L1; have HX : Hid (Ar w1 w.heap.size 0 .i64 g) := X1; have BB : Hid (Below w.heap.size w w1) := B1; have t1 : (0 : Nat) = 0 := rfl; clear X1 t0 B1))
  go_ret2
  exact ⟨rfl, BB.out⟩

set_option maxHeartbeats 2000000 in
theorem index_n0 (g p : List Int) (hl : g.length = 6) (hp : p.length = 2) (h : Rt g) (h0 : gb p 0 < 0) (w : World) :
    Calls Try.prog 69 #[.agg (ints .i64 g), .agg (ints .i64 p)] w fun x w' => x = .returned (.tuple #[.int .i64 0, .int .i64 2]) ∧ Below w.heap.size w w' := by
  have S : Hid (∀ w, Calls Try.prog 33 #[.agg (ints .i64 g)] w fun x w' => x = .returned (.int .i64 0) ∧ Below w.heap.size w w') := check_yes g hl h
  clear h
  have t0 : (0 : Nat) = 0 := rfl
  go_enter Try.func69, Try.ntmps69
  go_wp2_with (first
    | (have q2 := t2; go_at_call 33; refine (S.out _).mono ?_; rintro e w3 ⟨rfl, B3⟩; have HX : Hid (Ar w3 w.heap.size 0 .i64 g) := HX.out.below B3 (HX.out.lt (by omega)); obtain ⟨e0, e1, e2, e3, e4, e5⟩ := geo_cells HX.out hl; have HP : Hid (Ar w3 w1.heap.size 0 .i64 p) := HP.out.below B3 (HP.out.lt (by omega)); obtain ⟨p0, p1⟩ := place_cells HP.out hp; have BB : Hid (Below w.heap.size w w3) := BB.out.trans (B3.mono BB.out.size); clear B3 t2)
    | (have q9 := HX; refine load_lawS _ (by rfl) _ _ rfl (load_geo HX.out hl) ?_)
    | (have q1 := t1; refine box_lawF _ rfl (.tmp 1) 43 rfl .i64 p rfl ?_; intro w2 X2 B2 L2; have HP : Hid (Ar w2 w1.heap.size 0 .i64 p) := X2; have HX : Hid (Ar w2 w.heap.size 0 .i64 g) := HX.out.below B2 L1; have BB : Hid (Below w.heap.size w w2) := BB.out.trans (B2.mono BB.out.size); have t2 : (0 : Nat) = 0 := rfl; clear X2 t1 B2)
    | (have q0 := t0; refine box_lawF _ rfl (.tmp 0) 23 rfl .i64 g rfl ?_; intro w1 X1 B1 L1; have HX : Hid (Ar w1 w.heap.size 0 .i64 g) := X1; have BB : Hid (Below w.heap.size w w1) := B1; have t1 : (0 : Nat) = 0 := rfl; clear X1 t0 B1))
  go_ret2
  exact ⟨rfl, BB.out⟩

set_option maxHeartbeats 2000000 in
theorem index_n1 (g p : List Int) (hl : g.length = 6) (hp : p.length = 2) (h : Rt g) (h0 : ¬ gb p 0 < 0) (h1 : gb g 0 ≤ gb p 0) (w : World) :
    Calls Try.prog 69 #[.agg (ints .i64 g), .agg (ints .i64 p)] w fun x w' => x = .returned (.tuple #[.int .i64 0, .int .i64 2]) ∧ Below w.heap.size w w' := by
  have S : Hid (∀ w, Calls Try.prog 33 #[.agg (ints .i64 g)] w fun x w' => x = .returned (.int .i64 0) ∧ Below w.heap.size w w') := check_yes g hl h
  clear h
  have t0 : (0 : Nat) = 0 := rfl
  go_enter Try.func69, Try.ntmps69
  go_wp2_with (first
    | (have q2 := t2; go_at_call 33; refine (S.out _).mono ?_; rintro e w3 ⟨rfl, B3⟩; have HX : Hid (Ar w3 w.heap.size 0 .i64 g) := HX.out.below B3 (HX.out.lt (by omega)); obtain ⟨e0, e1, e2, e3, e4, e5⟩ := geo_cells HX.out hl; have HP : Hid (Ar w3 w1.heap.size 0 .i64 p) := HP.out.below B3 (HP.out.lt (by omega)); obtain ⟨p0, p1⟩ := place_cells HP.out hp; have BB : Hid (Below w.heap.size w w3) := BB.out.trans (B3.mono BB.out.size); clear B3 t2)
    | (have q9 := HX; refine load_lawS _ (by rfl) _ _ rfl (load_geo HX.out hl) ?_)
    | (have q1 := t1; refine box_lawF _ rfl (.tmp 1) 43 rfl .i64 p rfl ?_; intro w2 X2 B2 L2; have HP : Hid (Ar w2 w1.heap.size 0 .i64 p) := X2; have HX : Hid (Ar w2 w.heap.size 0 .i64 g) := HX.out.below B2 L1; have BB : Hid (Below w.heap.size w w2) := BB.out.trans (B2.mono BB.out.size); have t2 : (0 : Nat) = 0 := rfl; clear X2 t1 B2)
    | (have q0 := t0; refine box_lawF _ rfl (.tmp 0) 23 rfl .i64 g rfl ?_; intro w1 X1 B1 L1; have HX : Hid (Ar w1 w.heap.size 0 .i64 g) := X1; have BB : Hid (Below w.heap.size w w1) := B1; have t1 : (0 : Nat) = 0 := rfl; clear X1 t0 B1))
  go_ret2
  exact ⟨rfl, BB.out⟩

set_option maxHeartbeats 2000000 in
theorem index_n2 (g p : List Int) (hl : g.length = 6) (hp : p.length = 2) (h : Rt g) (h0 : ¬ gb p 0 < 0) (h1 : ¬ gb g 0 ≤ gb p 0) (h2 : gb p 1 < 0) (w : World) :
    Calls Try.prog 69 #[.agg (ints .i64 g), .agg (ints .i64 p)] w fun x w' => x = .returned (.tuple #[.int .i64 0, .int .i64 2]) ∧ Below w.heap.size w w' := by
  have S : Hid (∀ w, Calls Try.prog 33 #[.agg (ints .i64 g)] w fun x w' => x = .returned (.int .i64 0) ∧ Below w.heap.size w w') := check_yes g hl h
  clear h
  have t0 : (0 : Nat) = 0 := rfl
  go_enter Try.func69, Try.ntmps69
  go_wp2_with (first
    | (have q2 := t2; go_at_call 33; refine (S.out _).mono ?_; rintro e w3 ⟨rfl, B3⟩; have HX : Hid (Ar w3 w.heap.size 0 .i64 g) := HX.out.below B3 (HX.out.lt (by omega)); obtain ⟨e0, e1, e2, e3, e4, e5⟩ := geo_cells HX.out hl; have HP : Hid (Ar w3 w1.heap.size 0 .i64 p) := HP.out.below B3 (HP.out.lt (by omega)); obtain ⟨p0, p1⟩ := place_cells HP.out hp; have BB : Hid (Below w.heap.size w w3) := BB.out.trans (B3.mono BB.out.size); clear B3 t2)
    | (have q9 := HX; refine load_lawS _ (by rfl) _ _ rfl (load_geo HX.out hl) ?_)
    | (have q1 := t1; refine box_lawF _ rfl (.tmp 1) 43 rfl .i64 p rfl ?_; intro w2 X2 B2 L2; have HP : Hid (Ar w2 w1.heap.size 0 .i64 p) := X2; have HX : Hid (Ar w2 w.heap.size 0 .i64 g) := HX.out.below B2 L1; have BB : Hid (Below w.heap.size w w2) := BB.out.trans (B2.mono BB.out.size); have t2 : (0 : Nat) = 0 := rfl; clear X2 t1 B2)
    | (have q0 := t0; refine box_lawF _ rfl (.tmp 0) 23 rfl .i64 g rfl ?_; intro w1 X1 B1 L1; have HX : Hid (Ar w1 w.heap.size 0 .i64 g) := X1; have BB : Hid (Below w.heap.size w w1) := B1; have t1 : (0 : Nat) = 0 := rfl; clear X1 t0 B1))
  go_ret2
  exact ⟨rfl, BB.out⟩

set_option maxHeartbeats 2000000 in
theorem index_n3 (g p : List Int) (hl : g.length = 6) (hp : p.length = 2) (h : Rt g) (h0 : ¬ gb p 0 < 0) (h1 : ¬ gb g 0 ≤ gb p 0) (h2 : ¬ gb p 1 < 0) (h3 : gb g 1 ≤ gb p 1) (w : World) :
    Calls Try.prog 69 #[.agg (ints .i64 g), .agg (ints .i64 p)] w fun x w' => x = .returned (.tuple #[.int .i64 0, .int .i64 2]) ∧ Below w.heap.size w w' := by
  have S : Hid (∀ w, Calls Try.prog 33 #[.agg (ints .i64 g)] w fun x w' => x = .returned (.int .i64 0) ∧ Below w.heap.size w w') := check_yes g hl h
  clear h
  have t0 : (0 : Nat) = 0 := rfl
  go_enter Try.func69, Try.ntmps69
  go_wp2_with (first
    | (have q2 := t2; go_at_call 33; refine (S.out _).mono ?_; rintro e w3 ⟨rfl, B3⟩; have HX : Hid (Ar w3 w.heap.size 0 .i64 g) := HX.out.below B3 (HX.out.lt (by omega)); obtain ⟨e0, e1, e2, e3, e4, e5⟩ := geo_cells HX.out hl; have HP : Hid (Ar w3 w1.heap.size 0 .i64 p) := HP.out.below B3 (HP.out.lt (by omega)); obtain ⟨p0, p1⟩ := place_cells HP.out hp; have BB : Hid (Below w.heap.size w w3) := BB.out.trans (B3.mono BB.out.size); clear B3 t2)
    | (have q9 := HX; refine load_lawS _ (by rfl) _ _ rfl (load_geo HX.out hl) ?_)
    | (have q1 := t1; refine box_lawF _ rfl (.tmp 1) 43 rfl .i64 p rfl ?_; intro w2 X2 B2 L2; have HP : Hid (Ar w2 w1.heap.size 0 .i64 p) := X2; have HX : Hid (Ar w2 w.heap.size 0 .i64 g) := HX.out.below B2 L1; have BB : Hid (Below w.heap.size w w2) := BB.out.trans (B2.mono BB.out.size); have t2 : (0 : Nat) = 0 := rfl; clear X2 t1 B2)
    | (have q0 := t0; refine box_lawF _ rfl (.tmp 0) 23 rfl .i64 g rfl ?_; intro w1 X1 B1 L1; have HX : Hid (Ar w1 w.heap.size 0 .i64 g) := X1; have BB : Hid (Below w.heap.size w w1) := B1; have t1 : (0 : Nat) = 0 := rfl; clear X1 t0 B1))
  go_ret2
  exact ⟨rfl, BB.out⟩

set_option maxHeartbeats 2000000 in
theorem index_yes (g p : List Int) (hl : g.length = 6) (hp : p.length = 2) (h : Rt g) (h0 : ¬ gb p 0 < 0) (h1 : ¬ gb g 0 ≤ gb p 0) (h2 : ¬ gb p 1 < 0) (h3 : ¬ gb g 1 ≤ gb p 1) (w : World) :
    Calls Try.prog 69 #[.agg (ints .i64 g), .agg (ints .i64 p)] w fun x w' => x = .returned (.tuple #[.int .i64 (gb p 0 * gb g 1 + gb p 1), .int .i64 0]) ∧ Below w.heap.size w w' := by
  have S : Hid (∀ w, Calls Try.prog 33 #[.agg (ints .i64 g)] w fun x w' => x = .returned (.int .i64 0) ∧ Below w.heap.size w w') := check_yes g hl h
  obtain ⟨m, hm⟩ : ∃ m, m = gb p 0 * gb g 1 := ⟨_, rfl⟩
  have m0 : 0 ≤ m := by rw [hm]; exact Int.mul_nonneg (by omega) (by obtain ⟨⟨-, h, -⟩, -⟩ := h; omega)
  have m1 : m ≤ 64 * 32 := by rw [hm]; exact Int.mul_le_mul (by obtain ⟨⟨h, -⟩, -⟩ := h; omega) (by obtain ⟨⟨-, h, -⟩, -⟩ := h; omega) (by obtain ⟨⟨-, h, -⟩, -⟩ := h; omega) (by omega)
  have qm : gb p 0 * gb g 1 = m := hm.symm
  rw [qm]
  have q1 : IntKind.i64.wrap m = m := by rw [IntKind.wrap_i64]; omega
  have q2 : IntKind.i64.wrap (m + gb p 1) = m + gb p 1 := by obtain ⟨⟨-, h, -⟩, -⟩ := h; rw [IntKind.wrap_i64]; omega
  obtain ⟨z, hz⟩ : ∃ z, m + gb p 1 = z := ⟨_, rfl⟩
  rw [hz] at q2 ⊢
  clear h hm m0 m1
  have t0 : (0 : Nat) = 0 := rfl
  go_enter Try.func69, Try.ntmps69
  go_wp2_with (first
    | (have q2 := t2; go_at_call 33; refine (S.out _).mono ?_; rintro e w3 ⟨rfl, B3⟩; have HX : Hid (Ar w3 w.heap.size 0 .i64 g) := HX.out.below B3 (HX.out.lt (by omega)); obtain ⟨e0, e1, e2, e3, e4, e5⟩ := geo_cells HX.out hl; have HP : Hid (Ar w3 w1.heap.size 0 .i64 p) := HP.out.below B3 (HP.out.lt (by omega)); obtain ⟨p0, p1⟩ := place_cells HP.out hp; have BB : Hid (Below w.heap.size w w3) := BB.out.trans (B3.mono BB.out.size); clear B3 t2)
    | (have q9 := HX; refine load_lawS _ (by rfl) _ _ rfl (load_geo HX.out hl) ?_)
    | (have q1 := t1; refine box_lawF _ rfl (.tmp 1) 43 rfl .i64 p rfl ?_; intro w2 X2 B2 L2; have HP : Hid (Ar w2 w1.heap.size 0 .i64 p) := X2; have HX : Hid (Ar w2 w.heap.size 0 .i64 g) := HX.out.below B2 L1; have BB : Hid (Below w.heap.size w w2) := BB.out.trans (B2.mono BB.out.size); have t2 : (0 : Nat) = 0 := rfl; clear X2 t1 B2)
    | (have q0 := t0; refine box_lawF _ rfl (.tmp 0) 23 rfl .i64 g rfl ?_; intro w1 X1 B1 L1; have HX : Hid (Ar w1 w.heap.size 0 .i64 g) := X1; have BB : Hid (Below w.heap.size w w1) := B1; have t1 : (0 : Nat) = 0 := rfl; clear X1 t0 B1))
  go_ret2
  exact ⟨rfl, BB.out⟩

/-- there is such a page -/
def Pg (g p : List Int) : Prop := ¬ gb p 0 < 0 ∧ ¬ gb g 0 ≤ gb p 0 ∧ ¬ gb p 1 < 0 ∧ ¬ gb g 1 ≤ gb p 1
theorem index_no (g p : List Int) (hl : g.length = 6) (hp : p.length = 2) (h : ¬ (Rt g ∧ Pg g p)) (w : World) :
    Calls Try.prog 69 #[.agg (ints .i64 g), .agg (ints .i64 p)] w fun x w' => x = .returned (.tuple #[.int .i64 0, .int .i64 2]) ∧ Below w.heap.size w w' := by
  by_cases hr : Rt g
  · by_cases h0 : gb p 0 < 0
    · exact index_n0 g p hl hp hr h0 w
    · by_cases h1 : gb g 0 ≤ gb p 0
      · exact index_n1 g p hl hp hr h0 h1 w
      · by_cases h2 : gb p 1 < 0
        · exact index_n2 g p hl hp hr h0 h1 h2 w
        · exact index_n3 g p hl hp hr h0 h1 h2 (Int.not_lt.1 fun h3 => h ⟨hr, h0, h1, h2, fun h4 => by omega⟩) w
  · exact index_wrong g p hl hp hr w

/-- how many pages of a block are for data, as a whole number -/
theorem unit_nat {g : List Int} (h : Kept g) : ∃ u : Nat, gb g 1 = (u : Int) + 1 ∧ 3 ≤ u ∧ u ≤ 31 := ⟨(gb g 1 - 1).toNat, by obtain ⟨-, h, -⟩ := h; omega, by obtain ⟨-, h, -⟩ := h; omega, by obtain ⟨-, h, -⟩ := h; omega⟩
end Go.Proofs.Ytnklbmeadjgehaa.ge
