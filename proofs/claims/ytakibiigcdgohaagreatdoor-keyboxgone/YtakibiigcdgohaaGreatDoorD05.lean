/- Parts of the proof: what KeyboxGone reaches. No claim of its own. -/
import Derived.Deep.WholeRow
import Derived.Deep.MidRow
import Derived.Laws.StructEq
import Derived.WalkKit
import Derived.Deep.QuietTactic
import Derived.WalkSmall
import Derived.ProofKit
import Derived.OpenShut
import Derived.BigQuiet
import Derived.Deep.RegionHeld3
import Derived.Deep.DeepCutAuto
import Derived.Laws.AppendOwnNone
import Derived.ArgAppend
import Derived.Lib.SliceRun
import Derived.Test.YtakibiigcdgohaaGreatDoorD00
import Derived.Test.YtakibiigcdgohaaGreatDoorD01
import Derived.Test.YtakibiigcdgohaaGreatDoorD02
import Derived.Test.YtakibiigcdgohaaGreatDoorD03
import Derived.Test.YtakibiigcdgohaaGreatDoorD04
set_option maxHeartbeats 8000000
namespace Go.Proofs.YtakibiigcdgohaaGreatDoor.ge
open Go.RowKit
set_option maxRecDepth 20000
theorem div_count (u s n : Nat) (hu : 0 < u) (h1 : s ≤ n * u) (h2 : ∀ m, m < n → m * u < s) : ((s : Int) + (u : Int) - 1) / (u : Int) = (n : Int) := by
  have := qt_count u s n hu h1 h2
  unfold qt at this
  have e : ((s : Int) + (u : Int) - 1) = ((s + u - 1 : Nat) : Int) := by omega
  rw [e, ← Int.natCast_ediv]
  omega
theorem more_count {u s k : Nat} (h : ∀ m, m < k → m * u < s) (h' : k * u < s) : ∀ m, m < k + 1 → m * u < s := fun m hm => by
  by_cases e : m < k
  · exact h m e
  · have : m = k := by omega
    subst this; exact h'
theorem rchunks_any (g : List Int) (hl : g.length = 6) (hk : Kept g) (w : World) :
    Calls Tryz.prog 22 #[.agg (ints .i64 g)] w fun x w' => x = .returned (.int .i64 (rec g)) ∧ Below w.heap.size w w' := by
  obtain ⟨u, hu⟩ : ∃ u : Nat, gb g 2 = (u : Int) := ⟨(gb g 2).toNat, by obtain ⟨-, -, h, -⟩ := hk; omega⟩
  have hu1 : 32 ≤ u ∧ u ≤ 4096 := by obtain ⟨-, -, h, -⟩ := hk; omega
  have HR : Hid (∀ n : Nat, 624 ≤ n * u → (∀ m, m < n → m * u < 624) → rec g = (n : Int)) := fun n h1 h2 => by
    unfold rec; rw [hu]; exact div_count u 624 n (by omega) h1 h2
  clear hk
  generalize rec g = z at *
  go_enter Tryz.func22, Tryz.ntmps22
  go_wp2_with (refine box_lawF _ rfl (.tmp 0) 23 rfl .i64 g rfl ?_; intro w1 X1 B1 L1; obtain ⟨f0, f1, f2, f3, f4, f5⟩ := geo_cells X1 hl)
  have c2 : w1.cell? ⟨w.heap.size, 2, none⟩ = some (.int .i64 (u : Int)) := by rw [f2, hu]
  clear f0 f1 f2 f3 f4 f5 X1 hu
  go_loopw [3] (fun i wr => ∃ k : Nat, k ≤ 20 ∧ i = .int .i64 k ∧ Hid (∀ m, m < k → m * u < 624) ∧ wr = w1) (fun i _ => 20 - (intOf i).toNat)
  case atStart => exact ⟨0, Nat.zero_le _, rfl, (fun j hj => by omega), rfl⟩
  case round =>
    obtain ⟨k, hk, rfl, HK, rfl⟩ := hrel
    have k0 : (0 : Int) ≤ (k : Int) := by omega
    have q1 : IntKind.i64.wrap (k : Int) = k := by rw [IntKind.wrap_i64]; omega
    obtain ⟨m, hm⟩ : ∃ m : Nat, m = k * u := ⟨_, rfl⟩
    have hm1 : m ≤ 81920 := by rw [hm]; exact Nat.le_trans (Nat.mul_le_mul hk hu1.2) (by omega)
    have qm : (k : Int) * (u : Int) = (m : Int) := by rw [hm]; simp
    have HM : Hid (m = k * u) := hm
    have h20 : Hid (640 ≤ 20 * u) := by show _ ≤ _; omega
    clear hm
    by_cases hlt : m < 624
    · have k1 : (m : Int) < 624 := by omega
      have hk20 : k < 20 := by
        rcases Nat.lt_or_ge k 20 with h | h
        · exact h
        · have : k = 20 := by omega
          subst this
          have := HM.out; have := h20.out; omega
      have HN : Hid (∀ m, m < k + 1 → m * u < 624) := more_count HK.out (by rw [← HM.out]; exact hlt)
      go_wp2
      go_roundw
      case rel => exact ⟨k + 1, by omega, by go_num, HN, by simp⟩
      case measure => simp [intOf]; omega
    · have k1 : ¬ (m : Int) < 624 := by omega
      have hz := HR.out k (by rw [← HM.out]; omega) HK.out
      subst hz
      go_wp2
      go_ret
      exact ⟨rfl, B1⟩
end Go.Proofs.YtakibiigcdgohaaGreatDoor.ge
namespace Go.Proofs.YtakibiigcdgohaaGreatDoor.ge
open Go.RowKit
set_option maxRecDepth 20000
theorem place_cells {w : World} {b : Nat} {g : List Int} (h : Ar w b 0 .i64 g) (hl : g.length = 2) : w.cell? ⟨b, 0, none⟩ = some (.int .i64 (gb g 0)) ∧ w.cell? ⟨b, 1, none⟩ = some (.int .i64 (gb g 1)) :=
  ⟨h.cell0 0 (by omega), h.cell0 1 (by omega)⟩
theorem index_wrong (g p : List Int) (hl : g.length = 6) (hp : p.length = 2) (h : ¬ Rt g) (w : World) :
    Calls Tryz.prog 102 #[.agg (ints .i64 g), .agg (ints .i64 p)] w fun x w' => x = .returned (.tuple #[.int .i64 0, .int .i64 2]) ∧ Below w.heap.size w w' := by
  have S : Hid (∀ w, Calls Tryz.prog 33 #[.agg (ints .i64 g)] w fun x w' => x = .returned (.int .i64 2) ∧ Below w.heap.size w w') := check_no g hl h
  clear h
  have t0 := tR
  go_enter Tryz.func102, Tryz.ntmps102
  go_wp2_with (first
    | (have q2 := t2; go_at_call 33; refine (S.out _).mono ?_; rintro e w3 ⟨rfl, B3⟩; have HX : Hid (Ar w3 w.heap.size 0 .i64 g) := HX.out.below B3 (HX.out.lt (by omega)); obtain ⟨e0, e1, e2, e3, e4, e5⟩ := geo_cells HX.out hl; have HP : Hid (Ar w3 w1.heap.size 0 .i64 p) := HP.out.below B3 (HP.out.lt (by omega)); obtain ⟨p0, p1⟩ := place_cells HP.out hp; have BB : Hid (Below w.heap.size w w3) := BB.out.trans (B3.mono BB.out.size); clear B3 t2)
    | (have q9 := HX; refine load_lawS _ (by rfl) _ _ rfl (load_geo HX.out hl) ?_)
    | (have q1 := t1; refine box_lawF _ rfl (.tmp 1) 112 rfl .i64 p rfl ?_; intro w2 X2 B2 L2; have HP : Hid (Ar w2 w1.heap.size 0 .i64 p) := X2; have HX : Hid (Ar w2 w.heap.size 0 .i64 g) := HX.out.below B2 L1; have BB : Hid (Below w.heap.size w w2) := BB.out.trans (B2.mono BB.out.size); have t2 := tR; clear X2 t1 B2)
    | (have q0 := t0; refine box_lawF _ rfl (.tmp 0) 23 rfl .i64 g rfl ?_; intro w1 X1 B1 L1; have HX : Hid (Ar w1 w.heap.size 0 .i64 g) := X1; have BB : Hid (Below w.heap.size w w1) := B1; have t1 := tR; clear X1 t0 B1))
  go_ret2
  exact ⟨rfl, BB.out⟩
theorem index_n0 (g p : List Int) (hl : g.length = 6) (hp : p.length = 2) (h : Rt g) (h0 : gb p 0 < 0) (w : World) :
    Calls Tryz.prog 102 #[.agg (ints .i64 g), .agg (ints .i64 p)] w fun x w' => x = .returned (.tuple #[.int .i64 0, .int .i64 2]) ∧ Below w.heap.size w w' := by
  have S : Hid (∀ w, Calls Tryz.prog 33 #[.agg (ints .i64 g)] w fun x w' => x = .returned (.int .i64 0) ∧ Below w.heap.size w w') := check_yes g hl h
  clear h
  have t0 := tR
  go_enter Tryz.func102, Tryz.ntmps102
  go_wp2_with (first
    | (have q2 := t2; go_at_call 33; refine (S.out _).mono ?_; rintro e w3 ⟨rfl, B3⟩; have HX : Hid (Ar w3 w.heap.size 0 .i64 g) := HX.out.below B3 (HX.out.lt (by omega)); obtain ⟨e0, e1, e2, e3, e4, e5⟩ := geo_cells HX.out hl; have HP : Hid (Ar w3 w1.heap.size 0 .i64 p) := HP.out.below B3 (HP.out.lt (by omega)); obtain ⟨p0, p1⟩ := place_cells HP.out hp; have BB : Hid (Below w.heap.size w w3) := BB.out.trans (B3.mono BB.out.size); clear B3 t2)
    | (have q9 := HX; refine load_lawS _ (by rfl) _ _ rfl (load_geo HX.out hl) ?_)
    | (have q1 := t1; refine box_lawF _ rfl (.tmp 1) 112 rfl .i64 p rfl ?_; intro w2 X2 B2 L2; have HP : Hid (Ar w2 w1.heap.size 0 .i64 p) := X2; have HX : Hid (Ar w2 w.heap.size 0 .i64 g) := HX.out.below B2 L1; have BB : Hid (Below w.heap.size w w2) := BB.out.trans (B2.mono BB.out.size); have t2 := tR; clear X2 t1 B2)
    | (have q0 := t0; refine box_lawF _ rfl (.tmp 0) 23 rfl .i64 g rfl ?_; intro w1 X1 B1 L1; have HX : Hid (Ar w1 w.heap.size 0 .i64 g) := X1; have BB : Hid (Below w.heap.size w w1) := B1; have t1 := tR; clear X1 t0 B1))
  go_ret2
  exact ⟨rfl, BB.out⟩
theorem index_n1 (g p : List Int) (hl : g.length = 6) (hp : p.length = 2) (h : Rt g) (h0 : ¬ gb p 0 < 0) (h1 : gb g 0 ≤ gb p 0) (w : World) :
    Calls Tryz.prog 102 #[.agg (ints .i64 g), .agg (ints .i64 p)] w fun x w' => x = .returned (.tuple #[.int .i64 0, .int .i64 2]) ∧ Below w.heap.size w w' := by
  have S : Hid (∀ w, Calls Tryz.prog 33 #[.agg (ints .i64 g)] w fun x w' => x = .returned (.int .i64 0) ∧ Below w.heap.size w w') := check_yes g hl h
  clear h
  have t0 := tR
  go_enter Tryz.func102, Tryz.ntmps102
  go_wp2_with (first
    | (have q2 := t2; go_at_call 33; refine (S.out _).mono ?_; rintro e w3 ⟨rfl, B3⟩; have HX : Hid (Ar w3 w.heap.size 0 .i64 g) := HX.out.below B3 (HX.out.lt (by omega)); obtain ⟨e0, e1, e2, e3, e4, e5⟩ := geo_cells HX.out hl; have HP : Hid (Ar w3 w1.heap.size 0 .i64 p) := HP.out.below B3 (HP.out.lt (by omega)); obtain ⟨p0, p1⟩ := place_cells HP.out hp; have BB : Hid (Below w.heap.size w w3) := BB.out.trans (B3.mono BB.out.size); clear B3 t2)
    | (have q9 := HX; refine load_lawS _ (by rfl) _ _ rfl (load_geo HX.out hl) ?_)
    | (have q1 := t1; refine box_lawF _ rfl (.tmp 1) 112 rfl .i64 p rfl ?_; intro w2 X2 B2 L2; have HP : Hid (Ar w2 w1.heap.size 0 .i64 p) := X2; have HX : Hid (Ar w2 w.heap.size 0 .i64 g) := HX.out.below B2 L1; have BB : Hid (Below w.heap.size w w2) := BB.out.trans (B2.mono BB.out.size); have t2 := tR; clear X2 t1 B2)
    | (have q0 := t0; refine box_lawF _ rfl (.tmp 0) 23 rfl .i64 g rfl ?_; intro w1 X1 B1 L1; have HX : Hid (Ar w1 w.heap.size 0 .i64 g) := X1; have BB : Hid (Below w.heap.size w w1) := B1; have t1 := tR; clear X1 t0 B1))
  go_ret2
  exact ⟨rfl, BB.out⟩
theorem index_n2 (g p : List Int) (hl : g.length = 6) (hp : p.length = 2) (h : Rt g) (h0 : ¬ gb p 0 < 0) (h1 : ¬ gb g 0 ≤ gb p 0) (h2 : gb p 1 < 0) (w : World) :
    Calls Tryz.prog 102 #[.agg (ints .i64 g), .agg (ints .i64 p)] w fun x w' => x = .returned (.tuple #[.int .i64 0, .int .i64 2]) ∧ Below w.heap.size w w' := by
  have S : Hid (∀ w, Calls Tryz.prog 33 #[.agg (ints .i64 g)] w fun x w' => x = .returned (.int .i64 0) ∧ Below w.heap.size w w') := check_yes g hl h
  clear h
  have t0 := tR
  go_enter Tryz.func102, Tryz.ntmps102
  go_wp2_with (first
    | (have q2 := t2; go_at_call 33; refine (S.out _).mono ?_; rintro e w3 ⟨rfl, B3⟩; have HX : Hid (Ar w3 w.heap.size 0 .i64 g) := HX.out.below B3 (HX.out.lt (by omega)); obtain ⟨e0, e1, e2, e3, e4, e5⟩ := geo_cells HX.out hl; have HP : Hid (Ar w3 w1.heap.size 0 .i64 p) := HP.out.below B3 (HP.out.lt (by omega)); obtain ⟨p0, p1⟩ := place_cells HP.out hp; have BB : Hid (Below w.heap.size w w3) := BB.out.trans (B3.mono BB.out.size); clear B3 t2)
    | (have q9 := HX; refine load_lawS _ (by rfl) _ _ rfl (load_geo HX.out hl) ?_)
    | (have q1 := t1; refine box_lawF _ rfl (.tmp 1) 112 rfl .i64 p rfl ?_; intro w2 X2 B2 L2; have HP : Hid (Ar w2 w1.heap.size 0 .i64 p) := X2; have HX : Hid (Ar w2 w.heap.size 0 .i64 g) := HX.out.below B2 L1; have BB : Hid (Below w.heap.size w w2) := BB.out.trans (B2.mono BB.out.size); have t2 := tR; clear X2 t1 B2)
    | (have q0 := t0; refine box_lawF _ rfl (.tmp 0) 23 rfl .i64 g rfl ?_; intro w1 X1 B1 L1; have HX : Hid (Ar w1 w.heap.size 0 .i64 g) := X1; have BB : Hid (Below w.heap.size w w1) := B1; have t1 := tR; clear X1 t0 B1))
  go_ret2
  exact ⟨rfl, BB.out⟩
theorem index_n3 (g p : List Int) (hl : g.length = 6) (hp : p.length = 2) (h : Rt g) (h0 : ¬ gb p 0 < 0) (h1 : ¬ gb g 0 ≤ gb p 0) (h2 : ¬ gb p 1 < 0) (h3 : gb g 1 ≤ gb p 1) (w : World) :
    Calls Tryz.prog 102 #[.agg (ints .i64 g), .agg (ints .i64 p)] w fun x w' => x = .returned (.tuple #[.int .i64 0, .int .i64 2]) ∧ Below w.heap.size w w' := by
  have S : Hid (∀ w, Calls Tryz.prog 33 #[.agg (ints .i64 g)] w fun x w' => x = .returned (.int .i64 0) ∧ Below w.heap.size w w') := check_yes g hl h
  clear h
  have t0 := tR
  go_enter Tryz.func102, Tryz.ntmps102
  go_wp2_with (first
    | (have q2 := t2; go_at_call 33; refine (S.out _).mono ?_; rintro e w3 ⟨rfl, B3⟩; have HX : Hid (Ar w3 w.heap.size 0 .i64 g) := HX.out.below B3 (HX.out.lt (by omega)); obtain ⟨e0, e1, e2, e3, e4, e5⟩ := geo_cells HX.out hl; have HP : Hid (Ar w3 w1.heap.size 0 .i64 p) := HP.out.below B3 (HP.out.lt (by omega)); obtain ⟨p0, p1⟩ := place_cells HP.out hp; have BB : Hid (Below w.heap.size w w3) := BB.out.trans (B3.mono BB.out.size); clear B3 t2)
    | (have q9 := HX; refine load_lawS _ (by rfl) _ _ rfl (load_geo HX.out hl) ?_)
    | (have q1 := t1; refine box_lawF _ rfl (.tmp 1) 112 rfl .i64 p rfl ?_; intro w2 X2 B2 L2; have HP : Hid (Ar w2 w1.heap.size 0 .i64 p) := X2; have HX : Hid (Ar w2 w.heap.size 0 .i64 g) := HX.out.below B2 L1; have BB : Hid (Below w.heap.size w w2) := BB.out.trans (B2.mono BB.out.size); have t2 := tR; clear X2 t1 B2)
    | (have q0 := t0; refine box_lawF _ rfl (.tmp 0) 23 rfl .i64 g rfl ?_; intro w1 X1 B1 L1; have HX : Hid (Ar w1 w.heap.size 0 .i64 g) := X1; have BB : Hid (Below w.heap.size w w1) := B1; have t1 := tR; clear X1 t0 B1))
  go_ret2
  exact ⟨rfl, BB.out⟩
theorem index_yes (g p : List Int) (hl : g.length = 6) (hp : p.length = 2) (h : Rt g) (h0 : ¬ gb p 0 < 0) (h1 : ¬ gb g 0 ≤ gb p 0) (h2 : ¬ gb p 1 < 0) (h3 : ¬ gb g 1 ≤ gb p 1) (w : World) :
    Calls Tryz.prog 102 #[.agg (ints .i64 g), .agg (ints .i64 p)] w fun x w' => x = .returned (.tuple #[.int .i64 (gb p 0 * gb g 1 + gb p 1), .int .i64 0]) ∧ Below w.heap.size w w' := by
  have S : Hid (∀ w, Calls Tryz.prog 33 #[.agg (ints .i64 g)] w fun x w' => x = .returned (.int .i64 0) ∧ Below w.heap.size w w') := check_yes g hl h
  obtain ⟨m, hm⟩ : ∃ m, m = gb p 0 * gb g 1 := ⟨_, rfl⟩
  have m0 : 0 ≤ m := by rw [hm]; exact Int.mul_nonneg (by omega) (by obtain ⟨⟨-, h, -⟩, -⟩ := h; omega)
  have m1 : m ≤ 64 * 32 := by rw [hm]; exact Int.mul_le_mul (by obtain ⟨⟨h, -⟩, -⟩ := h; omega) (by obtain ⟨⟨-, h, -⟩, -⟩ := h; omega) (by obtain ⟨⟨-, h, -⟩, -⟩ := h; omega) (by omega)
  have qm : gb p 0 * gb g 1 = m := hm.symm
  rw [qm]
  have q1 : IntKind.i64.wrap m = m := by rw [IntKind.wrap_i64]; omega
  have q2 : IntKind.i64.wrap (m + gb p 1) = m + gb p 1 := by obtain ⟨⟨-, h, -⟩, -⟩ := h; rw [IntKind.wrap_i64]; omega
  obtain ⟨z, hz⟩ : ∃ z, m + gb p 1 = z := ⟨_, rfl⟩
  rw [hz] at q2 ⊢
  clear h hm m0 m1
  have t0 := tR
  go_enter Tryz.func102, Tryz.ntmps102
  go_wp2_with (first
    | (have q2 := t2; go_at_call 33; refine (S.out _).mono ?_; rintro e w3 ⟨rfl, B3⟩; have HX : Hid (Ar w3 w.heap.size 0 .i64 g) := HX.out.below B3 (HX.out.lt (by omega)); obtain ⟨e0, e1, e2, e3, e4, e5⟩ := geo_cells HX.out hl; have HP : Hid (Ar w3 w1.heap.size 0 .i64 p) := HP.out.below B3 (HP.out.lt (by omega)); obtain ⟨p0, p1⟩ := place_cells HP.out hp; have BB : Hid (Below w.heap.size w w3) := BB.out.trans (B3.mono BB.out.size); clear B3 t2)
    | (have q9 := HX; refine load_lawS _ (by rfl) _ _ rfl (load_geo HX.out hl) ?_)
    | (have q1 := t1; refine box_lawF _ rfl (.tmp 1) 112 rfl .i64 p rfl ?_; intro w2 X2 B2 L2; have HP : Hid (Ar w2 w1.heap.size 0 .i64 p) := X2; have HX : Hid (Ar w2 w.heap.size 0 .i64 g) := HX.out.below B2 L1; have BB : Hid (Below w.heap.size w w2) := BB.out.trans (B2.mono BB.out.size); have t2 := tR; clear X2 t1 B2)
    | (have q0 := t0; refine box_lawF _ rfl (.tmp 0) 23 rfl .i64 g rfl ?_; intro w1 X1 B1 L1; have HX : Hid (Ar w1 w.heap.size 0 .i64 g) := X1; have BB : Hid (Below w.heap.size w w1) := B1; have t1 := tR; clear X1 t0 B1))
  go_ret2
  exact ⟨rfl, BB.out⟩
def Pg (g p : List Int) : Prop := ¬ gb p 0 < 0 ∧ ¬ gb g 0 ≤ gb p 0 ∧ ¬ gb p 1 < 0 ∧ ¬ gb g 1 ≤ gb p 1
theorem index_no (g p : List Int) (hl : g.length = 6) (hp : p.length = 2) (h : ¬ (Rt g ∧ Pg g p)) (w : World) :
    Calls Tryz.prog 102 #[.agg (ints .i64 g), .agg (ints .i64 p)] w fun x w' => x = .returned (.tuple #[.int .i64 0, .int .i64 2]) ∧ Below w.heap.size w w' := by
  by_cases hr : Rt g
  · by_cases h0 : gb p 0 < 0
    · exact index_n0 g p hl hp hr h0 w
    · by_cases h1 : gb g 0 ≤ gb p 0
      · exact index_n1 g p hl hp hr h0 h1 w
      · by_cases h2 : gb p 1 < 0
        · exact index_n2 g p hl hp hr h0 h1 h2 w
        · exact index_n3 g p hl hp hr h0 h1 h2 (Int.not_lt.1 fun h3 => h ⟨hr, h0, h1, h2, fun h4 => by omega⟩) w
  · exact index_wrong g p hl hp hr w
end Go.Proofs.YtakibiigcdgohaaGreatDoor.ge
namespace Go.Proofs.YtakibiigcdgohaaGreatDoor.ge
open Go.RowKit
set_option maxRecDepth 20000
section
variable {ops : Array Oper} {o : Oper} {a : Act} {Q : Exit → Act → World → Prop} {K : Act → World → Prop} {E : Prop}
theorem step_callW (w : World) (hw : Region.wanted o (yielded ops a.tmps) = true) (d : Option Tmp) (hd : o.dst = d) (f : FuncId) (args : Array Operand) (ats : Array TypeId) (hop : o.op = .call { callee := .value (.func f), args := args, argTypes := ats })
    (hcf : ∀ (q : Array Value) (w : World), (callFunc f q).run Tryz.prog w = .ok (.enter f q) w) (vs : Array Value) (hx : args.map a.eval = vs) (R : Value → World → Prop) (hc : Calls Tryz.prog f vs w fun e w' => ∃ v, e = .returned v ∧ R v w') (hK : ∀ v w', R v w' → K (a.put d v) w') : if Region.wanted o (yielded ops a.tmps) = true then Oper.wp Tryz.prog o a w K Q else E := by
  rw [if_pos hw]
  subst hd
  subst hx
  unfold Oper.wp
  simp only [execOp, hop]
  go_simp
  refine hc.mono ?_
  rintro e w' ⟨v, rfl, hr⟩
  exact hK v w' hr
end
end Go.Proofs.YtakibiigcdgohaaGreatDoor.ge
namespace Go.Proofs.YtakibiigcdgohaaGreatDoor.na
open Go.RowKit Go.Proofs.YtakibiigcdgohaaGreatDoor.fa
set_option maxRecDepth 20000
theorem index_nat (g p : List Int) (hl : g.length = 6) (hp : p.length = 2) (h : ge.Rt g) (N P b j : Nat) (g0 : gb g 0 = N) (g1 : gb g 1 = P) (e0 : gb p 0 = b) (e1 : gb p 1 = j) (hb : b < N) (hj : j < P) (w : World) :
    Calls Tryz.prog 102 #[.agg (ints .i64 g), .agg (ints .i64 p)] w fun x w' => x = .returned (.tuple #[.int .i64 ((b * P + j : Nat) : Int), .int .i64 0]) ∧ Below w.heap.size w w' := by
  have := ge.index_yes g p hl hp h (by omega) (by omega) (by omega) (by omega) w
  rw [e0, e1, g1] at this
  have e : ((b * P + j : Nat) : Int) = (b : Int) * (P : Int) + (j : Int) := by simp
  rw [e]; exact this
theorem index_none (g p : List Int) (hl : g.length = 6) (hp : p.length = 2) (N P : Nat) (g0 : gb g 0 = N) (g1 : gb g 1 = P) (h : ¬ (0 ≤ gb p 0 ∧ gb p 0 < N ∧ 0 ≤ gb p 1 ∧ gb p 1 < P)) (w : World) :
    Calls Tryz.prog 102 #[.agg (ints .i64 g), .agg (ints .i64 p)] w fun x w' => x = .returned (.tuple #[.int .i64 0, .int .i64 2]) ∧ Below w.heap.size w w' :=
  ge.index_no g p hl hp (fun q => h (by obtain ⟨-, a, b, c, d⟩ := q; omega)) w
theorem idx_fits {N P S b j : Nat} (hb : b < N) (hj : j < P) : (b * P + j + 1) * S ≤ N * (P * S) ∧ b * P + j < N * P := by
  have h1 : b * P + j + 1 ≤ N * P := by
    have := Nat.mul_le_mul_right P (show b + 1 ≤ N by omega)
    rw [Nat.succ_mul] at this; omega
  have := Nat.mul_le_mul_right S h1
  rw [Nat.mul_assoc] at this
  exact ⟨this, by omega⟩
theorem psize_nat (g : List Int) (hl : g.length = 6) (h : ge.Rt g) (S : Nat) (e : gb g 2 + 88 = S) (w : World) :
    Calls Tryz.prog 37 #[.agg (ints .i64 g)] w fun x w' => x = .returned (.int .i64 (S : Int)) ∧ Below w.heap.size w w' := by
  have := ge.psize_yes g hl h w
  rw [e] at this; exact this
section
variable {M : Nat → Bool} {w : World} {c r d : Nat} {q : Nat → Nat} {pv tv : Value} {g : List Int} {N P S : Nat} {pl : Pln} {X : Raw}
theorem pageCells_no (h : Lay M w c r d q pv tv g N P S pl X) (p : List Int) (hp : p.length = 2) (hn : ¬ (0 ≤ gb p 0 ∧ gb p 0 < N ∧ 0 ≤ gb p 1 ∧ gb p 1 < P)) :
    Calls Tryz.prog 83 #[.pointer (some ⟨c, 0, none⟩), .agg (ints .i64 p)] w fun e w' => e = .returned (.tuple #[.slice none 0 0, .int .i64 2]) ∧ Below w.heap.size w w' := by
  have HL : Hid (Lay M w c r d q pv tv g N P S pl X) := h
  obtain ⟨gl, hr, g0, g1, g2⟩ := h.1
  have SI : Hid (∀ w, Calls Tryz.prog 102 #[.agg (ints .i64 g), .agg (ints .i64 p)] w fun x w' => x = .returned (.tuple #[.int .i64 0, .int .i64 2]) ∧ Below w.heap.size w w') := index_none g p gl hp N P g0 g1 hn
  clear hn
  clear h
  have t0 := tR
  go_enter Tryz.func83, Tryz.ntmps83
  go_wp2_with (have q0 := t0; refine box_lawF _ rfl (.tmp 1) 112 rfl .i64 p rfl ?_; intro w1 X1 B1 l1; have HP : Hid (Ar w1 w.heap.size 0 .i64 p) := X1; have HL : Hid (Lay M w1 c r d q pv tv g N P S pl X) := HL.out.below B1; have BB : Hid (Below w.heap.size w w1) := B1; clear X1 B1 t0)
  refine wp_region_held_drew (S := fun w' => Below w1.heap.size w1 w') (by kernel_rfl) (Below.refl _ _).drew (fun hS => ?_)
  obtain ⟨x1, hx0⟩ : ∃ x, x = w1.drew := ⟨_, rfl⟩
  rw [← hx0] at hS  ⊢
  clear hx0
  refine tkH 0 (some 9) (.pointer (some ⟨c, 0, none⟩)) rfl rfl (Or.inl ⟨by rfl, fun w' hw' => by rfl⟩) hS ?_
  simp only [Act.put, zE1, zE2, zE3]
  refine tkH 1 (some 10) (.pointer (some ⟨c, 0, none⟩)) rfl rfl (Or.inl ⟨by rfl, fun w' hw' => by go_simp⟩) hS ?_
  simp only [Act.put, zE1, zE2, zE3]
  refine tkH 2 (some 11) (.pointer (some ⟨c, 0, none⟩)) rfl rfl (Or.inl ⟨by rfl, fun w' hw' => by go_simp⟩) hS ?_
  simp only [Act.put, zE1, zE2, zE3]
  refine tkH 3 (some 12) (.agg (ints .i64 g)) rfl rfl (Or.inl ⟨by rfl, fun w' hw' => by exact exec_loadN 23 (.tmp 11) rfl _ rfl _ _ (ld_geo gl (HL.out.below hw').geo)⟩) hS ?_
  simp only [Act.put, zE1, zE2, zE3]
  refine tkH 4 (some 13) (.agg (ints .i64 p)) rfl rfl (Or.inl ⟨by rfl, fun w' hw' => by exact exec_loadN 112 (.tmp 3) rfl _ rfl _ _ (ld_place hp (HP.out.below hw' l1).1)⟩) hS ?_
  simp only [Act.put, zE1, zE2, zE3]
  refine wpAnyH_ready (rs := [5]) (by kernel_rfl) (by simp) ?_
  refine AllReadyH.cons rfl (fun K hK => ?_) AllReadyH.nil
  refine ge.step_callW _ (by rfl) (some 14) rfl 102 #[.tmp 12, .tmp 13] #[23, 112] rfl (fun q w' => by rfl) #[.agg (ints .i64 g), .agg (ints .i64 p)] (by simp only [List.map_toArray, List.map_cons, List.map_nil]; rfl) (fun v w' => v = (.tuple #[.int .i64 (0), .int .i64 2]) ∧ Below x1.heap.size x1 w') ?_ ?_
  · exact (SI.out x1).mono fun e w' ⟨h1, h2⟩ => ⟨_, h1, rfl, h2⟩
  rintro _ x2 ⟨rfl, hb⟩
  have hS : Below w1.heap.size w1 x2 := hS.trans (hb.mono hS.size)
  clear hb
  refine hK.out _ _ hS (fun _ => ?_)
  simp only [Act.put, zE1, zE2, zE3]
  clear hK K
  refine tkH 6 (some 8) ((.tuple #[.int .i64 (0), .int .i64 2])) rfl rfl (Or.inl ⟨by rfl, fun w' hw' => by rfl⟩) hS ?_
  simp only [Act.put, zE1, zE2, zE3]
  refine tkH 7 (some 15) (.int .i64 (0)) rfl rfl (Or.inl ⟨by rfl, fun w' hw' => by rfl⟩) hS ?_
  simp only [Act.put, zE1, zE2, zE3]
  refine tkH 8 (some 16) (.int .i64 2) rfl rfl (Or.inl ⟨by rfl, fun w' hw' => by rfl⟩) hS ?_
  simp only [Act.put, zE1, zE2, zE3]
  refine tkH 9 (some 6) (.int .i64 (0)) rfl rfl (Or.inl ⟨by rfl, fun w' hw' => by rfl⟩) hS ?_
  simp only [Act.put, zE1, zE2, zE3]
  refine tkH 10 (some 7) (.int .i64 2) rfl rfl (Or.inl ⟨by rfl, fun w' hw' => by rfl⟩) hS ?_
  simp only [Act.put, zE1, zE2, zE3]
  refine wpAnyH_done (by kernel_rfl) ?_ _
  have BB : Hid (Below w.heap.size w x2) := BB.out.trans (hS.mono BB.out.size)
  have HL : Hid (Lay M x2 c r d q pv tv g N P S pl X) := HL.out.below hS
  clear hS
  go_wp2
  go_ret2
  exact ⟨rfl, BB.out⟩
theorem pageCells_yes (h : Lay M w c r d q pv tv g N P S pl X) (p : List Int) (hp : p.length = 2) (b j n : Nat) (e0 : gb p 0 = b) (e1 : gb p 1 = j) (hb : b < N) (hj : j < P) (hn : n = b * P + j) :
    Calls Tryz.prog 83 #[.pointer (some ⟨c, 0, none⟩), .agg (ints .i64 p)] w fun e w' => e = .returned (.tuple #[.slice (some ⟨d, n * S, none⟩) S (N * (P * S) - n * S), .int .i64 0]) ∧ Below w.heap.size w w' := by
  have HL : Hid (Lay M w c r d q pv tv g N P S pl X) := h
  obtain ⟨gl, hr, g0, g1, g2⟩ := h.1
  have SI : Hid (∀ w, Calls Tryz.prog 102 #[.agg (ints .i64 g), .agg (ints .i64 p)] w fun x w' => x = .returned (.tuple #[.int .i64 ((n : Nat) : Int), .int .i64 0]) ∧ Below w.heap.size w w') := by
    subst hn; exact index_nat g p gl hp hr N P b j g0 g1 e0 e1 hb hj
  have SP : Hid (∀ w, Calls Tryz.prog 37 #[.agg (ints .i64 g)] w fun x w' => x = .returned (.int .i64 (S : Int)) ∧ Below w.heap.size w w') := psize_nat g gl hr S g2
  have SQ : Hid (∀ w, Calls Tryz.prog 103 #[.slice (some ⟨d, 0, none⟩) (N * (P * S)) (N * (P * S)), .int .i64 (n : Int), .int .i64 (S : Int)] w fun e w' => e = .returned (.slice (some ⟨d, n * S, none⟩) S (N * (P * S) - n * S)) ∧ Below w.heap.size w w') := fun w => by
    obtain ⟨a1, a2, a3, a4, a5, a6⟩ := h.num
    obtain ⟨b1, b2, b3⟩ := h.bytes
    have f := idx_fits (S := S) hb hj
    rw [← hn] at f
    have f3 : n < N * P := f.2
    have f4 : N * P ≤ 64 * 32 := Nat.mul_le_mul a2 a4
    exact (part_any d (N * (P * S)) n S w (by omega) f.1 (by omega) (by omega) (by omega)).mono fun e w' ⟨h1, h2⟩ => ⟨h1, by rw [h2]; exact Below.refl _ _⟩
  clear hb hj e0 e1 hn
  clear h
  have t0 := tR
  go_enter Tryz.func83, Tryz.ntmps83
  go_wp2_with (have q0 := t0; refine box_lawF _ rfl (.tmp 1) 112 rfl .i64 p rfl ?_; intro w1 X1 B1 l1; have HP : Hid (Ar w1 w.heap.size 0 .i64 p) := X1; have HL : Hid (Lay M w1 c r d q pv tv g N P S pl X) := HL.out.below B1; have BB : Hid (Below w.heap.size w w1) := B1; clear X1 B1 t0)
  refine wp_region_held_drew (S := fun w' => Below w1.heap.size w1 w') (by kernel_rfl) (Below.refl _ _).drew (fun hS => ?_)
  obtain ⟨x1, hx0⟩ : ∃ x, x = w1.drew := ⟨_, rfl⟩
  rw [← hx0] at hS  ⊢
  clear hx0
  refine tkH 0 (some 9) (.pointer (some ⟨c, 0, none⟩)) rfl rfl (Or.inl ⟨by rfl, fun w' hw' => by rfl⟩) hS ?_
  simp only [Act.put, zE1, zE2, zE3]
  refine tkH 1 (some 10) (.pointer (some ⟨c, 0, none⟩)) rfl rfl (Or.inl ⟨by rfl, fun w' hw' => by go_simp⟩) hS ?_
  simp only [Act.put, zE1, zE2, zE3]
  refine tkH 2 (some 11) (.pointer (some ⟨c, 0, none⟩)) rfl rfl (Or.inl ⟨by rfl, fun w' hw' => by go_simp⟩) hS ?_
  simp only [Act.put, zE1, zE2, zE3]
  refine tkH 3 (some 12) (.agg (ints .i64 g)) rfl rfl (Or.inl ⟨by rfl, fun w' hw' => by exact exec_loadN 23 (.tmp 11) rfl _ rfl _ _ (ld_geo gl (HL.out.below hw').geo)⟩) hS ?_
  simp only [Act.put, zE1, zE2, zE3]
  refine tkH 4 (some 13) (.agg (ints .i64 p)) rfl rfl (Or.inl ⟨by rfl, fun w' hw' => by exact exec_loadN 112 (.tmp 3) rfl _ rfl _ _ (ld_place hp (HP.out.below hw' l1).1)⟩) hS ?_
  simp only [Act.put, zE1, zE2, zE3]
  refine wpAnyH_ready (rs := [5]) (by kernel_rfl) (by simp) ?_
  refine AllReadyH.cons rfl (fun K hK => ?_) AllReadyH.nil
  refine ge.step_callW _ (by rfl) (some 14) rfl 102 #[.tmp 12, .tmp 13] #[23, 112] rfl (fun q w' => by rfl) #[.agg (ints .i64 g), .agg (ints .i64 p)] (by simp only [List.map_toArray, List.map_cons, List.map_nil]; rfl) (fun v w' => v = (.tuple #[.int .i64 (((n : Nat) : Int)), .int .i64 0]) ∧ Below x1.heap.size x1 w') ?_ ?_
  · exact (SI.out x1).mono fun e w' ⟨h1, h2⟩ => ⟨_, h1, rfl, h2⟩
  rintro _ x2 ⟨rfl, hb⟩
  have hS : Below w1.heap.size w1 x2 := hS.trans (hb.mono hS.size)
  clear hb
  refine hK.out _ _ hS (fun _ => ?_)
  simp only [Act.put, zE1, zE2, zE3]
  clear hK K
  refine tkH 6 (some 8) ((.tuple #[.int .i64 (((n : Nat) : Int)), .int .i64 0])) rfl rfl (Or.inl ⟨by rfl, fun w' hw' => by rfl⟩) hS ?_
  simp only [Act.put, zE1, zE2, zE3]
  refine tkH 7 (some 15) (.int .i64 (((n : Nat) : Int))) rfl rfl (Or.inl ⟨by rfl, fun w' hw' => by rfl⟩) hS ?_
  simp only [Act.put, zE1, zE2, zE3]
  refine tkH 8 (some 16) (.int .i64 0) rfl rfl (Or.inl ⟨by rfl, fun w' hw' => by rfl⟩) hS ?_
  simp only [Act.put, zE1, zE2, zE3]
  refine tkH 9 (some 6) (.int .i64 (((n : Nat) : Int))) rfl rfl (Or.inl ⟨by rfl, fun w' hw' => by rfl⟩) hS ?_
  simp only [Act.put, zE1, zE2, zE3]
  refine tkH 10 (some 7) (.int .i64 0) rfl rfl (Or.inl ⟨by rfl, fun w' hw' => by rfl⟩) hS ?_
  simp only [Act.put, zE1, zE2, zE3]
  refine wpAnyH_done (by kernel_rfl) ?_ _
  have BB : Hid (Below w.heap.size w x2) := BB.out.trans (hS.mono BB.out.size)
  have HL : Hid (Lay M x2 c r d q pv tv g N P S pl X) := HL.out.below hS
  clear hS
  go_wp2
  refine wp_region_held_drew (S := fun w' => Below x2.heap.size x2 w') (by kernel_rfl) (Below.refl _ _).drew (fun hS => ?_)
  obtain ⟨y1, hx0⟩ : ∃ x, x = x2.drew := ⟨_, rfl⟩
  rw [← hx0] at hS  ⊢
  clear hx0
  refine tkH 0 (some 20) (.pointer (some ⟨c, 0, none⟩)) rfl rfl (Or.inl ⟨by rfl, fun w' hw' => by rfl⟩) hS ?_
  simp only [Act.put, zE1, zE2, zE3]
  refine tkH 1 (some 21) (.pointer (some ⟨c, 0, none⟩)) rfl rfl (Or.inl ⟨by rfl, fun w' hw' => by go_simp⟩) hS ?_
  simp only [Act.put, zE1, zE2, zE3]
  refine tkH 2 (some 22) (.pointer (some ⟨c, 8, none⟩)) rfl rfl (Or.inl ⟨by rfl, fun w' hw' => by go_simp⟩) hS ?_
  simp only [Act.put, zE1, zE2, zE3]
  refine tkH 3 (some 23) (.slice (some ⟨d, 0, none⟩) (N * (P * S)) (N * (P * S))) rfl rfl (Or.inl ⟨by rfl, fun w' hw' => by exact exec_loadN 35 (.tmp 22) rfl _ rfl _ _ (load_one one_bytes (HL.out.below hw').cells.2.2.1)⟩) hS ?_
  simp only [Act.put, zE1, zE2, zE3]
  refine tkH 4 (some 24) (.int .i64 (n : Int)) rfl rfl (Or.inl ⟨by rfl, fun w' hw' => by rfl⟩) hS ?_
  simp only [Act.put, zE1, zE2, zE3]
  refine tkH 5 (some 25) (.pointer (some ⟨c, 0, none⟩)) rfl rfl (Or.inl ⟨by rfl, fun w' hw' => by rfl⟩) hS ?_
  simp only [Act.put, zE1, zE2, zE3]
  refine tkH 6 (some 26) (.pointer (some ⟨c, 0, none⟩)) rfl rfl (Or.inl ⟨by rfl, fun w' hw' => by go_simp⟩) hS ?_
  simp only [Act.put, zE1, zE2, zE3]
  refine tkH 7 (some 27) (.pointer (some ⟨c, 0, none⟩)) rfl rfl (Or.inl ⟨by rfl, fun w' hw' => by go_simp⟩) hS ?_
  simp only [Act.put, zE1, zE2, zE3]
  refine tkH 8 (some 28) (.agg (ints .i64 g)) rfl rfl (Or.inl ⟨by rfl, fun w' hw' => by exact exec_loadN 23 (.tmp 27) rfl _ rfl _ _ (ld_geo gl (HL.out.below hw').geo)⟩) hS ?_
  simp only [Act.put, zE1, zE2, zE3]
  refine wpAnyH_ready (rs := [9]) (by kernel_rfl) (by simp) ?_
  refine AllReadyH.cons rfl (fun K hK => ?_) AllReadyH.nil
  refine ge.step_callW _ (by rfl) (some 29) rfl 37 #[.tmp 28] #[23] rfl (fun q w' => by rfl) #[.agg (ints .i64 g)] (by simp only [List.map_toArray, List.map_cons, List.map_nil]; rfl) (fun v w' => v = (.int .i64 (S : Int)) ∧ Below y1.heap.size y1 w') ?_ ?_
  · exact (SP.out y1).mono fun e w' ⟨h1, h2⟩ => ⟨_, h1, rfl, h2⟩
  rintro _ y2 ⟨rfl, hb⟩
  have hS : Below x2.heap.size x2 y2 := hS.trans (hb.mono hS.size)
  clear hb
  refine hK.out _ _ hS (fun _ => ?_)
  simp only [Act.put, zE1, zE2, zE3]
  clear hK K
  refine wpAnyH_ready (rs := [10]) (by kernel_rfl) (by simp) ?_
  refine AllReadyH.cons rfl (fun K hK => ?_) AllReadyH.nil
  refine ge.step_callW _ (by rfl) (some 30) rfl 103 #[.tmp 23, .tmp 24, .tmp 29] #[35, 3, 3] rfl (fun q w' => by rfl) #[.slice (some ⟨d, 0, none⟩) (N * (P * S)) (N * (P * S)), .int .i64 (n : Int), .int .i64 (S : Int)] (by simp only [List.map_toArray, List.map_cons, List.map_nil]; rfl) (fun v w' => v = (.slice (some ⟨d, n * S, none⟩) S (N * (P * S) - n * S)) ∧ Below y2.heap.size y2 w') ?_ ?_
  · exact (SQ.out y2).mono fun e w' ⟨h1, h2⟩ => ⟨_, h1, rfl, h2⟩
  rintro _ y3 ⟨rfl, hb⟩
  have hS : Below x2.heap.size x2 y3 := hS.trans (hb.mono hS.size)
  clear hb
  refine hK.out _ _ hS (fun _ => ?_)
  simp only [Act.put, zE1, zE2, zE3]
  clear hK K
  refine tkH 11 (some 4) ((.slice (some ⟨d, n * S, none⟩) S (N * (P * S) - n * S))) rfl rfl (Or.inl ⟨by rfl, fun w' hw' => by rfl⟩) hS ?_
  simp only [Act.put, zE1, zE2, zE3]
  refine tkH 12 (some 5) (.int .i64 0) rfl rfl (Or.inl ⟨by rfl, fun w' hw' => by rfl⟩) hS ?_
  simp only [Act.put, zE1, zE2, zE3]
  refine wpAnyH_done (by kernel_rfl) ?_ _
  have BB : Hid (Below w.heap.size w y3) := BB.out.trans (hS.mono BB.out.size)
  clear hS
  go_wp2
  go_ret2
  exact ⟨rfl, BB.out⟩
end
end Go.Proofs.YtakibiigcdgohaaGreatDoor.na
namespace Go.Proofs.YtakibiigcdgohaaGreatDoor.na
open Go.RowKit Go.Proofs.YtakibiigcdgohaaGreatDoor.fa
set_option maxRecDepth 20000
theorem exec_mul {ev : Operand → Value} {o : Oper} {w : World} (x y : Operand) (hop : o.op = Op.binOp .mul 3 x y 3) (A B q : Int) (hx : ev x = .int .i64 A) (hy : ev y = .int .i64 B) (hq : IntKind.i64.wrap (A * B) = q) : (execOp ev o).run Tryz.prog w = .ok (.value (.int .i64 q)) w := by
  subst hq
  unfold execOp
  simp only [hop, hx, hy]
  rfl
theorem wrap_mul (P S : Nat) (h : P * S ≤ 16777216) : IntKind.i64.wrap ((P : Int) * (S : Int)) = ((P * S : Nat) : Int) := by
  have : (P : Int) * (S : Int) = ((P * S : Nat) : Int) := by simp
  rw [this, IntKind.wrap_i64]; omega
section
variable {M : Nat → Bool} {w : World} {c r d : Nat} {q : Nat → Nat} {pv tv : Value} {g : List Int} {N P S : Nat} {pl : Pln} {X : Raw}
theorem blockCells_off (h : Lay M w c r d q pv tv g N P S pl X) (ho : xo X = false) (b : Int) : Calls Tryz.prog 123 #[.pointer (some ⟨c, 0, none⟩), .int .i64 b] w fun e w' => e = .returned (.tuple #[.slice none 0 0, .int .i64 4]) ∧ w' = w := by
  have SO : Hid (Calls Tryz.prog 38 #[.pointer (some ⟨c, 0, none⟩)] w fun e w' => e = .returned (.bool false) ∧ w' = w) := on_any c false w (by rw [← ho]; exact h.cells.2.1)
  clear h
  go_enter Tryz.func123, Tryz.ntmps123
  go_wp2_with (go_at_call 38; refine SO.out.mono ?_; rintro e w' ⟨rfl, hw⟩; obtain rfl := hw.symm)
  go_ret2
  exact ⟨rfl, rfl⟩
theorem blockCells_no (h : Lay M w c r d q pv tv g N P S pl X) (ho : xo X = true) (b : Int) (hb : ¬ (0 ≤ b ∧ b < N)) : Calls Tryz.prog 123 #[.pointer (some ⟨c, 0, none⟩), .int .i64 b] w fun e w' => e = .returned (.tuple #[.slice none 0 0, .int .i64 2]) ∧ w' = w := by
  have SO : Hid (Calls Tryz.prog 38 #[.pointer (some ⟨c, 0, none⟩)] w fun e w' => e = .returned (.bool true) ∧ w' = w) := on_any c true w (by rw [← ho]; exact h.cells.2.1)
  have SH : Hid (Calls Tryz.prog 148 #[.pointer (some ⟨c, 0, none⟩), .int .i64 b] w fun e w' => e = .returned (.bool false) ∧ w' = w) := has_any c r N b w h.cells.2.2.2.1 false (by rw [decide_eq_false hb])
  clear h hb
  go_enter Tryz.func123, Tryz.ntmps123
  go_wp2_with (first
    | (go_at_call 148; refine SH.out.mono ?_; rintro e w' ⟨rfl, hw⟩; obtain rfl := hw.symm)
    | (go_at_call 38; refine SO.out.mono ?_; rintro e w' ⟨rfl, hw⟩; obtain rfl := hw.symm))
  go_ret2
  exact ⟨rfl, rfl⟩
theorem blockCells_yes (h : Lay M w c r d q pv tv g N P S pl X) (ho : xo X = true) (b : Nat) (hb : b < N) : Calls Tryz.prog 123 #[.pointer (some ⟨c, 0, none⟩), .int .i64 (b : Int)] w fun e w' => e = .returned (.tuple #[.slice (some ⟨d, b * (P * S), none⟩) (P * S) (N * (P * S) - b * (P * S)), .int .i64 0]) ∧ Below w.heap.size w w' := by
  have SO : Hid (Calls Tryz.prog 38 #[.pointer (some ⟨c, 0, none⟩)] w fun e w' => e = .returned (.bool true) ∧ w' = w) := on_any c true w (by rw [← ho]; exact h.cells.2.1)
  have SH : Hid (Calls Tryz.prog 148 #[.pointer (some ⟨c, 0, none⟩), .int .i64 (b : Int)] w fun e w' => e = .returned (.bool true) ∧ w' = w) := has_any c r N b w h.cells.2.2.2.1 true (by rw [decide_eq_true (by omega)])
  have HL : Hid (Lay M w c r d q pv tv g N P S pl X) := h
  obtain ⟨gl, hr, g0, g1, g2⟩ := h.1
  have MQ : Hid (IntKind.i64.wrap ((P : Int) * (S : Int)) = ((P * S : Nat) : Int)) := wrap_mul P S (by have := h.bytes; omega)
  have C1 : Hid (∀ w', Below w.heap.size w w' → w'.cell? ⟨c, 1, none⟩ = some (.int .i64 (P : Int))) := fun w' hw => by
    have e : (g.map (Value.int .i64))[1]? = some (.int .i64 (P : Int)) := by
      rw [← g1, List.getElem?_map]
      have : g[1]? = some (gb g 1) := by simp [gb, List.getD, gl]
      rw [this]; rfl
    exact (h.below hw).geo 1 _ e
  have SP : Hid (∀ w, Calls Tryz.prog 37 #[.agg (ints .i64 g)] w fun x w' => x = .returned (.int .i64 (S : Int)) ∧ Below w.heap.size w w') := psize_nat g gl hr S g2
  have SQ : Hid (∀ w, Calls Tryz.prog 103 #[.slice (some ⟨d, 0, none⟩) (N * (P * S)) (N * (P * S)), .int .i64 (b : Int), .int .i64 ((P * S : Nat) : Int)] w fun e w' => e = .returned (.slice (some ⟨d, b * (P * S), none⟩) (P * S) (N * (P * S) - b * (P * S))) ∧ Below w.heap.size w w') := fun w => by
    obtain ⟨a1, a2, a3, a4, a5, a6⟩ := h.num
    obtain ⟨b1, b2, b3⟩ := h.bytes
    exact (part_any d (N * (P * S)) b (P * S) w (by omega) (Nat.mul_le_mul_right (P * S) (show b + 1 ≤ N by omega)) (by omega) (by omega) (by omega)).mono fun e w' ⟨h1, h2⟩ => ⟨h1, by rw [h2]; exact Below.refl _ _⟩
  clear h hb
  go_enter Tryz.func123, Tryz.ntmps123
  go_wp2_with (first
    | (go_at_call 148; refine SH.out.mono ?_; rintro e w' ⟨rfl, hw⟩; obtain rfl := hw.symm)
    | (go_at_call 38; refine SO.out.mono ?_; rintro e w' ⟨rfl, hw⟩; obtain rfl := hw.symm))
  refine wp_region_held_drew (S := fun w' => Below w.heap.size w w') (by kernel_rfl) (Below.refl _ _).drew (fun hS => ?_)
  obtain ⟨y1, hx0⟩ : ∃ x, x = w.drew := ⟨_, rfl⟩
  rw [← hx0] at hS  ⊢
  clear hx0
  refine tkH 0 (some 13) (.pointer (some ⟨c, 0, none⟩)) rfl rfl (Or.inl ⟨by rfl, fun w' hw' => by rfl⟩) hS ?_
  simp only [Act.put, zE1, zE2, zE3]
  refine tkH 1 (some 14) (.pointer (some ⟨c, 0, none⟩)) rfl rfl (Or.inl ⟨by rfl, fun w' hw' => by go_simp⟩) hS ?_
  simp only [Act.put, zE1, zE2, zE3]
  refine tkH 2 (some 15) (.pointer (some ⟨c, 8, none⟩)) rfl rfl (Or.inl ⟨by rfl, fun w' hw' => by go_simp⟩) hS ?_
  simp only [Act.put, zE1, zE2, zE3]
  refine tkH 3 (some 16) (.slice (some ⟨d, 0, none⟩) (N * (P * S)) (N * (P * S))) rfl rfl (Or.inl ⟨by rfl, fun w' hw' => by exact exec_loadN 35 (.tmp 15) rfl _ rfl _ _ (load_one one_bytes (HL.out.below hw').cells.2.2.1)⟩) hS ?_
  simp only [Act.put, zE1, zE2, zE3]
  refine tkH 4 (some 17) (.int .i64 (b : Int)) rfl rfl (Or.inl ⟨by rfl, fun w' hw' => by rfl⟩) hS ?_
  simp only [Act.put, zE1, zE2, zE3]
  refine tkH 5 (some 18) (.pointer (some ⟨c, 0, none⟩)) rfl rfl (Or.inl ⟨by rfl, fun w' hw' => by rfl⟩) hS ?_
  simp only [Act.put, zE1, zE2, zE3]
  refine tkH 6 (some 19) (.pointer (some ⟨c, 0, none⟩)) rfl rfl (Or.inl ⟨by rfl, fun w' hw' => by go_simp⟩) hS ?_
  simp only [Act.put, zE1, zE2, zE3]
  refine tkH 7 (some 20) (.pointer (some ⟨c, 0, none⟩)) rfl rfl (Or.inl ⟨by rfl, fun w' hw' => by go_simp⟩) hS ?_
  simp only [Act.put, zE1, zE2, zE3]
  refine tkH 8 (some 21) (.pointer (some ⟨c, 1, none⟩)) rfl rfl (Or.inl ⟨by rfl, fun w' hw' => by go_simp⟩) hS ?_
  simp only [Act.put, zE1, zE2, zE3]
  refine tkH 9 (some 22) (.int .i64 (P : Int)) rfl rfl (Or.inl ⟨by rfl, fun w' hw' => by exact exec_loadN 3 (.tmp 21) rfl _ rfl _ _ (load_one one_int (C1.out w' hw'))⟩) hS ?_
  simp only [Act.put, zE1, zE2, zE3]
  refine tkH 10 (some 23) (.pointer (some ⟨c, 0, none⟩)) rfl rfl (Or.inl ⟨by rfl, fun w' hw' => by rfl⟩) hS ?_
  simp only [Act.put, zE1, zE2, zE3]
  refine tkH 11 (some 24) (.pointer (some ⟨c, 0, none⟩)) rfl rfl (Or.inl ⟨by rfl, fun w' hw' => by go_simp⟩) hS ?_
  simp only [Act.put, zE1, zE2, zE3]
  refine tkH 12 (some 25) (.pointer (some ⟨c, 0, none⟩)) rfl rfl (Or.inl ⟨by rfl, fun w' hw' => by go_simp⟩) hS ?_
  simp only [Act.put, zE1, zE2, zE3]
  refine tkH 13 (some 26) (.agg (ints .i64 g)) rfl rfl (Or.inl ⟨by rfl, fun w' hw' => by exact exec_loadN 23 (.tmp 25) rfl _ rfl _ _ (ld_geo gl (HL.out.below hw').geo)⟩) hS ?_
  simp only [Act.put, zE1, zE2, zE3]
  refine wpAnyH_ready (rs := [14]) (by kernel_rfl) (by simp) ?_
  refine AllReadyH.cons rfl (fun K hK => ?_) AllReadyH.nil
  refine ge.step_callW _ (by rfl) (some 27) rfl 37 #[.tmp 26] #[23] rfl (fun q w' => by rfl) #[.agg (ints .i64 g)] (by simp only [List.map_toArray, List.map_cons, List.map_nil]; rfl) (fun v w' => v = (.int .i64 (S : Int)) ∧ Below y1.heap.size y1 w') ?_ ?_
  · exact (SP.out y1).mono fun e w' ⟨h1, h2⟩ => ⟨_, h1, rfl, h2⟩
  rintro _ y2 ⟨rfl, hb⟩
  have hS : Below w.heap.size w y2 := hS.trans (hb.mono hS.size)
  clear hb
  refine hK.out _ _ hS (fun _ => ?_)
  simp only [Act.put, zE1, zE2, zE3]
  clear hK K
  refine tkH 15 (some 28) (.int .i64 ((P * S : Nat) : Int)) rfl rfl (Or.inl ⟨by rfl, fun w' hw' => by exact exec_mul (.tmp 22) (.tmp 27) rfl (P : Int) (S : Int) _ rfl rfl MQ.out⟩) hS ?_
  simp only [Act.put, zE1, zE2, zE3]
  refine wpAnyH_ready (rs := [16]) (by kernel_rfl) (by simp) ?_
  refine AllReadyH.cons rfl (fun K hK => ?_) AllReadyH.nil
  refine ge.step_callW _ (by rfl) (some 29) rfl 103 #[.tmp 16, .tmp 17, .tmp 28] #[35, 3, 3] rfl (fun q w' => by rfl) #[.slice (some ⟨d, 0, none⟩) (N * (P * S)) (N * (P * S)), .int .i64 (b : Int), .int .i64 ((P * S : Nat) : Int)] (by simp only [List.map_toArray, List.map_cons, List.map_nil]; rfl) (fun v w' => v = (.slice (some ⟨d, b * (P * S), none⟩) (P * S) (N * (P * S) - b * (P * S))) ∧ Below y2.heap.size y2 w') ?_ ?_
  · exact (SQ.out y2).mono fun e w' ⟨h1, h2⟩ => ⟨_, h1, rfl, h2⟩
  rintro _ y3 ⟨rfl, hb⟩
  have hS : Below w.heap.size w y3 := hS.trans (hb.mono hS.size)
  clear hb
  refine hK.out _ _ hS (fun _ => ?_)
  simp only [Act.put, zE1, zE2, zE3]
  clear hK K
  refine tkH 17 (some 4) ((.slice (some ⟨d, b * (P * S), none⟩) (P * S) (N * (P * S) - b * (P * S)))) rfl rfl (Or.inl ⟨by rfl, fun w' hw' => by rfl⟩) hS ?_
  simp only [Act.put, zE1, zE2, zE3]
  refine tkH 18 (some 5) (.int .i64 0) rfl rfl (Or.inl ⟨by rfl, fun w' hw' => by rfl⟩) hS ?_
  simp only [Act.put, zE1, zE2, zE3]
  refine wpAnyH_done (by kernel_rfl) ?_ _
  have BB : Hid (Below w.heap.size w y3) := hS
  clear hS
  go_wp2
  go_ret2
  exact ⟨rfl, BB.out⟩
def Bhd (l : List Int) (p : Nat) : Prop := ∃ i, p ≤ i ∧ i < l.length ∧ 0 < gb l i
theorem gb_drop (l : List Int) (p i : Nat) : gb (l.drop p) i = gb l (p + i) := by simp [gb, List.getD]
theorem refuses_any (rb ro qb : Nat) (s : Bool) (l : List Int) (p P : Nat) (w : World) (c0 : w.cell? ⟨rb, ro, none⟩ = some (.slice (some ⟨qb, 0, none⟩) P P)) (c2 : w.cell? ⟨rb, ro + 2, none⟩ = some (.bool s)) (hA : Ar w qb 0 .i64 l) (hl : l.length = P) (hp : p < P) (hP : P ≤ 32) (x : Int)
    (h7 : s = true ∨ 2 ≤ gb l p → x = 7) (h6 : s = false → gb l p = 0 → Bhd l p → x = 6) (h0 : s = false → gb l p < 2 → ¬ (gb l p = 0 ∧ Bhd l p) → x = 0) :
    Calls Tryz.prog 92 #[.pointer (some ⟨rb, ro, none⟩), .int .i64 (p : Int)] w fun e w' => e = .returned (.int .i64 x) ∧ w' = w := by
  cases s with
  | true =>
    have hx := h7 (Or.inl rfl)
    subst hx
    clear h7 h6 h0
    go_enter Tryz.func92, Tryz.ntmps92
    go_wp2
    go_ret
    exact ⟨rfl, rfl⟩
  | false =>
    have cp := hA.cell0 p (by omega)
    have i0 : (0 : Int) ≤ (p : Int) := by omega
    have i1 : (p : Int) < (P : Int) := by omega
    have i2 : (p : Int) ≤ (P : Int) := by omega
    have hne : ¬ (P = p) := by omega
    have HA : Hid (Ar w qb 0 .i64 l) := hA
    by_cases h2 : 2 ≤ gb l p
    · have hx := h7 (Or.inr h2)
      subst hx
      clear h7 h6 h0 hA
      generalize gb l p = u at *
      go_enter Tryz.func92, Tryz.ntmps92
      go_wp2
      go_ret
      exact ⟨rfl, rfl⟩
    · by_cases hu : gb l p = 0
      · have SM : Hid (∀ w0, w0 = w → Calls Tryz.prog 117 #[.slice (some ⟨qb, p, none⟩) (P - p) (P - p)] w0 fun e w' => ∃ m, e = .returned (.int .i64 m) ∧ Mx (l.drop p) m ∧ w' = w0) := fun w0 e => by
          subst e
          have hd : Ar w0 qb p .i64 (l.drop p) := by
            have := hA.subG p (l.drop p) (by simp; omega) (fun t _ => gb_drop l p t)
            rwa [Nat.zero_add] at this
          exact max_any qb p (P - p) (P - p) (l.drop p) w0 hd (by simp; omega) (by omega) (Nat.le_refl _) (by omega)
        have H6 : Hid (Bhd l p → x = 6) := fun hb => h6 rfl hu hb
        have H0 : Hid (¬ Bhd l p → x = 0) := fun hb => h0 rfl (by omega) fun q => hb q.2
        rw [hu] at cp
        have HL : Hid (l.length = P) := hl
        clear h7 h6 h0 hA h2 hu hl
        go_enter Tryz.func92, Tryz.ntmps92
        go_wp2_with (go_at_call 117; refine (SM.out _ rfl).mono ?_; rintro e w' ⟨m, rfl, hm, hw⟩; obtain rfl := hw.symm; have HM : Hid (Mx (l.drop p) m) := hm; clear hm)
        · rename_i hpos
          have hx := H6.out (by
            obtain ⟨i, hi, e⟩ := HM.out.2
            rw [gb_drop] at e
            rw [List.length_drop] at hi
            exact ⟨p + i, by omega, by omega, by omega⟩)
          subst hx
          go_ret
          exact ⟨rfl, rfl⟩
        · rename_i hpos
          have hx := H0.out (fun ⟨i, h1, h2, h3⟩ => by
            have := HM.out.1 (i - p) (by rw [List.length_drop]; omega)
            rw [gb_drop, show p + (i - p) = i by omega] at this
            omega)
          subst hx
          go_ret
          exact ⟨rfl, rfl⟩
      · have hx := h0 rfl (by omega) (fun q => hu q.1)
        subst hx
        clear h7 h6 h0 hA
        generalize gb l p = u at *
        have hu' : (u == 0) = false := beq_eq_false_iff_ne.2 hu
        go_enter Tryz.func92, Tryz.ntmps92
        go_wp2
        go_ret
        exact ⟨rfl, rfl⟩
theorem power_any (h : Lay M w c r d q pv tv g N P S pl X) (b : Bool) :
    Calls Tryz.prog 14 #[.pointer (some ⟨c, 0, none⟩), .bool b] w fun e w' => (∃ v, e = .returned v) ∧ w' = w.setCell ⟨c, 7, none⟩ (.bool b) := by
  obtain ⟨q1, q2⟩ := h.free 7 (by omega)
  have f7 := h.cells.2.1
  clear h
  go_enter Tryz.func14, Tryz.ntmps14
  go_wp2
  exact ⟨rfl, _, results_none rfl _ _ _, ⟨_, rfl⟩, rfl⟩
theorem image_any (h : Lay M w c r d q pv tv g N P S pl X) :
    Calls Tryz.prog 19 #[.pointer (some ⟨c, 0, none⟩)] w fun e w' => ∃ v, e = .returned v ∧ Bow w.heap.size w' v (xi X) ∧ Below w.heap.size w w' := by
  have f8 := h.cells.2.2.1
  have hb := h.bytes
  obtain ⟨-, -, -, -, h5, -⟩ := h
  have SC : Hid (Calls Tryz.prog 48 #[.slice (some ⟨d, 0, none⟩) (N * (P * S)) (N * (P * S))] w fun e w' => ∃ v', e = .returned v' ∧ Bow w.heap.size w' v' (xi X) ∧ Below w.heap.size w w') := bclone_any _ (xi X) w (h5.1.bytG h5.2.2 _ _ h5.2.1 (Nat.le_refl _) (by omega)) (by rw [h5.2.1]; omega)
  generalize N * (P * S) = n at *
  clear h5
  go_enter Tryz.func19, Tryz.ntmps19
  go_wp2_with (go_at_call 48; refine SC.out.mono ?_; rintro e w1 ⟨v1, rfl, y1, B1⟩; have Y1 : Hid (Bow w.heap.size w1 v1 (xi X)) := y1; clear y1)
  go_ret
  exact ⟨_, rfl, Y1.out, B1⟩
theorem zero_geo : (Tryz.prog.info? 23).map (fun i => (i.zero, i.size)) = some (some (.agg ([.int .i64 0, .int .i64 0, .int .i64 0, .int .i64 0, .int .i64 0, .int .i64 0] : List Value).toArray), 6) := by kernel_rfl
theorem geometry_any (h : Lay M w c r d q pv tv g N P S pl X) :
    Calls Tryz.prog 31 #[.pointer (some ⟨c, 0, none⟩)] w fun e w' => e = .returned (.agg (ints .i64 g)) ∧ Below w.heap.size w w' := by
  have HL : Hid (Lay M w c r d q pv tv g N P S pl X) := h
  have hl := h.1.1
  clear h
  have t0 := tR
  go_enter Tryz.func31, Tryz.ntmps31
  go_wp2_with (first
    | (have q2 := t2; refine store_lawC _ (g.map (Value.int .i64)) w.heap.size 0 rfl rfl (by rw [List.length_map, hl]; exact HV.out.2) (by rw [List.length_map, hl]; exact rowy_geo.2) (fun v hv => by obtain ⟨z, -, rfl⟩ := List.mem_map.1 hv; rfl) ?_; intro w2 E2 R2 T2 B2; have HR : Hid (w2.rangeAt w.heap.size 0 (g.map (Value.int .i64))) := R2; have BB : Hid (Below w.heap.size w w2) := BB.out.trans B2; clear R2 T2 E2 B2 t2)
    | (have q1 := t1; refine load_lawS _ (by rfl) _ _ rfl (ld_geo hl (HL.out.below BB.out).geo) ?_; clear t1; have t2 := tR)
    | (have q0 := t0; refine new_lawC _ _ zero_geo ?_; intro w1 V1 B1 l1; have HV : Hid (Vr w1 w.heap.size [.int .i64 0, .int .i64 0, .int .i64 0, .int .i64 0, .int .i64 0, .int .i64 0]) := V1; have f0 := (HL.out.below B1).cells.1; have BB : Hid (Below w.heap.size w w1) := B1; clear V1 B1 t0; have t1 := tR))
  exact bodyPost_ret (v := .agg (ints .i64 g)) (results_c rfl _ _ w.heap.size (g.map (Value.int .i64)) (by rw [List.length_map, hl]; exact rowy_geo) rfl HR.out) rfl ⟨rfl, BB.out⟩
end
end Go.Proofs.YtakibiigcdgohaaGreatDoor.na
