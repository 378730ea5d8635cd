/- Whether a geometry's numbers are in their ranges. No claim of its own. -/
import Derived.Test.YtpmakkjcpoillaaDoorGGeo
namespace Go.Proofs.YtpmakkjcpoillaaDoor.ge
open Go.RowKit
set_option maxRecDepth 20000

/-- the row of the ranges: number, least, most -/
def spl (g : List Int) : List Int := [gb g 0, 7, 64, gb g 1, 4, 32, gb g 2, 32, 4096, gb g 3, 0, 8, gb g 4, 1, 1000, gb g 5, 1, 1000]
/-- the i-th range is kept -/
def kp (g : List Int) (i : Nat) : Bool := decide (gb (spl g) (i * 3 + 1) ≤ gb (spl g) (i * 3)) && decide (gb (spl g) (i * 3) ≤ gb (spl g) (i * 3 + 2))
theorem kept_iff (g : List Int) : Kept g ↔ ∀ i, i < 6 → kp g i = true := by
  constructor
  · rintro ⟨h0, h1, h2, h3, h4, h5⟩ i hi
    have : i = 0 ∨ i = 1 ∨ i = 2 ∨ i = 3 ∨ i = 4 ∨ i = 5 := by omega
    rcases this with rfl | rfl | rfl | rfl | rfl | rfl
    · exact Bool.and_eq_true_iff.2 ⟨decide_eq_true h0.1, decide_eq_true h0.2⟩
    · exact Bool.and_eq_true_iff.2 ⟨decide_eq_true h1.1, decide_eq_true h1.2⟩
    · exact Bool.and_eq_true_iff.2 ⟨decide_eq_true h2.1, decide_eq_true h2.2⟩
    · exact Bool.and_eq_true_iff.2 ⟨decide_eq_true h3.1, decide_eq_true h3.2⟩
    · exact Bool.and_eq_true_iff.2 ⟨decide_eq_true h4.1, decide_eq_true h4.2⟩
    · exact Bool.and_eq_true_iff.2 ⟨decide_eq_true h5.1, decide_eq_true h5.2⟩
  · intro h
    have f : ∀ i, i < 6 → gb (spl g) (i * 3 + 1) ≤ gb (spl g) (i * 3) ∧ gb (spl g) (i * 3) ≤ gb (spl g) (i * 3 + 2) := fun i hi => by
      have := Bool.and_eq_true_iff.1 (h i hi)
      exact ⟨of_decide_eq_true this.1, of_decide_eq_true this.2⟩
    exact ⟨f 0 (by omega), f 1 (by omega), f 2 (by omega), f 3 (by omega), f 4 (by omega), f 5 (by omega)⟩

set_option maxHeartbeats 1000000 in
theorem kept1_any (i b : Nat) (L : List Int) (w : World) (hA : Ar w b 0 .i64 L) (hl : L.length = 18) (hi : i < 6) (t : Bool) (ht : t = (decide (gb L (i * 3 + 1) ≤ gb L (i * 3)) && decide (gb L (i * 3) ≤ gb L (i * 3 + 2)))) :
    Calls Tryd.prog 54 #[.int .i64 i, .pointer (some ⟨b, 0, none⟩)] w fun e w' => e = .returned (.bool t) ∧ ∃ n, w' = w.drewN n := by
  have c0 := hA.cell0 (i * 3) (by omega)
  have c1 := hA.cell0 (i * 3 + 1) (by omega)
  have c2 := hA.cell0 (i * 3 + 2) (by omega)
  have i0 : (0 : Int) ≤ (i : Int) := by omega
  have i1 : (i : Int) < 6 := by omega
  have q1 : IntKind.i64.wrap (i : Int) = i := by rw [IntKind.wrap_i64]; omega
  clear hA hl hi
  generalize gb L (i * 3) = x0 at *
  generalize gb L (i * 3 + 1) = x1 at *
  generalize gb L (i * 3 + 2) = x2 at *
  by_cases h : x1 ≤ x0
  · have hd : decide (x1 ≤ x0) = true := decide_eq_true h
    rw [hd, Bool.true_and] at ht
    subst ht
    clear h
    go_enter Tryd.func54, Tryd.ntmps54
    go_wp2
    go_quiet (fail)
    go_wp2
    go_ret
    exact ⟨rfl, _, rfl⟩
  · have hd : decide (x1 ≤ x0) = false := decide_eq_false h
    rw [hd, Bool.false_and] at ht
    subst ht
    clear h
    go_enter Tryd.func54, Tryd.ntmps54
    go_wp2
    go_quiet (fail)
    go_wp2
    go_ret
    exact ⟨rfl, _, rfl⟩

theorem spl_len (g : List Int) : (spl g).length = 18 := rfl
theorem zero_spans : (Tryd.prog.info? 84).map (fun i => (i.zero, i.size)) = some (some (.agg (ints .i64 (List.replicate 18 0))), (List.replicate 18 (0 : Int)).length) := by kernel_rfl
theorem size_spans : (Tryd.prog.info? 84).map (·.size) = some 18 := by kernel_rfl

theorem kp_more {g : List Int} {k : Nat} (h : ∀ j, j < k → kp g j = true) (h' : kp g k = true) : ∀ j, j < k + 1 → kp g j = true := fun j hj => by
  by_cases e : j < k
  · exact h j e
  · have : j = k := by omega
    subst this; exact h'

set_option maxHeartbeats 2000000 in
theorem kept_any (g : List Int) (w : World) (hl : g.length = 6) (t : Bool) (ht : t = true ↔ Kept g) :
    Calls Tryd.prog 39 #[.agg (ints .i64 g)] w fun x w' => x = .returned (.bool t) ∧ Below w.heap.size w w' := by
  have HT : Hid (t = true ↔ ∀ i, i < 6 → kp g i = true) := ht.trans (kept_iff g)
  have S : Hid (∀ (i b : Nat) (w : World), Ar w b 0 .i64 (spl g) → i < 6 → Calls Tryd.prog 54 #[.int .i64 i, .pointer (some ⟨b, 0, none⟩)] w fun e w' => e = .returned (.bool (kp g i)) ∧ ∃ n, w' = w.drewN n) := fun i b w hA hi => kept1_any i b (spl g) w hA rfl hi _ rfl
  have hmf : ∀ (fn : Fn) (first cap : Array Value) (w : World), (Instr.makeFunc fn first cap).run Tryd.prog w = .ok (.func fn first cap) w := fun _ _ _ _ => rfl
  clear ht
  go_enter Tryd.func39, Tryd.ntmps39
  go_wp2_with (first
    | (refine store_lawF _ rfl (.tmp 3) (.tmp 24) 84 rfl .i64 (List.replicate 18 0) (spl g) _ rfl rfl X2 18 size_spans rfl rfl ?_; intro w3 X3 B3)
    | (refine new_lawF _ rfl 84 rfl .i64 (List.replicate 18 0) zero_spans ?_; intro w2 X2 B2 L2)
    | (refine box_lawF _ rfl (.tmp 0) 23 rfl .i64 g rfl ?_; intro w1 X1 B1 L1; obtain ⟨f0, f1, f2, f3, f4, f5⟩ := geo_cells X1 hl))
  have HB : Hid (Below w.heap.size w w3) := B1.trans ((B2.trans B3).mono (by omega))
  generalize hq : w1.heap.size = c at *
  have hcw : w.heap.size ≤ c := by omega
  clear X1 X2 B1 B2 B3 L1 L2 f0 f1 f2 f3 f4 f5 hq
  go_loopw [26] (fun i wr => ∃ k : Nat, k ≤ 6 ∧ i = .int .i64 k ∧ Hid (∀ j, j < k → kp g j = true) ∧ Hid (Ar wr c 0 .i64 (spl g)) ∧ Hid (Below w.heap.size w wr)) (fun i _ => 6 - (intOf i).toNat)
  case atStart => exact ⟨0, Nat.zero_le _, rfl, (fun j hj => by omega), X3, HB⟩
  case round =>
    obtain ⟨k, hk, rfl, HK, HX, HW⟩ := hrel
    obtain ⟨wa, rfl⟩ : ∃ wx, wx = wr := ⟨_, rfl⟩
    have k0 : (0 : Int) ≤ (k : Int) := by omega
    have q1 : IntKind.i64.wrap (k : Int) = k := by rw [IntKind.wrap_i64]; omega
    by_cases hlt : k < 6
    · have k1 : (k : Int) < 6 := by omega
      by_cases hp : kp g k = true
      · have S1 : Hid (Calls Tryd.prog 54 #[.int .i64 k, .pointer (some ⟨c, 0, none⟩)] wa fun e w' => e = .returned (.bool true) ∧ ∃ n, w' = wa.drewN n) := by
          have := S.out k c wa HX.out hlt
          rwa [hp] at this
        have HP : Hid (kp g k = true) := hp
        clear hp
        go_wp2_with (go_at_call 54; refine S1.out.mono ?_; rintro e wx ⟨rfl, n, hw⟩; obtain rfl := hw.symm)
        go_roundw
        case rel => exact ⟨k + 1, by omega, by go_num, kp_more HK.out HP.out, HX.out.drewN n, below_drewN HW.out n⟩
        case measure => simp [intOf]; omega
      · have S1 : Hid (Calls Tryd.prog 54 #[.int .i64 k, .pointer (some ⟨c, 0, none⟩)] wa fun e w' => e = .returned (.bool false) ∧ ∃ n, w' = wa.drewN n) := by
          have := S.out k c wa HX.out hlt
          rwa [Bool.eq_false_iff.2 hp] at this
        have ht : t = false := Bool.eq_false_iff.2 fun h => hp (HT.out.1 h k hlt)
        subst ht
        clear hp
        go_wp2_with (go_at_call 54; refine S1.out.mono ?_; rintro e wx ⟨rfl, n, hw⟩; obtain rfl := hw.symm)
        go_ret
        exact ⟨rfl, below_drewN HW.out n⟩
    · have hk6 : k = 6 := by omega
      subst hk6
      have ht : t = true := HT.out.2 HK.out
      subst ht
      go_wp2
      go_ret
      exact ⟨rfl, HW.out⟩
end Go.Proofs.YtpmakkjcpoillaaDoor.ge
