/- What head's isKind, isByte, numbersOf, headOf and Less, and the reference's Right answer. No claim of its own. -/
import Derived.Test.YtpmakkjcpoillaaDoorHRow
import Derived.Test.YtpmakkjcpoillaaDoorHMath
namespace Go.Proofs.YtpmakkjcpoillaaDoor.he
open Go.RowKit Go.Proofs.YtpmakkjcpoillaaDoor.fa
set_option maxRecDepth 20000

theorem kind_any (k : Int) (w : World) (b : Bool) (hb : b = decide (1 ≤ k ∧ k ≤ 4)) :
    Calls Tryd.prog 51 #[.int .i64 k] w fun e w' => e = .returned (.bool b) ∧ w' = w := by
  have HB : Hid (b = decide (1 ≤ k ∧ k ≤ 4)) := hb
  clear hb
  by_cases a1 : 1 ≤ k
  · have l1 : k ≥ 1 := a1
    by_cases a2 : k ≤ 4
    · go_enter Tryd.func51, Tryd.ntmps51
      go_wp2
      go_ret
      exact ⟨ret_bool (by rw [HB.out]; simp; omega), rfl⟩
    · go_enter Tryd.func51, Tryd.ntmps51
      go_wp2
      go_ret
      exact ⟨ret_bool (by rw [HB.out]; simp; omega), rfl⟩
  · have l1 : ¬ k ≥ 1 := a1
    go_enter Tryd.func51, Tryd.ntmps51
    go_wp2
    go_ret
    exact ⟨ret_bool (by rw [HB.out]; simp; omega), rfl⟩

theorem byte_any (k : Int) (w : World) (b : Bool) (hb : b = decide (0 ≤ k ∧ k ≤ 255)) :
    Calls Tryd.prog 56 #[.int .i64 k] w fun e w' => e = .returned (.bool b) ∧ w' = w := by
  have HB : Hid (b = decide (0 ≤ k ∧ k ≤ 255)) := hb
  clear hb
  by_cases a1 : 0 ≤ k
  · have l1 : k ≥ 0 := a1
    by_cases a2 : k ≤ 255
    · go_enter Tryd.func56, Tryd.ntmps56
      go_wp2
      go_ret
      exact ⟨ret_bool (by rw [HB.out]; simp; omega), rfl⟩
    · go_enter Tryd.func56, Tryd.ntmps56
      go_wp2
      go_ret
      exact ⟨ret_bool (by rw [HB.out]; simp; omega), rfl⟩
  · have l1 : ¬ k ≥ 0 := a1
    go_enter Tryd.func56, Tryd.ntmps56
    go_wp2
    go_ret
    exact ⟨ret_bool (by rw [HB.out]; simp; omega), rfl⟩

/-- numbers as cells -/
def nv (xs : List Int) : List Value := xs.map (Value.int .u64)
theorem nv_one (xs : List Int) : ∀ v ∈ nv xs, v.oneCell' = true := fun v hv' => by
  simp only [nv, List.mem_map] at hv'
  obtain ⟨x, _, rfl⟩ := hv'
  rfl

set_option maxHeartbeats 2000000 in
theorem of_any (k n c l e t : Int) (w : World) (hk : 0 ≤ k ∧ k ≤ 255) (hn : 0 ≤ n ∧ n ≤ 255) (hc : 0 ≤ c ∧ c ≤ 255) (hl : 0 ≤ l ∧ l ≤ 4294967295) :
    Calls Tryd.prog 57 #[.agg (hv k n c l e t).toArray] w fun x w' => x = .returned (.agg (nv [k, n, c, 0, l, e, t]).toArray) ∧ Below w.heap.size w w' := by
  have k1 : IntKind.u64.wrap k = k := by rw [IntKind.wrap_u64]; omega
  have k2 : IntKind.u64.wrap n = n := by rw [IntKind.wrap_u64]; omega
  have k3 : IntKind.u64.wrap c = c := by rw [IntKind.wrap_u64]; omega
  have k4 : IntKind.u64.wrap l = l := by rw [IntKind.wrap_u64]; omega
  clear hk hn hc hl
  go_enter Tryd.func57, Tryd.ntmps57
  have t0 : (0 : Nat) = 0 := rfl
  go_wp2_with (first
    | (have q2 := t2; refine store_lawC _ (nv [k, n, c, 0, l, e, t]) w1.heap.size 0 rfl rfl HV2.out.2 rowy_nums.2 (nv_one _) ?_; intro w3 E3 R3 T3 B3; have HR : Hid (w3.rangeAt w1.heap.size 0 (nv [k, n, c, 0, l, e, t])) := R3; clear t2 E3 R3 T3)
    | (have q1 := t1; refine new_lawC _ (nv [0, 0, 0, 0, 0, 0, 0]) zero_nums ?_; intro w2 V2 B2 s2; have HV2 : Hid (Vr w2 w1.heap.size (nv [0, 0, 0, 0, 0, 0, 0])) := V2; have A2 := HA.out.below B2 s1; have c0 := A2.cell 0 _ rfl; have c1 := A2.cell 1 _ rfl; have c2 := A2.cell 2 _ rfl; have c3 := A2.cell 3 _ rfl; have c4 := A2.cell 4 _ rfl; have c5 := A2.cell 5 _ rfl; clear A2 V2 t1; have t2 : (0 : Nat) = 0 := rfl)
    | (have q0 := t0; refine box_lawC _ (hv k n c l e t) rfl ?_; intro w1 V1 B1 s1; have HA : Hid (Vr w1 w.heap.size (hv k n c l e t)) := V1; clear V1 t0; have t1 : (0 : Nat) = 0 := rfl))
  refine bodyPost_ret (v := .agg (nv [k, n, c, 0, l, e, t]).toArray) (results_c rfl _ _ w1.heap.size _ rowy_nums rfl HR.out) rfl ⟨rfl, ?_⟩
  exact (B1.trans (B2.mono (by omega))).trans (B3.mono (by omega))

set_option maxHeartbeats 2000000 in
theorem headOf_any (k n c z l e t : Int) (w : World) (hk : 0 ≤ k ∧ k ≤ 255) (hn : 0 ≤ n ∧ n ≤ 255) (hc : 0 ≤ c ∧ c ≤ 255) (hl : 0 ≤ l ∧ l ≤ 4294967295) :
    Calls Tryd.prog 49 #[.agg (nv [k, n, c, z, l, e, t]).toArray] w fun x w' => x = .returned (.agg (hv k n c l e t).toArray) ∧ Below w.heap.size w w' := by
  have k1 : IntKind.i64.wrap k = k := by rw [IntKind.wrap_i64]; omega
  have k2 : IntKind.i64.wrap n = n := by rw [IntKind.wrap_i64]; omega
  have k3 : IntKind.i64.wrap c = c := by rw [IntKind.wrap_i64]; omega
  have k4 : IntKind.u32.wrap l = l := by rw [IntKind.wrap_u32]; omega
  clear hk hn hc hl
  go_enter Tryd.func49, Tryd.ntmps49
  have t0 : (0 : Nat) = 0 := rfl
  go_wp2_with (first
    | (have q2 := t2; refine store_lawC _ (hv k n c l e t) w1.heap.size 0 rfl rfl HV2.out.2 rowy_head.2 (hv_one _ _ _ _ _ _) ?_; intro w3 E3 R3 T3 B3; have HR : Hid (w3.rangeAt w1.heap.size 0 (hv k n c l e t)) := R3; clear t2 E3 R3 T3)
    | (have q1 := t1; refine new_lawC _ (hv 0 0 0 0 0 0) zero_head ?_; intro w2 V2 B2 s2; have HV2 : Hid (Vr w2 w1.heap.size (hv 0 0 0 0 0 0)) := V2; have A2 := HA.out.below B2 s1; have c0 := A2.cell 0 _ rfl; have c1 := A2.cell 1 _ rfl; have c2 := A2.cell 2 _ rfl; have c4 := A2.cell 4 _ rfl; have c5 := A2.cell 5 _ rfl; have c6 := A2.cell 6 _ rfl; clear A2 V2 t1; have t2 : (0 : Nat) = 0 := rfl)
    | (have q0 := t0; refine box_lawC _ (nv [k, n, c, z, l, e, t]) rfl ?_; intro w1 V1 B1 s1; have HA : Hid (Vr w1 w.heap.size (nv [k, n, c, z, l, e, t])) := V1; clear V1 t0; have t1 : (0 : Nat) = 0 := rfl))
  refine bodyPost_ret (v := .agg (hv k n c l e t).toArray) (results_c rfl _ _ w1.heap.size _ rowy_head rfl HR.out) rfl ⟨rfl, ?_⟩
  exact (B1.trans (B2.mono (by omega))).trans (B3.mono (by omega))
end Go.Proofs.YtpmakkjcpoillaaDoor.he
