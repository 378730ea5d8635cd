/- What the reference's comparison of two lists of bytes answers: whether they are the same. No claim of its own. -/
import Derived.Test.YtpmakkjcpoillaaDoorBase
namespace Go.Proofs.YtpmakkjcpoillaaDoor
open Go.RowKit
set_option maxRecDepth 20000

theorem not_same {xs ys : List Int} {k : Nat} (h : gb xs k ≠ gb ys k) : decide (xs = ys) = false := by
  simp only [decide_eq_false_iff_not]; intro e; exact h (by rw [e])

set_option maxHeartbeats 1000000 in
theorem same_any (w : World) (va vb : Value) (xs ys : List Int) (ha : Byt w va xs) (hb : Byt w vb ys) :
    Calls Tryd.prog 11 #[va, vb] w fun e w' => e = .returned (.bool (decide (xs = ys))) ∧ ∃ n, w' = w.drewN n := by
  obtain ⟨ao, ca, rfl, ha1, ha2, ha3, -, ha5⟩ := ha
  obtain ⟨bo, cb, rfl, hb1, hb2, hb3, -, hb5⟩ := hb
  by_cases hl : xs.length = ys.length
  · have HL : Hid (xs.length = ys.length) := hl
    have HB5 : Hid (0 < xs.length → ∃ b off, bo = some ⟨b, off, none⟩ ∧ ∀ t, t < xs.length → w.cell? ⟨b, off + t, none⟩ = some (.int .u8 (gb ys t))) := by
      rw [hl]; exact hb5
    have HA5 : Hid (0 < xs.length → ∃ b off, ao = some ⟨b, off, none⟩ ∧ ∀ t, t < xs.length → w.cell? ⟨b, off + t, none⟩ = some (.int .u8 (gb xs t))) := ha5
    clear hb5 ha5
    rw [← hl] at hb1 ⊢
    clear hl
    have hm : xs.length ≤ 9223372036854775807 := by omega
    go_enter Tryd.func11, Tryd.ntmps11
    go_wp2
    go_loopw [5] (fun i wr => ∃ k n : Nat, k ≤ xs.length ∧ i = .int .i64 k ∧ wr = w.drewN n ∧ Hid (∀ t, t < k → gb xs t = gb ys t)) (fun i _ => xs.length - (intOf i).toNat)
    case atStart => exact ⟨0, 0, Nat.zero_le _, rfl, rfl, fun t ht => by omega⟩
    case round =>
      obtain ⟨k, n, hk, rfl, rfl, heq⟩ := hrel
      by_cases hlt : k < xs.length
      · obtain ⟨b, off, rfl, hca⟩ := HA5.out (by omega)
        obtain ⟨b', off', rfl, hcb⟩ := HB5.out (by omega)
        have c1 : w.cell? ⟨b, off + k, none⟩ = some (.int .u8 (gb xs k)) := hca k hlt
        have c2 : w.cell? ⟨b', off' + k, none⟩ = some (.int .u8 (gb ys k)) := hcb k hlt
        have lk : (k : Int) < (xs.length : Int) := by omega
        clear hca hcb
        go_wp2
        go_quiet (fail)
        go_wp2
        · have hne : (gb xs k != gb ys k) = true := by assumption
          go_ret
          refine ⟨?_, n + nq, World.drewN_drewN ..⟩
          have : decide (xs = ys) = false := not_same (by simpa using hne)
          rw [this]; rfl
        · have hne : (gb xs k != gb ys k) = false := by assumption
          go_roundw
          case rel => exact ⟨k + 1, n + nq, by omega, by go_num, rfl, fun t ht => if h : t < k then heq.out t h else by
            have : t = k := by omega
            subst this; simpa using hne⟩
          case measure => simp [intOf]; omega
      · go_wp2
        go_ret
        refine ⟨?_, n, rfl⟩
        have : decide (xs = ys) = true := decide_eq_true (ext_gb HL.out fun t ht => heq.out t (by omega))
        rw [this]; rfl
  · have : decide (xs = ys) = false := by simp only [decide_eq_false_iff_not]; intro e; exact hl (by rw [e])
    rw [this]
    go_enter Tryd.func11, Tryd.ntmps11
    go_wp2
    go_ret
    exact ⟨rfl, 0, rfl⟩
end Go.Proofs.YtpmakkjcpoillaaDoor
