/- What the reference's counts answer: how many sectors a record takes, a quota. No claim of its own. -/
import Derived.Test.YtpmakkjcpoillaaDoorGCheck
namespace Go.Proofs.YtpmakkjcpoillaaDoor.ge
open Go.RowKit
set_option maxRecDepth 20000

theorem div_count (u s n : Nat) (hu : 0 < u) (h1 : s ≤ n * u) (h2 : ∀ m, m < n → m * u < s) : ((s : Int) + (u : Int) - 1) / (u : Int) = (n : Int) := by
  have := qt_count u s n hu h1 h2
  unfold qt at this
  have e : ((s : Int) + (u : Int) - 1) = ((s + u - 1 : Nat) : Int) := by omega
  rw [e, ← Int.natCast_ediv]
  omega
/-- a quota, as geometry reckons it -/
theorem qt_int (u s : Nat) (hu : 0 < u) : ((s : Int) + (u : Int) - 1) / (u : Int) + 2 = ((qt u s : Nat) : Int) := by
  unfold qt
  have e : ((s : Int) + (u : Int) - 1) = ((s + u - 1 : Nat) : Int) := by omega
  rw [e, ← Int.natCast_ediv]
  omega
theorem qt_small (u s : Nat) (hu : 0 < u) (hs : s ≤ 65535) : qt u s ≤ 65537 := (qt_le u s 65535 hu).2 (Nat.le_trans hs (Nat.le_mul_of_pos_right _ hu))
theorem more_count {u s k : Nat} (h : ∀ m, m < k → m * u < s) (h' : k * u < s) : ∀ m, m < k + 1 → m * u < s := fun m hm => by
  by_cases e : m < k
  · exact h m e
  · have : m = k := by omega
    subst this; exact h'

set_option maxHeartbeats 2000000 in
theorem rchunks_any (g : List Int) (hl : g.length = 6) (hk : Kept g) (w : World) :
    Calls Tryd.prog 30 #[.agg (ints .i64 g)] w fun x w' => x = .returned (.int .i64 (rec g)) ∧ Below w.heap.size w w' := by
  obtain ⟨u, hu⟩ : ∃ u : Nat, gb g 2 = (u : Int) := ⟨(gb g 2).toNat, by obtain ⟨-, -, h, -⟩ := hk; omega⟩
  have hu1 : 32 ≤ u ∧ u ≤ 4096 := by obtain ⟨-, -, h, -⟩ := hk; omega
  have HR : Hid (∀ n : Nat, 624 ≤ n * u → (∀ m, m < n → m * u < 624) → rec g = (n : Int)) := fun n h1 h2 => by
    unfold rec; rw [hu]; exact div_count u 624 n (by omega) h1 h2
  clear hk
  generalize rec g = z at *
  go_enter Tryd.func30, Tryd.ntmps30
  go_wp2_with (refine box_lawF _ rfl (.tmp 0) 23 rfl .i64 g rfl ?_; intro w1 X1 B1 L1; obtain ⟨f0, f1, f2, f3, f4, f5⟩ := geo_cells X1 hl)
  have c2 : w1.cell? ⟨w.heap.size, 2, none⟩ = some (.int .i64 (u : Int)) := by rw [f2, hu]
  clear f0 f1 f2 f3 f4 f5 X1 hu
  go_loopw [3] (fun i wr => ∃ k : Nat, k ≤ 20 ∧ i = .int .i64 k ∧ Hid (∀ m, m < k → m * u < 624) ∧ wr = w1) (fun i _ => 20 - (intOf i).toNat)
  case atStart => exact ⟨0, Nat.zero_le _, rfl, (fun j hj => by omega), rfl⟩
  case round =>
    obtain ⟨k, hk, rfl, HK, rfl⟩ := hrel
    have k0 : (0 : Int) ≤ (k : Int) := by omega
    have q1 : IntKind.i64.wrap (k : Int) = k := by rw [IntKind.wrap_i64]; omega
    obtain ⟨m, hm⟩ : ∃ m : Nat, m = k * u := ⟨_, rfl⟩
    have hm1 : m ≤ 81920 := by rw [hm]; exact Nat.le_trans (Nat.mul_le_mul hk hu1.2) (by omega)
    have qm : (k : Int) * (u : Int) = (m : Int) := by rw [hm]; simp
    have HM : Hid (m = k * u) := hm
    have h20 : Hid (640 ≤ 20 * u) := by show _ ≤ _; omega
    clear hm
    by_cases hlt : m < 624
    · have k1 : (m : Int) < 624 := by omega
      have hk20 : k < 20 := by
        rcases Nat.lt_or_ge k 20 with h | h
        · exact h
        · have : k = 20 := by omega
          subst this
          have := HM.out; have := h20.out; omega
      have HN : Hid (∀ m, m < k + 1 → m * u < 624) := more_count HK.out (by rw [← HM.out]; exact hlt)
      go_wp2
      go_roundw
      case rel => exact ⟨k + 1, by omega, by go_num, HN, by simp⟩
      case measure => simp [intOf]; omega
    · have k1 : ¬ (m : Int) < 624 := by omega
      have hz := HR.out k (by rw [← HM.out]; omega) HK.out
      subst hz
      go_wp2
      go_ret
      exact ⟨rfl, B1⟩
end Go.Proofs.YtpmakkjcpoillaaDoor.ge
