/- What octet's Fill and the reference's Fill answer: so many of any byte. No claim of its own. -/
import Derived.Test.YtpmakkjcpoillaaDoorBase
namespace Go.Proofs.YtpmakkjcpoillaaDoor
open Go.RowKit
set_option maxRecDepth 20000

/-- n, taken as 0 if below and as m if above -/
def clamp (n m : Int) : Nat := (min (max n 0) m).toNat
theorem clamp_le (n m : Int) (h : 0 ≤ m) : ((clamp n m : Nat) : Int) ≤ m := by unfold clamp; omega

theorem within_any (n m : Int) (w : World) (hm : 0 ≤ m) :
    Calls Tryd.prog 42 #[.int .i64 n, .int .i64 m] w fun e w' => e = .returned (.int .i64 (clamp n m)) ∧ w' = w := by
  have hc : ((clamp n m : Nat) : Int) = min (max n 0) m := by unfold clamp; omega
  have HC : Hid (((clamp n m : Nat) : Int) = min (max n 0) m) := hc
  clear hc
  go_enter Tryd.func42, Tryd.ntmps42
  go_wp2
  all_goals
    go_ret
    exact ⟨ret_int (by rw [HC.out]; omega), rfl⟩

def fillAt (x : Int) (s k : Nat) : List Int := List.replicate k x ++ List.replicate (s - k) 0
theorem fillAt_set (x : Int) (s k : Nat) (h : k < s) : (fillAt x s k).set k x = fillAt x s (k + 1) := by
  unfold fillAt
  obtain ⟨d, hd⟩ : ∃ d, s - k = d + 1 := ⟨s - k - 1, by omega⟩
  have e : s - (k + 1) = d := by omega
  rw [hd, e, List.set_append_right _ _ (by simp)]
  simp only [List.length_replicate, Nat.sub_self, List.replicate_succ, List.set_cons_zero]
  rw [← List.replicate_succ, List.replicate_succ', List.append_assoc]; rfl
theorem fillAt_end (x : Int) (s : Nat) : fillAt x s s = List.replicate s x := by simp [fillAt]
theorem allB_replicate (x : Int) (n : Nat) (h : 0 ≤ x ∧ x ≤ 255) : AllB (List.replicate n x) := allB_mem fun y hy => by
  rw [(List.mem_replicate.1 hy).2]; exact h

set_option maxHeartbeats 1000000 in
theorem fill_any (x n : Int) (w : World) (hx : 0 ≤ x ∧ x ≤ 255) :
    Calls Tryd.prog 24 #[.int .u8 x, .int .i64 n] w fun e w' => ∃ v, e = .returned v ∧ Byt w' v (List.replicate (clamp n 65536) x) ∧ Below w.heap.size w w' := by
  have hs := clamp_le n 65536 (by omega)
  generalize hsd : clamp n 65536 = s at hs
  have HS : Hid (clamp n 65536 = s) := hsd
  clear hsd
  go_enter Tryd.func24, Tryd.ntmps24
  go_wp2_with (first
    | (go_at_call 42; refine (within_any _ _ _ (by omega)).mono ?_; rintro e w' ⟨rfl, hw⟩; obtain rfl := hw.symm; rw [HS.out])
    | (at_make; refine make_law _ rfl _ _ rfl w.heap.size (Nat.le_refl _) _ s rfl rfl rfl (by omega) ?_; intro w1 hown hbel hlt))
  go_loopw [13] (fun i wr => ∃ k : Nat, k ≤ s ∧ i = .int .i64 k ∧ OwnN w.heap.size wr w.heap.size s (fillAt x s k) ∧ Below w.heap.size w wr) (fun i _ => s - (intOf i).toNat)
  case atStart => exact ⟨0, Nat.zero_le _, rfl, hown, hbel⟩
  case round =>
    clear hown hbel
    obtain ⟨k, hk, rfl, hown, hbel⟩ := hrel
    by_cases hlt' : k < s
    · have c1 := hown.cell hlt'
      have c2 := hown.free k
      have hown' := hown.set k x
      rw [fillAt_set x s k hlt'] at hown'
      go_wp2
      go_roundw
      case rel => exact ⟨k + 1, by omega, by go_num, hown', hbel.setCell (Nat.le_refl _) _⟩
      case measure => simp [intOf]; omega
    · have : k = s := by omega
      subst this
      rw [fillAt_end] at hown
      go_wp2
      go_ret
      exact ⟨_, rfl, hown.byt (allB_replicate _ _ hx), hbel⟩

set_option maxHeartbeats 1000000 in
theorem rfill_any (x n : Int) (w : World) (hx : 0 ≤ x ∧ x ≤ 255) :
    Calls Tryd.prog 18 #[.int .u8 x, .int .i64 n] w fun e w' => ∃ v, e = .returned v ∧ Byt w' v (List.replicate (clamp n 65536) x) ∧ Below w.heap.size w w' := by
  have hs : ((clamp n 65536 : Nat) : Int) = min (max n 0) 65536 := by unfold clamp; omega
  generalize hsd : clamp n 65536 = s at hs
  have HS : Hid ((s : Int) = min (max n 0) 65536) := hs
  have hs1 : s ≤ 65536 := by omega
  clear hsd hs
  go_enter Tryd.func18, Tryd.ntmps18
  go_wp2
  go_loopw [5, 6] (fun v i wr => ∃ k : Nat, k ≤ s ∧ i = .int .i64 k ∧ Own w.heap.size wr v (List.replicate k x) ∧ Below w.heap.size w wr) (fun _ i _ => s - (intOf i).toNat)
  case atStart => exact ⟨0, Nat.zero_le _, rfl, Own.empty w (Nat.le_refl _), (Below.refl _ _).alloc (Nat.le_refl _) _⟩
  case round =>
    obtain ⟨k, hk, rfl, hown, hbel⟩ := hrel
    have hsz := hbel.size
    by_cases hlt : k < s
    · have h1 : (k : Int) < n := by have := HS.out; omega
      have h2 : (k : Int) < 65536 := by omega
      go_wp2_with (at_builtin; refine push_law wr rfl (.tmp 17) (.tmp 19) rfl w.heap.size (by omega) _ _ x rfl rfl hown (by simp; omega) ?_; intro v' w1 hown' hbel')
      rw [← List.replicate_succ'] at hown'
      go_roundw
      case rel => exact ⟨k + 1, by omega, by go_num, hown', hbel.trans hbel'⟩
      case measure => simp [intOf]; omega
    · have hks : k = s := by omega
      subst hks
      by_cases h1 : (k : Int) < n
      · have h2 : ¬ (k : Int) < 65536 := by have := HS.out; omega
        go_wp2
        go_ret
        exact ⟨_, rfl, hown.byt (allB_replicate _ _ hx), hbel⟩
      · go_wp2
        go_ret
        exact ⟨_, rfl, hown.byt (allB_replicate _ _ hx), hbel⟩
end Go.Proofs.YtpmakkjcpoillaaDoor
