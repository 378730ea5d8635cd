/- What octet's Big, Little, NumLittle and the reference's answer. No claim of its own. -/
import Derived.Test.YtpmakkjcpoillaaDoorNum
namespace Go.Proofs.YtpmakkjcpoillaaDoor
open Go.RowKit
set_option maxRecDepth 20000

/-- n, shifted by k bytes -/
def sh (n : Int) : Nat → Int
  | 0 => n
  | k + 1 => sh n k / 256
theorem sh_succ (n : Int) (k : Nat) : sh n (k + 1) = sh n k / 256 := rfl
theorem sh_bd (n : Int) (h : 0 ≤ n ∧ n ≤ 18446744073709551615) (k : Nat) : 0 ≤ sh n k ∧ sh n k ≤ 18446744073709551615 := by
  induction k with
  | zero => exact h
  | succ k ih => rw [sh_succ]; omega
/-- the k low bytes of n, the least first -/
def le (n : Int) (k : Nat) : List Int := (List.range k).map fun i => sh n i % 256
theorem le_snoc (n : Int) (k : Nat) : le n (k + 1) = le n k ++ [sh n k % 256] := by simp [le, List.range_succ]
theorem le_len (n : Int) (k : Nat) : (le n k).length = k := by simp [le]
theorem le_all (n : Int) (k : Nat) : AllB (le n k) := allB_mem fun x hx => by
  obtain ⟨i, _, rfl⟩ := List.mem_map.1 hx
  omega
theorem allB_reverse {xs : List Int} (h : AllB xs) : AllB xs.reverse := allB_mem fun x hx => by
  obtain ⟨i, hi, rfl⟩ := List.getElem_of_mem (List.mem_reverse.1 hx)
  have := h i
  simpa [gb, List.getD, hi] using this

def leAt (n : Int) (s k : Nat) : List Int := le n k ++ List.replicate (s - k) 0
theorem leAt_set (n : Int) (s k : Nat) (h : k < s) : (leAt n s k).set k (sh n k % 256) = leAt n s (k + 1) := by
  unfold leAt
  obtain ⟨d, hd⟩ : ∃ d, s - k = d + 1 := ⟨s - k - 1, by omega⟩
  have e : s - (k + 1) = d := by omega
  rw [hd, e, List.set_append_right _ _ (by simp [le_len]), le_snoc]
  simp [le_len, List.replicate_succ]
theorem leAt_end (n : Int) (s : Nat) : leAt n s s = le n s := by simp [leAt]

def beAt (n : Int) (s k : Nat) : List Int := List.replicate (s - k) 0 ++ (le n k).reverse
theorem beAt_set (n : Int) (s k : Nat) (h : k < s) : (beAt n s k).set (s - 1 - k) (sh n k % 256) = beAt n s (k + 1) := by
  unfold beAt
  obtain ⟨d, hd⟩ : ∃ d, s - k = d + 1 := ⟨s - k - 1, by omega⟩
  have e : s - (k + 1) = d := by omega
  have e' : s - 1 - k = d := by omega
  rw [hd, e, e', List.set_append_left _ _ (by simp), le_snoc, List.replicate_succ', List.set_append_right _ _ (by simp)]
  simp
theorem beAt_end (n : Int) (s : Nat) : beAt n s s = (le n s).reverse := by simp [beAt]

set_option maxHeartbeats 2000000 in
theorem big_any (n k0 : Int) (w : World) (hn : 0 ≤ n ∧ n ≤ 18446744073709551615) :
    Calls Tryd.prog 58 #[.int .u64 n, .int .i64 k0] w fun e w' => ∃ v, e = .returned v ∧ Byt w' v (le n (clamp k0 8)).reverse ∧ Below w.heap.size w w' := by
  have hs := clamp_le k0 8 (by omega)
  generalize hsd : clamp k0 8 = s at hs
  have HS : Hid (clamp k0 8 = s) := hsd
  have hn' : Hid (0 ≤ n ∧ n ≤ 18446744073709551615) := hn
  clear hsd hn
  go_enter Tryd.func58, Tryd.ntmps58
  go_wp2_with (first
    | (go_at_call 42; refine (within_any _ _ _ (by omega)).mono ?_; rintro e w' ⟨rfl, hw⟩; obtain rfl := hw.symm; rw [HS.out])
    | (at_make; refine make_law _ rfl _ _ rfl w.heap.size (Nat.le_refl _) _ s rfl rfl rfl (by omega) ?_; intro w1 hown hbel hlt))
  go_loopw [0, 13] (fun m i wr => ∃ k : Nat, k ≤ s ∧ i = .int .i64 k ∧ m = .int .u64 (sh n k) ∧ OwnN w.heap.size wr w.heap.size s (beAt n s k) ∧ Below w.heap.size w wr) (fun _ i _ => s - (intOf i).toNat)
  case atStart => exact ⟨0, Nat.zero_le _, rfl, rfl, by simpa [beAt, le] using hown, hbel⟩
  case round =>
    clear hown hbel
    obtain ⟨k, hk, rfl, rfl, hown, hbel⟩ := hrel
    by_cases hlt' : k < s
    · have c1 := hown.cell (show s - 1 - k < s by omega)
      have c2 := hown.free (s - 1 - k)
      have hown' := hown.set (s - 1 - k) (sh n k % 256)
      rw [beAt_set n s k hlt'] at hown'
      have bd := sh_bd n hn'.out k
      have e1 : IntKind.u8.wrap (sh n k) = sh n k % 256 := IntKind.wrap_u8' _
      have e2 : ((s : Int) - 1 - (k : Int)).toNat = s - 1 - k := by omega
      go_wp2
      go_roundw
      case rel => exact ⟨k + 1, by omega, by go_num, rfl, hown', hbel.setCell (Nat.le_refl _) _⟩
      case measure => simp [intOf]; omega
    · have : k = s := by omega
      subst this
      rw [beAt_end] at hown
      go_wp2
      go_ret
      exact ⟨_, rfl, hown.byt (allB_reverse (le_all _ _)), hbel⟩
end Go.Proofs.YtpmakkjcpoillaaDoor
