/- What octet's Fill and the reference's Fill answer: so many of any byte. No claim of its own. -/
import Derived.Test.YtedmmpognhpbdaaBase
namespace Go.Proofs.Ytedmmpognhpbdaa
open Go.RowKit
set_option maxRecDepth 20000

/-- n, taken as 0 if below and as m if above -/
def clamp (n m : Int) : Nat := (min (max n 0) m).toNat
theorem clamp_le (n m : Int) (h : 0 ≤ m) : ((clamp n m : Nat) : Int) ≤ m := by unfold clamp; omega

def fillAt (x : Int) (s k : Nat) : List Int := List.replicate k x ++ List.replicate (s - k) 0
theorem fillAt_set (x : Int) (s k : Nat) (h : k < s) : (fillAt x s k).set k x = fillAt x s (k + 1) := by
  unfold fillAt
  obtain ⟨d, hd⟩ : ∃ d, s - k = d + 1 := ⟨s - k - 1, by omega⟩
  have e : s - (k + 1) = d := by omega
  rw [hd, e, List.set_append_right _ _ (by simp)]
  simp only [List.length_replicate, Nat.sub_self, List.replicate_succ, List.set_cons_zero]
  rw [← List.replicate_succ, List.replicate_succ', List.append_assoc]; rfl
theorem fillAt_end (x : Int) (s : Nat) : fillAt x s s = List.replicate s x := by simp [fillAt]
theorem allB_replicate (x : Int) (n : Nat) (h : 0 ≤ x ∧ x ≤ 255) : AllB (List.replicate n x) := allB_mem fun y hy => by
  rw [(List.mem_replicate.1 hy).2]; exact h
end Go.Proofs.Ytedmmpognhpbdaa
