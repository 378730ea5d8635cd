/- What the reference's Program and Erase answer. No claim of its own. -/
import Derived.Test.YtpmakkjcpoillaaDoorURef
import Derived.Test.YtpmakkjcpoillaaDoorULast
namespace Go.Proofs.YtpmakkjcpoillaaDoor.fa
open Go.RowKit
set_option maxRecDepth 20000

/-- which bits are there behind a program: of N bits the last one to be cleared is left out, if it fails -/
def prg (xs ys m : List Int) (fl : Bool) (N i : Nat) : Bool := hs xs i && !(due xs ys i && mk m i && !(fl && (i + 1 == lst xs ys N)))
/-- the first k bits are done -/
def upb (F G : Nat → Bool) (k i : Nat) : Bool := if i < k then F i else G i
theorem upb_zero (F G : Nat → Bool) (n : Nat) : ofb n (upb F G 0) = ofb n G := ofb_congr n fun i _ => by unfold upb; rw [if_neg (by omega)]
theorem upb_end (F G : Nat → Bool) (n : Nat) : ofb n (upb F G (8 * n)) = ofb n F := ofb_congr n fun i hi => by unfold upb; rw [if_pos hi]
theorem upb_same (F G : Nat → Bool) (n k : Nat) (h : F k = G k) : ofb n (upb F G (k + 1)) = ofb n (upb F G k) := ofb_congr n fun i _ => by
  unfold upb
  by_cases h1 : i < k
  · rw [if_pos h1, if_pos (by omega)]
  · rw [if_neg h1]
    by_cases h2 : i = k
    · subst h2; rw [if_pos (by omega), h]
    · rw [if_neg (by omega)]
theorem upb_at (F G : Nat → Bool) (k : Nat) : upb F G k k = G k ∧ upb F G (k + 1) k = F k ∧ ∀ i, i ≠ k → upb F G k i = upb F G (k + 1) i := by
  unfold upb
  refine ⟨by rw [if_neg (by omega)], by rw [if_pos (by omega)], fun i hi => ?_⟩
  by_cases h1 : i < k
  · rw [if_pos h1, if_pos (by omega)]
  · rw [if_neg h1, if_neg (by omega)]
theorem bo_nat (m : List Int) (k : Nat) : bo m (k : Int) = mk m k := by unfold bo; rw [if_neg (by omega), Int.toNat_natCast]
theorem lst_succ (xs ys : List Int) (k : Nat) : lst xs ys (k + 1) = if due xs ys k then k + 1 else lst xs ys k := rfl
theorem gb_out (xs : List Int) (k : Nat) (h : xs.length ≤ k) : gb xs k = 0 := by simp [gb, List.getD, h]
end Go.Proofs.YtpmakkjcpoillaaDoor.fa
