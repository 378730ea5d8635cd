/- The state of all whole blocks, and how a tail is filled. No claim of its own. -/
import Derived.Test.YtaplllonomdgeaaHash
namespace Go.Proofs.Ytaplllonomdgeaa
open Go.RowKit

/-- the first state, compressed with the first k blocks -/
def upto (xs : List Int) : Nat → List Int
  | 0 => fst8
  | k + 1 => comp (upto xs k) ((xs.drop (64 * k)).take 64)
theorem upto_len (xs : List Int) (k : Nat) : (upto xs k).length = 8 := by
  cases k with
  | zero => rfl
  | succ k => exact comp_len _ _
theorem fst8_all : AllW fst8 := allW_mem (by simp [fst8, W32])
theorem upto_all (xs : List Int) (k : Nat) : AllW (upto xs k) := by
  cases k with
  | zero => exact fst8_all
  | succ k => exact comp_all _ _
theorem upto_append (xs ys : List Int) (k : Nat) (h : 64 * k ≤ xs.length) : upto (xs ++ ys) k = upto xs k := by
  induction k with
  | zero => rfl
  | succ k ih =>
    unfold upto
    rw [ih (by omega), List.drop_append_of_le_length (by omega), List.take_append_of_le_length (by simp; omega)]

theorem fill_block (all tl : List Int) (k u : Nat) (hu : u < 64) (htl : tl.length = 64) (ht : tl.take u = (all.drop (64 * k)).take u) (hN : 64 * k + 64 ≤ all.length) :
    laid tl u ((all.drop (64 * k + u)).take (64 - u)) = (all.drop (64 * k)).take 64 := by
  have hl : ((all.drop (64 * k + u)).take (64 - u)).length = 64 - u := by simp; omega
  unfold laid
  have e0 : tl.drop (u + (64 - u)) = [] := List.drop_of_length_le (by omega)
  rw [hl, e0, List.append_nil, ht, ← List.drop_drop]
  have := List.take_add (l := all.drop (64 * k)) (i := u) (j := 64 - u)
  rw [show u + (64 - u) = 64 by omega] at this
  rw [this]
theorem fill_rest (all tl : List Int) (k u : Nat) (ht : tl.take u = (all.drop (64 * k)).take u) :
    (laid tl u (all.drop (64 * k + u))).take (all.length - 64 * k) = all.drop (64 * k) := by
  have e : (all.drop (64 * k)).take u ++ all.drop (64 * k + u) = all.drop (64 * k) := by
    rw [← List.drop_drop, List.take_append_drop]
  unfold laid
  rw [ht, e, List.take_append_of_le_length (by simp), List.take_of_length_le (by simp)]
theorem laid_all (xs ys : List Int) (s : Nat) (h1 : AllB xs) (h2 : AllB ys) : AllB (laid xs s ys) := allB_mem fun x hx => by
  simp only [laid, List.mem_append] at hx
  rcases hx with (hx | hx) | hx
  · obtain ⟨j, hj, rfl⟩ := List.getElem_of_mem (List.mem_of_mem_take hx)
    have := h1 j; simpa [gb, List.getD, hj] using this
  · obtain ⟨j, hj, rfl⟩ := List.getElem_of_mem hx
    have := h2 j; simpa [gb, List.getD, hj] using this
  · obtain ⟨j, hj, rfl⟩ := List.getElem_of_mem (List.mem_of_mem_drop hx)
    have := h1 j; simpa [gb, List.getD, hj] using this
theorem allB_sub {xs ys : List Int} (h : AllB xs) (hs : ∀ x ∈ ys, x ∈ xs) : AllB ys := allB_mem fun x hx => by
  obtain ⟨j, hj, rfl⟩ := List.getElem_of_mem (hs x hx)
  have := h j; simpa [gb, List.getD, hj] using this
theorem allB_drop {xs : List Int} (h : AllB xs) (k : Nat) : AllB (xs.drop k) := allB_sub h fun _ hx => List.mem_of_mem_drop hx
theorem allB_tk {xs : List Int} (h : AllB xs) (k : Nat) : AllB (xs.take k) := allB_sub h fun _ hx => List.mem_of_mem_take hx
end Go.Proofs.Ytaplllonomdgeaa
