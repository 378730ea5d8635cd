/- An end of which bits of the first 48 bytes were all set, or all cleared, tells a head just when nothing changed. No claim of its own. -/
import Derived.Test.YtjlnalfbaojedaaDoorHEqx
import Derived.Test.YtjlnalfbaojedaaDoorUErase
namespace Go.Proofs.YtjlnalfbaojedaaDoor.he
open Go.RowKit Go.Proofs.YtjlnalfbaojedaaDoor.fa
set_option maxRecDepth 20000

theorem take48 {Z tag mk : List Int} (h : Z.length = 24) : (hend Z tag mk).take 48 = Z ++ inv Z := by
  unfold hend
  rw [← List.append_assoc, List.take_append_of_le_length (by rw [List.length_append, inv_len]; omega), List.take_of_length_le (by rw [List.length_append, inv_len]; omega)]
theorem drop48 {Z tag mk : List Int} (h : Z.length = 24) : (hend Z tag mk).drop 48 = tag ++ mk := by
  unfold hend
  rw [← List.append_assoc, List.drop_append_of_le_length (by rw [List.length_append, inv_len]; omega), List.drop_of_length_le (by rw [List.length_append, inv_len]; omega), List.nil_append]
theorem bits_tl {k n c l e t : Int} (h : Rh k n c) {tag mk X : List Int} (h1 : tag.length = 32) (hX : X.length = 48) (aX : AllB X)
    (hm : (∀ i, i < 384 → hs (hb k n c l e t ++ inv (hb k n c l e t)) i = true → hs X i = true) ∨ (∀ i, i < 384 → hs X i = true → hs (hb k n c l e t ++ inv (hb k n c l e t)) i = true)) :
    Tl (X ++ (tag ++ mk)) ↔ X = hb k n c l e t ++ inv (hb k n c l e t) := by
  have hz := hb_len k n c l e t
  have az := hb_all h l e t
  constructor
  · rintro ⟨e1, -⟩
    have s1 : sub (X ++ (tag ++ mk)) 0 24 = X.take 24 := by
      unfold sub
      rw [List.drop_zero, List.take_append_of_le_length (by omega)]
    have s2 : sub (X ++ (tag ++ mk)) 24 48 = X.drop 24 := by
      unfold sub
      rw [List.take_append_of_le_length (by omega), List.take_of_length_le (by omega)]
    rw [s1, s2] at e1
    have ey : X = X.take 24 ++ X.drop 24 := (List.take_append_drop 24 X).symm
    have y1 : X.take 24 = hb k n c l e t := by
      refine bits_whole az (allB_take aX 24) (by rw [List.length_take]; omega) e1 ?_
      rw [← ey, hz]
      exact hm
    rw [y1] at e1
    rw [ey, y1, e1]
  · intro q
    have := hend_tl (l := l) (e := e) (t := t) h tag mk h1
    unfold hend at this
    rw [q, List.append_assoc]
    exact this
theorem erased_up (xs m : List Int) (n i : Nat) (hi : i < 8 * n) (h : hs xs i = true) : hs (ofb n (erased xs m)) i = true := by
  rw [hs_ofb n _ i hi]
  unfold erased
  rw [h]; rfl
theorem torn_down (xs ys m : List Int) (N n i : Nat) (hi : i < 8 * n) (h : hs (ofb n (prg xs ys m false N)) i = true) : hs xs i = true := by
  rw [hs_ofb n _ i hi] at h
  unfold prg at h
  cases q : hs xs i
  · rw [q] at h; simp at h
  · rfl
end Go.Proofs.YtjlnalfbaojedaaDoor.he
