/- Worlds that part in bytes of some blocks alone. No claim of its own. -/
import Derived.Test.YtnklbmeadjgehaaUCopy
namespace Go.Proofs.Ytnklbmeadjgehaa.fa
open Go.RowKit
set_option maxRecDepth 20000

/-- from w to w' bytes alone were written, in blocks from B on, below H -/
def Wr (B H : Nat) (w w' : World) : Prop := Below B w w' ∧ (∀ k, H ≤ k → w'.heap[k]? = w.heap[k]?) ∧ (∀ p v, w.cell? p = some v → (∀ x, v ≠ .int .u8 x) → w'.cell? p = some v) ∧
  (∀ p x, w.cell? p = some (.int .u8 x) → ∃ y, w'.cell? p = some (.int .u8 y)) ∧ ∀ p, w'.frozen? p = w.frozen? p
theorem Wr.refl (B H : Nat) (w : World) : Wr B H w w := ⟨Below.refl _ _, fun _ _ => rfl, fun _ _ h _ => h, fun _ x h => ⟨x, h⟩, fun _ => rfl⟩
theorem Wr.drewN {B H : Nat} {w w' : World} (h : Wr B H w w') (n : Nat) : Wr B H w (w'.drewN n) := ⟨below_drawn h.1 n, h.2.1, h.2.2.1, h.2.2.2.1, h.2.2.2.2⟩
theorem Wr.set {B H : Nat} {w w' : World} (h : Wr B H w w') {b o : Nat} {x : Int} (hc : w'.cell? ⟨b, o, none⟩ = some (.int .u8 x)) (hB : B ≤ b) (hH : b < H) (y : Int) : Wr B H w (w'.setCell ⟨b, o, none⟩ (.int .u8 y)) := by
  obtain ⟨h1, h2, h3, h4, h5⟩ := h
  refine ⟨h1.setCell hB _, fun k hk => ?_, fun p v hv hn => ?_, fun p z hz => ?_, fun p => by rw [World.frozen?_setCell]; exact h5 p⟩
  · rw [Below.heap_setCell w' ⟨b, o, none⟩ _ k (by show k ≠ b; omega)]; exact h2 k hk
  · have hv' := h3 p v hv hn
    rw [World.cell?_setCell_other _ _ _ _ (by intro e; rw [e] at hc; rw [hc] at hv'; injection hv' with hv'; exact hn _ hv'.symm)]
    exact hv'
  · by_cases e : p = ⟨b, o, none⟩
    · subst e
      exact ⟨y, World.cell?_setCell_same _ _ _ hc⟩
    · obtain ⟨u, hu⟩ := h4 p z hz
      exact ⟨u, by rw [World.cell?_setCell_other _ _ _ _ (fun q => e q.symm)]; exact hu⟩
theorem Wr.hid {B H : Nat} {w w' : World} (h : Wr B H w w') : Hid (Wr B H w w') := h
/-- what lies ahead of B, or from H on, stays -/
theorem Wr.up {B H : Nat} {w w' : World} (h : Wr B H w w') {b p : Nat} {f : Int × Bool × Value} (hf : FlA w b p f) (hb : H ≤ b) : FlA w' b p f := hf.heap (h.2.1 b hb)
/-- bytes from H on stay -/
theorem Wr.bow {B H : Nat} {w w' : World} (h : Wr B H w w') {v : Value} {xs : List Int} (hv : Bow H w v xs) : Byt w' v xs := by
  obtain ⟨hy, ho⟩ := hv
  obtain ⟨ao, cap, rfl, h1, h2, h3, h4, h5⟩ := hy
  refine ⟨ao, cap, rfl, h1, h2, h3, h4, fun hp => ?_⟩
  obtain ⟨b, off, rfl, hc⟩ := h5 hp
  obtain ⟨b', off', cap', e, hB, _⟩ := ho hp
  cases e
  exact ⟨b, off, rfl, fun t ht => by rw [World.cell?_of_block (w := w) (w' := w') (a := ⟨b, off + t, none⟩) (h.2.1 b hB)]; exact hc t ht⟩
/-- a mask whose bytes may be written -/
theorem Wr.mask {B H : Nat} {w w' : World} (h : Wr B H w w') {v : Value} {xs : List Int} (hv : Bow B w v xs) : ∃ mo mc, v = .slice mo xs.length mc ∧ xs.length ≤ mc ∧ mc ≤ 9223372036854775807 ∧
    (0 < xs.length → ∃ b off, mo = some ⟨b, off, none⟩ ∧ B ≤ b ∧ b < w.heap.size ∧ ∀ j, j < xs.length → (∃ y, w'.cell? ⟨b, off + j, none⟩ = some (.int .u8 y)) ∧ w'.frozen? ⟨b, off + j, none⟩ = false) := by
  obtain ⟨hy, ho⟩ := hv
  obtain ⟨ao, cap, rfl, h1, h2, h3, h4, h5⟩ := hy
  refine ⟨ao, cap, rfl, h1, h2, fun hp => ?_⟩
  obtain ⟨b, off, rfl, hc⟩ := h5 hp
  obtain ⟨b', off', cap', e, hB, hf⟩ := ho hp
  cases e
  refine ⟨b, off, rfl, hB, World.block_lt_of_cell? w _ (hc 0 hp), fun j hj => ⟨h.2.2.2.1 _ _ (hc j hj), by rw [h.2.2.2.2]; exact hf j hj⟩⟩
end Go.Proofs.Ytnklbmeadjgehaa.fa
