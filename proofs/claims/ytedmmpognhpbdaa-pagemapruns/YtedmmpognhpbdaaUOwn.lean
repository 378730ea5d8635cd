/- Rows of bytes of the call's own, with room behind: read, written, appended to. No claim of its own. -/
import Derived.Test.YtedmmpognhpbdaaUBit
import Derived.Laws.AppendOwnNone
namespace Go.Proofs.Ytedmmpognhpbdaa.fa
open Go.RowKit
set_option maxRecDepth 20000

/-- the row g owns n bytes, and has room for cap -/
def OwnC (B : Nat) (w : World) (g n cap : Nat) (xs : List Int) : Prop := xs.length = n ∧ B ≤ g ∧ w.ownsRow B 5 1 (.slice (some ⟨g, 0, none⟩) n cap) n (xs.map (Value.int .u8))
theorem OwnC.cell {B : Nat} {w : World} {g n cap : Nat} {xs : List Int} (h : OwnC B w g n cap xs) {k : Nat} (hk : k < n) : w.cell? ⟨g, k, none⟩ = some (.int .u8 (gb xs k)) := by
  rw [h.2.2.cellAt k (by omega)]
  have := h.1
  simp [gb, List.getD, show k < xs.length by omega]
theorem OwnC.free {B : Nat} {w : World} {g n cap : Nat} {xs : List Int} (h : OwnC B w g n cap xs) (k : Nat) : w.frozen? ⟨g, k, none⟩ = false := h.2.2.frozenAt k
theorem OwnC.set {B : Nat} {w : World} {g n cap : Nat} {xs : List Int} (h : OwnC B w g n cap xs) (k : Nat) (x : Int) : OwnC B (w.setCell ⟨g, k, none⟩ (.int .u8 x)) g n cap (xs.set k x) :=
  ⟨by simpa using h.1, h.2.1, by have := (h.2.2.stored k (.int .u8 x)).1; rwa [← List.map_set] at this⟩
theorem OwnC.drewN {B : Nat} {w : World} {g n cap : Nat} {xs : List Int} (h : OwnC B w g n cap xs) (m : Nat) : OwnC B (w.drewN m) g n cap xs := h
theorem OwnC.own {B : Nat} {w : World} {g n cap : Nat} {xs : List Int} (h : OwnC B w g n cap xs) : Own B w (.slice (some ⟨g, 0, none⟩) n cap) xs := by
  have h1 := h.1
  subst h1
  exact h.2.2
theorem own_row {B : Nat} {w : World} {v : Value} {xs : List Int} (h : Own B w v xs) (hp : 0 < xs.length) : ∃ g cap, v = .slice (some ⟨g, 0, none⟩) xs.length cap ∧ OwnC B w g xs.length cap xs := by
  rcases h.2 with ⟨_, hn⟩ | ⟨g, cap, cur, rfl, hg, hr⟩
  · omega
  · exact ⟨g, cap, rfl, rfl, hg, h⟩
theorem own_drewN {B : Nat} {w : World} {v : Value} {xs : List Int} (h : Own B w v xs) (m : Nat) : Own B (w.drewN m) v xs := h
end Go.Proofs.Ytedmmpognhpbdaa.fa
