/- What a mask says of a bit: fault's closure over a mask and Bit, and the reference's power, Has and Bit. No claim of its own. -/
import Derived.Test.YtedmmpognhpbdaaUMath
import Derived.Test.YtedmmpognhpbdaaFill
import Derived.Test.YtedmmpognhpbdaaStepG
namespace Go.Proofs.Ytedmmpognhpbdaa.fa
open Go.RowKit
set_option maxRecDepth 20000

theorem byt_drawn {w : World} {v : Value} {xs : List Int} (h : Byt w v xs) (m : Nat) : Byt (w.drewN m) v xs := h
theorem below_drawn {B : Nat} {w w' : World} (h : Below B w w') (n : Nat) : Below B w (w'.drewN n) := ⟨h.os, h.tape, h.output, h.size, h.block⟩

/-- a variable: one value has a place of its own at c -/
def Var (w : World) (c : Nat) (v : Value) : Prop := w.cell? ⟨c, 0, none⟩ = some v ∧ w.frozen? ⟨c, 0, none⟩ = false
theorem Var.new (w : World) (v : Value) (t : TypeId) : Var (w.alloc (.cells #[v] t)) w.heap.size v := ⟨World.cell?_alloc_at _ _ _ _ rfl, World.frozen?_alloc_at _ _ _ _ rfl⟩
theorem Var.lt {w : World} {c : Nat} {v : Value} (h : Var w c v) : c < w.heap.size := World.block_lt_of_cell? w _ h.1
theorem Var.below {w w' : World} {c B : Nat} {v : Value} (h : Var w c v) (hb : Below B w w') (hc : c < B) : Var w' c v := ⟨by rw [hb.cell hc]; exact h.1, by rw [hb.frozen hc]; exact h.2⟩
theorem Var.set {w : World} {c : Nat} {v : Value} (h : Var w c v) (u : Value) : Var (w.setCell ⟨c, 0, none⟩ u) c u := ⟨World.cell?_setCell_same _ _ _ h.1, by rw [World.frozen?_setCell]; exact h.2⟩
theorem byt_form {w : World} {v : Value} {xs : List Int} (h : Byt w v xs) : ∃ ao cap, v = .slice ao xs.length cap := by
  obtain ⟨ao, cap, rfl, _⟩ := h
  exact ⟨ao, cap, rfl⟩
/-- bytes last where a cell is written that is no byte -/
theorem byt_other {w : World} {v u old : Value} {xs : List Int} {p : Addr} (h : Byt w v xs) (hc : w.cell? p = some old) (ho : ∀ x, old ≠ .int .u8 x) : Byt (w.setCell p u) v xs := by
  obtain ⟨ao, cap, rfl, h1, h2, h3, h4, h5⟩ := h
  refine ⟨ao, cap, rfl, h1, h2, h3, h4, fun hp => ?_⟩
  obtain ⟨b, off, rfl, hb⟩ := h5 hp
  refine ⟨b, off, rfl, fun t ht => ?_⟩
  rw [World.cell?_setCell_other _ _ _ _ (by intro e; rw [e] at hc; rw [hb t ht] at hc; injection hc with hc; exact ho _ hc.symm)]
  exact hb t ht

/-- the bytes of a mask; of an empty one a byte of ones -/
def ms (m : List Int) : List Int := if m.length = 0 then [255] else m
theorem ms_pos (m : List Int) : 0 < (ms m).length := by
  unfold ms
  split
  · decide
  · omega
theorem ms_all {m : List Int} (h : AllB m) : AllB (ms m) := by
  unfold ms
  split
  · exact allB_mem fun x hx => by simp at hx; omega
  · exact h
/-- what a mask says of byte i -/
def mb (m : List Int) (i : Nat) : Int := gb (ms m) (i % (ms m).length)
theorem mb_bd {m : List Int} (h : AllB m) (i : Nat) : 0 ≤ mb m i ∧ mb m i ≤ 255 := ms_all h _
theorem bit255 : ∀ t, t < 8 → bit 255 t = true := by decide
theorem mb_mk (m : List Int) (i : Nat) : mk m i = bit (mb m (i / 8)).toNat (i % 8) := by
  unfold mk mb ms
  by_cases h : m.length = 0
  · rw [if_pos h, h, show [(255 : Int)].length = 1 from rfl, Nat.mod_one]
    show (true || _) = bit 255 (i % 8)
    rw [bit255 _ (by omega), Bool.true_or]
  · rw [if_neg h, show (m.length == 0) = false by simpa using h, Bool.false_or]

/-- the variable at c tells of the mask m -/
def Say (w : World) (c : Nat) (m : List Int) : Prop := ∃ sv, w.cell? ⟨c, 0, none⟩ = some sv ∧ Byt w sv (ms m)
theorem Say.lt {w : World} {c : Nat} {m : List Int} (h : Say w c m) : c < w.heap.size := by
  obtain ⟨sv, h1, _⟩ := h
  exact World.block_lt_of_cell? w _ h1
theorem Say.below {w w' : World} {c : Nat} {m : List Int} (h : Say w c m) (hb : Below w.heap.size w w') : Say w' c m := by
  have hl := h.lt
  obtain ⟨sv, h1, h2⟩ := h
  exact ⟨sv, by rw [hb.cell hl]; exact h1, h2.below hb⟩
end Go.Proofs.Ytedmmpognhpbdaa.fa
