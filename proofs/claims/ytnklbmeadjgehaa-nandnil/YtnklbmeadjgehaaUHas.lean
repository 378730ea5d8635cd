/- What fault's bitsOf and Bit, and the reference's Has and Bit answer. No claim of its own. -/
import Derived.Test.YtnklbmeadjgehaaUBit
namespace Go.Proofs.Ytnklbmeadjgehaa.fa
open Go.RowKit
set_option maxRecDepth 20000

theorem makeFn (fn : Fn) (first cap : Array Value) (w : World) : (Instr.makeFunc fn first cap).run Try.prog w = .ok (.func fn first cap) w := rfl

set_option maxHeartbeats 1000000 in
theorem bitsOf_any (vm : Value) (m : List Int) (w : World) (hm : Byt w vm m) :
    Calls Try.prog 90 #[vm] w fun e w' => e = .returned (.func (.func 95) #[] #[.pointer (some ⟨w.heap.size, 0, none⟩)]) ∧ Say w' w.heap.size m ∧ Below w.heap.size w w' := by
  have HM : Hid (Byt w vm m) := hm
  obtain ⟨ao, cap, rfl, h1, h2, h3, h4, h5⟩ := hm
  clear h5 h3 h4
  have hmf := makeFn
  by_cases hl : m.length = 0
  · have HE : Hid (ms m = [255]) := by show _ = _; unfold ms; rw [if_pos hl]
    have S : Hid (∀ w0, Calls Try.prog 94 #[.int .u8 255, .int .i64 1] w0 fun e w' => ∃ v, e = .returned v ∧ Byt w' v [255] ∧ Below w0.heap.size w0 w') := fun w0 => fill_any 255 1 w0 (by decide)
    generalize hn : m.length = n at *
    subst hl
    go_enter Try.func90, Try.ntmps90
    go_wp2_with (go_at_call 94; refine (S.out _).mono ?_; rintro e w1 ⟨v1, rfl, y1, B1⟩; obtain ⟨ao1, cap1, rfl⟩ := byt_form y1; have V1 := (Var.new w _ _).below B1 (by simp); have c1 := V1.1; have f1 := V1.2)
    go_ret
    refine ⟨rfl, ⟨_, (V1.set _).1, ?_⟩, ?_⟩
    · rw [HE.out]
      exact byt_other y1 V1.1 (by simp)
    · exact (((Below.refl _ _).alloc (Nat.le_refl _) _).trans (B1.mono (by simp))).setCell (Nat.le_refl _) _
  · have HE : Hid (ms m = m) := by show _ = _; unfold ms; rw [if_neg hl]
    have l0 : (m.length : Int) ≠ 0 := by omega
    go_enter Try.func90, Try.ntmps90
    go_wp2
    go_ret
    refine ⟨rfl, ⟨_, (Var.new w _ _).1, ?_⟩, (Below.refl _ _).alloc (Nat.le_refl _) _⟩
    rw [HE.out]
    exact HM.out.below ((Below.refl _ _).alloc (Nat.le_refl _) _)
end Go.Proofs.Ytnklbmeadjgehaa.fa
