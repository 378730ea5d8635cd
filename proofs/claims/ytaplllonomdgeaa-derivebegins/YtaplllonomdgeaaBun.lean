/- The laws by which sha's compress adds its state. No claim of its own. -/
import Derived.Test.YtaplllonomdgeaaStretch
import Derived.Deep.DeepCutAuto
namespace Go.Proofs.Ytaplllonomdgeaa
open Go.RowKit

/-- while the state is added: the state's own place, the result's -/
def Bun (w : World) (xs : List Int) (w' : World) : Prop := xs.length = 8 ∧ Ar w' w.heap.size 0 .u32 xs ∧ Ar w' (w.heap.size + 1 + 1) 0 .u32 z8 ∧ Below w.heap.size w w'
theorem gb_set_ne (xs : List Int) (i j : Nat) (x : Int) (h : i ≠ j) : gb (xs.set i x) j = gb xs j := by simp [gb, List.getD, h]
section
variable {ops : Array Oper} {rest : List Oper} {o : Oper} {a : Act} {Q : Exit → Act → World → Prop}
theorem bun_load {w : World} {xs : List Int} (w' : World) (hg : o.guard = none) (x : Operand) (hop : o.op = Op.load 59 x) (i : Nat) (hx : a.eval x = .pointer (some ⟨w.heap.size, i, none⟩)) (h : Bun w xs w') (hi : i < 8) (q : Int) (hq : q = gb xs i)
    (hK : wpList Try.prog ops Q rest (a.put o.dst (.int .u32 q)) w') : wpList Try.prog ops Q (o :: rest) a w' := by
  subst hq
  refine wpList_plain hg fun K hK' => ?_
  have hc := h.2.1.cell0 i (by rw [h.1]; exact hi)
  have hr : (Instr.loadAt 59 (.pointer (some ⟨w.heap.size, i, none⟩))).run Try.prog w' = .ok (.int .u32 (gb xs i)) w' := by simp [go_sem, hc]
  unfold Oper.wp execOp
  simp only [hop, hx, Sem.run_bind, Sem.run_pure, Result.andThen_ok, hr]
  exact hK' _ _ hK
theorem bun_store {w : World} {xs : List Int} (w' : World) (hg : o.guard = none) (x y : Operand) (hop : o.op = Op.store 59 x y) (i : Nat) (v : Int) (hx : a.eval x = .pointer (some ⟨w.heap.size, i, none⟩)) (hy : a.eval y = .int .u32 v) (h : Bun w xs w') (hi : i < 8)
    (hK : ∀ w'', Bun w (xs.set i v) w'' → wpList Try.prog ops Q rest (a.put o.dst undef) w'') : wpList Try.prog ops Q (o :: rest) a w' := by
  refine wpList_plain hg fun K hK' => ?_
  have hlen := h.1
  have hc := h.2.1.cell0 i (by omega)
  have hf := h.2.1.free0 i (by omega)
  have h2 : Bun w (xs.set i v) (w'.setCell ⟨w.heap.size, i, none⟩ (.int .u32 v)) :=
    ⟨by simpa using hlen, h.2.1.set0 i (by omega) v, h.2.2.1.other (by show _ ≠ w.heap.size; omega) _, h.2.2.2.setCell (Nat.le_refl _) _⟩
  have hr : (Instr.storeAt 59 (.pointer (some ⟨w.heap.size, i, none⟩)) (.int .u32 v)).run Try.prog w' = .ok () (w'.setCell ⟨w.heap.size, i, none⟩ (.int .u32 v)) := by simp [go_sem, hc, hf]
  unfold Oper.wp execOp
  simp only [hop, hx, hy, Sem.run_bind, Sem.run_pure, Result.andThen_ok, hr]
  exact hK' _ _ (hK _ h2)
end
end Go.Proofs.Ytaplllonomdgeaa
