/- An array of two slices that gets a place. No claim of its own. -/
import Derived.Test.YtaplllonomdgeaaDerAwake
namespace Go.Proofs.Ytaplllonomdgeaa
open Go.RowKit

/-- the values va and vb lie side by side in block h -/
def Prs (w : World) (h : Nat) (va vb : Value) : Prop := w.cell? ⟨h, 0, none⟩ = some va ∧ w.cell? ⟨h, 1, none⟩ = some vb
theorem Prs.below {w w' : World} {h : Nat} {va vb : Value} (p : Prs w h va vb) (hb : Below w.heap.size w w') : Prs w' h va vb :=
  ⟨(hb.cell (World.block_lt_of_cell? w _ p.1)).trans p.1, (hb.cell (World.block_lt_of_cell? w _ p.2)).trans p.2⟩
section
variable {ops : Array Oper} {rest : List Oper} {o : Oper} {a : Act} {Q : Exit → Act → World → Prop}
/-- an array of two slices gets a place; the world gets a name -/
theorem box2_law (w : World) (hg : o.guard = none) (x : Operand) (hop : o.op = Op.box 23 x) (ao bo : Option Addr) (n ca m cb : Nat) (hx : a.eval x = .agg #[.slice ao n ca, .slice bo m cb])
    (hK : ∀ w', Prs w' w.heap.size (.slice ao n ca) (.slice bo m cb) → Below w.heap.size w w' → wpList Try.prog ops Q rest (a.put o.dst (.pointer (some ⟨w.heap.size, 0, none⟩))) w') : wpList Try.prog ops Q (o :: rest) a w := by
  refine wpList_plain hg fun K hK' => ?_
  have hrun : (Instr.box 23 (.agg #[.slice ao n ca, .slice bo m cb])).run Try.prog w = .ok (.pointer (some ⟨w.heap.size, 0, none⟩)) (w.alloc (.cells #[.slice ao n ca, .slice bo m cb] 23)) := by kernel_rfl
  unfold Oper.wp execOp
  simp only [hop, hx, Sem.run_bind, Sem.run_pure, Result.andThen_ok, hrun]
  exact hK' _ _ (hK _ (cell_new2 w _ _ _) ((Below.refl _ _).alloc (Nat.le_refl _) _))
end
end Go.Proofs.Ytaplllonomdgeaa
