/- '[]byte("abc")' of a constant. No claim of its own. -/
import Derived.Test.YtaplllonomdgeaaMacCalls
import Derived.Lib.SlBytesConst
namespace Go.Proofs.Ytaplllonomdgeaa
open Go.RowKit

section
variable {ops : Array Oper} {rest : List Oper} {o : Oper} {a : Act} {Q : Exit → Act → World → Prop}
theorem bsliceB_law (w : World) (hg : o.guard = none) (n : Nat) (parts : Array (Nat × Operand)) (hop : o.op = Op.buildSlice 22 n parts) (xs : List Int)
    (hrun : (Instr.buildSlice 22 n (parts.map fun (i, x) => (i, a.eval x))).run Try.prog w = .ok (.slice (some ⟨w.heap.size, 0, none⟩) n n) (w.alloc (.cells (ints .u8 xs) 5)))
    (hK : ∀ w', w' = w.alloc (.cells (ints .u8 xs) 5) → wpList Try.prog ops Q rest (a.put o.dst (.slice (some ⟨w.heap.size, 0, none⟩) n n)) w') : wpList Try.prog ops Q (o :: rest) a w := by
  refine wpList_plain hg fun K hK' => ?_
  unfold Oper.wp execOp
  simp only [hop, Sem.run_bind, Sem.run_pure, Result.andThen_ok, hrun]
  exact hK' _ _ (hK _ rfl)
theorem convB_law (w w1 : World) (hg : o.guard = none) (x : Operand) (hop : o.op = Op.convert 22 22 x) (xs : List Int) (n : Nat) (hn : xs.length = n) (hw : w1 = w.alloc (.cells (ints .u8 xs) 5)) (ha : AllB xs) (hl : n ≤ 1000000) (hx : a.eval x = .slice (some ⟨w.heap.size, 0, none⟩) n n)
    (hK : ∀ w', Byt w' (.slice (some ⟨w.heap.size, 0, none⟩) n n) xs → Below w.heap.size w w' → wpList Try.prog ops Q rest (a.put o.dst (.slice (some ⟨w.heap.size, 0, none⟩) n n)) w') : wpList Try.prog ops Q (o :: rest) a w1 := by
  subst hw
  refine wpList_plain hg fun K hK' => ?_
  have hrun := Lib.run_convert_bytes_const (P := Try.prog) w 22 5 (ints .u8 xs) n n Try.underlying22 Try.underlying5
  unfold Oper.wp execOp
  simp only [hop, hx, Sem.run_bind, Sem.run_pure, Result.andThen_ok, hrun]
  refine hK' _ _ (hK _ ?_ ((Below.refl _ _).alloc (Nat.le_refl _) _))
  subst hn
  refine ⟨_, _, rfl, Nat.le_refl _, by omega, ha, (by intro h; cases h), fun _ => ⟨w.heap.size, 0, rfl, fun t ht => ?_⟩⟩
  rw [cell_of_row _ w.heap.size (0 + t) _ 5 _ (heap_alloc_last w _)]
  simp [ints, gb, List.getD, ht]
end
end Go.Proofs.Ytaplllonomdgeaa
