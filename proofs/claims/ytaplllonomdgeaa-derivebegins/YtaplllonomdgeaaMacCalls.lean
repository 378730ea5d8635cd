/- What mac's Tag and Fits answer, and a key's Fits. No claim of its own. -/
import Derived.Test.YtaplllonomdgeaaMacTag
namespace Go.Proofs.Ytaplllonomdgeaa
open Go.RowKit

theorem cell_new (w : World) (x : Value) (t : TypeId) : (w.alloc (.cells #[x] t)).cell? ⟨w.heap.size, 0, none⟩ = some x := by
  rw [cell_of_row (w.alloc (.cells #[x] t)) w.heap.size 0 _ t (0, 0) (heap_alloc_last w _)]
  rfl
/-- a slice of one slice of bytes -/
theorem bts_one {w : World} {u : Value} {ts : List Int} (h : Byt w u ts) (hl : ts.length ≤ 1000000) : Bts (w.alloc (.cells #[u] 22)) (.slice (some ⟨w.heap.size, 0, none⟩) 1 1) [ts] := by
  have hb : Below w.heap.size w (w.alloc (.cells #[u] 22)) := (Below.refl _ _).alloc (Nat.le_refl _) _
  refine ⟨_, _, rfl, by simp, by simp, fun _ => ⟨w.heap.size, 0, rfl, fun r hr => ?_⟩, fun r => ?_⟩
  · have : r = 0 := by simp at hr; exact hr
    subst this
    exact ⟨u, cell_new w u 22, h.below hb⟩
  · match r with
    | 0 => simp [List.getD]; omega
    | r + 1 => simp [List.getD]

section
variable {ops : Array Oper} {rest : List Oper} {o : Oper} {a : Act} {Q : Exit → Act → World → Prop}
/-- '[][]byte{u}', the world gets a name -/
theorem one_law (w : World) (hg : o.guard = none) (x : Operand) (hop : o.op = Op.buildSlice 48 1 #[(0, x)]) (uo : Option Addr) (n uc : Nat) (ts : List Int) (hx : a.eval x = .slice uo n uc) (h : Byt w (.slice uo n uc) ts) (hl : ts.length ≤ 1000000)
    (hK : ∀ w', Bts w' (.slice (some ⟨w.heap.size, 0, none⟩) 1 1) [ts] → Below w.heap.size w w' → wpList Try.prog ops Q rest (a.put o.dst (.slice (some ⟨w.heap.size, 0, none⟩) 1 1)) w') : wpList Try.prog ops Q (o :: rest) a w := by
  refine wpList_plain hg fun K hK' => ?_
  have hrun : (Instr.buildSlice 48 1 #[(0, .slice uo n uc)]).run Try.prog w = .ok (.slice (some ⟨w.heap.size, 0, none⟩) 1 1) (w.alloc (.cells #[.slice uo n uc] 22)) := by kernel_rfl
  unfold Oper.wp execOp
  simp only [hop, List.map_toArray, List.map_cons, List.map_nil, hx, Sem.run_bind, Sem.run_pure, Result.andThen_ok, hrun]
  exact hK' _ _ (hK _ (bts_one h hl) ((Below.refl _ _).alloc (Nat.le_refl _) _))
end

theorem blk_key {w : World} {c : Nat} {xs : List Int} (h : Ar w c 0 .u8 (blk xs)) (ha : AllB xs) : KeyV w (.pointer (some ⟨c, 0, none⟩)) (blk xs) := Or.inr ⟨c, rfl, h, blk_len xs, blk_all xs ha⟩
end Go.Proofs.Ytaplllonomdgeaa
