/- One number of a row that is written; a part of a list that is left out, or smaller. No claim of its own. -/
import Derived.Test.YtpdmcpmkhofhdaaGStep
namespace Go.Proofs.Ytpdmcpmkhofhdaa.ge
open Go.RowKit

section
variable {ops : Array Oper} {rest : List Oper} {o : Oper} {a : Act} {Q : Exit → Act → World → Prop}
/-- one number of a row is written; the world gets a name -/
theorem set_lawF (w : World) (hg : o.guard = none) (x y : Operand) (t : TypeId) (hop : o.op = Op.store t x y) (k : IntKind) (n : Int) (b p : Nat) (xs : List Int) (hx : a.eval x = .pointer (some ⟨b, p, none⟩)) (hy : a.eval y = .int k n)
    (hA : Ar w b 0 k xs) (hp : p < xs.length) (hi : (Try.prog.info? t).map (·.size) = some 1)
    (hK : ∀ w', Ar w' b 0 k (xs.set p n) → Below b w w' → wpList Try.prog ops Q rest (a.put o.dst undef) w') :
    wpList Try.prog ops Q (o :: rest) a w := by
  refine wpList_plain hg fun K hK' => ?_
  have hc : (w.cell? ⟨b, p, none⟩).isSome = true := by rw [hA.cell0 p hp]; rfl
  have hf := hA.free0 p hp
  have hr : (storeVar t ⟨b, p, none⟩ (.int k n)).run Try.prog w = .ok () (w.setCell ⟨b, p, none⟩ (.int k n)) := by
    have e0 : ∀ j, j < [Value.int k n].length → j = 0 := fun j hj => by simpa using hj
    have := run_storeCells_cells (P := Try.prog) b p [.int k n] 0 w (fun j hj => by rw [e0 j hj]; simpa using hc) (fun j hj => by rw [e0 j hj]; simpa using hf) (fun v hv => by simp at hv; subst hv; rfl)
    cases hq : Try.prog.info? t with
    | none => simp [hq] at hi
    | some i =>
      have hs : i.size = 1 := by simpa [hq] using hi
      simp only [Nat.add_zero] at this
      simp [storeVar, sizeOf, typeInfo, hq, Value.cells, hs]
      simpa [World.setCells] using this
  unfold Oper.wp execOp
  simp only [hop, hx, hy, Instr.storeAt, Instr.sureAddr, Sem.run_bind, Sem.run_pure, Result.andThen_ok, hr]
  exact hK' _ _ (hK _ (hA.set0 p hp n) ((Below.refl b w).setCell (p := ⟨b, p, none⟩) (Nat.le_refl _) _))
end
theorem split_at (xs : List Int) (k : Nat) (hk : k < xs.length) : xs = xs.take k ++ gb xs k :: xs.drop (k + 1) := by
  have e : gb xs k = xs[k] := by simp [gb, List.getD, hk]
  rw [e, ← List.drop_eq_getElem_cons hk, List.take_append_drop]
theorem set_at (xs : List Int) (k : Nat) (x : Int) (hk : k < xs.length) : xs.set k x = xs.take k ++ x :: xs.drop (k + 1) := by
  rw [List.set_eq_take_append_cons_drop, if_pos hk]
/-- fewer fit -/
theorem fits_without (D sp u : Nat) (xs : List Int) (k : Nat) (hk : k < xs.length) (h : Fits D sp u xs) : Fits D sp u (xs.take k ++ xs.drop (k + 1)) := by
  rw [split_at xs k hk] at h
  exact fits_mid D sp u _ _ _ h
/-- smaller ones fit -/
theorem fits_set (D sp u : Nat) (hu : 0 < u) (xs : List Int) (k : Nat) (x : Int) (hk : k < xs.length) (hx : 1 ≤ x) (hx' : x ≤ gb xs k) (h : Fits D sp u xs) : Fits D sp u (xs.set k x) := by
  rw [split_at xs k hk] at h
  rw [set_at xs k x hk]
  exact fits_less D sp u hu _ _ _ x hx hx' h
end Go.Proofs.Ytpdmcpmkhofhdaa.ge
