/- What the reference's Constants and First answer. No claim of its own. -/
import Derived.Test.YtaplllonomdgeaaWBase
namespace Go.Proofs.Ytaplllonomdgeaa
open Go.RowKit

/-- the words of a literal -/
theorem Ar.wrd {w : World} {b : Nat} {xs : List Int} (h : Ar w b 0 .u32 xs) (ha : AllW xs) (hl : xs.length ≤ 9223372036854775807) : Wrd w (.slice (some ⟨b, 0, none⟩) xs.length xs.length) xs :=
  ⟨_, _, rfl, Nat.le_refl _, hl, ha, (by intro h; cases h), fun _ => ⟨b, 0, rfl, fun t ht => h.cell t ht⟩⟩
theorem bslice_law {ops : Array Oper} {rest : List Oper} {o : Oper} {a : Act} {Q : Exit → Act → World → Prop} (w : World) (hg : o.guard = none) (n : Nat) (parts : Array (Nat × Operand)) (hop : o.op = Op.buildSlice 56 n parts) (xs : List Int)
    (hrun : (Instr.buildSlice 56 n (parts.map fun (i, x) => (i, a.eval x))).run Try.prog w = .ok (.slice (some ⟨w.heap.size, 0, none⟩) n n) (w.alloc (.cells (ints .u32 xs) 59)))
    (hK : ∀ w', w' = w.alloc (.cells (ints .u32 xs) 59) → wpList Try.prog ops Q rest (a.put o.dst (.slice (some ⟨w.heap.size, 0, none⟩) n n)) w') : wpList Try.prog ops Q (o :: rest) a w := by
  refine wpList_plain hg fun K hK' => ?_
  unfold Oper.wp execOp
  simp only [hop, Sem.run_bind, Sem.run_pure, Result.andThen_ok, hrun]
  exact hK' _ _ (hK _ rfl)
theorem kc_all : AllW kc := by
  refine allW_mem fun x hx => ?_
  have h : kc.all (fun x => decide (0 ≤ x ∧ x ≤ 4294967295)) = true := by decide +kernel
  have := List.all_eq_true.1 h x hx
  simpa [W32] using this

set_option maxHeartbeats 2000000 in
theorem rfirst_any (w : World) :
    Calls Try.prog 38 #[] w fun e w' => ∃ v, e = .returned v ∧ Wrd w' v fst8 ∧ Below w.heap.size w w' := by
  obtain ⟨w1, hw1⟩ : ∃ w1, w1 = w.alloc (.cells (ints .u32 fst8) 59) := ⟨_, rfl⟩
  have B1 : Below w.heap.size w w1 := by rw [hw1]; exact (Below.refl _ _).alloc (Nat.le_refl _) _
  have A1 : Hid (Wrd w1 (.slice (some ⟨w.heap.size, 0, none⟩) 8 8) fst8) := by rw [hw1]; exact (Ar.new w 59 .u32 fst8).wrd fst8_all (by simp [fst8])
  have HW1 : Hid (w1 = w.alloc (.cells (ints .u32 fst8) 59)) := hw1
  clear hw1
  go_enter Try.func38, Try.ntmps38
  go_wp2_with (refine bslice_law _ rfl 8 _ rfl fst8 (by kernel_rfl) ?_; intro wx hwx; rw [← HW1.out] at hwx; subst hwx)
  go_ret
  exact ⟨_, rfl, A1.out, B1⟩

set_option maxRecDepth 100000 in
set_option maxHeartbeats 2000000 in
theorem rconstants_any (w : World) :
    Calls Try.prog 45 #[] w fun e w' => ∃ v, e = .returned v ∧ Wrd w' v kc ∧ Below w.heap.size w w' := by
  obtain ⟨w1, hw1⟩ : ∃ w1, w1 = w.alloc (.cells (ints .u32 kc) 59) := ⟨_, rfl⟩
  have B1 : Below w.heap.size w w1 := by rw [hw1]; exact (Below.refl _ _).alloc (Nat.le_refl _) _
  have A1 : Hid (Wrd w1 (.slice (some ⟨w.heap.size, 0, none⟩) 64 64) kc) := by rw [hw1]; exact (Ar.new w 59 .u32 kc).wrd kc_all (by rw [kc_len]; omega)
  have HW1 : Hid (w1 = w.alloc (.cells (ints .u32 kc) 59)) := hw1
  clear hw1
  go_enter Try.func45, Try.ntmps45
  go_wp2_with (refine bslice_law _ rfl 64 _ rfl kc (by kernel_rfl) ?_; intro wx hwx; rw [← HW1.out] at hwx; subst hwx)
  go_ret
  exact ⟨_, rfl, A1.out, B1⟩
end Go.Proofs.Ytaplllonomdgeaa
