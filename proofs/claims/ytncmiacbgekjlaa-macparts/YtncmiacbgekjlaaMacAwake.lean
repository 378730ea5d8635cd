/- That the statements' own question 'does the program answer at all?' is answered by yes. No claim of its own. -/
import Derived.Test.YtncmiacbgekjlaaMacCalls
import Derived.Lib.SlBytesConst
namespace Go.Proofs.Ytncmiacbgekjlaa
open Go.RowKit

def fox : List Int := [84, 104, 101, 32, 113, 117, 105, 99, 107, 32, 98, 114, 111, 119, 110, 32, 102, 111, 120, 32, 106, 117, 109, 112, 115, 32, 111, 118, 101, 114, 32, 116, 104, 101, 32, 108, 97, 122, 121, 32, 100, 111, 103]
def foxKey : List Int := [107, 101, 121]
theorem fox_tag : gb (tagB (blk foxKey) fox) 0 = 247 ∧ gb (tagB (blk foxKey) fox) 31 = 216 := by decide +kernel
theorem fox_all : AllB fox := allB_mem (by simp [fox])
theorem foxKey_all : AllB foxKey := allB_mem (by simp [foxKey])
theorem tagB_len (bl t : List Int) : (tagB bl t).length = 32 := sumOf_len _

section
variable {ops : Array Oper} {rest : List Oper} {o : Oper} {a : Act} {Q : Exit → Act → World → Prop}
theorem bsliceB_law (w : World) (hg : o.guard = none) (n : Nat) (parts : Array (Nat × Operand)) (hop : o.op = Op.buildSlice 22 n parts) (xs : List Int)
    (hrun : (Instr.buildSlice 22 n (parts.map fun (i, x) => (i, a.eval x))).run Try.prog w = .ok (.slice (some ⟨w.heap.size, 0, none⟩) n n) (w.alloc (.cells (ints .u8 xs) 5)))
    (hK : ∀ w', w' = w.alloc (.cells (ints .u8 xs) 5) → wpList Try.prog ops Q rest (a.put o.dst (.slice (some ⟨w.heap.size, 0, none⟩) n n)) w') : wpList Try.prog ops Q (o :: rest) a w := by
  refine wpList_plain hg fun K hK' => ?_
  unfold Oper.wp execOp
  simp only [hop, Sem.run_bind, Sem.run_pure, Result.andThen_ok, hrun]
  exact hK' _ _ (hK _ rfl)
theorem convB_law (w w1 : World) (hg : o.guard = none) (x : Operand) (hop : o.op = Op.convert 22 22 x) (xs : List Int) (n : Nat) (hn : xs.length = n) (hw : w1 = w.alloc (.cells (ints .u8 xs) 5)) (ha : AllB xs) (hl : n ≤ 1000000) (hx : a.eval x = .slice (some ⟨w.heap.size, 0, none⟩) n n)
    (hK : ∀ w', Byt w' (.slice (some ⟨w.heap.size, 0, none⟩) n n) xs → Below w.heap.size w w' → wpList Try.prog ops Q rest (a.put o.dst (.slice (some ⟨w.heap.size, 0, none⟩) n n)) w') : wpList Try.prog ops Q (o :: rest) a w1 := by
  subst hw
  refine wpList_plain hg fun K hK' => ?_
  have hrun := Lib.run_convert_bytes_const (P := Try.prog) w 22 5 (ints .u8 xs) n n Try.underlying22 Try.underlying5
  unfold Oper.wp execOp
  simp only [hop, hx, Sem.run_bind, Sem.run_pure, Result.andThen_ok, hrun]
  refine hK' _ _ (hK _ ?_ ((Below.refl _ _).alloc (Nat.le_refl _) _))
  subst hn
  refine ⟨_, _, rfl, Nat.le_refl _, by omega, ha, (by intro h; cases h), fun _ => ⟨w.heap.size, 0, rfl, fun t ht => ?_⟩⟩
  rw [cell_of_row _ w.heap.size (0 + t) _ 5 _ (heap_alloc_last w _)]
  simp [ints, gb, List.getD, ht]
end

set_option maxRecDepth 100000 in
set_option maxHeartbeats 2000000 in
theorem awake_any (w : World) :
    Calls Try.prog 7 #[] w fun e w' => e = .returned (.bool true) ∧ Below w.heap.size w w' := by
  have HF : Hid (gb (tagB (blk foxKey) fox) 0 = 247 ∧ gb (tagB (blk foxKey) fox) 31 = 216) := fox_tag
  have HL : Hid ((tagB (blk foxKey) fox).length = 32) := tagB_len _ _
  have HFL : Hid (fox.length = 43) := rfl
  have HKL : Hid (foxKey.length = 3) := rfl
  have HT : Hid (∀ w0 v u, Byt w0 v foxKey → Byt w0 u fox → Calls Try.prog 9 #[v, u] w0 fun e w' => ∃ v', e = .returned v' ∧ Byt w' v' (tagB (blk foxKey) fox) ∧ Below w0.heap.size w0 w') := fun w0 v u h1 h2 => mtag_any w0 v u foxKey fox h1 h2 (by rw [HKL.out]; omega) (by rw [HFL.out]; omega)
  generalize tagB (blk foxKey) fox = T at *
  have HFA : Hid (AllB fox) := fox_all
  have HKA : Hid (AllB foxKey) := foxKey_all
  go_enter Try.func7, Try.ntmps7
  go_wp2_with (first
    | (refine bsliceB_law _ rfl 3 _ rfl foxKey (by kernel_rfl) ?_; intro w1 hw1; have HW1 : Hid (w1 = w.alloc (.cells (ints .u8 foxKey) 5)) := hw1; clear hw1)
    | (refine convB_law w w1 rfl (.tmp 2) rfl foxKey 3 HKL.out HW1.out HKA.out (by omega) rfl ?_; intro w2 hb2 b2; have HB2 : Hid (Byt w2 (.slice (some ⟨w.heap.size, 0, none⟩) 3 3) foxKey) := hb2; clear hb2)
    | (refine bsliceB_law _ rfl 43 _ rfl fox (by kernel_rfl) ?_; intro w3 hw3; have HW3 : Hid (w3 = w2.alloc (.cells (ints .u8 fox) 5)) := hw3; clear hw3)
    | (refine convB_law w2 w3 rfl (.tmp 4) rfl fox 43 HFL.out HW3.out HFA.out (by omega) rfl ?_; intro w4 hb4 b4; have HB4 : Hid (Byt w4 (.slice (some ⟨w2.heap.size, 0, none⟩) 43 43) fox) := hb4; have HB24 : Hid (Byt w4 (.slice (some ⟨w.heap.size, 0, none⟩) 3 3) foxKey) := HB2.out.below b4; have c4 : Below w.heap.size w w4 := b2.trans (b4.mono b2.size); clear hb4)
    | (go_at_call 9; refine (HT.out _ _ _ HB24.out HB4.out).mono ?_; rintro e w5 ⟨v5, rfl, hv5, b5⟩; obtain ⟨ao, cp, hv, hc1, hc2, -, -, hc5⟩ := hv5; subst hv; rw [HL.out] at hc1 hc5 ⊢; obtain ⟨g, off, rfl, hcc⟩ := hc5 (by omega); have d0 := hcc 0 (by omega); have d31 := hcc 31 (by omega); rw [HF.out.1] at d0; rw [HF.out.2] at d31; have d0' := d0; rw [Nat.add_zero] at d0'; clear hcc hc5))
  go_ret
  exact ⟨rfl, c4.trans (b5.mono c4.size)⟩
end Go.Proofs.Ytncmiacbgekjlaa
