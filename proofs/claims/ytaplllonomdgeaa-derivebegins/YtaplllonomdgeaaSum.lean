/- What sha's Sum, New and Len answer. No claim of its own. -/
import Derived.Test.YtaplllonomdgeaaHSum
namespace Go.Proofs.Ytaplllonomdgeaa
open Go.RowKit

/-- a slice that was there before block b lasts whatever becomes of b -/
theorem Byt.kept {w w1 : World} {b : Nat} {v : Value} {xs : List Int} (h : Byt w v xs) (hb : Below w.heap.size w w1) (hB : w.heap.size ≤ b) : Kept b w1 v xs := by
  intro w' hw
  exact h.below (hb.trans (hw.below hB hb.size))

set_option maxRecDepth 100000 in
set_option maxHeartbeats 2000000 in
theorem sum_any (w : World) (v : Value) (xs : List Int) (h : Byt w v xs) (hn : xs.length ≤ 1000000) :
    Calls Try.prog 31 #[v] w fun e w' => ∃ v', e = .returned v' ∧ Byt w' v' (sumOf xs) ∧ (∃ g, v' = .slice (some ⟨g, 0, none⟩) 32 32 ∧ w.heap.size ≤ g ∧ Ar w' g 0 .u8 (sumOf xs)) ∧ Below w.heap.size w w' := by
  obtain ⟨w1, hw1⟩ : ∃ w1, w1 = w.alloc (.cells (hcells z8 z64 0).toArray 62) := ⟨_, rfl⟩
  obtain ⟨c, hc⟩ : ∃ c, c = w.heap.size := ⟨_, rfl⟩
  have B1 : Below w.heap.size w w1 := by rw [hw1]; exact (Below.refl _ _).alloc (Nat.le_refl _) _
  have HH1 : Has w1 c [] := by rw [hw1, hc]; exact Has.new w
  have HK : Hid (Kept c w1 v xs) := h.kept B1 (by omega)
  have HW1 : Hid (w1 = w.alloc (.cells (hcells z8 z64 0).toArray 62)) := hw1
  have HC : Hid (c = w.heap.size) := hc
  have HE : Hid (AllB []) := allB_mem (by simp)
  have HXA : Hid (AllB xs) := h.all
  have HNX : Hid (xs.length ≤ 1000000) := hn
  clear hw1 hc h hn
  go_enter Try.func31, Try.ntmps31
  go_wp2_with (first
    | (refine hnew_law _ rfl rfl ?_; intro wx hwx; rw [← HW1.out] at hwx; subst hwx; rw [← HC.out])
    | (go_at_call 33; refine (write_any _ c [] xs v HH1 HE.out HK.out (by have := HNX.out; simp; omega)).mono ?_; rintro e w2 ⟨rfl, HH2, BU2⟩; rw [List.nil_append] at HH2; have b2 : Below w.heap.size w w2 := B1.trans (BU2.below (by have := HC.out; omega) B1.size))
    | (go_at_call 35; refine (hsum_any w2 c xs HH2 HXA.out HNX.out).mono ?_; rintro e w3 ⟨v3, rfl, hv3, ⟨g3, hg3, hg3l, ar3⟩, hb3⟩)
    | fail)
  go_ret
  subst hg3
  exact ⟨_, rfl, hv3, ⟨g3, rfl, Nat.le_trans b2.size hg3l, ar3⟩, b2.trans (hb3.mono b2.size)⟩

set_option maxHeartbeats 2000000 in
theorem hwrite_nil (w : World) (v : Value) : Calls Try.prog 33 #[.pointer none, v] w fun e w' => e = .returned (.tuple #[]) ∧ w' = w := by
  go_enter Try.func33, Try.ntmps33
  go_wp2
  first
    | exact bodyPost_ret (v := .tuple #[]) (results_none rfl _ _ _) rfl ⟨rfl, rfl⟩
    | exact bodyPost_end (v := .tuple #[]) (results_none rfl _ _ _) rfl ⟨rfl, rfl⟩

theorem hbox_law {ops : Array Oper} {rest : List Oper} {o : Oper} {a : Act} {Q : Exit → Act → World → Prop} (w : World) (hg : o.guard = none) (x : Operand) (hop : o.op = Op.box 62 x) (hx : a.eval x = .agg (hcells z8 z64 0).toArray)
    (hK : ∀ w', w' = w.alloc (.cells (hcells z8 z64 0).toArray 62) → wpList Try.prog ops Q rest (a.put o.dst (.pointer (some ⟨w.heap.size, 0, none⟩))) w') :
    wpList Try.prog ops Q (o :: rest) a w := by
  refine wpList_plain hg fun K hK' => ?_
  unfold Oper.wp
  simp [execOp, hop, hx, Instr.box, newVar, newRow, Value.cells, Result.andThen]
  exact hK' _ _ (hK _ rfl)

set_option maxHeartbeats 2000000 in
theorem new_any (w : World) : Calls Try.prog 32 #[] w fun e w' => ∃ b, e = .returned (.pointer (some ⟨b, 0, none⟩)) ∧ w.heap.size ≤ b ∧ Has w' b [] ∧ Below w.heap.size w w' := by
  obtain ⟨w1, hw1⟩ : ∃ w1, w1 = w.alloc (.cells (hcells z8 z64 0).toArray 62) := ⟨_, rfl⟩
  have B1 : Below w.heap.size w w1 := by rw [hw1]; exact (Below.refl _ _).alloc (Nat.le_refl _) _
  have HH1 : Has w1 w.heap.size [] := by rw [hw1]; exact Has.new w
  have HW1 : Hid (w1 = w.alloc (.cells (hcells z8 z64 0).toArray 62)) := hw1
  clear hw1
  go_enter Try.func32, Try.ntmps32
  go_wp2_with (first
    | (refine build_law _ rfl 62 _ rfl (.agg (hcells z8 z64 0).toArray) (by kernel_rfl) ?_)
    | (refine hbox_law _ rfl (.tmp 1) rfl rfl ?_; intro wx hwx; rw [← HW1.out] at hwx; subst hwx)
    | fail)
  go_ret
  exact ⟨_, rfl, Nat.le_refl _, HH1, B1⟩

/-- the sum of "abc": its first byte and its last -/
theorem sum_abc : gb (sumOf [97, 98, 99]) 0 = 186 ∧ gb (sumOf [97, 98, 99]) 31 = 173 := by decide +kernel
end Go.Proofs.Ytaplllonomdgeaa
