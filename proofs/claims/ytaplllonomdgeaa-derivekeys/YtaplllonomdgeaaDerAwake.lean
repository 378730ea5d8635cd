/- That the statements' own question 'does the program answer at all?' is answered by yes. No claim of its own. -/
import Derived.Test.YtaplllonomdgeaaDerCalls
import Derived.Test.YtaplllonomdgeaaConstB
import Derived.Test.YtaplllonomdgeaaPair
namespace Go.Proofs.Ytaplllonomdgeaa
open Go.RowKit

def pwd : List Int := [112, 97, 115, 115, 119, 111, 114, 100]
def slt : List Int := [115, 97, 108, 116]
theorem pwd_drv : gb (drv (blk pwd) slt 1 2) 0 = 18 ∧ gb (drv (blk pwd) slt 1 2) 1 = 15 := by decide +kernel
theorem pwd_all : AllB pwd := allB_mem (by simp [pwd])
theorem slt_all : AllB slt := allB_mem (by simp [slt])

set_option maxRecDepth 100000 in
set_option maxHeartbeats 2000000 in
theorem awake_any (w : World) :
    Calls Try.prog 8 #[] w fun e w' => e = .returned (.bool true) ∧ Below w.heap.size w w' := by
  have HF : Hid (gb (drv (blk pwd) slt 1 2) 0 = 18 ∧ gb (drv (blk pwd) slt 1 2) 1 = 15) := pwd_drv
  have HL : Hid ((drv (blk pwd) slt 1 2).length = 2) := drv_len _ _ _ _
  have HFL : Hid (pwd.length = 8) := rfl
  have HKL : Hid (slt.length = 4) := rfl
  have HT : Hid (∀ w0 v u, Byt w0 v pwd → Byt w0 u slt → Calls Try.prog 9 #[v, u, .int .i64 1, .int .i64 2] w0 fun e w' => ∃ v', e = .returned (.tuple #[v', .int .i64 0]) ∧ Byt w' v' (drv (blk pwd) slt 1 2) ∧ Below w0.heap.size w0 w') := fun w0 v u h1 h2 => dbytes_any w0 v u pwd slt 1 2 h1 h2 (by rw [HFL.out]; omega) (by rw [HKL.out]; omega) (by omega) (by omega) (by omega)
  generalize drv (blk pwd) slt 1 2 = T at *
  have HFA : Hid (AllB pwd) := pwd_all
  have HKA : Hid (AllB slt) := slt_all
  go_enter Try.func8, Try.ntmps8
  go_wp2_with (first
    | (refine bsliceB_law _ rfl 8 _ rfl pwd (by kernel_rfl) ?_; intro w1 hw1; have HW1 : Hid (w1 = w.alloc (.cells (ints .u8 pwd) 5)) := hw1; clear hw1)
    | (refine convB_law w w1 rfl (.tmp 4) rfl pwd 8 HFL.out HW1.out HFA.out (by omega) rfl ?_; intro w2 hb2 b2; have HB2 : Hid (Byt w2 (.slice (some ⟨w.heap.size, 0, none⟩) 8 8) pwd) := hb2; clear hb2)
    | (refine bsliceB_law _ rfl 4 _ rfl slt (by kernel_rfl) ?_; intro w3 hw3; have HW3 : Hid (w3 = w2.alloc (.cells (ints .u8 slt) 5)) := hw3; clear hw3)
    | (refine convB_law w2 w3 rfl (.tmp 6) rfl slt 4 HKL.out HW3.out HKA.out (by omega) rfl ?_; intro w4 hb4 b4; have HB4 : Hid (Byt w4 (.slice (some ⟨w2.heap.size, 0, none⟩) 4 4) slt) := hb4; have HB24 : Hid (Byt w4 (.slice (some ⟨w.heap.size, 0, none⟩) 8 8) pwd) := HB2.out.below b4; have c4 : Below w.heap.size w w4 := b2.trans (b4.mono b2.size); clear hb4)
    | (go_at_call 9; refine (HT.out _ _ _ HB24.out HB4.out).mono ?_; rintro e w5 ⟨v5, rfl, hv5, b5⟩; obtain ⟨ao, cp, hv, hc1, hc2, -, -, hc5⟩ := hv5; subst hv; rw [HL.out] at hc1 hc5 ⊢; obtain ⟨g, off, rfl, hcc⟩ := hc5 (by omega); have d0 := hcc 0 (by omega); have d1 := hcc 1 (by omega); rw [HF.out.1] at d0; rw [HF.out.2] at d1; have d0' := d0; rw [Nat.add_zero] at d0'; clear hcc hc5))
  go_ret
  exact ⟨rfl, c4.trans (b5.mono c4.size)⟩
end Go.Proofs.Ytaplllonomdgeaa
