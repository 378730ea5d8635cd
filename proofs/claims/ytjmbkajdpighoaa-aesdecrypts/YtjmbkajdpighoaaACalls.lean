/- What aes' Encrypt and Decrypt answer where they take not; that the program answers at all. No claim of its own. -/
import Derived.Test.YtjmbkajdpighoaaADec
import Derived.Test.YtjmbkajdpighoaaAZero
import Derived.Test.YtjmbkajdpighoaaLawG
namespace Go.Proofs.Ytjmbkajdpighoaa
open Go.RowKit

set_option maxHeartbeats 1000000 in
theorem encrypt_no (p v : Value) (w : World) (ht : Calls Try.prog 33 #[p, v] w fun e w' => e = .returned (.bool false) ∧ w' = w) :
    Calls Try.prog 19 #[p, v] w fun e w' => e = .returned (.tuple #[.slice none 0 0, .int .i64 2]) ∧ w' = w := by
  have H : Hid (Calls Try.prog 33 #[p, v] w fun e w' => e = .returned (.bool false) ∧ w' = w) := ht
  clear ht
  go_enter Try.func19, Try.ntmps19
  go_wp2_with (go_at_call 33; refine H.out.mono ?_; rintro e w1 ⟨rfl, hw⟩; obtain rfl := hw.symm)
  go_ret2
  exact ⟨rfl, rfl⟩
set_option maxHeartbeats 1000000 in
theorem decrypt_no (p v : Value) (w : World) (ht : Calls Try.prog 33 #[p, v] w fun e w' => e = .returned (.bool false) ∧ w' = w) :
    Calls Try.prog 21 #[p, v] w fun e w' => e = .returned (.tuple #[.slice none 0 0, .int .i64 2]) ∧ w' = w := by
  have H : Hid (Calls Try.prog 33 #[p, v] w fun e w' => e = .returned (.bool false) ∧ w' = w) := ht
  clear ht
  go_enter Try.func21, Try.ntmps21
  go_wp2_with (go_at_call 33; refine H.out.mono ?_; rintro e w1 ⟨rfl, hw⟩; obtain rfl := hw.symm)
  go_ret2
  exact ⟨rfl, rfl⟩

theorem repl_all (n : Nat) : AllB (List.replicate n (0 : Int)) := allB_mem fun x hx => by
  have := List.eq_of_mem_replicate hx
  omega
set_option maxHeartbeats 2000000 in
theorem awake_any (w : World) :
    Calls Try.prog 11 #[] w fun e w' => e = .returned (.bool true) ∧ Below w.heap.size w w' := by
  have HN : Hid (∀ v w0, Byt w0 v z32 → Calls Try.prog 10 #[v] w0 fun e w' => ∃ kb, e = .returned (.tuple #[.pointer (some ⟨kb, 0, none⟩), .int .i64 0]) ∧ KeyA w' kb z32 ∧ w0.heap.size ≤ kb ∧ Below w0.heap.size w0 w') := fun v w0 h => new_any v z32 w0 h List.length_replicate
  have HE : Hid (∀ v kb w0, KeyA w0 kb z32 → Byt w0 v y16 → Calls Try.prog 19 #[.pointer (some ⟨kb, 0, none⟩), v] w0 fun e w' => ∃ g, e = .returned (.tuple #[.slice (some ⟨g, 0, none⟩) 16 16, .int .i64 0]) ∧ Ar w' g 0 .u8 (encr z32 y16) ∧ w0.heap.size ≤ g ∧ Below w0.heap.size w0 w') := fun v kb w0 hk h => encrypt_any v y16 z32 kb w0 hk List.length_replicate (repl_all 32) h List.length_replicate
  have HZ : Hid (gb (encr z32 y16) 0 = 220 ∧ gb (encr z32 y16) 15 = 135 ∧ (encr z32 y16).length = 16) := ⟨zero_block.1, zero_block.2, (encr_blk z32 List.length_replicate (repl_all 32) y16 ⟨List.length_replicate, repl_all 16⟩).1⟩
  have A32 : Hid (AllB z32 ∧ z32 = List.replicate 32 0) := ⟨repl_all 32, rfl⟩
  have A16 : Hid (AllB y16 ∧ y16 = List.replicate 16 0) := ⟨repl_all 16, rfl⟩
  generalize encr z32 y16 = ez at *
  generalize z32 = k32 at *
  generalize y16 = b16 at *
  go_enter Try.func11, Try.ntmps11
  go_wp2_with (first
    | (go_at_call 19; refine (HE.out _ _ _ K3.out Y3.out).mono ?_; rintro e w4 ⟨g, rfl, A4, L4, B4⟩; have c0 := A4.cell0 0 (by rw [HZ.out.2.2]; omega); have c15 := A4.cell0 15 (by rw [HZ.out.2.2]; omega); rw [HZ.out.1] at c0; rw [HZ.out.2.1] at c15; clear A4)
    | (go_at_call 10; refine (HN.out _ _ Y1.out).mono ?_; rintro e w2 ⟨kb, rfl, K2, L2, B2⟩; have HK2 : Hid (KeyA w2 kb k32) := K2; have lk2 : kb < w2.heap.size := K2.lt; clear K2)
    | (at_make; have q2 := lk2; refine make_law _ rfl _ _ rfl w2.heap.size (Nat.le_refl _) 16 16 rfl rfl rfl (by omega) ?_; intro w3 h3 B3 s3; have Y3 : Hid (Byt w3 (.slice (some ⟨w2.heap.size, 0, none⟩) 16 16) b16) := (by have h := h3; rw [← A16.out.2] at h; exact h.byt A16.out.1); have K3 : Hid (KeyA w3 kb k32) := HK2.out.below B3 lk2; clear h3)
    | (at_make; refine make_law _ rfl _ _ rfl w.heap.size (Nat.le_refl _) 32 32 rfl rfl rfl (by omega) ?_; intro w1 h1 B1 s1; have Y1 : Hid (Byt w1 (.slice (some ⟨w.heap.size, 0, none⟩) 32 32) k32) := (by have h := h1; rw [← A32.out.2] at h; exact h.byt A32.out.1); clear h1))
  go_ret
  have z1 := B1.size
  have z2 := B2.size
  have z3 := B3.size
  exact ⟨rfl, ((B1.trans (B2.mono z1)).trans (B3.mono (by omega))).trans (B4.mono (by omega))⟩
end Go.Proofs.Ytjmbkajdpighoaa
