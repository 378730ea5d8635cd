/- What aes' Encrypt and Decrypt answer where they take not. No claim of its own. -/
import Derived.Test.YtjiddmgnkldmkaaADec
import Derived.Test.YtjiddmgnkldmkaaLawG
namespace Go.Proofs.Ytjiddmgnkldmkaa
open Go.RowKit

set_option maxHeartbeats 1000000 in
theorem encrypt_no (p v : Value) (w : World) (ht : Calls Try.prog 53 #[p, v] w fun e w' => e = .returned (.bool false) ∧ w' = w) :
    Calls Try.prog 36 #[p, v] w fun e w' => e = .returned (.tuple #[.slice none 0 0, .int .i64 2]) ∧ w' = w := by
  have H : Hid (Calls Try.prog 53 #[p, v] w fun e w' => e = .returned (.bool false) ∧ w' = w) := ht
  clear ht
  go_enter Try.func36, Try.ntmps36
  go_wp2_with (go_at_call 53; refine H.out.mono ?_; rintro e w1 ⟨rfl, hw⟩; obtain rfl := hw.symm)
  go_ret2
  exact ⟨rfl, rfl⟩
set_option maxHeartbeats 1000000 in
theorem decrypt_no (p v : Value) (w : World) (ht : Calls Try.prog 53 #[p, v] w fun e w' => e = .returned (.bool false) ∧ w' = w) :
    Calls Try.prog 47 #[p, v] w fun e w' => e = .returned (.tuple #[.slice none 0 0, .int .i64 2]) ∧ w' = w := by
  have H : Hid (Calls Try.prog 53 #[p, v] w fun e w' => e = .returned (.bool false) ∧ w' = w) := ht
  clear ht
  go_enter Try.func47, Try.ntmps47
  go_wp2_with (go_at_call 53; refine H.out.mono ?_; rintro e w1 ⟨rfl, hw⟩; obtain rfl := hw.symm)
  go_ret2
  exact ⟨rfl, rfl⟩

theorem repl_all (n : Nat) : AllB (List.replicate n (0 : Int)) := allB_mem fun x hx => by
  have := List.eq_of_mem_replicate hx
  omega
end Go.Proofs.Ytjiddmgnkldmkaa
