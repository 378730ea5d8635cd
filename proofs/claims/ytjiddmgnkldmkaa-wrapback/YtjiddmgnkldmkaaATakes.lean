/- What aes' takes and Encrypt answer. No claim of its own. -/
import Derived.Test.YtjiddmgnkldmkaaANew
import Derived.Test.YtjiddmgnkldmkaaAMix
namespace Go.Proofs.Ytjiddmgnkldmkaa
open Go.RowKit

set_option maxHeartbeats 1000000 in
theorem takes_yes (v : Value) (xs key : List Int) (kb : Nat) (w : World) (hk : KeyA w kb key) (hv : Byt w v xs) (hl : xs.length = 16) :
    Calls Try.prog 53 #[.pointer (some ⟨kb, 0, none⟩), v] w fun e w' => e = .returned (.bool true) ∧ w' = w := by
  have c := hk.1
  obtain ⟨ao, ca, rfl, -, -, -, -, -⟩ := hv
  rw [hl]
  clear hk hl
  go_enter Try.func53, Try.ntmps53
  go_wp2
  go_ret
  exact ⟨rfl, rfl⟩
set_option maxHeartbeats 1000000 in
theorem takes_len (v : Value) (xs key : List Int) (kb : Nat) (w : World) (hk : KeyA w kb key) (hv : Byt w v xs) (hl : ¬ xs.length = 16) :
    Calls Try.prog 53 #[.pointer (some ⟨kb, 0, none⟩), v] w fun e w' => e = .returned (.bool false) ∧ w' = w := by
  have c := hk.1
  obtain ⟨ao, ca, rfl, h1, h2, -, -, -⟩ := hv
  have h3 : ¬ ((xs.length : Int) = 16) := by omega
  clear hk hl
  generalize xs.length = n at *
  go_enter Try.func53, Try.ntmps53
  go_wp2
  go_ret
  exact ⟨ret_bool (by simpa using h3), rfl⟩
set_option maxHeartbeats 1000000 in
theorem takes_nil (v : Value) (w : World) :
    Calls Try.prog 53 #[.pointer none, v] w fun e w' => e = .returned (.bool false) ∧ w' = w := by
  go_enter Try.func53, Try.ntmps53
  go_wp2
  go_ret
  exact ⟨rfl, rfl⟩
set_option maxHeartbeats 1000000 in
theorem takes_raw (v : Value) (kb : Nat) (w : World) (c : w.cell? ⟨kb, 0, none⟩ = some (.bool false)) :
    Calls Try.prog 53 #[.pointer (some ⟨kb, 0, none⟩), v] w fun e w' => e = .returned (.bool false) ∧ w' = w := by
  go_enter Try.func53, Try.ntmps53
  go_wp2
  go_ret
  exact ⟨rfl, rfl⟩
end Go.Proofs.Ytjiddmgnkldmkaa
