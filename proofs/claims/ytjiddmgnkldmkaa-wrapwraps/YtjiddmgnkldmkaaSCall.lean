/- What sbox's Subs and Backs answer; that the program answers at all. No claim of its own. -/
import Derived.Test.YtjiddmgnkldmkaaSProg
import Derived.Test.YtjiddmgnkldmkaaLawG
namespace Go.Proofs.Ytjiddmgnkldmkaa
open Go.RowKit

theorem ptab_allB : AllB ptab := allB_mem fun x hx => by
  have h : ptab.all (fun x => decide (0 ≤ x ∧ x ≤ 255)) = true := by decide +kernel
  simpa using List.all_eq_true.1 h x hx
theorem btab_allB : AllB btab := allB_mem fun x hx => by
  have h : btab.all (fun x => decide (0 ≤ x ∧ x ≤ 255)) = true := by decide +kernel
  simpa using List.all_eq_true.1 h x hx

set_option maxHeartbeats 2000000 in
theorem subs_any (v : Value) (xs : List Int) (w : World) (hv : Byt w v xs) (hmax : xs.length ≤ 1048576) :
    Calls Try.prog 57 #[v] w fun e w' => ∃ v', e = .returned v' ∧ Byt w' v' (looked ptab xs) ∧ Below w.heap.size w w' := by
  have HV : Hid (Byt w v xs) := hv
  have HM : Hid (xs.length ≤ 1048576) := hmax
  clear hv hmax
  go_enter Try.func57, Try.ntmps57
  go_wp2_with (first
    | (go_at_call 73; refine (look_any v xs ptab _ (HV.out.below B1) ptab_len ptab_allB HM.out).mono ?_; rintro e w2 ⟨v2, rfl, Y2, B2⟩)
    | (go_at_call 74; refine (puts_any _).mono ?_; rintro e w1 ⟨rfl, B1⟩))
  go_ret
  exact ⟨_, rfl, Y2, B1.trans (B2.mono B1.size)⟩

set_option maxHeartbeats 2000000 in
theorem backsl_any (v : Value) (xs : List Int) (w : World) (hv : Byt w v xs) (hmax : xs.length ≤ 1048576) :
    Calls Try.prog 68 #[v] w fun e w' => ∃ v', e = .returned v' ∧ Byt w' v' (looked btab xs) ∧ Below w.heap.size w w' := by
  have HV : Hid (Byt w v xs) := hv
  have HM : Hid (xs.length ≤ 1048576) := hmax
  clear hv hmax
  go_enter Try.func68, Try.ntmps68
  go_wp2_with (first
    | (go_at_call 73; refine (look_any v xs btab _ (HV.out.below B1) btab_len btab_allB HM.out).mono ?_; rintro e w2 ⟨v2, rfl, Y2, B2⟩)
    | (go_at_call 78; refine (backs_any _).mono ?_; rintro e w1 ⟨rfl, B1⟩))
  go_ret
  exact ⟨_, rfl, Y2, B1.trans (B2.mono B1.size)⟩

theorem sb_83 : sb 83 = 237 := by decide +kernel
theorem sk_237 : sk 237 = 83 := by decide +kernel
end Go.Proofs.Ytjiddmgnkldmkaa
