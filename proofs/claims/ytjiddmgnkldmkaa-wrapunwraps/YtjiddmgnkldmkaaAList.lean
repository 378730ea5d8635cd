/- What aes' list answers. No claim of its own. -/
import Derived.Test.YtjiddmgnkldmkaaASt
namespace Go.Proofs.Ytjiddmgnkldmkaa
open Go.RowKit

set_option linter.unusedSimpArgs false in
set_option maxRecDepth 20000 in
set_option maxHeartbeats 2000000 in
theorem list_any (xs : List Int) (w : World) (hl : xs.length = 16) (hx : AllB xs) :
    Calls Try.prog 61 #[.agg (ints .u8 xs)] w fun e w' => ∃ g, e = .returned (.slice (some ⟨g, 0, none⟩) 16 16) ∧ Ar w' g 0 .u8 xs ∧ w.heap.size ≤ g ∧ Below w.heap.size w w' := by
  have HX : Hid (AllB xs) := hx
  have HL : Hid (xs.length = 16) := hl
  have HF : Hid (filled xs 0 = z16 ∧ filled xs 16 = xs) := filled16 xs hl
  clear hl hx
  go_enter Try.func61, Try.ntmps61
  go_wp2_with (first
    | (refine box_lawF _ rfl (.tmp 0) 50 rfl .u8 xs rfl ?_; intro w1 A1 B1 s1; have HA1 : Hid (Ar w1 w.heap.size 0 .u8 xs) := A1; clear A1)
    | (at_make; refine make_law _ rfl _ _ rfl w1.heap.size (Nat.le_refl _) 16 16 rfl rfl rfl (by omega) ?_; intro w2 hown B2 s2; have HO2 : Hid (Ar w2 w1.heap.size 0 .u8 z16) := hown.arG; clear hown)
    | (have q2 := s2; refine load_lawN _ rfl (.tmp 1) 50 rfl .u8 xs w.heap.size 0 rfl (HA1.out.below B2 s1) 4 16 48 Try.underlying50 i_st HL.out ?_))
  have o1 : w.heap.size < w1.heap.size := s1
  have o2 : w1.heap.size < w2.heap.size := s2
  have BW : Below w.heap.size w w1 := B1
  generalize w1.heap.size = g3 at *
  go_loopw [8] (fun i wr => ∃ k : Nat, k ≤ 4 ∧ i = .int .i64 k ∧ Ar wr g3 0 .u8 (filled xs (4 * k)) ∧ Below g3 w1 wr ∧ g3 < wr.heap.size) (fun i _ => 4 - (intOf i).toNat)
  case atStart => exact ⟨0, Nat.zero_le _, rfl, by rw [Nat.mul_zero, HF.out.1]; exact HO2.out, B2, o2⟩
  case round =>
    obtain ⟨k, hk, rfl, hA, hB, hS⟩ := hrel
    have k0 : (0 : Int) ≤ (k : Int) := by omega
    have q1 : IntKind.i64.wrap (k : Int) = k := by rw [IntKind.wrap_i64]; omega
    by_cases hlt : k < 4
    · have k1 : (k : Int) < 4 := by omega
      have HCut : Hid (∀ w0, Calls Try.prog 50 #[.slice (some ⟨g3, 0, none⟩) 16 16, .int .i64 k] w0 fun e w' => e = .returned (.slice (some ⟨g3, 0 + 4 * k, none⟩) 4 4) ∧ w' = w0) := fun w0 => cut_any g3 0 16 16 k w0 (by omega) (by omega) (by omega)
      rw [Nat.zero_add] at HCut
      have HA : Hid (Ar wr g3 0 .u8 (filled xs (4 * k))) := hA
      have HB : Hid (Below g3 w1 wr) := hB
      have CL : Hid ((cut4 xs k).length = 4) := cut4_len xs k (by rw [HL.out]; omega)
      have CA : Hid (AllB (cut4 xs k)) := cut4_all xs k HX.out
      have FC : Hid (laid (filled xs (4 * k)) (4 * k) (cut4 xs k) = filled xs (4 * (k + 1))) := filled_cut xs k (by rw [HL.out]; omega)
      have HQ : Hid (cut4 xs k = cut4 xs k) := rfl
      obtain ⟨cs, hcs⟩ : ∃ cs, cs = cut4 xs k := ⟨_, rfl⟩
      have HCS : Hid (cs = cut4 xs k) := hcs
      rw [← hcs] at CL CA FC
      clear hA hB hcs HQ
      go_wp2_with (first
        | (refine idx_st _ rfl (.tmp 7) (.tmp 8) rfl xs _ k rfl rfl rfl hlt cs HCS.out ?_)
        | (refine new_lawF _ rfl 48 rfl .u8 z4 z_arr4 ?_; intro w3 A3 B3 s3; have HA3 : Hid (Ar w3 wr.heap.size 0 .u8 z4) := A3; clear A3)
        | (have q3 := s3; refine store_lawF _ rfl (.tmp 5) (.tmp 11) 48 rfl .u8 z4 cs wr.heap.size rfl rfl HA3.out 4 i_arr4 rfl CL.out ?_; intro w4 A4 B4; have HA4 : Hid (Ar w4 wr.heap.size 0 .u8 cs) := A4; clear A4))
      refine wp_region_any (by kernel_rfl) ?_
      change wpAny _ _ _ _ _ _ _ (World.drew _)
      refine wpAny_quiet_then (C := fun w' => ∃ n, w' = w4.drewN n) 0 4 1 _ (by kernel_rfl) rfl (by kernel_rfl) (by kernel_rfl) ⟨1, rfl⟩ ?_
      simp only [List.take_succ_cons, List.take_zero, List.drop_zero]
      repeat (quiet_step (with_reducible exact Calls.quiet_of_same (HCut.out _)))
      refine wpQuiet_nil ?_
      rintro f _ ⟨nq, rfl⟩
      have B34 : Below wr.heap.size wr w4 := B3.trans (B4.mono (by omega))
      refine wpAny_ready (rs := [4]) (by kernel_rfl) (by simp) ?_
      refine AllReady.cons rfl (fun K hK => ?_) AllReady.nil
      refine step_copyG _ rfl (some 16) rfl (.tmp 14) (.tmp 15) rfl g3 (4 * k) 4 4 _ _ _ rfl rfl ((HA4.out.drewN nq).bytG CA.out 4 4 CL.out (by omega) (by omega)) ((HA.out.below B34 hS).drewN nq) CL.out (by rw [filled_len, HL.out]; omega) fun w5 A5 B5 => hK _ _ ?_
      rw [FC.out] at A5
      have HA5 : Hid (Ar w5 g3 0 .u8 (filled xs (4 * (k + 1)))) := A5
      have HB5 : Hid (Below g3 w1 w5) := (below_drewN (HB.out.trans (B34.mono (by omega))) nq).trans B5
      have hS5 : g3 < w5.heap.size := by have h1 := B34.size; have h2 : w4.heap.size ≤ w5.heap.size := B5.size; omega
      clear A5 B5
      simp only [Act.put, List.setIfInBounds_toArray, List.set_cons_zero, List.set_cons_succ]
      refine wpAny_done (by kernel_rfl) ?_ _
      go_wp2
      go_roundw
      case rel => exact ⟨k + 1, by omega, by go_num, HA5.out, HB5.out, hS5⟩
      case measure => simp [intOf]; omega
    · have hk4 : k = 4 := by omega
      subst hk4
      rw [show 4 * 4 = 16 from rfl, HF.out.2] at hA
      go_wp2
      go_ret
      exact ⟨g3, rfl, hA, by omega, BW.trans (hB.mono (by omega))⟩
end Go.Proofs.Ytjiddmgnkldmkaa
