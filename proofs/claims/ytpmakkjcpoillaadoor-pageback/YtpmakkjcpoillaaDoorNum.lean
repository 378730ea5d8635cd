/- What octet's Num answers: the number of the last eight bytes. No claim of its own. -/
import Derived.Test.YtpmakkjcpoillaaDoorFill
namespace Go.Proofs.YtpmakkjcpoillaaDoor
open Go.RowKit
set_option maxRecDepth 20000

/-- the number of bytes, the greatest first, of sixty-four bits -/
def num : List Int → Int := fun xs => xs.foldl (fun n x => (n * 256) % 18446744073709551616 + x) 0
theorem num_snoc (xs : List Int) (x : Int) : num (xs ++ [x]) = (num xs * 256) % 18446744073709551616 + x := by simp [num]
/-- the last eight -/
def last8 (xs : List Int) : List Int := xs.drop (xs.length - 8)
theorem last8_len (xs : List Int) : (last8 xs).length = min xs.length 8 := by simp [last8]; omega
theorem gb_drop (xs : List Int) (d k : Nat) : gb (xs.drop d) k = gb xs (d + k) := by simp [gb, List.getD]
theorem take_snoc_gb (xs : List Int) (k : Nat) (h : k < xs.length) : xs.take (k + 1) = xs.take k ++ [gb xs k] := by
  rw [List.take_succ_eq_append_getElem h]; simp [gb, List.getD, h]
theorem num_bd (xs : List Int) (h : AllB xs) (k : Nat) (hk : k ≤ xs.length) : 0 ≤ num (xs.take k) ∧ num (xs.take k) ≤ 18446744073709551615 := by
  induction k with
  | zero => simp [num]
  | succ k ih =>
    rw [take_snoc_gb xs k (by omega), num_snoc]
    have := h k
    omega
theorem shl_or (n x : Int) (hx : 0 ≤ x ∧ x ≤ 255) : bits .or .u64 (IntKind.u64.wrap (n * 256)) (IntKind.u64.wrap x) = (n * 256) % 18446744073709551616 + x := by
  have hw : IntKind.u64.wrap x = x := by rw [IntKind.wrap_u64]; omega
  rw [hw, IntKind.wrap_u64]
  have h0 : 0 ≤ n * 256 % 18446744073709551616 := Int.emod_nonneg _ (by decide)
  have h1 : n * 256 % 18446744073709551616 < 18446744073709551616 := Int.emod_lt_of_pos _ (by decide)
  rw [u64_or _ _ h0 h1 hx.1 (by omega), nat_join 8 _ _ (by omega) (by omega)]
  omega

set_option maxHeartbeats 2000000 in
theorem num_any (v : Value) (xs : List Int) (w : World) (hb : Byt w v xs) :
    Calls Tryd.prog 62 #[v] w fun e w' => e = .returned (.int .u64 (num (last8 xs))) ∧ w' = w := by
  have HB := hb
  obtain ⟨ao, cap, rfl, h1, h2, -, -, -⟩ := hb
  have HBB : Hid (Byt w (.slice ao xs.length cap) xs) := HB
  clear HB
  generalize hys : last8 xs = ys
  have hs : ((clamp (xs.length : Int) 8 : Nat) : Int) = min (max (xs.length : Int) 0) 8 := by unfold clamp; omega
  generalize hsd : clamp (xs.length : Int) 8 = s at hs
  have HS : Hid (clamp (xs.length : Int) 8 = s) := hsd
  have hs1 : s ≤ 8 := by omega
  have hs2 : s ≤ xs.length := by omega
  have HL : Hid (xs.drop (xs.length - s) = ys) := by
    show _ = _
    rw [← hys]; unfold last8; congr 1; omega
  clear hsd hs hys
  go_enter Tryd.func62, Tryd.ntmps62
  go_wp2_with (first
    | (go_at_call 42; refine (within_any _ _ _ (by omega)).mono ?_; rintro e w' ⟨rfl, hw⟩; obtain rfl := hw.symm; rw [HS.out])
    | (refine cut_from _ rfl (.tmp 6) (.tmp 12) rfl _ xs _ (xs.length - s) rfl rfl (by omega) (by omega) HBB.out ?_; intro v' hv; rw [HL.out] at hv; obtain ⟨ao', cap', rfl, k1, k2, k3, -, k5⟩ := hv; have K3 : Hid (AllB ys) := k3; have K5 : Hid (0 < ys.length → ∃ b off, ao' = some ⟨b, off, none⟩ ∧ ∀ t, t < ys.length → w.cell? ⟨b, off + t, none⟩ = some (.int .u8 (gb ys t))) := k5; clear k3 k5))
  go_loop [3, 15] (fun n i => ∃ k : Nat, k ≤ ys.length ∧ i = .int .i64 k ∧ n = .int .u64 (num (ys.take k))) (fun _ i => ys.length - (intOf i).toNat)
  case atStart => exact ⟨0, Nat.zero_le _, rfl, rfl⟩
  case round =>
    obtain ⟨k, hk, rfl, rfl⟩ := hrel
    by_cases hlt : k < ys.length
    · obtain ⟨b, off, rfl, hca⟩ := K5.out (by omega)
      have c0 := hca k hlt
      clear hca
      have SN : Hid (num (ys.take (k + 1)) = num (ys.take k) * 256 % 18446744073709551616 + gb ys k) := by
        show _ = _
        rw [take_snoc_gb ys k hlt, num_snoc]
      go_wp2
      go_round
      case rel => exact ⟨k + 1, by omega, by go_num, by rw [SN.out, shl_or _ _ (K3.out k)]⟩
      case measure => simp [intOf]; omega
    · have hks : k = ys.length := by omega
      subst hks
      rw [List.take_length]
      go_wp2
      go_ret
      exact ⟨rfl, rfl⟩
end Go.Proofs.YtpmakkjcpoillaaDoor
