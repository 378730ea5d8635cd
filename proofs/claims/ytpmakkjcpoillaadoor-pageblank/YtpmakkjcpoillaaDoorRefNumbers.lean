/- What octet's NumLittle and the reference's Back, Little, Big, NumLittle and Num answer. No claim of its own. -/
import Derived.Test.YtpmakkjcpoillaaDoorNumbers
namespace Go.Proofs.YtpmakkjcpoillaaDoor
open Go.RowKit
set_option maxRecDepth 20000

theorem rev_snoc (xs : List Int) (k : Nat) (h : k < xs.length) : xs.reverse.take (k + 1) = xs.reverse.take k ++ [gb xs (xs.length - 1 - k)] := by
  rw [List.take_succ_eq_append_getElem (by simpa using h)]
  simp [gb, List.getD, show xs.length - 1 - k < xs.length by omega]
theorem allB_take {xs : List Int} (h : AllB xs) (k : Nat) : AllB (xs.take k) := allB_mem fun x hx => by
  obtain ⟨i, hi, rfl⟩ := List.getElem_of_mem (List.mem_of_mem_take hx)
  have := h i
  simpa [gb, List.getD, hi] using this

set_option maxHeartbeats 2000000 in
theorem rlittle_any (n k0 : Int) (w : World) (hn : 0 ≤ n ∧ n ≤ 18446744073709551615) :
    Calls Tryd.prog 65 #[.int .u64 n, .int .i64 k0] w fun e w' => ∃ v, e = .returned v ∧ Byt w' v (le n (clamp k0 8)) ∧ Below w.heap.size w w' := by
  have hs : ((clamp k0 8 : Nat) : Int) = min (max k0 0) 8 := by unfold clamp; omega
  generalize hsd : clamp k0 8 = s at hs
  have HS : Hid ((s : Int) = min (max k0 0) 8) := hs
  have hs1 : s ≤ 8 := by omega
  have hn' : Hid (0 ≤ n ∧ n ≤ 18446744073709551615) := hn
  clear hsd hs hn
  go_enter Tryd.func65, Tryd.ntmps65
  go_wp2
  go_loopw [0, 5, 6] (fun m v i wr => ∃ k : Nat, k ≤ s ∧ i = .int .i64 k ∧ m = .int .u64 (sh n k) ∧ Own w.heap.size wr v (le n k) ∧ Below w.heap.size w wr) (fun _ _ i _ => s - (intOf i).toNat)
  case atStart => exact ⟨0, Nat.zero_le _, rfl, rfl, Own.empty w (Nat.le_refl _), (Below.refl _ _).alloc (Nat.le_refl _) _⟩
  case round =>
    obtain ⟨k, hk, rfl, rfl, hown, hbel⟩ := hrel
    have hsz := hbel.size
    by_cases hlt : k < s
    · have h1 : (k : Int) < k0 := by have := HS.out; omega
      have h2 : (k : Int) < 8 := by omega
      have bd := sh_bd n hn'.out k
      have e1 : IntKind.u8.wrap (sh n k % 256) = sh n k % 256 := by rw [IntKind.wrap_u8']; omega
      go_wp2_with (at_builtin; refine push_law wr rfl (.tmp 17) (.tmp 21) rfl w.heap.size (by omega) _ _ (sh n k % 256) rfl rfl hown (by rw [le_len]; omega) ?_; intro v' w1 hown' hbel')
      rw [← le_snoc] at hown'
      go_roundw
      case rel => exact ⟨k + 1, by omega, by go_num, rfl, hown', hbel.trans hbel'⟩
      case measure => simp [intOf]; omega
    · have hks : k = s := by omega
      subst hks
      by_cases h1 : (k : Int) < k0
      · have h2 : ¬ (k : Int) < 8 := by have := HS.out; omega
        go_wp2
        go_ret
        exact ⟨_, rfl, hown.byt (le_all _ _), hbel⟩
      · go_wp2
        go_ret
        exact ⟨_, rfl, hown.byt (le_all _ _), hbel⟩

set_option maxHeartbeats 2000000 in
theorem back_any (v : Value) (xs : List Int) (w : World) (hb : Byt w v xs) (hl : xs.length ≤ 1048576) :
    Calls Tryd.prog 64 #[v] w fun e w' => ∃ v', e = .returned v' ∧ Byt w' v' xs.reverse ∧ Below w.heap.size w w' := by
  obtain ⟨ao, cap, rfl, h1, h2, h3, -, h5⟩ := hb
  have H5 : Hid (0 < xs.length → ∃ b off, ao = some ⟨b, off, none⟩ ∧ ∀ t, t < xs.length → w.cell? ⟨b, off + t, none⟩ = some (.int .u8 (gb xs t))) := h5
  have HA : Hid (AllB xs) := h3
  clear h5 h3
  go_enter Tryd.func64, Tryd.ntmps64
  go_wp2
  go_loopw [3, 4] (fun v i wr => ∃ k : Nat, k ≤ xs.length ∧ i = .int .i64 ((xs.length : Int) - 1 - k) ∧ Own w.heap.size wr v (xs.reverse.take k) ∧ Below w.heap.size w wr) (fun _ i _ => (intOf i + 1).toNat)
  case atStart => exact ⟨0, Nat.zero_le _, by simp, Own.empty w (Nat.le_refl _), (Below.refl _ _).alloc (Nat.le_refl _) _⟩
  case round =>
    obtain ⟨k, hk, rfl, hown, hbel⟩ := hrel
    have hsz := hbel.size
    by_cases hlt : k < xs.length
    · obtain ⟨b, off, rfl, hca⟩ := H5.out (by omega)
      have c0 := hca (xs.length - 1 - k) (by omega)
      have c1 : wr.cell? ⟨b, off + (xs.length - 1 - k), none⟩ = some (.int .u8 (gb xs (xs.length - 1 - k))) := by rw [hbel.cell (World.block_lt_of_cell? w _ c0)]; exact c0
      have e2 : ((xs.length : Int) - 1 - (k : Int)).toNat = xs.length - 1 - k := by omega
      clear c0 hca
      go_wp2_with (at_builtin; refine push_law wr rfl (.tmp 13) (.tmp 18) rfl w.heap.size (by omega) _ _ (gb xs (xs.length - 1 - k)) rfl rfl hown (by simp; omega) ?_; intro v' w1 hown' hbel')
      rw [← rev_snoc xs k hlt] at hown'
      go_roundw
      case rel => exact ⟨k + 1, by omega, by go_num, hown', hbel.trans hbel'⟩
      case measure => simp [intOf]; omega
    · have hks : k = xs.length := by omega
      subst hks
      rw [List.take_of_length_le (by simp)] at hown
      go_wp2
      go_ret
      exact ⟨_, rfl, hown.byt (allB_reverse HA.out), hbel⟩

/-- the number of the first eight bytes, the least first -/
def numL (xs : List Int) : Int := num (xs.take 8).reverse
theorem numL_rev (xs : List Int) : numL xs.reverse = num (last8 xs) := by
  unfold numL last8; rw [List.take_reverse, List.reverse_reverse]
theorem take8_snoc (xs : List Int) (s k : Nat) (hs : s = min xs.length 8) (h : k < s) : (xs.take 8).reverse.take (k + 1) = (xs.take 8).reverse.take k ++ [gb xs (s - 1 - k)] := by
  have hl : (xs.take 8).length = s := by simp; omega
  rw [rev_snoc (xs.take 8) k (by omega), hl]
  have : gb (xs.take 8) (s - 1 - k) = gb xs (s - 1 - k) := by simp [gb, List.getD, show s - 1 - k < 8 by omega]
  rw [this]

theorem mul_add (n x : Int) (hx : 0 ≤ x ∧ x ≤ 255) : IntKind.u64.wrap (IntKind.u64.wrap (n * 256) + x) = n * 256 % 18446744073709551616 + x := by
  rw [IntKind.wrap_u64, IntKind.wrap_u64]; omega

set_option maxHeartbeats 2000000 in
theorem rnumLittle_any (v : Value) (xs : List Int) (w : World) (hb : Byt w v xs) :
    Calls Tryd.prog 63 #[v] w fun e w' => e = .returned (.int .u64 (numL xs)) ∧ w' = w := by
  obtain ⟨ao, cap, rfl, h1, h2, h3, -, h5⟩ := hb
  have H5 : Hid (0 < xs.length → ∃ b off, ao = some ⟨b, off, none⟩ ∧ ∀ t, t < xs.length → w.cell? ⟨b, off + t, none⟩ = some (.int .u8 (gb xs t))) := h5
  have HA : Hid (AllB xs) := h3
  clear h5 h3
  obtain ⟨s, hs⟩ : ∃ s, s = min xs.length 8 := ⟨_, rfl⟩
  have HS2 : Hid (s = min xs.length 8) := hs
  have hs1 : s ≤ 8 := by omega
  have hs2 : s ≤ xs.length := by omega
  clear hs
  go_enter Tryd.func63, Tryd.ntmps63
  go_wp2
  all_goals
    go_loop [3, 4] (fun n i => ∃ k : Nat, k ≤ s ∧ i = .int .i64 ((s : Int) - 1 - k) ∧ n = .int .u64 (num ((xs.take 8).reverse.take k))) (fun _ i => (intOf i + 1).toNat)
    case atStart => exact ⟨0, Nat.zero_le _, by have := HS2.out; congr 1; omega, rfl⟩
    case round =>
      obtain ⟨k, hk, rfl, rfl⟩ := hrel
      by_cases hlt : k < s
      · obtain ⟨b, off, rfl, hca⟩ := H5.out (by omega)
        have c0 := hca (s - 1 - k) (by omega)
        have e2 : ((s : Int) - 1 - (k : Int)).toNat = s - 1 - k := by omega
        clear hca
        have SN : Hid (num ((xs.take 8).reverse.take (k + 1)) = num ((xs.take 8).reverse.take k) * 256 % 18446744073709551616 + gb xs (s - 1 - k)) := by
          show _ = _
          rw [take8_snoc xs s k HS2.out hlt, num_snoc]
        have gbd := HA.out (s - 1 - k)
        go_wp2
        go_round
        case rel => exact ⟨k + 1, by omega, by go_num, by rw [SN.out, mul_add _ _ (HA.out _)]⟩
        case measure => simp [intOf]; omega
      · have hks : k = s := by omega
        have e : Hid ((xs.take 8).reverse.take k = (xs.take 8).reverse) := List.take_of_length_le (by have := HS2.out; simp; omega)
        rw [e.out]
        go_wp2
        go_ret
        exact ⟨rfl, rfl⟩

set_option maxHeartbeats 2000000 in
theorem rbig_any (n k0 : Int) (w : World) (hn : 0 ≤ n ∧ n ≤ 18446744073709551615) :
    Calls Tryd.prog 60 #[.int .u64 n, .int .i64 k0] w fun e w' => ∃ v, e = .returned v ∧ Byt w' v (le n (clamp k0 8)).reverse ∧ Below w.heap.size w w' := by
  have hs := clamp_le k0 8 (by omega)
  have hn' : Hid (0 ≤ n ∧ n ≤ 18446744073709551615) := hn
  clear hn
  go_enter Tryd.func60, Tryd.ntmps60
  go_wp2_with (first
    | (go_at_call 65; refine (rlittle_any n k0 _ hn'.out).mono ?_; rintro e w1 ⟨v1, rfl, hv1, hb1⟩; have hz1 := hb1.size)
    | (go_at_call 64; refine (back_any v1 _ _ hv1 (by rw [le_len]; omega)).mono ?_; rintro e w2 ⟨v2, rfl, hv2, hb2⟩))
  go_ret
  exact ⟨_, rfl, hv2, hb1.trans (hb2.mono hz1)⟩

set_option maxHeartbeats 2000000 in
theorem rnum_any (v : Value) (xs : List Int) (w : World) (hb : Byt w v xs) (hl : xs.length ≤ 1048576) :
    Calls Tryd.prog 53 #[v] w fun e w' => e = .returned (.int .u64 (num (last8 xs))) ∧ Below w.heap.size w w' := by
  rw [← numL_rev]
  go_enter Tryd.func53, Tryd.ntmps53
  go_wp2_with (first
    | (go_at_call 64; refine (back_any v _ _ hb hl).mono ?_; rintro e w2 ⟨v2, rfl, hv2, hb2⟩)
    | (go_at_call 63; refine (rnumLittle_any v2 _ _ hv2).mono ?_; rintro e w3 ⟨rfl, hw⟩; obtain rfl := hw.symm))
  go_ret
  exact ⟨rfl, hb2⟩

theorem num_le (n : Int) (hn : 0 ≤ n ∧ n ≤ 18446744073709551615) : num (le n 8).reverse = n := by
  simp only [num, le, List.range, List.range.loop, List.map_cons, List.map_nil, List.reverse_cons, List.reverse_nil, List.nil_append, List.cons_append, List.foldl_cons, List.foldl_nil, sh]
  omega
theorem clamp88 : clamp 8 8 = 8 := by decide
theorem numL_le (n : Int) (hn : 0 ≤ n ∧ n ≤ 18446744073709551615) : numL (le n 8) = n := by
  unfold numL; rw [List.take_of_length_le (by rw [le_len]; omega)]; exact num_le n hn
theorem last8_le (n : Int) (hn : 0 ≤ n ∧ n ≤ 18446744073709551615) : num (last8 (le n 8).reverse) = n := by
  unfold last8; rw [List.length_reverse, le_len]; exact num_le n hn
end Go.Proofs.YtpmakkjcpoillaaDoor
