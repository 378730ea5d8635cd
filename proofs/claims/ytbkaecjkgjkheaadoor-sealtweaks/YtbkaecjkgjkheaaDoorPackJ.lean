/- Texts put together (a claim holds few files). No claim of its own. -/
import Derived.Test.YtbkaecjkgjkheaaDoorPackC
import Derived.Deep.RegionWith
import Derived.Deep.WholeRow
import Derived.Deep.MidRow
import Derived.Lib.SlBuf
import Derived.Deep.RegionHeld3
/- What octet's NumLittle and the reference's Back, Little, Big, NumLittle and Num answer. No claim of its own. -/
namespace Go.Proofs.YtbkaecjkgjkheaaDoor
open Go.RowKit
set_option maxRecDepth 20000

theorem rev_snoc (xs : List Int) (k : Nat) (h : k < xs.length) : xs.reverse.take (k + 1) = xs.reverse.take k ++ [gb xs (xs.length - 1 - k)] := by
  rw [List.take_succ_eq_append_getElem (by simpa using h)]
  simp [gb, List.getD, show xs.length - 1 - k < xs.length by omega]
theorem allB_take {xs : List Int} (h : AllB xs) (k : Nat) : AllB (xs.take k) := allB_mem fun x hx => by
  obtain ⟨i, hi, rfl⟩ := List.getElem_of_mem (List.mem_of_mem_take hx)
  have := h i
  simpa [gb, List.getD, hi] using this

set_option maxHeartbeats 2000000 in
theorem rlittle_any (n k0 : Int) (w : World) (hn : 0 ≤ n ∧ n ≤ 18446744073709551615) :
    Calls Tryd.prog 39 #[.int .u64 n, .int .i64 k0] w fun e w' => ∃ v, e = .returned v ∧ Byt w' v (le n (clamp k0 8)) ∧ Below w.heap.size w w' := by
  have hs : ((clamp k0 8 : Nat) : Int) = min (max k0 0) 8 := by unfold clamp; omega
  generalize hsd : clamp k0 8 = s at hs
  have HS : Hid ((s : Int) = min (max k0 0) 8) := hs
  have hs1 : s ≤ 8 := by omega
  have hn' : Hid (0 ≤ n ∧ n ≤ 18446744073709551615) := hn
  clear hsd hs hn
  go_enter Tryd.func39, Tryd.ntmps39
  go_wp2
  go_loopw [0, 5, 6] (fun m v i wr => ∃ k : Nat, k ≤ s ∧ i = .int .i64 k ∧ m = .int .u64 (sh n k) ∧ Own w.heap.size wr v (le n k) ∧ Below w.heap.size w wr) (fun _ _ i _ => s - (intOf i).toNat)
  case atStart => exact ⟨0, Nat.zero_le _, rfl, rfl, Own.empty w (Nat.le_refl _), (Below.refl _ _).alloc (Nat.le_refl _) _⟩
  case round =>
    obtain ⟨k, hk, rfl, rfl, hown, hbel⟩ := hrel
    have hsz := hbel.size
    by_cases hlt : k < s
    · have h1 : (k : Int) < k0 := by have := HS.out; omega
      have h2 : (k : Int) < 8 := by omega
      have bd := sh_bd n hn'.out k
      have e1 : IntKind.u8.wrap (sh n k % 256) = sh n k % 256 := by rw [IntKind.wrap_u8']; omega
      go_wp2_with (at_builtin; refine push_law wr rfl (.tmp 17) (.tmp 21) rfl w.heap.size (by omega) _ _ (sh n k % 256) rfl rfl hown (by rw [le_len]; omega) ?_; intro v' w1 hown' hbel')
      rw [← le_snoc] at hown'
      go_roundw
      case rel => exact ⟨k + 1, by omega, by go_num, rfl, hown', hbel.trans hbel'⟩
      case measure => simp [intOf]; omega
    · have hks : k = s := by omega
      subst hks
      by_cases h1 : (k : Int) < k0
      · have h2 : ¬ (k : Int) < 8 := by have := HS.out; omega
        go_wp2
        go_ret
        exact ⟨_, rfl, hown.byt (le_all _ _), hbel⟩
      · go_wp2
        go_ret
        exact ⟨_, rfl, hown.byt (le_all _ _), hbel⟩

set_option maxHeartbeats 2000000 in
theorem bak_any (v : Value) (xs : List Int) (w : World) (hb : Byt w v xs) (hl : xs.length ≤ 1048576) :
    Calls Tryd.prog 38 #[v] w fun e w' => ∃ v', e = .returned v' ∧ Byt w' v' xs.reverse ∧ Below w.heap.size w w' := by
  obtain ⟨ao, cap, rfl, h1, h2, h3, -, h5⟩ := hb
  have H5 : Hid (0 < xs.length → ∃ b off, ao = some ⟨b, off, none⟩ ∧ ∀ t, t < xs.length → w.cell? ⟨b, off + t, none⟩ = some (.int .u8 (gb xs t))) := h5
  have HA : Hid (AllB xs) := h3
  clear h5 h3
  go_enter Tryd.func38, Tryd.ntmps38
  go_wp2
  go_loopw [3, 4] (fun v i wr => ∃ k : Nat, k ≤ xs.length ∧ i = .int .i64 ((xs.length : Int) - 1 - k) ∧ Own w.heap.size wr v (xs.reverse.take k) ∧ Below w.heap.size w wr) (fun _ i _ => (intOf i + 1).toNat)
  case atStart => exact ⟨0, Nat.zero_le _, by simp, Own.empty w (Nat.le_refl _), (Below.refl _ _).alloc (Nat.le_refl _) _⟩
  case round =>
    obtain ⟨k, hk, rfl, hown, hbel⟩ := hrel
    have hsz := hbel.size
    by_cases hlt : k < xs.length
    · obtain ⟨b, off, rfl, hca⟩ := H5.out (by omega)
      have c0 := hca (xs.length - 1 - k) (by omega)
      have c1 : wr.cell? ⟨b, off + (xs.length - 1 - k), none⟩ = some (.int .u8 (gb xs (xs.length - 1 - k))) := by rw [hbel.cell (World.block_lt_of_cell? w _ c0)]; exact c0
      have e2 : ((xs.length : Int) - 1 - (k : Int)).toNat = xs.length - 1 - k := by omega
      clear c0 hca
      go_wp2_with (at_builtin; refine push_law wr rfl (.tmp 13) (.tmp 18) rfl w.heap.size (by omega) _ _ (gb xs (xs.length - 1 - k)) rfl rfl hown (by simp; omega) ?_; intro v' w1 hown' hbel')
      rw [← rev_snoc xs k hlt] at hown'
      go_roundw
      case rel => exact ⟨k + 1, by omega, by go_num, hown', hbel.trans hbel'⟩
      case measure => simp [intOf]; omega
    · have hks : k = xs.length := by omega
      subst hks
      rw [List.take_of_length_le (by simp)] at hown
      go_wp2
      go_ret
      exact ⟨_, rfl, hown.byt (allB_reverse HA.out), hbel⟩

/-- the number of the first eight bytes, the least first -/
def numL (xs : List Int) : Int := num (xs.take 8).reverse
theorem numL_rev (xs : List Int) : numL xs.reverse = num (last8 xs) := by
  unfold numL last8; rw [List.take_reverse, List.reverse_reverse]
theorem take8_snoc (xs : List Int) (s k : Nat) (hs : s = min xs.length 8) (h : k < s) : (xs.take 8).reverse.take (k + 1) = (xs.take 8).reverse.take k ++ [gb xs (s - 1 - k)] := by
  have hl : (xs.take 8).length = s := by simp; omega
  rw [rev_snoc (xs.take 8) k (by omega), hl]
  have : gb (xs.take 8) (s - 1 - k) = gb xs (s - 1 - k) := by simp [gb, List.getD, show s - 1 - k < 8 by omega]
  rw [this]

theorem mul_add (n x : Int) (hx : 0 ≤ x ∧ x ≤ 255) : IntKind.u64.wrap (IntKind.u64.wrap (n * 256) + x) = n * 256 % 18446744073709551616 + x := by
  rw [IntKind.wrap_u64, IntKind.wrap_u64]; omega

set_option maxHeartbeats 2000000 in
theorem rnumLittle_any (v : Value) (xs : List Int) (w : World) (hb : Byt w v xs) :
    Calls Tryd.prog 105 #[v] w fun e w' => e = .returned (.int .u64 (numL xs)) ∧ w' = w := by
  obtain ⟨ao, cap, rfl, h1, h2, h3, -, h5⟩ := hb
  have H5 : Hid (0 < xs.length → ∃ b off, ao = some ⟨b, off, none⟩ ∧ ∀ t, t < xs.length → w.cell? ⟨b, off + t, none⟩ = some (.int .u8 (gb xs t))) := h5
  have HA : Hid (AllB xs) := h3
  clear h5 h3
  obtain ⟨s, hs⟩ : ∃ s, s = min xs.length 8 := ⟨_, rfl⟩
  have HS2 : Hid (s = min xs.length 8) := hs
  have hs1 : s ≤ 8 := by omega
  have hs2 : s ≤ xs.length := by omega
  clear hs
  go_enter Tryd.func105, Tryd.ntmps105
  go_wp2
  all_goals
    go_loop [3, 4] (fun n i => ∃ k : Nat, k ≤ s ∧ i = .int .i64 ((s : Int) - 1 - k) ∧ n = .int .u64 (num ((xs.take 8).reverse.take k))) (fun _ i => (intOf i + 1).toNat)
    case atStart => exact ⟨0, Nat.zero_le _, by have := HS2.out; congr 1; omega, rfl⟩
    case round =>
      obtain ⟨k, hk, rfl, rfl⟩ := hrel
      by_cases hlt : k < s
      · obtain ⟨b, off, rfl, hca⟩ := H5.out (by omega)
        have c0 := hca (s - 1 - k) (by omega)
        have e2 : ((s : Int) - 1 - (k : Int)).toNat = s - 1 - k := by omega
        clear hca
        have SN : Hid (num ((xs.take 8).reverse.take (k + 1)) = num ((xs.take 8).reverse.take k) * 256 % 18446744073709551616 + gb xs (s - 1 - k)) := by
          show _ = _
          rw [take8_snoc xs s k HS2.out hlt, num_snoc]
        have gbd := HA.out (s - 1 - k)
        go_wp2
        go_round
        case rel => exact ⟨k + 1, by omega, by go_num, by rw [SN.out, mul_add _ _ (HA.out _)]⟩
        case measure => simp [intOf]; omega
      · have hks : k = s := by omega
        have e : Hid ((xs.take 8).reverse.take k = (xs.take 8).reverse) := List.take_of_length_le (by have := HS2.out; simp; omega)
        rw [e.out]
        go_wp2
        go_ret
        exact ⟨rfl, rfl⟩

set_option maxHeartbeats 2000000 in
theorem rbig_any (n k0 : Int) (w : World) (hn : 0 ≤ n ∧ n ≤ 18446744073709551615) :
    Calls Tryd.prog 23 #[.int .u64 n, .int .i64 k0] w fun e w' => ∃ v, e = .returned v ∧ Byt w' v (le n (clamp k0 8)).reverse ∧ Below w.heap.size w w' := by
  have hs := clamp_le k0 8 (by omega)
  have hn' : Hid (0 ≤ n ∧ n ≤ 18446744073709551615) := hn
  clear hn
  go_enter Tryd.func23, Tryd.ntmps23
  go_wp2_with (first
    | (go_at_call 39; refine (rlittle_any n k0 _ hn'.out).mono ?_; rintro e w1 ⟨v1, rfl, hv1, hb1⟩; have hz1 := hb1.size)
    | (go_at_call 38; refine (bak_any v1 _ _ hv1 (by rw [le_len]; omega)).mono ?_; rintro e w2 ⟨v2, rfl, hv2, hb2⟩))
  go_ret
  exact ⟨_, rfl, hv2, hb1.trans (hb2.mono hz1)⟩

set_option maxHeartbeats 2000000 in
theorem rnum_any (v : Value) (xs : List Int) (w : World) (hb : Byt w v xs) (hl : xs.length ≤ 1048576) :
    Calls Tryd.prog 99 #[v] w fun e w' => e = .returned (.int .u64 (num (last8 xs))) ∧ Below w.heap.size w w' := by
  rw [← numL_rev]
  go_enter Tryd.func99, Tryd.ntmps99
  go_wp2_with (first
    | (go_at_call 38; refine (bak_any v _ _ hb hl).mono ?_; rintro e w2 ⟨v2, rfl, hv2, hb2⟩)
    | (go_at_call 105; refine (rnumLittle_any v2 _ _ hv2).mono ?_; rintro e w3 ⟨rfl, hw⟩; obtain rfl := hw.symm))
  go_ret
  exact ⟨rfl, hb2⟩

theorem num_le (n : Int) (hn : 0 ≤ n ∧ n ≤ 18446744073709551615) : num (le n 8).reverse = n := by
  simp only [num, le, List.range, List.range.loop, List.map_cons, List.map_nil, List.reverse_cons, List.reverse_nil, List.nil_append, List.cons_append, List.foldl_cons, List.foldl_nil, sh]
  omega
theorem clamp88 : clamp 8 8 = 8 := by decide
theorem numL_le (n : Int) (hn : 0 ≤ n ∧ n ≤ 18446744073709551615) : numL (le n 8) = n := by
  unfold numL; rw [List.take_of_length_le (by rw [le_len]; omega)]; exact num_le n hn
theorem last8_le (n : Int) (hn : 0 ≤ n ∧ n ≤ 18446744073709551615) : num (last8 (le n 8).reverse) = n := by
  unfold last8; rw [List.length_reverse, le_len]; exact num_le n hn
end Go.Proofs.YtbkaecjkgjkheaaDoor

/- The words of 32 bits: how they are rotated, and what the small functions of sha and of its reference answer. No claim of its own. -/
namespace Go.Proofs.YtbkaecjkgjkheaaDoor.mc
open Go.RowKit
set_option maxRecDepth 20000

/-- a word rotated to the right -/
def rr (x : Int) (n : Nat) : Int := x / 2 ^ n + x % 2 ^ n * 2 ^ (32 - n)
def xr3 (a b c : Int) : Int := bits .xor .u32 (bits .xor .u32 a b) c
def sg0 (x : Int) : Int := xr3 (rr x 7) (rr x 18) (x / 8)
def sg1 (x : Int) : Int := xr3 (rr x 17) (rr x 19) (x / 1024)
def bg0 (x : Int) : Int := xr3 (rr x 2) (rr x 13) (rr x 22)
def bg1 (x : Int) : Int := xr3 (rr x 6) (rr x 11) (rr x 25)
def chs (x y z : Int) : Int := bits .xor .u32 (bits .and .u32 x y) (bits .and .u32 (4294967295 - x) z)
def maj (x y z : Int) : Int := xr3 (bits .and .u32 x y) (bits .and .u32 x z) (bits .and .u32 y z)

/-- a number of 32 bits -/
def W32 (x : Int) : Prop := 0 ≤ x ∧ x ≤ 4294967295

theorem not_u32 (x : Int) (hx : W32 x) : bits .xor .u32 IntKind.u32.max x = 4294967295 - x := by
  have e : IntKind.u32.max = 4294967295 := rfl
  rw [e, u32_xor _ _ (by omega) (by omega) hx.1 (by have := hx.2; omega)]
  obtain ⟨n, rfl⟩ := Int.eq_ofNat_of_zero_le hx.1
  have h2 : n < 2 ^ 32 := by have := hx.2; omega
  show ((4294967295 ^^^ n : Nat) : Int) = _
  have h3 : 4294967295 ^^^ n = 4294967295 - n := by
    have e : 4294967295 - n = 2 ^ 32 - (n + 1) := by omega
    rw [e]
    apply Nat.eq_of_testBit_eq
    intro i
    rw [Nat.testBit_xor, Nat.testBit_two_pow_sub_succ h2, show 4294967295 = 2 ^ 32 - 1 from rfl, Nat.testBit_two_pow_sub_one]
    by_cases hi : i < 32
    · simp [hi]
    · have : n.testBit i = false := Nat.testBit_lt_two_pow (Nat.lt_of_lt_of_le h2 (Nat.pow_le_pow_right (by omega) (by omega)))
      simp [hi, this]
  rw [h3]; omega

set_option maxHeartbeats 1000000 in
theorem choose_any (x y z : Int) (w : World) (hx : W32 x) :
    Calls Tryd.prog 81 #[.int .u32 x, .int .u32 y, .int .u32 z] w fun e w' => e = .returned (.int .u32 (chs x y z)) ∧ w' = w := by
  have HX : Hid (bits .xor .u32 IntKind.u32.max x = 4294967295 - x) := not_u32 x hx
  clear hx
  go_enter Tryd.func81, Tryd.ntmps81
  go_wp2
  go_ret
  refine ⟨ret_int ?_, rfl⟩
  rw [HX.out]; rfl

set_option maxHeartbeats 1000000 in
theorem majority_any (x y z : Int) (w : World) :
    Calls Tryd.prog 83 #[.int .u32 x, .int .u32 y, .int .u32 z] w fun e w' => e = .returned (.int .u32 (maj x y z)) ∧ w' = w := by
  go_enter Tryd.func83, Tryd.ntmps83
  go_wp2
  go_ret
  exact ⟨rfl, rfl⟩

theorem and31 (n : Nat) (h : 1 ≤ n ∧ n ≤ 31) : bits .and .u64 (IntKind.u64.wrap (-(n : Int))) 31 = 32 - n := by
  have h3 := u64_and (18446744073709551616 - (n : Int)) 31 (by omega) (by omega) (by omega) (by omega)
  rw [IntKind.wrap_u64, show -(n : Int) % 18446744073709551616 = 18446744073709551616 - n by omega, h3]
  have : (18446744073709551616 - (n : Int)).toNat = 18446744073709551616 - n := by omega
  rw [this, show (31 : Int).toNat = 2 ^ 5 - 1 from rfl, Nat.and_two_pow_sub_one_eq_mod]
  omega

theorem rot_eq (x : Int) (n : Nat) (hx : W32 x) (hn : 1 ≤ n ∧ n ≤ 31) : bits .or .u32 (x * 2 ^ (32 - n) % 4294967296) (x / 2 ^ (32 - (32 - n))) = rr x n := by
  obtain ⟨y, rfl⟩ := Int.eq_ofNat_of_zero_le hx.1
  have hy : y < 2 ^ 32 := by have := hx.2; omega
  have en : 32 - (32 - n) = n := by omega
  have e1 : (y : Int) * 2 ^ (32 - n) % 4294967296 = ((y % 2 ^ n * 2 ^ (32 - n) : Nat) : Int) := by
    have : y * 2 ^ (32 - n) % (2 ^ n * 2 ^ (32 - n)) = y % 2 ^ n * 2 ^ (32 - n) := Nat.mul_mod_mul_right _ _ _
    rw [← this, ← Nat.pow_add, show n + (32 - n) = 32 by omega]
    simp
  have e2 : (y : Int) / 2 ^ n = ((y / 2 ^ n : Nat) : Int) := by simp
  have e3 : (y : Int) % 2 ^ n = ((y % 2 ^ n : Nat) : Int) := by simp
  have h1 : y / 2 ^ n < 2 ^ (32 - n) := by
    rw [Nat.div_lt_iff_lt_mul (Nat.two_pow_pos n), ← Nat.pow_add, show 32 - n + n = 32 by omega]; exact hy
  have h2 : y % 2 ^ n * 2 ^ (32 - n) < 2 ^ 32 := by
    have : y % 2 ^ n < 2 ^ n := Nat.mod_lt _ (Nat.two_pow_pos n)
    calc y % 2 ^ n * 2 ^ (32 - n) < 2 ^ n * 2 ^ (32 - n) := Nat.mul_lt_mul_of_pos_right this (Nat.two_pow_pos _)
      _ = 2 ^ 32 := by rw [← Nat.pow_add, show n + (32 - n) = 32 by omega]
  have h3 : 2 ^ (32 - n) ≤ 2 ^ 32 := Nat.pow_le_pow_right (by omega) (by omega)
  rw [en, e1, e2, u32_or_nat _ _ (by omega) (by omega), rr, e2, e3]
  have e4 : y % 2 ^ n * 2 ^ (32 - n) ||| y / 2 ^ n = y % 2 ^ n * 2 ^ (32 - n) + y / 2 ^ n := by
    have := Nat.two_pow_add_eq_or_of_lt h1 (y % 2 ^ n)
    rw [Nat.mul_comm, this]
  rw [e4]
  simp
  omega

set_option maxHeartbeats 1000000 in
theorem rotateLeft_any (x : Int) (n : Nat) (w : World) (hx : W32 x) (hn : 1 ≤ n ∧ n ≤ 31) :
    Calls Tryd.prog 95 #[.int .u32 x, .int .i64 (-(n : Int))] w fun e w' => e = .returned (.int .u32 (rr x n)) ∧ w' = w := by
  have HX : Hid (W32 x) := hx
  have h1 := and31 n hn
  have h2 : ((32 : Int) - n).toNat = 32 - n := by omega
  clear hx
  go_enter Tryd.func95, Tryd.ntmps95
  go_wp2
  go_ret
  refine ⟨ret_int ?_, rfl⟩
  exact rot_eq x n HX.out hn

set_option maxHeartbeats 1000000 in
theorem power_any (n : Nat) (w : World) (hn : n ≤ 31) :
    Calls Tryd.prog 100 #[.int .i64 n] w fun e w' => e = .returned (.int .u32 (2 ^ n)) ∧ w' = w := by
  have HP : ∀ k : Nat, k < n → Hid (IntKind.u32.wrap ((2 : Int) ^ k * 2) = 2 ^ (k + 1)) := by
    intro k hk
    show _ = _
    rw [IntKind.wrap_u32, Int.pow_succ]
    have h1 : 2 ^ k ≤ 2 ^ 30 := Nat.pow_le_pow_right (by omega) (by omega)
    have h2 : ((2 ^ k : Nat) : Int) = 2 ^ k := by simp
    rw [← h2]
    generalize 2 ^ k = q at h1
    omega
  go_enter Tryd.func100, Tryd.ntmps100
  go_wp2
  go_loop [3, 4] (fun p i => ∃ k : Nat, k ≤ n ∧ i = .int .i64 k ∧ p = .int .u32 (2 ^ k)) (fun _ i => n - (intOf i).toNat)
  case atStart => exact ⟨0, Nat.zero_le _, rfl, rfl⟩
  case round =>
    obtain ⟨k, hk, rfl, rfl⟩ := hrel
    by_cases hlt : k < n
    · have H := HP k hlt
      clear HP
      obtain ⟨p, hp⟩ : ∃ p : Int, p = 2 ^ k := ⟨_, rfl⟩
      rw [← hp] at H ⊢
      clear hp
      go_wp2
      go_round
      case rel => exact ⟨k + 1, by omega, by go_num, by rw [← H.out, IntKind.wrap_u32]⟩
      case measure => simp [intOf]; omega
    · have hks : k = n := by omega
      subst hks
      clear HP
      go_wp2
      go_ret
      exact ⟨rfl, rfl⟩

set_option maxHeartbeats 1000000 in
theorem rotateRight_any (x : Int) (n : Nat) (w : World) (hx : W32 x) (hn : 1 ≤ n ∧ n ≤ 31) :
    Calls Tryd.prog 98 #[.int .u32 x, .int .i64 n] w fun e w' => e = .returned (.int .u32 (rr x n)) ∧ w' = w := by
  have HX : Hid (W32 x) := hx
  have h1 : IntKind.i64.wrap (-(n : Int)) = -(n : Int) := by rw [IntKind.wrap_i64]; omega
  clear hx
  go_enter Tryd.func98, Tryd.ntmps98
  go_wp2_with (go_at_call 95; refine (rotateLeft_any x n _ HX.out hn).mono ?_; rintro e w' ⟨rfl, hw⟩; obtain rfl := hw.symm)
  go_ret
  exact ⟨rfl, rfl⟩

theorem rr_bd (x : Int) (n : Nat) (hx : W32 x) (hn : 1 ≤ n ∧ n ≤ 31) : W32 (rr x n) := by
  rw [← rot_eq x n hx hn]
  have := bounds_u32 (wf_bits .or .u32 (x * 2 ^ (32 - n) % 4294967296) (x / 2 ^ (32 - (32 - n))))
  exact ⟨this.1, by omega⟩
theorem bits_bd (o : BinOp) (a b : Int) : W32 (bits o .u32 a b) := by
  have := bounds_u32 (wf_bits o .u32 a b)
  exact ⟨this.1, by omega⟩

set_option maxHeartbeats 1000000 in
theorem smallSigma0_any (x : Int) (w : World) (hx : W32 x) :
    Calls Tryd.prog 97 #[.int .u32 x] w fun e w' => e = .returned (.int .u32 (sg0 x)) ∧ w' = w := by
  have HX : Hid (W32 x) := hx
  clear hx
  go_enter Tryd.func97, Tryd.ntmps97
  go_wp2_with (first
    | (go_at_call_of 98 (Value.int .i64 7); refine (rotateRight_any x 7 _ HX.out (by omega)).mono ?_; rintro e w' ⟨rfl, hw⟩; obtain rfl := hw.symm)
    | (go_at_call_of 98 (Value.int .i64 18); refine (rotateRight_any x 18 _ HX.out (by omega)).mono ?_; rintro e w' ⟨rfl, hw⟩; obtain rfl := hw.symm))
  go_ret
  exact ⟨rfl, rfl⟩

set_option maxHeartbeats 1000000 in
theorem smallSigma1_any (x : Int) (w : World) (hx : W32 x) :
    Calls Tryd.prog 96 #[.int .u32 x] w fun e w' => e = .returned (.int .u32 (sg1 x)) ∧ w' = w := by
  have HX : Hid (W32 x) := hx
  clear hx
  go_enter Tryd.func96, Tryd.ntmps96
  go_wp2_with (first
    | (go_at_call_of 98 (Value.int .i64 17); refine (rotateRight_any x 17 _ HX.out (by omega)).mono ?_; rintro e w' ⟨rfl, hw⟩; obtain rfl := hw.symm)
    | (go_at_call_of 98 (Value.int .i64 19); refine (rotateRight_any x 19 _ HX.out (by omega)).mono ?_; rintro e w' ⟨rfl, hw⟩; obtain rfl := hw.symm))
  go_ret
  exact ⟨rfl, rfl⟩

set_option maxHeartbeats 1000000 in
theorem bigSigma0_any (x : Int) (w : World) (hx : W32 x) :
    Calls Tryd.prog 82 #[.int .u32 x] w fun e w' => e = .returned (.int .u32 (bg0 x)) ∧ w' = w := by
  have HX : Hid (W32 x) := hx
  clear hx
  go_enter Tryd.func82, Tryd.ntmps82
  go_wp2_with (first
    | (go_at_call_of 98 (Value.int .i64 2); refine (rotateRight_any x 2 _ HX.out (by omega)).mono ?_; rintro e w' ⟨rfl, hw⟩; obtain rfl := hw.symm)
    | (go_at_call_of 98 (Value.int .i64 13); refine (rotateRight_any x 13 _ HX.out (by omega)).mono ?_; rintro e w' ⟨rfl, hw⟩; obtain rfl := hw.symm)
    | (go_at_call_of 98 (Value.int .i64 22); refine (rotateRight_any x 22 _ HX.out (by omega)).mono ?_; rintro e w' ⟨rfl, hw⟩; obtain rfl := hw.symm))
  go_ret
  exact ⟨rfl, rfl⟩

set_option maxHeartbeats 1000000 in
theorem bigSigma1_any (x : Int) (w : World) (hx : W32 x) :
    Calls Tryd.prog 80 #[.int .u32 x] w fun e w' => e = .returned (.int .u32 (bg1 x)) ∧ w' = w := by
  have HX : Hid (W32 x) := hx
  clear hx
  go_enter Tryd.func80, Tryd.ntmps80
  go_wp2_with (first
    | (go_at_call_of 98 (Value.int .i64 6); refine (rotateRight_any x 6 _ HX.out (by omega)).mono ?_; rintro e w' ⟨rfl, hw⟩; obtain rfl := hw.symm)
    | (go_at_call_of 98 (Value.int .i64 11); refine (rotateRight_any x 11 _ HX.out (by omega)).mono ?_; rintro e w' ⟨rfl, hw⟩; obtain rfl := hw.symm)
    | (go_at_call_of 98 (Value.int .i64 25); refine (rotateRight_any x 25 _ HX.out (by omega)).mono ?_; rintro e w' ⟨rfl, hw⟩; obtain rfl := hw.symm))
  go_ret
  exact ⟨rfl, rfl⟩

theorem pow_bd (n : Nat) (hn : n ≤ 31) : (1 : Int) ≤ 2 ^ n ∧ (2 : Int) ^ n ≤ 2147483648 := by
  have h1 : 2 ^ n ≤ 2 ^ 31 := Nat.pow_le_pow_right (by omega) hn
  have h0 : 0 < 2 ^ n := Nat.two_pow_pos n
  have h2 : ((2 ^ n : Nat) : Int) = 2 ^ n := by simp
  rw [← h2]
  generalize 2 ^ n = q at h1 h0
  omega

set_option maxHeartbeats 2000000 in
theorem rotr_any (x : Int) (n : Nat) (w : World) (hx : W32 x) (hn : 1 ≤ n ∧ n ≤ 31) :
    Calls Tryd.prog 86 #[.int .u32 x, .int .i64 n] w fun e w' => e = .returned (.int .u32 (rr x n)) ∧ ∃ d, w' = w.drewN d := by
  have HB : Hid (W32 (rr x n)) := rr_bd x n hx hn
  have hp1 := pow_bd n hn.2
  have hq1 := pow_bd (32 - n) (by omega)
  have PA : Hid (∀ w0, Calls Tryd.prog 100 #[.int .i64 n] w0 fun e w' => e = .returned (.int .u32 (2 ^ n)) ∧ w' = w0) := fun w0 => power_any n w0 (by omega)
  have QA : Hid (∀ w0, Calls Tryd.prog 100 #[.int .i64 (32 - (n : Int))] w0 fun e w' => e = .returned (.int .u32 (2 ^ (32 - n))) ∧ w' = w0) := fun w0 => by
    have := power_any (32 - n) w0 (by omega)
    rwa [show ((32 - n : Nat) : Int) = 32 - (n : Int) by omega] at this
  have HR : Hid (rr x n = x / 2 ^ n + x % 2 ^ n * 2 ^ (32 - n)) := rfl
  obtain ⟨hx1, hx2⟩ := hx
  generalize (2 : Int) ^ n = p at *
  generalize (2 : Int) ^ (32 - n) = q at *
  have hp0 : ¬ p = 0 := by omega
  go_enter Tryd.func86, Tryd.ntmps86
  go_wp2
  go_quiet (first
    | (go_at_call_of 100 (Value.int .i64 (n : Int)); exact Calls.quiet_of_same (PA.out _))
    | (go_at_call 100; exact Calls.quiet_of_same (QA.out _)))
  go_wp2
  go_ret
  refine ⟨ret_int ?_, _, rfl⟩
  have h1 := HR.out
  have h2 := HB.out
  rw [h1] at h2 ⊢
  unfold W32 at h2
  generalize x / p = A at *
  generalize x % p * q = B at *
  omega
end Go.Proofs.YtbkaecjkgjkheaaDoor.mc

/- The constants and the first state, of sha and of its reference. No claim of its own. -/
namespace Go.Proofs.YtbkaecjkgjkheaaDoor.mc
open Go.RowKit
set_option maxRecDepth 20000

def kc : List Int := [0x428a2f98, 0x71374491, 0xb5c0fbcf, 0xe9b5dba5, 0x3956c25b, 0x59f111f1, 0x923f82a4, 0xab1c5ed5,
  0xd807aa98, 0x12835b01, 0x243185be, 0x550c7dc3, 0x72be5d74, 0x80deb1fe, 0x9bdc06a7, 0xc19bf174,
  0xe49b69c1, 0xefbe4786, 0x0fc19dc6, 0x240ca1cc, 0x2de92c6f, 0x4a7484aa, 0x5cb0a9dc, 0x76f988da,
  0x983e5152, 0xa831c66d, 0xb00327c8, 0xbf597fc7, 0xc6e00bf3, 0xd5a79147, 0x06ca6351, 0x14292967,
  0x27b70a85, 0x2e1b2138, 0x4d2c6dfc, 0x53380d13, 0x650a7354, 0x766a0abb, 0x81c2c92e, 0x92722c85,
  0xa2bfe8a1, 0xa81a664b, 0xc24b8b70, 0xc76c51a3, 0xd192e819, 0xd6990624, 0xf40e3585, 0x106aa070,
  0x19a4c116, 0x1e376c08, 0x2748774c, 0x34b0bcb5, 0x391c0cb3, 0x4ed8aa4a, 0x5b9cca4f, 0x682e6ff3,
  0x748f82ee, 0x78a5636f, 0x84c87814, 0x8cc70208, 0x90befffa, 0xa4506ceb, 0xbef9a3f7, 0xc67178f2]
def fst8 : List Int := [0x6a09e667, 0xbb67ae85, 0x3c6ef372, 0xa54ff53a, 0x510e527f, 0x9b05688c, 0x1f83d9ab, 0x5be0cd19]
/-- numbers as values -/
def ints (k : IntKind) (xs : List Int) : Array Value := (xs.map (Value.int k)).toArray

theorem ints_size (k : IntKind) (xs : List Int) : (ints k xs).size = xs.length := by simp [ints]
theorem ints_toList (k : IntKind) (xs : List Int) : (ints k xs).toList = xs.map (Value.int k) := by simp [ints]
theorem ints_one (k : IntKind) (xs : List Int) : (ints k xs).all (·.oneCell') = true := by
  rw [Array.all_eq_true_iff_forall_mem]
  intro v hv
  simp only [ints, List.mem_toArray, List.mem_map] at hv
  obtain ⟨x, _, rfl⟩ := hv
  rfl

set_option maxHeartbeats 2000000 in
theorem firstState_any (w : World) :
    Calls Tryd.prog 77 #[] w fun e w' => e = .returned (.agg (ints .u32 fst8)) ∧ Below w.heap.size w w' := by
  go_enter Tryd.func77, Tryd.ntmps77
  go_wp2
  refine bodyPost_ret (v := .agg (ints .u32 fst8)) ?_ rfl ⟨rfl, (Below.refl _ _).alloc (Nat.le_refl _) _⟩
  exact results_cell_row rfl _ _ w.heap.size 91 (ints .u32 fst8) (0, 0) _ rfl (heap_alloc_last w _) Tryd.underlying91 rfl (by kernel_rfl)
end Go.Proofs.YtbkaecjkgjkheaaDoor.mc

/- Numbers that lie in a row of a block: how they are read, written, copied, and how they last. No claim of its own. -/
namespace Go.Proofs.YtbkaecjkgjkheaaDoor.mc
open Go.RowKit
set_option maxRecDepth 20000

/-- the numbers xs lie in block b from place o on, and may be written -/
def Ar (w : World) (b o : Nat) (k : IntKind) (xs : List Int) : Prop := w.rangeAt b o (xs.map (Value.int k)) ∧ w.there b o xs.length

theorem Ar.cell {w : World} {b o : Nat} {k : IntKind} {xs : List Int} (h : Ar w b o k xs) (i : Nat) (hi : i < xs.length) : w.cell? ⟨b, o + i, none⟩ = some (.int k (gb xs i)) :=
  h.1 i _ (by simp [gb, List.getD, hi])
theorem Ar.cell0 {w : World} {b : Nat} {k : IntKind} {xs : List Int} (h : Ar w b 0 k xs) (i : Nat) (hi : i < xs.length) : w.cell? ⟨b, i, none⟩ = some (.int k (gb xs i)) := by
  have := h.cell i hi
  rwa [Nat.zero_add] at this
theorem Ar.free {w : World} {b o : Nat} {k : IntKind} {xs : List Int} (h : Ar w b o k xs) (i : Nat) (hi : i < xs.length) : w.frozen? ⟨b, o + i, none⟩ = false := (h.2 i hi).2
theorem Ar.free0 {w : World} {b : Nat} {k : IntKind} {xs : List Int} (h : Ar w b 0 k xs) (i : Nat) (hi : i < xs.length) : w.frozen? ⟨b, i, none⟩ = false := by
  have := h.free i hi
  rwa [Nat.zero_add] at this
theorem Ar.mk {w : World} {b o : Nat} {k : IntKind} {xs : List Int} (h : ∀ i, i < xs.length → w.cell? ⟨b, o + i, none⟩ = some (.int k (gb xs i)) ∧ w.frozen? ⟨b, o + i, none⟩ = false) : Ar w b o k xs := by
  refine ⟨fun j v hv => ?_, fun j hj => ?_⟩
  · have hj : j < xs.length := by have := (List.getElem?_eq_some_iff.1 hv).1; simpa using this
    rw [(h j hj).1, ← hv]
    simp [gb, List.getD, hj]
  · exact ⟨by rw [(h j hj).1]; rfl, (h j hj).2⟩
theorem Ar.lt {w : World} {b o : Nat} {k : IntKind} {xs : List Int} (h : Ar w b o k xs) (hp : 0 < xs.length) : b < w.heap.size := World.block_lt_of_cell? w _ (h.cell 0 hp)
theorem Ar.heap {w w' : World} {b o : Nat} {k : IntKind} {xs : List Int} (h : Ar w b o k xs) (e : w'.heap[b]? = w.heap[b]?) : Ar w' b o k xs :=
  Ar.mk fun i hi => ⟨by rw [World.cell?_of_block (w := w) (w' := w') (a := ⟨b, o + i, none⟩) e]; exact h.cell i hi, by rw [World.frozen?_of_block (w := w) (w' := w') (a := ⟨b, o + i, none⟩) e]; exact h.free i hi⟩
theorem Ar.below {w w' : World} {b o B : Nat} {k : IntKind} {xs : List Int} (h : Ar w b o k xs) (hb : Below B w w') (hB : b < B) : Ar w' b o k xs := h.heap (hb.block b hB)
theorem Ar.alloc {w : World} {b o : Nat} {k : IntKind} {xs : List Int} (h : Ar w b o k xs) (ob : Obj) : Ar (w.alloc ob) b o k xs := ⟨World.rangeAt_alloc h.1 ob, World.there_alloc h.2 ob⟩
theorem Ar.drewN {w : World} {b o : Nat} {k : IntKind} {xs : List Int} (h : Ar w b o k xs) (n : Nat) : Ar (w.drewN n) b o k xs := h.heap rfl
theorem Ar.other {w : World} {b o : Nat} {k : IntKind} {xs : List Int} (h : Ar w b o k xs) {p : Addr} (hp : b ≠ p.block) (u : Value) : Ar (w.setCell p u) b o k xs := h.heap (Below.heap_setCell w p u b hp)
theorem Ar.new (w : World) (t : TypeId) (k : IntKind) (xs : List Int) : Ar (w.alloc (.cells (ints k xs) t)) w.heap.size 0 k xs :=
  Ar.mk fun i hi => by
    have e := cell_of_row (w.alloc (.cells (ints k xs) t)) w.heap.size (0 + i) _ t (0, 0) (heap_alloc_last w _)
    refine ⟨by rw [e]; simp [ints, gb, List.getD, hi], ?_⟩
    exact World.frozen?_alloc_at _ _ _ _ rfl
theorem Ar.set {w : World} {b o : Nat} {k : IntKind} {xs : List Int} (h : Ar w b o k xs) (i : Nat) (hi : i < xs.length) (x : Int) : Ar (w.setCell ⟨b, o + i, none⟩ (.int k x)) b o k (xs.set i x) :=
  Ar.mk fun j hj => by
    rw [List.length_set] at hj
    refine ⟨?_, by rw [World.frozen?_setCell]; exact h.free j hj⟩
    by_cases e : i = j
    · subst e
      rw [World.cell?_setCell_same _ _ _ (h.cell i hi)]
      simp [gb, List.getD, hi]
    · rw [World.cell?_setCell_other _ _ _ _ (by intro hh; injection hh with _ h2; omega), h.cell j hj]
      simp [gb, List.getD, e]
theorem Ar.set0 {w : World} {b : Nat} {k : IntKind} {xs : List Int} (h : Ar w b 0 k xs) (i : Nat) (hi : i < xs.length) (x : Int) : Ar (w.setCell ⟨b, i, none⟩ (.int k x)) b 0 k (xs.set i x) := by
  have := h.set i hi x
  rwa [Nat.zero_add] at this
/-- what lies apart in the same block -/
theorem Ar.apart {w : World} {b o : Nat} {k : IntKind} {xs : List Int} (h : Ar w b o k xs) (b' o' : Nat) (vs : List Value) (hap : b ≠ b' ∨ o + xs.length ≤ o' ∨ o' + vs.length ≤ o) : Ar (w.setCells b' o' vs) b o k xs :=
  ⟨World.rangeAt_setCells_apart h.1 b' o' vs (by simpa using hap), World.there_setCells h.2 b' o' vs⟩
/-- a part is written -/
def laid (xs : List Int) (s : Nat) (ys : List Int) : List Int := xs.take s ++ ys ++ xs.drop (s + ys.length)
theorem laid_len (xs : List Int) (s : Nat) (ys : List Int) (h : s + ys.length ≤ xs.length) : (laid xs s ys).length = xs.length := by simp [laid]; omega
theorem gb_laid (xs : List Int) (s : Nat) (ys : List Int) (hs : s + ys.length ≤ xs.length) (j : Nat) : gb (laid xs s ys) j = if j < s then gb xs j else if j < s + ys.length then gb ys (j - s) else gb xs j := by
  have hm : (xs.take s).length = s := by simp; omega
  unfold gb laid
  by_cases h1 : j < s
  · rw [if_pos h1, List.append_assoc, List.getD_eq_getElem?_getD, List.getElem?_append_left (by omega), List.getElem?_take, if_pos h1]; rfl
  · rw [if_neg h1, List.append_assoc, List.getD_eq_getElem?_getD, List.getElem?_append_right (by omega), hm]
    by_cases h2 : j < s + ys.length
    · rw [if_pos h2, List.getElem?_append_left (by omega)]; rfl
    · rw [if_neg h2, List.getElem?_append_right (by omega), List.getElem?_drop, show s + ys.length + (j - s - ys.length) = j by omega]; rfl
theorem Ar.lay {w : World} {b o : Nat} {k : IntKind} {xs : List Int} (h : Ar w b o k xs) (s : Nat) (ys : List Int) (hs : s + ys.length ≤ xs.length) : Ar (w.setCells b (o + s) (ys.map (Value.int k))) b o k (laid xs s ys) :=
  Ar.mk fun j hj => by
    rw [laid_len xs s ys hs] at hj
    refine ⟨?_, by rw [World.frozen?_setCells]; exact h.free j hj⟩
    by_cases h1 : j < s
    · rw [World.cell?_setCells_out _ _ _ _ _ (fun _ _ => by left; show o + j < o + s; omega), h.cell j hj, gb_laid xs s ys hs, if_pos h1]
    · by_cases h2 : j < s + ys.length
      · have e := World.cell?_setCells_in b (ys.map (Value.int k)) (o + s) w (fun i hi => by
          simp only [List.length_map] at hi
          rw [show o + s + i = o + (s + i) by omega, h.cell (s + i) (by omega)]; rfl) (j - s) (by simp; omega)
        rw [show o + s + (j - s) = o + j by omega] at e
        rw [e, gb_laid xs s ys hs, if_neg h1, if_pos h2]
        simp [gb, List.getD, show j - s < ys.length by omega]
      · rw [World.cell?_setCells_out _ _ _ _ _ (fun _ _ => by right; simp; omega), h.cell j hj, gb_laid xs s ys hs, if_neg h1, if_neg h2]
/-- all of it is written -/
theorem Ar.whole {w : World} {b o : Nat} {k : IntKind} {xs : List Int} (ht : w.there b o xs.length) : Ar (w.setCells b o (xs.map (Value.int k))) b o k xs :=
  ⟨World.rangeAt_setCells_same w b o _ (by simpa using ht), World.there_setCells ht b o _⟩
theorem results_ar {fn : Func} {p : Tmp} {ty : TypeId} (h : fn.results = #[.cell p ty]) (tmps : Array Value) (w : World) (b o : Nat) (k : IntKind) (xs : List Int) (hp : tmps.getD p undef = .pointer (some ⟨b, o, none⟩)) (ha : Ar w b o k xs)
    (n : Nat) (e : TypeId) (hu : Tryd.prog.underlying ty = some (.array n e)) (hi : (Tryd.prog.info? ty).map (·.size) = some n) (hn : xs.length = n) : (results fn tmps).run Tryd.prog w = .ok (.agg (ints k xs)) w := by
  have hp' : tmps[p]?.getD undef = .pointer (some ⟨b, o, none⟩) := by simpa using hp
  have hl := run_loadVar_mid (P := Tryd.prog) w b o ty _ _ ha.1 hu rfl (by rw [hi]; simp [hn])
  simp [results, h, hp', asAddr, hl, ints]
/-- noughts -/
def z64 : List Int := List.replicate 64 0
def z8 : List Int := List.replicate 8 0

section
variable {ops : Array Oper} {rest : List Oper} {o : Oper} {a : Act} {Q : Exit → Act → World → Prop}
/-- a parameter that is an array gets a place -/
theorem box_law (w : World) (hg : o.guard = none) (x : Operand) (t : TypeId) (hop : o.op = Op.box t x) (k : IntKind) (xs : List Int) (hx : a.eval x = .agg (ints k xs))
    (hK : wpList Tryd.prog ops Q rest (a.put o.dst (.pointer (some ⟨w.heap.size, 0, none⟩))) (w.alloc (.cells (ints k xs) t))) :
    wpList Tryd.prog ops Q (o :: rest) a w := by
  refine wpList_plain hg fun K hK' => ?_
  unfold Oper.wp
  simp [execOp, hop, hx, Instr.box, newVar, newRow, Value.cells, Result.andThen]
  exact hK' _ _ hK
/-- a variable that is an array gets a place: noughts -/
theorem new_law (w : World) (hg : o.guard = none) (t : TypeId) (hop : o.op = Op.alloc t) (k : IntKind) (xs : List Int) (hz : (Tryd.prog.info? t).map (fun i => (i.zero, i.size)) = some (some (.agg (ints k xs)), xs.length))
    (hK : wpList Tryd.prog ops Q rest (a.put o.dst (.pointer (some ⟨w.heap.size, 0, none⟩))) (w.alloc (.cells (ints k xs) t))) :
    wpList Tryd.prog ops Q (o :: rest) a w := by
  refine wpList_plain hg fun K hK' => ?_
  have hz' := (zero_of_info hz).1
  unfold Oper.wp
  simp [execOp, hop, Instr.alloc, hz', newVar, newRow, Value.cells, Result.andThen]
  exact hK' _ _ hK
/-- a whole array is read -/
theorem load_law (w : World) (hg : o.guard = none) (x : Operand) (t : TypeId) (hop : o.op = Op.load t x) (k : IntKind) (xs : List Int) (b p : Nat) (hx : a.eval x = .pointer (some ⟨b, p, none⟩)) (h : Ar w b p k xs)
    (n : Nat) (e : TypeId) (hu : Tryd.prog.underlying t = some (.array n e)) (hi : (Tryd.prog.info? t).map (·.size) = some n) (hn : xs.length = n)
    (hK : wpList Tryd.prog ops Q rest (a.put o.dst (.agg (ints k xs))) w) :
    wpList Tryd.prog ops Q (o :: rest) a w :=
  wpList_load_mid hg t x hop b p hx _ _ h.1 hu rfl (by rw [hi]; simp [hn]) hK
/-- a whole array is written -/
theorem store_law (w : World) (hg : o.guard = none) (x y : Operand) (t : TypeId) (hop : o.op = Op.store t x y) (k : IntKind) (ys : List Int) (b p : Nat) (hx : a.eval x = .pointer (some ⟨b, p, none⟩)) (hy : a.eval y = .agg (ints k ys))
    (ht : w.there b p ys.length) (n : Nat) (hi : (Tryd.prog.info? t).map (·.size) = some n) (hn : ys.length = n)
    (hK : wpList Tryd.prog ops Q rest (a.put o.dst undef) (w.setCells b p (ys.map (Value.int k)))) :
    wpList Tryd.prog ops Q (o :: rest) a w :=
  wpList_store_mid hg t x y hop b p (ints k ys) hx hy (by rw [ints_size]; exact ht) (by rw [hi, ints_size, hn]) (ints_one k ys) (by rw [ints_toList]; exact hK)
/-- 'copy(d, s)' of bytes: as many as fit -/
theorem copy_law (w : World) (hg : o.guard = none) (x y : Operand) (hop : o.op = .call { callee := .builtin .copy, args := #[x, y], argTypes := #[22, 22] })
    (b p dl dc : Nat) (v : Value) (ys : List Int) (hx : a.eval x = .slice (some ⟨b, p, none⟩) dl dc) (hy : a.eval y = v) (hb : Byt w v ys) (ht : w.there b p (min ys.length dl))
    (hK : wpList Tryd.prog ops Q rest (a.put o.dst (.int .i64 ((min ys.length dl : Nat) : Int))) (w.setCells b p ((ys.take dl).map (Value.int .u8)))) :
    wpList Tryd.prog ops Q (o :: rest) a w := by
  refine wpList_plain hg fun K hK' => ?_
  obtain ⟨i0, hi, hz0, hz1, hz2⟩ := info_parts info_u8
  obtain ⟨ao, cap, rfl, h1, h2, h3, h4, h5⟩ := hb
  have hs : (Tryd.prog.info? 5).map (·.size) = some 1 := by rw [hi]; simp [hz1]
  have hrun : (Builtin.copy_ #[22, 22] o.type #[.slice (some ⟨b, p, none⟩) dl dc, .slice ao ys.length cap]).run Tryd.prog w = .ok (.int .i64 ((min ys.length dl : Nat) : Int)) (w.setCells b p ((ys.take dl).map (Value.int .u8))) := by
    by_cases hz : min ys.length dl = 0
    · have := run_copy_none (P := Tryd.prog) w 22 22 o.type 5 (some ⟨b, p, none⟩) ao dl dc ys.length cap Tryd.underlying22 hs hz
      rw [this, hz]
      have : ys.take dl = [] := by
        rcases Nat.eq_zero_or_pos dl with h | h
        · subst h; simp
        · have : ys = [] := List.eq_nil_of_length_eq_zero (by omega)
          subst this; simp
      rw [this]; rfl
    · obtain ⟨b', off, rfl, hc⟩ := h5 (by omega)
      have hlen : ((ys.take dl).map (Value.int .u8)).length = min ys.length dl := by simp; omega
      have := run_copy_cells (P := Tryd.prog) w 22 22 o.type 5 b p dl dc ⟨b', off, none⟩ ys.length cap ((ys.take dl).map (Value.int .u8)) Tryd.underlying22 hs hlen (fun j u hj => by
        have hj' : j < min ys.length dl := by rw [← hlen]; exact (List.getElem?_eq_some_iff.1 hj).1
        rw [Addr.add_mid, hc j (by omega), ← hj]
        simp [gb, List.getD, show j < dl by omega, show j < ys.length by omega]) (fun j hj => (ht j (by rw [← hlen]; exact hj)).1) (fun j hj => (ht j (by rw [← hlen]; exact hj)).2) (fun u hu => by
        simp only [List.mem_map] at hu
        obtain ⟨x, _, rfl⟩ := hu
        rfl)
      rw [this, hlen]; rfl
  unfold Oper.wp execOp
  simp only [hop, resolve, invoke, builtin, Sem.run_bind, Sem.run_pure, Result.andThen_ok, List.map_toArray, List.map_cons, List.map_nil, hx, hy, hrun]
  exact hK' _ _ hK
/-- an array's literal -/
theorem build_law (w : World) (hg : o.guard = none) (t : TypeId) (parts : Array (Nat × Operand)) (hop : o.op = Op.build t parts) (v : Value) (hrun : (Instr.build t (parts.map fun (i, x) => (i, a.eval x))).run Tryd.prog w = .ok v w)
    (hK : wpList Tryd.prog ops Q rest (a.put o.dst v) w) : wpList Tryd.prog ops Q (o :: rest) a w := by
  refine wpList_plain hg fun K hK' => ?_
  unfold Oper.wp execOp
  simp only [hop, Sem.run_bind, Sem.run_pure, Result.andThen_ok, hrun]
  exact hK' _ _ hK
end

theorem z_arr64w : (Tryd.prog.info? 110).map (fun i => (i.zero, i.size)) = some (some (.agg (ints .u32 z64)), z64.length) := by kernel_rfl
theorem z_arr64b : (Tryd.prog.info? 62).map (fun i => (i.zero, i.size)) = some (some (.agg (ints .u8 z64)), z64.length) := by kernel_rfl
theorem z_arr8 : (Tryd.prog.info? 91).map (fun i => (i.zero, i.size)) = some (some (.agg (ints .u32 z8)), z8.length) := by kernel_rfl
theorem i_arr64w : (Tryd.prog.info? 110).map (·.size) = some 64 := by kernel_rfl
theorem i_arr64b : (Tryd.prog.info? 62).map (·.size) = some 64 := by kernel_rfl
theorem i_arr8 : (Tryd.prog.info? 91).map (·.size) = some 8 := by kernel_rfl

set_option maxRecDepth 100000 in
set_option maxHeartbeats 2000000 in
theorem constants_any (w : World) :
    Calls Tryd.prog 78 #[] w fun e w' => e = .returned (.agg (ints .u32 kc)) ∧ Below w.heap.size w w' := by
  have HT : Hid ((w.alloc (.cells (ints .u32 z64) 110)).there w.heap.size 0 kc.length) := (Ar.new w 110 .u32 z64).2
  go_enter Tryd.func78, Tryd.ntmps78
  go_wp2_with (first
    | (refine new_law _ rfl 110 rfl .u32 z64 z_arr64w ?_)
    | (refine build_law _ rfl 110 _ rfl (.agg (ints .u32 kc)) (by kernel_rfl) ?_)
    | (refine store_law _ rfl (.tmp 0) (.tmp 1) 110 rfl .u32 kc _ _ rfl rfl HT.out 64 i_arr64w rfl ?_))
  refine bodyPost_ret (v := .agg (ints .u32 kc)) (results_ar rfl _ _ w.heap.size 0 .u32 kc rfl (Ar.whole HT.out) 64 23 Tryd.underlying110 i_arr64w rfl) rfl ⟨rfl, ?_⟩
  exact Lib.below_setCells _ (Nat.le_refl _) _ _ ((Below.refl _ _).alloc (Nat.le_refl _) _)
end Go.Proofs.YtbkaecjkgjkheaaDoor.mc

/- What sha's stretch answers: a block's sixty-four words. No claim of its own. -/
namespace Go.Proofs.YtbkaecjkgjkheaaDoor.mc
open Go.RowKit
set_option maxRecDepth 20000

/-- the block's word at t, of its bytes -/
def w0 (bs : List Int) (t : Nat) : Int := num (last8 ((bs.take (4 * (t + 1))).drop (4 * t))) % 4294967296
/-- the word that follows from those before -/
def wnext (l : List Int) (t : Nat) : Int := (((sg1 (gb l (t - 2)) + gb l (t - 7)) % 4294967296 + sg0 (gb l (t - 15))) % 4294967296 + gb l (t - 16)) % 4294967296
/-- the first t words -/
def sched (bs : List Int) : Nat → List Int
  | 0 => []
  | t + 1 => sched bs t ++ [if t < 16 then w0 bs t else wnext (sched bs t) t]
theorem sched_len (bs : List Int) (t : Nat) : (sched bs t).length = t := by
  induction t with
  | zero => rfl
  | succ t ih => simp [sched, ih]
/-- numbers of 32 bits -/
def AllW (xs : List Int) : Prop := ∀ j : Nat, W32 (gb xs j)
theorem allW_mem {xs : List Int} (h : ∀ x ∈ xs, W32 x) : AllW xs := by
  intro j
  by_cases hj : j < xs.length
  · have := h (xs[j]) (List.getElem_mem hj)
    simpa [gb, List.getD, hj] using this
  · simp [gb, List.getD, Nat.le_of_not_lt hj, W32]
theorem AllW.mem {xs : List Int} (h : AllW xs) : ∀ x ∈ xs, W32 x := by
  intro x hx
  obtain ⟨j, hj, rfl⟩ := List.getElem_of_mem hx
  have := h j
  simpa [gb, List.getD, hj] using this
theorem mod_w32 (x : Int) : W32 (x % 4294967296) := by unfold W32; omega
theorem sched_all (bs : List Int) (t : Nat) : AllW (sched bs t) := by
  induction t with
  | zero => exact allW_mem (by simp [sched])
  | succ t ih =>
    refine allW_mem fun x hx => ?_
    simp only [sched, List.mem_append, List.mem_singleton] at hx
    rcases hx with hx | rfl
    · exact ih.mem x hx
    · split <;> exact mod_w32 _
/-- the words so far, noughts behind them -/
def padw (bs : List Int) (t : Nat) : List Int := sched bs t ++ List.replicate (64 - t) 0
theorem padw_len (bs : List Int) (t : Nat) (h : t ≤ 64) : (padw bs t).length = 64 := by simp [padw, sched_len]; omega
theorem padw_gb (bs : List Int) (t j : Nat) (h : j < t) : gb (padw bs t) j = gb (sched bs t) j := by
  simp [gb, padw, List.getD, List.getElem?_append, sched_len, h]
theorem padw_set (bs : List Int) (t : Nat) (h : t < 64) (x : Int) (hx : x = if t < 16 then w0 bs t else wnext (sched bs t) t) : (padw bs t).set t x = padw bs (t + 1) := by
  unfold padw
  rw [List.set_append_right _ _ (by rw [sched_len]; omega), sched_len]
  obtain ⟨m, hm⟩ : ∃ m, 64 - t = m + 1 := ⟨63 - t, by omega⟩
  rw [hm, show 64 - (t + 1) = m by omega, Nat.sub_self, List.replicate_succ, List.set_cons_zero, sched, hx]
  simp
theorem padw_all (bs : List Int) (t : Nat) : AllW (padw bs t) := allW_mem fun x hx => by
  simp only [padw, List.mem_append, List.mem_replicate] at hx
  rcases hx with hx | ⟨_, rfl⟩
  · exact (sched_all bs t).mem x hx
  · unfold W32; omega
theorem padw_end (bs : List Int) : padw bs 64 = sched bs 64 := by simp [padw]
theorem padw_next (bs : List Int) (t : Nat) (h : 16 ≤ t) : wnext (sched bs t) t = wnext (padw bs t) t := by
  unfold wnext
  rw [padw_gb bs t _ (by omega), padw_gb bs t _ (by omega), padw_gb bs t _ (by omega), padw_gb bs t _ (by omega)]

section
variable {ops : Array Oper} {rest : List Oper} {o : Oper} {a : Act} {Q : Exit → Act → World → Prop}
theorem und_arr64b : Tryd.prog.underlying 62 = some (.array (Tryd.prog.arrayLen 62) (Tryd.prog.elem 62)) := by kernel_rfl
theorem len_arr64b : Tryd.prog.arrayLen 62 = 64 := by kernel_rfl
theorem elem_arr64b : Tryd.prog.elem 62 = 5 := by kernel_rfl
/-- the bytes of a row, as a slice -/
theorem Ar.byt {w : World} {b p : Nat} {xs : List Int} (h : Ar w b p .u8 xs) (ha : AllB xs) (l m c : Nat) (hl : l ≤ m) (hm : m ≤ xs.length) (hc : m - l ≤ c) (hc2 : c ≤ 9223372036854775807) : Byt w (.slice (some ⟨b, p + l, none⟩) (m - l) c) ((xs.take m).drop l) := by
  have hlen : ((xs.take m).drop l).length = m - l := by simp; omega
  refine ⟨some ⟨b, p + l, none⟩, c, by rw [hlen], by omega, hc2, allB_mem fun x hx => ?_, (by intro h; cases h), fun hp => ⟨b, p + l, rfl, fun t ht => ?_⟩⟩
  · obtain ⟨j, hj, rfl⟩ := List.getElem_of_mem hx
    have := ha (l + j)
    have e := gb_cut xs l m j (by omega)
    rw [← e] at this
    have e2 : gb ((xs.take m).drop l) j = ((xs.take m).drop l)[j] := by unfold gb; rw [List.getD_eq_getElem?_getD, List.getElem?_eq_getElem hj]; rfl
    rwa [e2] at this
  · rw [gb_cut xs l m t (by omega), Nat.add_assoc]
    exact h.cell (l + t) (by omega)
/-- 'b[l:h]' of an array of 64 bytes -/
theorem arr_part (w : World) (hg : o.guard = none) (s x y : Operand) (hop : o.op = Op.slice 62 s (some x) (some y) none) (b p : Nat) (xs : List Int) (L H : Int) (l h : Nat)
    (hs : a.eval s = .pointer (some ⟨b, p, none⟩)) (hx : a.eval x = .int .i64 L) (hy : a.eval y = .int .i64 H) (hL : L = (l : Int)) (hH : H = (h : Int)) (hl : l ≤ h) (hl' : l < 64) (hh : h ≤ 64) (hn : xs.length = 64) (hb : Ar w b p .u8 xs) (ha : AllB xs)
    (hK : ∀ v', Byt w v' ((xs.take h).drop l) → wpList Tryd.prog ops Q rest (a.put o.dst v') w) :
    wpList Tryd.prog ops Q (o :: rest) a w := by
  refine wpList_plain hg fun K hK' => ?_
  have hrun := run_sliceAt_array_lh (P := Tryd.prog) w 62 ⟨b, p, none⟩ und_arr64b .i64 .i64 L H (by omega) (by omega) (by rw [len_arr64b]; omega)
  rw [elem_arr64b, run_size_u8] at hrun
  subst hL
  subst hH
  unfold Oper.wp execOp
  simp only [hop, hs, hx, hy, Option.map, Sem.run_bind, Sem.run_pure, hrun, Result.andThen, len_arr64b, Int.toNat_natCast]
  have hv : slicedAt ⟨b, p, none⟩ l h 64 1 = .slice (some ⟨b, p + l, none⟩) (h - l) (64 - l) := by
    unfold slicedAt
    rw [if_neg (by omega), Nat.mul_one, Addr.add_mid]
  rw [hv]
  exact hK' _ _ (hK _ (hb.byt ha l h (64 - l) hl (by omega) (by omega) (by omega)))
/-- 'b[l:]' of an array of 64 bytes, to be written -/
theorem arr_from (w : World) (hg : o.guard = none) (s x : Operand) (hop : o.op = Op.slice 62 s (some x) none none) (b p : Nat) (L : Int) (l : Nat)
    (hs : a.eval s = .pointer (some ⟨b, p, none⟩)) (hx : a.eval x = .int .i64 L) (hL : L = (l : Int)) (hl' : l < 64)
    (hK : wpList Tryd.prog ops Q rest (a.put o.dst (.slice (some ⟨b, p + l, none⟩) (64 - l) (64 - l))) w) :
    wpList Tryd.prog ops Q (o :: rest) a w := by
  refine wpList_plain hg fun K hK' => ?_
  have hrun := run_sliceAt_array_l (P := Tryd.prog) w 62 ⟨b, p, none⟩ und_arr64b .i64 L (by omega) (by rw [len_arr64b]; omega)
  rw [elem_arr64b, run_size_u8] at hrun
  subst hL
  unfold Oper.wp execOp
  simp only [hop, hs, hx, Option.map, Sem.run_bind, Sem.run_pure, hrun, Result.andThen, len_arr64b, Int.toNat_natCast]
  have hv : slicedAt ⟨b, p, none⟩ l 64 64 1 = .slice (some ⟨b, p + l, none⟩) (64 - l) (64 - l) := by
    unfold slicedAt
    rw [if_neg (by omega), Nat.mul_one, Addr.add_mid]
  rw [hv]
  exact hK' _ _ hK
end

theorem cell_set_off {w : World} {b i j : Nat} {v u : Value} (h : ¬ i = j) (hc : w.cell? ⟨b, j, none⟩ = some u) : (w.setCell ⟨b, i, none⟩ v).drew.cell? ⟨b, j, none⟩ = some u := by
  rw [World.cell?_drew, World.cell?_setCell_other _ _ _ _ (by intro e; injection e with _ e2; exact h e2)]; exact hc

set_option maxRecDepth 100000 in
set_option maxHeartbeats 4000000 in
theorem stretch_any (bs : List Int) (w : World) (hb : AllB bs) (hl : bs.length = 64) :
    Calls Tryd.prog 79 #[.agg (ints .u8 bs)] w fun e w' => e = .returned (.agg (ints .u32 (sched bs 64))) ∧ Below w.heap.size w w' := by
  have HB : Hid (AllB bs) := hb
  have HL : Hid (bs.length = 64) := hl
  obtain ⟨g, hg⟩ : ∃ g, g = w.heap.size := ⟨_, rfl⟩
  clear hb hl
  go_enter Tryd.func79, Tryd.ntmps79
  go_wp2_with (first
    | (refine box_law _ rfl (.tmp 0) 62 rfl .u8 bs rfl ?_)
    | (refine new_law _ rfl 110 rfl .u32 z64 z_arr64w ?_))
  have A0 : Ar (((w.alloc (Obj.cells (ints IntKind.u8 bs) 62)).alloc (Obj.cells (ints IntKind.u32 z64) 110)).alloc (Obj.cells (ints IntKind.u32 z64) 110)) w.heap.size 0 .u8 bs := ((Ar.new w _ _ _).alloc _).alloc _
  have A1 : Ar (((w.alloc (Obj.cells (ints IntKind.u8 bs) 62)).alloc (Obj.cells (ints IntKind.u32 z64) 110)).alloc (Obj.cells (ints IntKind.u32 z64) 110)) (w.heap.size + 1) 0 .u32 z64 := by
    have := (Ar.new (w.alloc (Obj.cells (ints IntKind.u8 bs) 62)) 110 .u32 z64).alloc (Obj.cells (ints IntKind.u32 z64) 110)
    simpa using this
  have A2 : Ar (((w.alloc (Obj.cells (ints IntKind.u8 bs) 62)).alloc (Obj.cells (ints IntKind.u32 z64) 110)).alloc (Obj.cells (ints IntKind.u32 z64) 110)) (w.heap.size + 1 + 1) 0 .u32 z64 := by
    have := Ar.new ((w.alloc (Obj.cells (ints IntKind.u8 bs) 62)).alloc (Obj.cells (ints IntKind.u32 z64) 110)) 110 .u32 z64
    simpa using this
  have B0 : Below w.heap.size w (((w.alloc (Obj.cells (ints IntKind.u8 bs) 62)).alloc (Obj.cells (ints IntKind.u32 z64) 110)).alloc (Obj.cells (ints IntKind.u32 z64) 110)) := (((Below.refl _ _).alloc (Nat.le_refl _) _).alloc (by simp) _).alloc (by simp; omega) _
  generalize ((w.alloc (Obj.cells (ints IntKind.u8 bs) 62)).alloc (Obj.cells (ints IntKind.u32 z64) 110)).alloc (Obj.cells (ints IntKind.u32 z64) 110) = w3 at A0 A1 A2 B0 ⊢
  go_loopw [6] (fun i wr => ∃ k : Nat, k ≤ 16 ∧ i = .int .i64 k ∧ Ar wr w.heap.size 0 .u8 bs ∧ Ar wr (w.heap.size + 1) 0 .u32 z64 ∧ Ar wr (w.heap.size + 1 + 1) 0 .u32 (padw bs k) ∧ Below w.heap.size w wr) (fun i _ => 16 - (intOf i).toNat)
  case atStart => exact ⟨0, by omega, rfl, A0, A1, A2, B0⟩
  case round =>
    clear A0 A1 A2 B0
    obtain ⟨k, hk, rfl, A0, A1, A2, B0⟩ := hrel
    by_cases hlt : k < 16
    · have c1 := A2.cell0 k (by rw [padw_len bs k (by omega)]; omega)
      have c2 := A2.free0 k (by rw [padw_len bs k (by omega)]; omega)
      have A2' := A2.set0 k (by rw [padw_len bs k (by omega)]; omega) (w0 bs k)
      rw [padw_set bs k (by omega) _ (by rw [if_pos hlt])] at A2'
      have E0 : Hid (IntKind.u32.wrap (num (last8 ((bs.take (4 * (k + 1))).drop (4 * k)))) = w0 bs k) := IntKind.wrap_u32 _
      go_wp2_with (first
        | (refine arr_part _ rfl (.tmp 1) (.tmp 11) (.tmp 14) rfl _ _ bs _ _ (4 * k) (4 * (k + 1)) rfl rfl rfl (by omega) (by omega) (by omega) (by omega) (by omega) HL.out A0 HB.out ?_; intro v' hv')
        | (go_at_call 74; refine (num_any _ _ _ hv').mono ?_; rintro e w' ⟨rfl, hw⟩; obtain rfl := hw.symm; generalize num (last8 ((bs.take (4 * (k + 1))).drop (4 * k))) = nm at *; have e1 := E0.out; have e2 : nm % 4294967296 = w0 bs k := by rw [← e1, IntKind.wrap_u32]))
      go_roundw
      case rel => exact ⟨k + 1, by omega, by go_num, A0.other (by show _ ≠ _; simp; omega) _, A1.other (by show _ ≠ _; simp) _, A2', B0.setCell (by show _ ≤ _; simp; omega) _⟩
      case measure => simp [intOf]; omega
    · have : k = 16 := by omega
      subst this
      go_wp2
      clear hlt hk
      go_loopw [5] (fun i wr => ∃ k : Nat, 16 ≤ k ∧ k ≤ 64 ∧ i = .int .i64 k ∧ Ar wr w.heap.size 0 .u8 bs ∧ Ar wr (w.heap.size + 1) 0 .u32 z64 ∧ Ar wr (w.heap.size + 1 + 1) 0 .u32 (padw bs k) ∧ Below w.heap.size w wr) (fun i _ => 64 - (intOf i).toNat)
      case atStart => exact ⟨16, by omega, by omega, rfl, A0, A1, A2, B0⟩
      case round =>
        clear A0 A1 A2 B0
        obtain ⟨k, hk0, hk, rfl, A0, A1, A2, B0⟩ := hrel
        by_cases hlt : k < 64
        · have c1 := A2.cell0 k (by rw [padw_len bs k (by omega)]; omega)
          have c2 := A2.free0 k (by rw [padw_len bs k (by omega)]; omega)
          have d1 := A2.cell0 (k - 2) (by rw [padw_len bs k (by omega)]; omega)
          have d2 := A2.cell0 (k - 7) (by rw [padw_len bs k (by omega)]; omega)
          have d3 := A2.cell0 (k - 15) (by rw [padw_len bs k (by omega)]; omega)
          have d4 := A2.cell0 (k - 16) (by rw [padw_len bs k (by omega)]; omega)
          have A2' := A2.set0 k (by rw [padw_len bs k (by omega)]; omega) (wnext (padw bs k) k)
          rw [padw_set bs k (by omega) _ (by rw [if_neg (by omega), padw_next bs k (by omega)])] at A2'
          have W2 : Hid (W32 (gb (padw bs k) (k - 2))) := padw_all bs k _
          have W15 : Hid (W32 (gb (padw bs k) (k - 15))) := padw_all bs k _
          have EN : Hid (wnext (padw bs k) k = (((sg1 (gb (padw bs k) (k - 2)) + gb (padw bs k) (k - 7)) % 4294967296 + sg0 (gb (padw bs k) (k - 15))) % 4294967296 + gb (padw bs k) (k - 16)) % 4294967296) := rfl
          generalize wnext (padw bs k) k = nx at *
          generalize gb (padw bs k) (k - 2) = x2 at *
          generalize gb (padw bs k) (k - 7) = x7 at *
          generalize gb (padw bs k) (k - 15) = x15 at *
          generalize gb (padw bs k) (k - 16) = x16 at *
          generalize gb (padw bs k) k = x0 at *
          obtain ⟨j2, e2⟩ : ∃ j, j = k - 2 := ⟨_, rfl⟩
          rw [← e2] at d1
          have s2 : (k : Int) - 2 = (j2 : Int) := by omega
          have q2 : (j2 : Int) < 64 := by omega
          have m2 : ¬ k = j2 := by omega
          have n2 : ¬ j2 = k := by omega
          have p2 : IntKind.i64.wrap (j2 : Int) = j2 := by rw [IntKind.wrap_i64]; omega
          have z2 : (0 : Int) ≤ j2 := by omega
          clear e2
          obtain ⟨j7, e7⟩ : ∃ j, j = k - 7 := ⟨_, rfl⟩
          rw [← e7] at d2
          have s7 : (k : Int) - 7 = (j7 : Int) := by omega
          have q7 : (j7 : Int) < 64 := by omega
          have m7 : ¬ k = j7 := by omega
          have n7 : ¬ j7 = k := by omega
          have p7 : IntKind.i64.wrap (j7 : Int) = j7 := by rw [IntKind.wrap_i64]; omega
          have z7 : (0 : Int) ≤ j7 := by omega
          clear e7
          obtain ⟨j15, e15⟩ : ∃ j, j = k - 15 := ⟨_, rfl⟩
          rw [← e15] at d3
          have s15 : (k : Int) - 15 = (j15 : Int) := by omega
          have q15 : (j15 : Int) < 64 := by omega
          have m15 : ¬ k = j15 := by omega
          have n15 : ¬ j15 = k := by omega
          have p15 : IntKind.i64.wrap (j15 : Int) = j15 := by rw [IntKind.wrap_i64]; omega
          have z15 : (0 : Int) ≤ j15 := by omega
          clear e15
          obtain ⟨j16, e16⟩ : ∃ j, j = k - 16 := ⟨_, rfl⟩
          rw [← e16] at d4
          have s16 : (k : Int) - 16 = (j16 : Int) := by omega
          have q16 : (j16 : Int) < 64 := by omega
          have m16 : ¬ k = j16 := by omega
          have n16 : ¬ j16 = k := by omega
          have p16 : IntKind.i64.wrap (j16 : Int) = j16 := by rw [IntKind.wrap_i64]; omega
          have z16 : (0 : Int) ≤ j16 := by omega
          clear e16
          have q0 : (k : Int) < 64 := by omega
          go_wp2
          go_region_held3 (fun w' => w'.cell? ⟨w.heap.size + 1 + 1, j2, none⟩ = some (.int .u32 x2) ∧ w'.cell? ⟨w.heap.size + 1 + 1, j7, none⟩ = some (.int .u32 x7) ∧ w'.cell? ⟨w.heap.size + 1 + 1, j15, none⟩ = some (.int .u32 x15) ∧ w'.cell? ⟨w.heap.size + 1 + 1, j16, none⟩ = some (.int .u32 x16))
            (first | exact ⟨cell_set_off (w := wr) m2 d1, cell_set_off (w := wr) m7 d2, cell_set_off (w := wr) m15 d3, cell_set_off (w := wr) m16 d4⟩ | go_keep)
            (first
              | (go_at_call 96; refine (smallSigma1_any _ _ W2.out).mono ?_; rintro e w' ⟨rfl, hw⟩; obtain rfl := hw.symm)
              | (go_at_call 97; refine (smallSigma0_any _ _ W15.out).mono ?_; rintro e w' ⟨rfl, hw⟩; obtain rfl := hw.symm))
          have EV : nx = IntKind.u32.wrap (IntKind.u32.wrap (IntKind.u32.wrap (sg1 x2 + x7) + sg0 x15) + x16) := by
            rw [EN.out]; simp only [IntKind.wrap_u32]
          rw [EV] at A2'
          go_wp2
          go_roundw
          case rel =>
            iterate 28 (apply Exists.intro)
            refine ⟨?_, rfl⟩
            exact ⟨k + 1, by omega, by omega, by go_num, (A0.other (by show _ ≠ _; simp; omega) _).heap rfl, (A1.other (by show _ ≠ _; simp) _).heap rfl, A2'.heap rfl, (B0.setCell (by show _ ≤ _; simp; omega) _).drew⟩
          case measure => simp [intOf]; omega
        · have : k = 64 := by omega
          subst this
          rw [padw_end] at A2
          have HT : Hid (wr.there (w.heap.size + 1) 0 (sched bs 64).length) := by
            show World.there _ _ _ _
            rw [sched_len]; exact A1.2
          have H64 : Hid ((sched bs 64).length = 64) := sched_len bs 64
          obtain ⟨sc, hsc⟩ : ∃ sc, sc = sched bs 64 := ⟨_, rfl⟩
          rw [← hsc] at A2 HT H64
          have HSC : Hid (sc = sched bs 64) := hsc
          clear hsc
          go_wp2_with (first
            | (refine load_law _ rfl (.tmp 3) 110 rfl .u32 sc _ _ rfl A2 64 23 Tryd.underlying110 i_arr64w H64.out ?_)
            | (refine store_law _ rfl (.tmp 2) (.tmp 47) 110 rfl .u32 sc _ _ rfl rfl HT.out 64 i_arr64w H64.out ?_))
          refine bodyPost_ret (v := .agg (ints .u32 sc)) (results_ar rfl _ _ (w.heap.size + 1) 0 .u32 sc rfl (Ar.whole HT.out) 64 23 Tryd.underlying110 i_arr64w H64.out) rfl ⟨by rw [HSC.out], ?_⟩
          exact Lib.below_setCells _ (by omega) _ _ B0
end Go.Proofs.YtbkaecjkgjkheaaDoor.mc

