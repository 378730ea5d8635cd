/- Texts put together (a claim holds few files). No claim of its own. -/
import Derived.Test.YtbkaecjkgjkheaaGreatDoorPackB
import Derived.Test.YtbkaecjkgjkheaaGreatDoorPackA
import Derived.Test.YtbkaecjkgjkheaaGreatDoorRows
import Derived.WalkKit
import Derived.Deep.QuietTactic
import Derived.Deep.RegionHeld3
/- What sbox's Word answers. No claim of its own. -/
namespace Go.Proofs.YtbkaecjkgjkheaaGreatDoor
open Go.RowKit
set_option maxRecDepth 20000

/-- byte i of a word, from below -/
def wb (x i : Nat) : Nat := x / 256 ^ i % 256
theorem wb_lt (x i : Nat) : wb x i < 256 := Nat.mod_lt _ (by omega)
/-- what is put for the first k bytes of a word -/
def wsum (x : Nat) : Nat → Nat
  | 0 => 0
  | k + 1 => wsum x k + 256 ^ k * sb (wb x k)
theorem wsum_lt (x k : Nat) : wsum x k < 256 ^ k := by
  induction k with
  | zero => simp [wsum]
  | succ k ih =>
    have h := sb_lt _ (wb_lt x k)
    have : 256 ^ k * sb (wb x k) ≤ 256 ^ k * 255 := Nat.mul_le_mul_left _ (by omega)
    rw [wsum, Nat.pow_succ]; omega
theorem join4 (a b c d : Nat) (ha : a < 256) (hb : b < 256) (hc : c < 256) (hd : d < 256) :
    bits .or .u32 (bits .or .u32 (bits .or .u32 (IntKind.u32.wrap (IntKind.u32.wrap (a : Int) * 16777216)) (IntKind.u32.wrap (IntKind.u32.wrap (b : Int) * 65536))) (IntKind.u32.wrap (IntKind.u32.wrap (c : Int) * 256))) (IntKind.u32.wrap (d : Int)) = ((a * 16777216 + b * 65536 + c * 256 + d : Nat) : Int) := by
  have e1 : IntKind.u32.wrap (IntKind.u32.wrap (a : Int) * 16777216) = ((2 ^ 24 * a : Nat) : Int) := by rw [IntKind.wrap_u32', IntKind.wrap_u32']; omega
  have e2 : IntKind.u32.wrap (IntKind.u32.wrap (b : Int) * 65536) = ((2 ^ 16 * b : Nat) : Int) := by rw [IntKind.wrap_u32', IntKind.wrap_u32']; omega
  have e3 : IntKind.u32.wrap (IntKind.u32.wrap (c : Int) * 256) = ((2 ^ 8 * c : Nat) : Int) := by rw [IntKind.wrap_u32', IntKind.wrap_u32']; omega
  have e4 : IntKind.u32.wrap (d : Int) = (d : Int) := by rw [IntKind.wrap_u32']; omega
  rw [e1, e2, e3, e4, u32_or_nat _ _ (by omega) (by omega), ← Nat.two_pow_add_eq_or_of_lt (by omega) a]
  rw [show 2 ^ 24 * a + 2 ^ 16 * b = 2 ^ 16 * (256 * a + b) by omega, u32_or_nat _ _ (by omega) (by omega), ← Nat.two_pow_add_eq_or_of_lt (by omega) (256 * a + b)]
  rw [show 2 ^ 16 * (256 * a + b) + 2 ^ 8 * c = 2 ^ 8 * (65536 * a + 256 * b + c) by omega, u32_or_nat _ _ (by omega) (by omega), ← Nat.two_pow_add_eq_or_of_lt (by omega) (65536 * a + 256 * b + c)]
  omega

set_option maxRecDepth 20000 in
set_option maxHeartbeats 2000000 in
theorem word_any (x : Nat) (w : World) :
    Calls Tryz.prog 117 #[.int .u32 x] w fun e w' => e = .returned (.int .u32 (wsum x 4)) ∧ Below w.heap.size w w' := by
  have h3 : IntKind.u8.wrap ((x : Int) / 16777216) = (wb x 3 : Int) := by rw [IntKind.wrap_u8']; simp only [wb]; omega
  have h2 : IntKind.u8.wrap ((x : Int) / 65536) = (wb x 2 : Int) := by rw [IntKind.wrap_u8']; simp only [wb]; omega
  have h1 : IntKind.u8.wrap ((x : Int) / 256) = (wb x 1 : Int) := by rw [IntKind.wrap_u8']; simp only [wb]; omega
  have h0 : IntKind.u8.wrap (x : Int) = (wb x 0 : Int) := by rw [IntKind.wrap_u8']; simp only [wb]; omega
  have l3 := wb_lt x 3
  have l2 := wb_lt x 2
  have l1 := wb_lt x 1
  have l0 := wb_lt x 0
  have g3 := gb_p _ l3
  have g2 := gb_p _ l2
  have g1 := gb_p _ l1
  have g0 := gb_p _ l0
  have m3 := sb_lt _ l3
  have m2 := sb_lt _ l2
  have m1 := sb_lt _ l1
  have m0 := sb_lt _ l0
  have HW : Hid (wsum x 4 = sb (wb x 3) * 16777216 + sb (wb x 2) * 65536 + sb (wb x 1) * 256 + sb (wb x 0)) := by
    show _ = _
    simp only [wsum]; omega
  have HJ : Hid (sb (wb x 3) < 256 ∧ sb (wb x 2) < 256 ∧ sb (wb x 1) < 256 ∧ sb (wb x 0) < 256) := ⟨m3, m2, m1, m0⟩
  clear m3 m2 m1 m0
  generalize wsum x 4 = r at *
  generalize wb x 3 = i3 at *
  generalize wb x 2 = i2 at *
  generalize wb x 1 = i1 at *
  generalize wb x 0 = i0 at *
  generalize sb i3 = s3 at *
  generalize sb i2 = s2 at *
  generalize sb i1 = s1 at *
  generalize sb i0 = s0 at *
  have HG : Hid (gb ptab i3 = (s3 : Int) ∧ gb ptab i2 = (s2 : Int) ∧ gb ptab i1 = (s1 : Int) ∧ gb ptab i0 = (s0 : Int)) := ⟨g3, g2, g1, g0⟩
  clear g3 g2 g1 g0
  go_enter Tryz.func117, Tryz.ntmps117
  go_wp2_with (first
    | (go_at_call 99; refine (puts_any _).mono ?_; rintro e w1 ⟨rfl, B1⟩)
    | (have q1 := B1; refine new_lawF _ rfl 124 rfl .u8 z256 z_arr256 ?_; intro w2 A2 B2 z2; have HA2 : Hid (Ar w2 w1.heap.size 0 .u8 z256) := A2; clear A2)
    | (refine store_lawF _ rfl (.tmp 3) (.tmp 4) 124 rfl .u8 z256 ptab w1.heap.size rfl rfl HA2.out 256 i_arr256 z256_len ptab_len ?_; intro w3 A3 B3; have HA3 : Hid (Ar w3 w1.heap.size 0 .u8 ptab) := A3; clear A3))
  have c3 := HA3.out.cell0 i3 (by rw [ptab_len]; exact l3)
  have c2 := HA3.out.cell0 i2 (by rw [ptab_len]; exact l2)
  have c1 := HA3.out.cell0 i1 (by rw [ptab_len]; exact l1)
  have c0 := HA3.out.cell0 i0 (by rw [ptab_len]; exact l0)
  rw [HG.out.1] at c3
  rw [HG.out.2.1] at c2
  rw [HG.out.2.2.1] at c1
  rw [HG.out.2.2.2] at c0
  have o3 : (i3 : Int) < 256 := by omega
  have o2 : (i2 : Int) < 256 := by omega
  have o1 : (i1 : Int) < 256 := by omega
  have o0 : (i0 : Int) < 256 := by omega
  go_quiet (fail)
  go_wp2
  go_ret
  refine ⟨ret_int ?_, below_drewN ((B1.trans (B2.mono (by have := B1.size; omega))).trans (B3.mono (by have := B1.size; omega))) _⟩
  rw [HW.out]
  exact join4 s3 s2 s1 s0 HJ.out.1 HJ.out.2.1 HJ.out.2.2.1 HJ.out.2.2.2
end Go.Proofs.YtbkaecjkgjkheaaGreatDoor

/- Words of four bytes as numbers: xored, put for, rotated. No claim of its own. -/
namespace Go.Proofs.YtbkaecjkgjkheaaGreatDoor
open Go.RowKit
set_option maxRecDepth 20000

/-- the number of four bytes, the greatest first -/
def n4 (x : List Int) : Nat := (gb x 0).toNat * 16777216 + (gb x 1).toNat * 65536 + (gb x 2).toNat * 256 + (gb x 3).toNat
theorem wd_bd {x : List Int} (h : Wd x) (i : Nat) : (gb x i).toNat < 256 ∧ gb x i = ((gb x i).toNat : Int) := by have := h.2 i; omega
theorem n4_lt (x : List Int) (h : Wd x) : n4 x < 4294967296 := by
  have h0 := (wd_bd h 0).1
  have h1 := (wd_bd h 1).1
  have h2 := (wd_bd h 2).1
  have h3 := (wd_bd h 3).1
  unfold n4; omega
theorem join_xor (k a b c d : Nat) (hb : b < 2 ^ k) (hd : d < 2 ^ k) : (2 ^ k * a + b) ^^^ (2 ^ k * c + d) = 2 ^ k * (a ^^^ c) + (b ^^^ d) := by
  apply Nat.eq_of_testBit_eq
  intro j
  rw [Nat.testBit_xor, Nat.testBit_two_pow_mul_add a hb j, Nat.testBit_two_pow_mul_add c hd j, Nat.testBit_two_pow_mul_add (a ^^^ c) (Nat.xor_lt_two_pow hb hd) j]
  by_cases h : j < k
  · simp [h]
  · simp [h]
theorem n4_form (x : List Int) : n4 x = 2 ^ 8 * (2 ^ 8 * (2 ^ 8 * (gb x 0).toNat + (gb x 1).toNat) + (gb x 2).toNat) + (gb x 3).toNat := by unfold n4; omega
theorem n4_xor (x y : List Int) (hx : Wd x) (hy : Wd y) : n4 (xorl x y) = n4 x ^^^ n4 y := by
  have hl : x.length = y.length := by rw [hx.1, hy.1]
  have e : ∀ i, i < 4 → (gb (xorl x y) i).toNat = (gb x i).toNat ^^^ (gb y i).toNat := fun i hi => by
    rw [xorl_gb x y hl i (by rw [hx.1]; exact hi)]
    simp [xr]
  have x1 := (wd_bd hx 1).1
  have x2 := (wd_bd hx 2).1
  have x3 := (wd_bd hx 3).1
  have y1 := (wd_bd hy 1).1
  have y2 := (wd_bd hy 2).1
  have y3 := (wd_bd hy 3).1
  rw [n4_form, n4_form x, n4_form y, e 0 (by omega), e 1 (by omega), e 2 (by omega), e 3 (by omega), join_xor 8 _ _ _ _ x3 y3, join_xor 8 _ _ _ _ x2 y2, join_xor 8 _ _ _ _ x1 y1]
theorem wb_n4 (x : List Int) (h : Wd x) : wb (n4 x) 0 = (gb x 3).toNat ∧ wb (n4 x) 1 = (gb x 2).toNat ∧ wb (n4 x) 2 = (gb x 1).toNat ∧ wb (n4 x) 3 = (gb x 0).toNat := by
  have h0 := (wd_bd h 0).1
  have h1 := (wd_bd h 1).1
  have h2 := (wd_bd h 2).1
  have h3 := (wd_bd h 3).1
  unfold wb n4
  refine ⟨?_, ?_, ?_, ?_⟩ <;> omega
theorem wsum_n4 (x : List Int) (h : Wd x) : wsum (n4 x) 4 = n4 (looked ptab x) := by
  obtain ⟨e0, e1, e2, e3⟩ := wb_n4 x h
  have g : ∀ i, i < 4 → (gb (looked ptab x) i).toNat = sb (gb x i).toNat := fun i hi => by
    rw [looked_gb _ _ _ (by rw [h.1]; exact hi), gb_p _ (wd_bd h i).1, Int.toNat_natCast]
  simp only [wsum, e0, e1, e2, e3]
  rw [n4, g 0 (by omega), g 1 (by omega), g 2 (by omega), g 3 (by omega)]
  omega
/-- rotated by one byte -/
def rot1 (x : List Int) : List Int := [gb x 1, gb x 2, gb x 3, gb x 0]
theorem rot1_wd (x : List Int) (h : Wd x) : Wd (rot1 x) := wd4 _ _ _ _ (h.2 1) (h.2 2) (h.2 3) (h.2 0)
theorem n4_rot (x : List Int) (h : Wd x) : n4 (rot1 x) = n4 x * 256 % 4294967296 + n4 x / 16777216 := by
  have h0 := (wd_bd h 0).1
  have h1 := (wd_bd h 1).1
  have h2 := (wd_bd h 2).1
  have h3 := (wd_bd h 3).1
  show (gb x 1).toNat * 16777216 + (gb x 2).toNat * 65536 + (gb x 3).toNat * 256 + (gb x 0).toNat = _
  unfold n4
  omega
theorem four_gb (x : List Int) (h : x.length = 4) : x = [gb x 0, gb x 1, gb x 2, gb x 3] := by
  match x, h with
  | [a, b, c, d], _ => rfl
theorem looked_wd (x : List Int) (h : x.length = 4) : Wd (looked ptab x) := ⟨by rw [looked_len, h], looked_all _ _ pAll⟩
/-- what is xored to the word eight ahead, as a number -/
theorem n4_mid (i : Nat) (x : List Int) (h : Wd x) : n4 (mid i x) = if i % 8 = 0 then wsum (n4 x * 256 % 4294967296 + n4 x / 16777216) 4 ^^^ pw 2 (i / 8 - 1) * 16777216 else if i % 8 = 4 then wsum (n4 x) 4 else n4 x := by
  by_cases h0 : i % 8 = 0
  · rw [if_pos h0, ← n4_rot x h, wsum_n4 _ (rot1_wd x h)]
    have hp := pw_lt 2 (i / 8 - 1)
    have hr := looked_wd (rot1 x) rfl
    have e : mid i x = xorl (looked ptab (rot1 x)) [(pw 2 (i / 8 - 1) : Int), 0, 0, 0] := by
      have hz : ∀ a : Int, 0 ≤ a → xr a 0 = a := fun a ha => by simp [xr]; omega
      have hb := pAll
      unfold mid
      rw [if_pos h0]
      show _ = [xr (gb ptab (gb x 1).toNat) (pw 2 (i / 8 - 1) : Int), xr (gb ptab (gb x 2).toNat) 0, xr (gb ptab (gb x 3).toNat) 0, xr (gb ptab (gb x 0).toNat) 0]
      rw [hz _ (hb _).1, hz _ (hb _).1, hz _ (hb _).1]
    rw [e, n4_xor _ _ hr (wd4 _ _ _ _ (by omega) (by omega) (by omega) (by omega))]
    have e2 : n4 [(pw 2 (i / 8 - 1) : Int), 0, 0, 0] = pw 2 (i / 8 - 1) * 16777216 := by
      generalize pw 2 (i / 8 - 1) = q
      simp [n4, gb]
    rw [e2]
  · rw [if_neg h0]
    by_cases h4 : i % 8 = 4
    · rw [if_pos h4, wsum_n4 x h]
      have e : mid i x = looked ptab x := by
        unfold mid
        rw [if_neg h0, if_pos h4]
        conv => rhs; rw [four_gb x h.1]
        rfl
      rw [e]
    · rw [if_neg h4, mid, if_neg h0, if_neg h4]
/-- word i, as a number -/
def wn (key : List Int) (i : Nat) : Nat := n4 (wd key i)
theorem wn_lt (key : List Int) (hk : key.length = 32) (ha : AllB key) (i : Nat) : wn key i < 4294967296 := n4_lt _ (wd_wd key hk ha i)
theorem wn_eq (key : List Int) (hk : key.length = 32) (ha : AllB key) (i : Nat) (h : 8 ≤ i) :
    wn key i = wn key (i - 8) ^^^ (if i % 8 = 0 then wsum (wn key (i - 1) * 256 % 4294967296 + wn key (i - 1) / 16777216) 4 ^^^ pw 2 (i / 8 - 1) * 16777216 else if i % 8 = 4 then wsum (wn key (i - 1)) 4 else wn key (i - 1)) := by
  have h8 := wd_wd key hk ha (i - 8)
  have h1 := wd_wd key hk ha (i - 1)
  rw [wn, wd_eq, if_neg (by omega), n4_xor _ _ h8 (mid_wd i _ h1), n4_mid i _ h1]
  rfl
theorem wn_first (key : List Int) (i : Nat) (h : i < 8) : wn key i = n4 (cut4 key i) := by rw [wn, wd_eq, if_pos h]
end Go.Proofs.YtbkaecjkgjkheaaGreatDoor

/- What octet's Num answers: the number of the last eight bytes. No claim of its own. -/
namespace Go.Proofs.YtbkaecjkgjkheaaGreatDoor
open Go.RowKit
set_option maxRecDepth 20000

/-- the number of bytes, the greatest first, of sixty-four bits -/
def num : List Int → Int := fun xs => xs.foldl (fun n x => (n * 256) % 18446744073709551616 + x) 0
theorem num_snoc (xs : List Int) (x : Int) : num (xs ++ [x]) = (num xs * 256) % 18446744073709551616 + x := by simp [num]
/-- the last eight -/
def last8 (xs : List Int) : List Int := xs.drop (xs.length - 8)
theorem last8_len (xs : List Int) : (last8 xs).length = min xs.length 8 := by simp [last8]; omega
theorem gb_drop (xs : List Int) (d k : Nat) : gb (xs.drop d) k = gb xs (d + k) := by simp [gb, List.getD]
theorem take_snoc_gb (xs : List Int) (k : Nat) (h : k < xs.length) : xs.take (k + 1) = xs.take k ++ [gb xs k] := by
  rw [List.take_succ_eq_append_getElem h]; simp [gb, List.getD, h]
theorem num_bd (xs : List Int) (h : AllB xs) (k : Nat) (hk : k ≤ xs.length) : 0 ≤ num (xs.take k) ∧ num (xs.take k) ≤ 18446744073709551615 := by
  induction k with
  | zero => simp [num]
  | succ k ih =>
    rw [take_snoc_gb xs k (by omega), num_snoc]
    have := h k
    omega
theorem shl_or (n x : Int) (hx : 0 ≤ x ∧ x ≤ 255) : bits .or .u64 (IntKind.u64.wrap (n * 256)) (IntKind.u64.wrap x) = (n * 256) % 18446744073709551616 + x := by
  have hw : IntKind.u64.wrap x = x := by rw [IntKind.wrap_u64]; omega
  rw [hw, IntKind.wrap_u64]
  have h0 : 0 ≤ n * 256 % 18446744073709551616 := Int.emod_nonneg _ (by decide)
  have h1 : n * 256 % 18446744073709551616 < 18446744073709551616 := Int.emod_lt_of_pos _ (by decide)
  rw [u64_or _ _ h0 h1 hx.1 (by omega), nat_join 8 _ _ (by omega) (by omega)]
  omega

set_option maxHeartbeats 2000000 in
theorem num_any (v : Value) (xs : List Int) (w : World) (hb : Byt w v xs) :
    Calls Tryz.prog 93 #[v] w fun e w' => e = .returned (.int .u64 (num (last8 xs))) ∧ w' = w := by
  have HB := hb
  obtain ⟨ao, cap, rfl, h1, h2, -, -, -⟩ := hb
  have HBB : Hid (Byt w (.slice ao xs.length cap) xs) := HB
  clear HB
  generalize hys : last8 xs = ys
  have hs : ((clamp (xs.length : Int) 8 : Nat) : Int) = min (max (xs.length : Int) 0) 8 := by unfold clamp; omega
  generalize hsd : clamp (xs.length : Int) 8 = s at hs
  have HS : Hid (clamp (xs.length : Int) 8 = s) := hsd
  have hs1 : s ≤ 8 := by omega
  have hs2 : s ≤ xs.length := by omega
  have HL : Hid (xs.drop (xs.length - s) = ys) := by
    show _ = _
    rw [← hys]; unfold last8; congr 1; omega
  clear hsd hs hys
  go_enter Tryz.func93, Tryz.ntmps93
  go_wp2_with (first
    | (go_at_call 54; refine (within_any _ _ _ (by omega)).mono ?_; rintro e w' ⟨rfl, hw⟩; obtain rfl := hw.symm; rw [HS.out])
    | (refine cut_from _ rfl (.tmp 6) (.tmp 12) rfl _ xs _ (xs.length - s) rfl rfl (by omega) (by omega) HBB.out ?_; intro v' hv; rw [HL.out] at hv; obtain ⟨ao', cap', rfl, k1, k2, k3, -, k5⟩ := hv; have K3 : Hid (AllB ys) := k3; have K5 : Hid (0 < ys.length → ∃ b off, ao' = some ⟨b, off, none⟩ ∧ ∀ t, t < ys.length → w.cell? ⟨b, off + t, none⟩ = some (.int .u8 (gb ys t))) := k5; clear k3 k5))
  go_loop [3, 15] (fun n i => ∃ k : Nat, k ≤ ys.length ∧ i = .int .i64 k ∧ n = .int .u64 (num (ys.take k))) (fun _ i => ys.length - (intOf i).toNat)
  case atStart => exact ⟨0, Nat.zero_le _, rfl, rfl⟩
  case round =>
    obtain ⟨k, hk, rfl, rfl⟩ := hrel
    by_cases hlt : k < ys.length
    · obtain ⟨b, off, rfl, hca⟩ := K5.out (by omega)
      have c0 := hca k hlt
      clear hca
      have SN : Hid (num (ys.take (k + 1)) = num (ys.take k) * 256 % 18446744073709551616 + gb ys k) := by
        show _ = _
        rw [take_snoc_gb ys k hlt, num_snoc]
      go_wp2
      go_round
      case rel => exact ⟨k + 1, by omega, by go_num, by rw [SN.out, shl_or _ _ (K3.out k)]⟩
      case measure => simp [intOf]; omega
    · have hks : k = ys.length := by omega
      subst hks
      rw [List.take_length]
      go_wp2
      go_ret
      exact ⟨rfl, rfl⟩
end Go.Proofs.YtbkaecjkgjkheaaGreatDoor

/- What octet's Big, Little, NumLittle and the reference's answer. No claim of its own. -/
namespace Go.Proofs.YtbkaecjkgjkheaaGreatDoor
open Go.RowKit
set_option maxRecDepth 20000

/-- n, shifted by k bytes -/
def sh (n : Int) : Nat → Int
  | 0 => n
  | k + 1 => sh n k / 256
theorem sh_succ (n : Int) (k : Nat) : sh n (k + 1) = sh n k / 256 := rfl
theorem sh_bd (n : Int) (h : 0 ≤ n ∧ n ≤ 18446744073709551615) (k : Nat) : 0 ≤ sh n k ∧ sh n k ≤ 18446744073709551615 := by
  induction k with
  | zero => exact h
  | succ k ih => rw [sh_succ]; omega
/-- the k low bytes of n, the least first -/
def le (n : Int) (k : Nat) : List Int := (List.range k).map fun i => sh n i % 256
theorem le_snoc (n : Int) (k : Nat) : le n (k + 1) = le n k ++ [sh n k % 256] := by simp [le, List.range_succ]
theorem le_len (n : Int) (k : Nat) : (le n k).length = k := by simp [le]
theorem le_all (n : Int) (k : Nat) : AllB (le n k) := allB_mem fun x hx => by
  obtain ⟨i, _, rfl⟩ := List.mem_map.1 hx
  omega
theorem allB_reverse {xs : List Int} (h : AllB xs) : AllB xs.reverse := allB_mem fun x hx => by
  obtain ⟨i, hi, rfl⟩ := List.getElem_of_mem (List.mem_reverse.1 hx)
  have := h i
  simpa [gb, List.getD, hi] using this

def leAt (n : Int) (s k : Nat) : List Int := le n k ++ List.replicate (s - k) 0
theorem leAt_set (n : Int) (s k : Nat) (h : k < s) : (leAt n s k).set k (sh n k % 256) = leAt n s (k + 1) := by
  unfold leAt
  obtain ⟨d, hd⟩ : ∃ d, s - k = d + 1 := ⟨s - k - 1, by omega⟩
  have e : s - (k + 1) = d := by omega
  rw [hd, e, List.set_append_right _ _ (by simp [le_len]), le_snoc]
  simp [le_len, List.replicate_succ]
theorem leAt_end (n : Int) (s : Nat) : leAt n s s = le n s := by simp [leAt]

def beAt (n : Int) (s k : Nat) : List Int := List.replicate (s - k) 0 ++ (le n k).reverse
theorem beAt_set (n : Int) (s k : Nat) (h : k < s) : (beAt n s k).set (s - 1 - k) (sh n k % 256) = beAt n s (k + 1) := by
  unfold beAt
  obtain ⟨d, hd⟩ : ∃ d, s - k = d + 1 := ⟨s - k - 1, by omega⟩
  have e : s - (k + 1) = d := by omega
  have e' : s - 1 - k = d := by omega
  rw [hd, e, e', List.set_append_left _ _ (by simp), le_snoc, List.replicate_succ', List.set_append_right _ _ (by simp)]
  simp
theorem beAt_end (n : Int) (s : Nat) : beAt n s s = (le n s).reverse := by simp [beAt]

set_option maxHeartbeats 2000000 in
theorem big_any (n k0 : Int) (w : World) (hn : 0 ≤ n ∧ n ≤ 18446744073709551615) :
    Calls Tryz.prog 31 #[.int .u64 n, .int .i64 k0] w fun e w' => ∃ v, e = .returned v ∧ Byt w' v (le n (clamp k0 8)).reverse ∧ Below w.heap.size w w' := by
  have hs := clamp_le k0 8 (by omega)
  generalize hsd : clamp k0 8 = s at hs
  have HS : Hid (clamp k0 8 = s) := hsd
  have hn' : Hid (0 ≤ n ∧ n ≤ 18446744073709551615) := hn
  clear hsd hn
  go_enter Tryz.func31, Tryz.ntmps31
  go_wp2_with (first
    | (go_at_call 54; refine (within_any _ _ _ (by omega)).mono ?_; rintro e w' ⟨rfl, hw⟩; obtain rfl := hw.symm; rw [HS.out])
    | (at_make; refine make_law _ rfl _ _ rfl w.heap.size (Nat.le_refl _) _ s rfl rfl rfl (by omega) ?_; intro w1 hown hbel hlt))
  go_loopw [0, 13] (fun m i wr => ∃ k : Nat, k ≤ s ∧ i = .int .i64 k ∧ m = .int .u64 (sh n k) ∧ OwnN w.heap.size wr w.heap.size s (beAt n s k) ∧ Below w.heap.size w wr) (fun _ i _ => s - (intOf i).toNat)
  case atStart => exact ⟨0, Nat.zero_le _, rfl, rfl, by simpa [beAt, le] using hown, hbel⟩
  case round =>
    clear hown hbel
    obtain ⟨k, hk, rfl, rfl, hown, hbel⟩ := hrel
    by_cases hlt' : k < s
    · have c1 := hown.cell (show s - 1 - k < s by omega)
      have c2 := hown.free (s - 1 - k)
      have hown' := hown.set (s - 1 - k) (sh n k % 256)
      rw [beAt_set n s k hlt'] at hown'
      have bd := sh_bd n hn'.out k
      have e1 : IntKind.u8.wrap (sh n k) = sh n k % 256 := IntKind.wrap_u8' _
      have e2 : ((s : Int) - 1 - (k : Int)).toNat = s - 1 - k := by omega
      go_wp2
      go_roundw
      case rel => exact ⟨k + 1, by omega, by go_num, rfl, hown', hbel.setCell (Nat.le_refl _) _⟩
      case measure => simp [intOf]; omega
    · have : k = s := by omega
      subst this
      rw [beAt_end] at hown
      go_wp2
      go_ret
      exact ⟨_, rfl, hown.byt (allB_reverse (le_all _ _)), hbel⟩
end Go.Proofs.YtbkaecjkgjkheaaGreatDoor

/- What aes' stirred answers; four bytes and their number. No claim of its own. -/
namespace Go.Proofs.YtbkaecjkgjkheaaGreatDoor
open Go.RowKit
set_option maxRecDepth 20000

theorem num4 (x : List Int) (h : Wd x) : num (last8 x) = (n4 x : Int) := by
  have h0 := (wd_bd h 0)
  have h1 := (wd_bd h 1)
  have h2 := (wd_bd h 2)
  have h3 := (wd_bd h 3)
  have e : last8 x = x := by unfold last8; rw [h.1]; rfl
  rw [e]
  obtain ⟨a, b, c, d, rfl⟩ : ∃ a b c d, x = [a, b, c, d] := ⟨_, _, _, _, four_gb x h.1⟩
  simp only [gb, List.getD, List.getElem?_cons_zero, List.getElem?_cons_succ, Option.getD_some] at h0 h1 h2 h3
  simp only [num, n4, gb, List.foldl, List.getD, List.getElem?_cons_zero, List.getElem?_cons_succ, Option.getD_some]
  omega
theorem be4n (x : List Int) (h : Wd x) : (le (n4 x : Int) 4).reverse = x := by
  have h0 := (wd_bd h 0)
  have h1 := (wd_bd h 1)
  have h2 := (wd_bd h 2)
  have h3 := (wd_bd h 3)
  have e : (le (n4 x : Int) 4).reverse = [sh (n4 x) 3 % 256, sh (n4 x) 2 % 256, sh (n4 x) 1 % 256, sh (n4 x) 0 % 256] := rfl
  rw [e, four_gb x h.1]
  have e0 : sh (n4 x) 0 = (n4 x : Int) := rfl
  have e1 : sh (n4 x) 1 = (n4 x : Int) / 256 := rfl
  have e2 : sh (n4 x) 2 = (n4 x : Int) / 256 / 256 := rfl
  have e3 : sh (n4 x) 3 = (n4 x : Int) / 256 / 256 / 256 := rfl
  rw [← four_gb x h.1, e3, e2, e1, e0]
  unfold n4
  have f0 : ((((gb x 0).toNat * 16777216 + (gb x 1).toNat * 65536 + (gb x 2).toNat * 256 + (gb x 3).toNat : Nat) : Int) / 256 / 256 / 256) % 256 = gb x 0 := by omega
  have f1 : ((((gb x 0).toNat * 16777216 + (gb x 1).toNat * 65536 + (gb x 2).toNat * 256 + (gb x 3).toNat : Nat) : Int) / 256 / 256) % 256 = gb x 1 := by omega
  have f2 : ((((gb x 0).toNat * 16777216 + (gb x 1).toNat * 65536 + (gb x 2).toNat * 256 + (gb x 3).toNat : Nat) : Int) / 256) % 256 = gb x 2 := by omega
  have f3 : (((gb x 0).toNat * 16777216 + (gb x 1).toNat * 65536 + (gb x 2).toNat * 256 + (gb x 3).toNat : Nat) : Int) % 256 = gb x 3 := by omega
  rw [f0, f1, f2, f3]
  exact (four_gb x h.1).symm
/-- rotated to the left by 8 -/
def rl8 (x : Nat) : Nat := x * 256 % 4294967296 + x / 16777216
theorem rl8_lt (x : Nat) (h : x < 4294967296) : rl8 x < 4294967296 := by unfold rl8; omega
/-- what goes into word i of the word ahead of it -/
def stn (i x : Nat) : Nat := if i % 8 = 0 then wsum (rl8 x) 4 ^^^ pw 2 (i / 8 - 1) * 16777216 else if i % 8 = 4 then wsum x 4 else x

theorem rot8_eq (x : Nat) (h : x < 4294967296) : bits .or .u32 (IntKind.u32.wrap ((x : Int) * 256)) (IntKind.u32.wrap ((x : Int) / 16777216)) = (rl8 x : Int) := by
  have e1 : IntKind.u32.wrap ((x : Int) * 256) = ((2 ^ 8 * (x % 16777216) : Nat) : Int) := by rw [IntKind.wrap_u32]; omega
  have e2 : IntKind.u32.wrap ((x : Int) / 16777216) = ((x / 16777216 : Nat) : Int) := by rw [IntKind.wrap_u32]; omega
  rw [e1, e2, u32_or_nat _ _ (by omega) (by omega), ← Nat.two_pow_add_eq_or_of_lt (by omega) (x % 16777216)]
  unfold rl8
  omega

set_option maxHeartbeats 1000000 in
theorem rotl8_any (x : Nat) (w : World) (hx : x < 4294967296) :
    Calls Tryz.prog 118 #[.int .u32 x, .int .i64 8] w fun e w' => e = .returned (.int .u32 (rl8 x)) ∧ w' = w := by
  have h8 : bits .and .u64 8 31 = 8 := by decide +kernel
  have HX : Hid (x < 4294967296) := hx
  have w1 : IntKind.u32.wrap ((x : Int) / 16777216) = (x : Int) / 16777216 := by rw [IntKind.wrap_u32]; omega
  have HE := rot8_eq x hx
  rw [w1] at HE
  have HE' : Hid (bits .or .u32 (IntKind.u32.wrap ((x : Int) * 256)) ((x : Int) / 16777216) = (rl8 x : Int)) := HE
  clear hx HE
  go_enter Tryz.func118, Tryz.ntmps118
  go_wp2
  go_ret
  exact ⟨ret_int HE'.out, rfl⟩

theorem pw_bd (i : Nat) : pw 2 i < 256 := pw_lt 2 i
set_option maxHeartbeats 2000000 in
theorem stir_any (x i : Nat) (w : World) (hx : x < 4294967296) (hi : 8 ≤ i) (hi' : i < 60) :
    Calls Tryz.prog 95 #[.int .u32 x, .int .i64 i] w fun e w' => e = .returned (.int .u32 (stn i x)) ∧ Below w.heap.size w w' := by
  have q1 : IntKind.i64.wrap (i : Int) = i := by rw [IntKind.wrap_i64]; omega
  by_cases h0 : i % 8 = 0
  · have e0 : ((i : Int)).tmod 8 = 0 := by rw [Int.tmod_eq_emod_of_nonneg (by omega)]; omega
    obtain ⟨d, hd⟩ : ∃ d, d = i / 8 - 1 := ⟨_, rfl⟩
    have e1 : ((i : Int)).tdiv 8 = (d : Int) + 1 := by rw [Int.tdiv_eq_ediv_of_nonneg (by omega)]; omega
    have e2 : IntKind.i64.wrap ((d : Int) + 1) = (d : Int) + 1 := by rw [IntKind.wrap_i64]; omega
    have e3 : IntKind.i64.wrap ((d : Int) + 1 - 1) = (d : Int) := by rw [IntKind.wrap_i64]; omega
    have e6 : IntKind.i64.wrap (d : Int) = (d : Int) := by rw [IntKind.wrap_i64]; omega
    have P1 : Hid (∀ w0, Calls Tryz.prog 116 #[.int .u8 2, .int .i64 d] w0 fun e w' => e = .returned (.int .u8 (pw 2 d)) ∧ w' = w0) := fun w0 => by
      have := pow_any 2 (d : Int) w0 (by omega) (by omega)
      rwa [Int.toNat_natCast] at this
    have R1 : Hid (∀ w0, Calls Tryz.prog 118 #[.int .u32 x, .int .i64 8] w0 fun e w' => e = .returned (.int .u32 (rl8 x)) ∧ w' = w0) := fun w0 => rotl8_any x w0 hx
    have W1 : Hid (∀ w0, Calls Tryz.prog 117 #[.int .u32 (rl8 x)] w0 fun e w' => e = .returned (.int .u32 (wsum (rl8 x) 4)) ∧ Below w0.heap.size w0 w') := fun w0 => word_any (rl8 x) w0
    have HS : Hid ((stn i x : Int) = bits .xor .u32 (wsum (rl8 x) 4 : Int) (IntKind.u32.wrap (((pw 2 d : Nat) : Int) * 16777216))) := by
      show _ = _
      have hp := pw_lt 2 d
      have hw := wsum_lt (rl8 x) 4
      have e4 : IntKind.u32.wrap (((pw 2 d : Nat) : Int) * 16777216) = ((pw 2 d * 16777216 : Nat) : Int) := by rw [IntKind.wrap_u32]; omega
      rw [e4, u32_xor_nat _ _ (by omega) (by omega)]
      unfold stn
      rw [if_pos h0, ← hd]
    have hp8 : pw 2 d < 256 := pw_lt 2 d
    have e5 : IntKind.u32.wrap ((pw 2 d : Nat) : Int) = ((pw 2 d : Nat) : Int) := by rw [IntKind.wrap_u32]; omega
    generalize stn i x = z at *
    generalize wsum (rl8 x) 4 = ws at *
    generalize rl8 x = rx at *
    generalize pw 2 d = p at *
    clear hd hp8
    go_enter Tryz.func95, Tryz.ntmps95
    go_wp2_with (first
      | (go_at_call 117; refine (W1.out _).mono ?_; rintro e w1 ⟨rfl, B1⟩)
      | (go_at_call 118; refine (R1.out _).mono ?_; rintro e w1 ⟨rfl, hw⟩; obtain rfl := hw.symm)
      | (go_at_call 116; refine (P1.out _).mono ?_; rintro e w1 ⟨rfl, hw⟩; obtain rfl := hw.symm))
    go_ret
    exact ⟨ret_int HS.out.symm, B1⟩
  · by_cases h4 : i % 8 = 4
    · have e0 : ((i : Int)).tmod 8 = 4 := by rw [Int.tmod_eq_emod_of_nonneg (by omega)]; omega
      have W1 : Hid (∀ w0, Calls Tryz.prog 117 #[.int .u32 x] w0 fun e w' => e = .returned (.int .u32 (wsum x 4)) ∧ Below w0.heap.size w0 w') := fun w0 => word_any x w0
      have HS : Hid (stn i x = wsum x 4) := by show _ = _; unfold stn; rw [if_neg h0, if_pos h4]
      rw [HS.out]
      generalize wsum x 4 = ws at *
      go_enter Tryz.func95, Tryz.ntmps95
      go_wp2_with (go_at_call 117; refine (W1.out _).mono ?_; rintro e w1 ⟨rfl, B1⟩)
      go_ret
      exact ⟨rfl, B1⟩
    · obtain ⟨r, hr⟩ : ∃ r, r = i % 8 := ⟨_, rfl⟩
      have e0 : ((i : Int)).tmod 8 = (r : Int) := by rw [Int.tmod_eq_emod_of_nonneg (by omega)]; omega
      have r0 : ¬ ((r : Int) = 0) := by omega
      have r4 : ¬ ((r : Int) = 4) := by omega
      have r5 : IntKind.i64.wrap (r : Int) = r := by rw [IntKind.wrap_i64]; omega
      have HS : stn i x = x := by unfold stn; rw [if_neg h0, if_neg h4]
      rw [HS]
      clear hr h0 h4 HS
      go_enter Tryz.func95, Tryz.ntmps95
      go_wp2
      go_ret
      exact ⟨rfl, Below.refl _ _⟩
end Go.Proofs.YtbkaecjkgjkheaaGreatDoor

/- A region that draws its order and only reads and calls, in any class of worlds: one law a kind of operation. No claim of its own. -/
namespace Go.Proofs.YtbkaecjkgjkheaaGreatDoor
open Go.RowKit
set_option maxRecDepth 20000

theorem region_quietC {C : World → Prop} {id : Nat} {Q : Exit → Act → World → Prop} {a : Act} {w : World} {l : List Oper} (hm : Tryz.prog.follows .mixedOrders = true) (hB : Region.lexB .any l.toArray = true) (hC : C { w with drawn := w.drawn + 1 })
    (h : wpQuiet Tryz.prog l.toArray C (fun a' => ∀ w', C w' → Q .normal a' w') l a) : (Code.region id l.toArray true).wp Tryz.prog Q a w :=
  wp_region_quiet hm hB hC (by simpa using h)

theorem run_load1 (w : World) (b p : Nat) (t : TypeId) (k : IntKind) (n : Int) (hu : Tryz.prog.underlying t = some (.int k)) (h : w.cell? ⟨b, p, none⟩ = some (.int k n)) : (loadVar t ⟨b, p, none⟩).run Tryz.prog w = .ok (.int k n) w := by
  simp [loadVar, isAgg, run_underlying hu, h]

section
variable {ops : Array Oper} {C : World → Prop} {K : Act → Prop} {o : Oper} {a : Act}

/-- the address of a slice's element -/
theorem q_idx (hw : Region.wanted o (yielded ops a.tmps) = true) (d : Option Tmp) (hd : o.dst = d) (x y : Operand) (hop : o.op = Op.indexAddr 22 x y) (b off n cap i : Nat) (hx : a.eval x = .slice (some ⟨b, off, none⟩) n cap) (hy : a.eval y = .int .i64 i) (hi : i < n)
    (hK : K (a.put d (.pointer (some ⟨b, off + i, none⟩)))) :
    if Region.wanted o (yielded ops a.tmps) = true then o.quiet Tryz.prog a C K else K (a.put o.dst undef) := by
  refine q_val hw d hd _ (fun w _ => ?_) hK
  have hr : (Instr.indexAt 22 (.slice (some ⟨b, off, none⟩) n cap) (.int .i64 (i : Int))).run Tryz.prog w = .ok (.pointer (some ⟨b, off + i, none⟩)) w := by
    rw [run_indexAt_slice _ _ _ _ _ _ _ und_bytes, if_pos (by omega), elem_bytes, run_size_u8]
    simp [Result.andThen, Addr.add]
  unfold execOp
  simp only [hop, hx, hy, Sem.run_bind, Sem.run_pure, Result.andThen_ok, hr]

/-- a number is read -/
theorem q_get (hw : Region.wanted o (yielded ops a.tmps) = true) (d : Option Tmp) (hd : o.dst = d) (x : Operand) (t : TypeId) (hop : o.op = Op.load t x) (k : IntKind) (n : Int) (b p : Nat) (hx : a.eval x = .pointer (some ⟨b, p, none⟩)) (hu : Tryz.prog.underlying t = some (.int k)) (h : ∀ w, C w → w.cell? ⟨b, p, none⟩ = some (.int k n))
    (hK : K (a.put d (.int k n))) :
    if Region.wanted o (yielded ops a.tmps) = true then o.quiet Tryz.prog a C K else K (a.put o.dst undef) := by
  refine q_val hw d hd _ (fun w hC => ?_) hK
  unfold execOp
  simp only [hop, hx, Instr.loadAt, Instr.sureAddr, Sem.run_bind, Sem.run_pure, Result.andThen_ok, run_load1 w b p t k n hu (h w hC)]
/-- two numbers that are the same are not unlike -/
theorem q_neq (hw : Region.wanted o (yielded ops a.tmps) = true) (d : Option Tmp) (hd : o.dst = d) (x y : Operand) (t t' : TypeId) (hop : o.op = Op.binOp .neq t x y t') (k : IntKind) (n : Int) (hx : a.eval x = .int k n) (hy : a.eval y = .int k n)
    (hK : K (a.put d (.bool false))) :
    if Region.wanted o (yielded ops a.tmps) = true then o.quiet Tryz.prog a C K else K (a.put o.dst undef) := by
  refine q_val hw d hd _ (fun w _ => ?_) hK
  unfold execOp
  simp only [hop, hx, hy]
  go_simp
end
end Go.Proofs.YtbkaecjkgjkheaaGreatDoor

/- A region that draws its order, whose first operations only read and whose last ones write: one walk of the first, in the order of the text, then the last. No claim of its own. -/
namespace Go.Proofs.YtbkaecjkgjkheaaGreatDoor
open Go.RowKit
set_option maxRecDepth 20000

/-- does operation k wait for operation j -/
def waits (md : Region.Mode) (ops : Array Oper) (k j : Nat) : Bool := match ops[k]? with
  | some o => o.after.any fun e => Region.binds md e && e.on == j
  | none => false
/-- the operations from k to m only wait for earlier ones, have no guard, and operation m waits for them all; those behind m wait for m -/
def thenB (md : Region.Mode) (ops : Array Oper) (k m n : Nat) : Bool :=
  (ops.size == m + n) && Region.noSelect (ops.extract 0 m) && Region.lexFrom md (ops.extract 0 m) (m - k) k (Array.replicate k true ++ Array.replicate (m - k) false)
  && (List.range m).all (fun i => match ops[i]? with | some o => o.guard.isNone && o.after.all (fun e => !Region.binds md e || decide (e.on < i)) | none => false)
  && (List.range m).all (fun j => decide (j < k) || (List.range (m + 1)).any (fun i => decide (j < i) && waits md ops i j))
  && (List.range (m + n)).all (fun i => decide (i ≤ m) || waits md ops i m) && decide (k ≤ m)

theorem waits_spec {md : Region.Mode} {ops : Array Oper} {k j : Nat} (h : waits md ops k j = true) : ∃ o, ops[k]? = some o ∧ ∃ e ∈ o.after, Region.binds md e = true ∧ e.on = j := by
  unfold waits at h
  cases ho : ops[k]? with
  | none => simp [ho] at h
  | some o =>
    simp only [ho] at h
    obtain ⟨e, he, h2⟩ := Array.any_eq_true'.1 h
    simp only [Bool.and_eq_true, beq_iff_eq] at h2
    exact ⟨o, rfl, e, he, h2.1, h2.2⟩

section
variable {P : Program} {ops : Array Oper} {md : Region.Mode} {C : World → Prop} {Q : Exit → Act → World → Prop}

theorem getD_lo {L : Array Bool} {n j : Nat} (b : Bool) (hj : j < L.size) : (L ++ Array.replicate n false).getD j b = L.getD j b := by
  simp [Array.getElem?_append, hj]
theorem getD_hi {L : Array Bool} {n j : Nat} (b : Bool) (hj : L.size ≤ j) (hn : j < L.size + n) : (L ++ Array.replicate n false).getD j b = false := by
  simp [Array.getElem?_append, Nat.not_lt.2 hj, show j - L.size < n by omega]
theorem getD_any {L : Array Bool} {j : Nat} (b c : Bool) (hj : j < L.size) : L.getD j b = L.getD j c := by simp [hj]
theorem all_true {L : Array Bool} {m : Nat} (hs : L.size = m) (h : ∀ j, j < m → L.getD j true = true) : L = Array.replicate m true := by
  apply Array.ext
  · simp [hs]
  · intro i h1 h2
    have := h i (by omega)
    simpa [h1] using this
theorem set_lo {L : Array Bool} {n i : Nat} (hi : i < L.size) : (L ++ Array.replicate n false).setIfInBounds i true = L.setIfInBounds i true ++ Array.replicate n false := by
  apply Array.ext_getElem?
  intro j
  rw [Array.getElem?_setIfInBounds, Array.getElem?_append, Array.getElem?_append, Array.getElem?_setIfInBounds, Array.size_setIfInBounds, Array.size_append]
  by_cases e : i = j
  · subst e; simp [hi]
    omega
  · simp [e]

theorem wpAny_pre {m n k : Nat} (hsz : ops.size = m + n)
    (hpre : ∀ i, i < m → ∃ o, ops[i]? = some o ∧ o.guard = none ∧ ∀ e ∈ o.after, Region.binds md e = true → e.on < i)
    (hall : ∀ j, k ≤ j → j < m → ∃ i, j < i ∧ i ≤ m ∧ waits md ops i j = true)
    (hbeh : ∀ i, m < i → i < m + n → waits md ops i m = true) (Q' : Act → Prop)
    (hQ : ∀ a, Q' a → ∀ f w, C w → wpAny P md ops Q (f + n) (Array.replicate m true ++ Array.replicate n false) a w) :
    ∀ (fuel : Nat) (L : Array Bool) (a : Act) (w : World), L.size = m → (∀ j, j < k → j < m → L.getD j true = true) →
      (∀ i o, i < m → ops[i]? = some o → L.getD i true = true → ∀ e ∈ o.after, Region.binds md e = true → L.getD e.on false = true) →
      C w → wpAnyQ P md (ops.extract 0 m) C Q' fuel L a → wpAny P md ops Q (fuel + n) (L ++ Array.replicate n false) a w := by
  have hex : ∀ i, i < m → (ops.extract 0 m)[i]? = ops[i]? := fun i hi => by
    rw [Array.getElem?_extract]; simp
    intro h; omega
  have hpr : ∀ (L : Array Bool) (i : Nat), L.size = m → i < m → (i ∈ Region.ready md (ops.extract 0 m) L ↔ i ∈ Region.ready md ops (L ++ Array.replicate n false)) := by
    intro L i hs hi
    obtain ⟨o, ho, hg, hd⟩ := hpre i hi
    rw [mem_ready, mem_ready, hex i hi, ho, getD_lo _ (by omega)]
    constructor
    · rintro ⟨h1, o', e', h2⟩
      cases e'
      exact ⟨h1, o, rfl, fun e he hb => by rw [getD_lo _ (by have := hd e he hb; omega)]; exact h2 e he hb⟩
    · rintro ⟨h1, o', e', h2⟩
      cases e'
      refine ⟨h1, o, rfl, fun e he hb => ?_⟩
      have := h2 e he hb
      rwa [getD_lo _ (by have := hd e he hb; omega)] at this
  -- an operation that may come up while one of the first has not yet come up is one of the first
  have hlow : ∀ (L : Array Bool) (i : Nat), L.size = m → (∀ j, j < k → j < m → L.getD j true = true) → (∀ i o, i < m → ops[i]? = some o → L.getD i true = true → ∀ e ∈ o.after, Region.binds md e = true → L.getD e.on false = true) →
      (∃ j, j < m ∧ L.getD j true = false) → i ∈ Region.ready md ops (L ++ Array.replicate n false) → i < m := by
    intro L i hs hk hcl ⟨j, hj, hjf⟩ hi
    rcases Nat.lt_or_ge i m with h | h
    · exact h
    exfalso
    obtain ⟨hun, o, ho, hd⟩ := mem_ready.1 hi
    have hio : i < m + n := by rw [← hsz]; exact (Array.getElem?_eq_some_iff.1 ho).1
    have him : i = m := by
      rcases Nat.lt_or_ge m i with h' | h'
      · obtain ⟨o', ho', e, he, hb, hon⟩ := waits_spec (hbeh i h' hio)
        rw [ho] at ho'; cases ho'
        have := hd e he hb
        rw [hon, getD_hi _ (by omega) (by omega)] at this
        cases this
      · omega
    subst him
    have hdown : ∀ d j, i - 1 - d = j → j < i → L.getD j true = true := by
      intro d
      induction d using Nat.strongRecOn with
      | ind d ih =>
        intro j hdj hji
        rcases Nat.lt_or_ge j k with hjk | hjk
        · exact hk j hjk hji
        obtain ⟨c, hc1, hc2, hw⟩ := hall j hjk hji
        obtain ⟨o', ho', e, he, hb, hon⟩ := waits_spec hw
        rcases Nat.lt_or_ge c i with hci | hci
        · have h1 := ih (i - 1 - c) (by omega) c (by omega) hci
          have h2 := hcl c o' hci ho' h1 e he hb
          rw [hon] at h2
          rw [getD_any true false (by omega)]; exact h2
        · have : c = i := by omega
          subst this
          rw [ho] at ho'; cases ho'
          have h2 := hd e he hb
          rw [hon, getD_lo _ (by omega)] at h2
          rw [getD_any true false (by omega)]; exact h2
    have := hdown (i - 1 - j) j (by omega) hj
    rw [this] at hjf; cases hjf
  -- one of the first that has not come up yet: one of them may come up
  have hsome : ∀ (L : Array Bool), L.size = m → (∃ j, j < m ∧ L.getD j true = false) → ∃ i, i < m ∧ i ∈ Region.ready md (ops.extract 0 m) L := by
    intro L hs ⟨j, hj, hjf⟩
    induction j using Nat.strongRecOn with
    | ind j ih =>
      obtain ⟨o, ho, hg, hd⟩ := hpre j hj
      by_cases hq : ∀ e ∈ o.after, Region.binds md e = true → L.getD e.on false = true
      · exact ⟨j, hj, mem_ready.2 ⟨hjf, o, by rw [hex j hj]; exact ho, hq⟩⟩
      · simp only [Classical.not_forall] at hq
        obtain ⟨e, he, hb, hn⟩ := hq
        have hlt := hd e he hb
        refine ih e.on hlt (by omega) ?_
        rw [getD_any true false (by omega)]
        simpa using hn
  intro fuel
  induction fuel with
  | zero =>
    intro L a w hs hk hcl hC h
    have hal : ∀ j, j < m → L.getD j true = true := by
      intro j hj
      cases hv : L.getD j true with
      | true => rfl
      | false =>
        obtain ⟨i, _, hi⟩ := hsome L hs ⟨j, hj, hv⟩
        rw [h.1] at hi; cases hi
    rw [all_true hs hal]
    exact hQ a h.2 0 w hC
  | succ fuel ih =>
    intro L a w hs hk hcl hC h
    by_cases hal : ∀ j, j < m → L.getD j true = true
    · rw [all_true hs hal]
      refine hQ a (h.1 ?_) (fuel + 1) w hC
      apply List.eq_nil_iff_forall_not_mem.2
      intro i hi
      obtain ⟨hun, o, ho, _⟩ := mem_ready.1 hi
      have him : i < m := by
        have := (Array.getElem?_eq_some_iff.1 ho).1
        simp at this; omega
      rw [hal i him] at hun; cases hun
    · have hex2 : ∃ j, j < m ∧ L.getD j true = false := by
        simp only [Classical.not_forall] at hal
        obtain ⟨j, hj, hn⟩ := hal
        exact ⟨j, hj, by simpa using hn⟩
      rw [Nat.add_right_comm]
      refine ⟨fun h0 => ?_, fun i hi => ?_⟩
      · obtain ⟨i, him, hi⟩ := hsome L hs hex2
        rw [hpr L i hs him, h0] at hi; cases hi
      · have him := hlow L i hs hk hcl hex2 hi
        have hip := (hpr L i hs him).2 hi
        have hq := h.2 i hip
        obtain ⟨o, ho, hg, hd⟩ := hpre i him
        obtain ⟨hun, o', ho', hdd⟩ := mem_ready.1 hi
        rw [ho] at ho'; cases ho'
        unfold qOp at hq
        unfold wpOp
        rw [hex i him, ho] at hq
        rw [ho]
        have hw1 : ∀ y, Region.wanted o y = true := fun y => by simp [Region.wanted, hg]
        simp only [hw1, if_true] at hq ⊢
        refine .inl (Oper.wp_of_quiet hC (fun a' w' hw' hK => ?_) hq)
        rw [set_lo (by omega)]
        refine ih _ a' w' (by simpa using hs) (fun j hj hjm => ?_) (fun c oc hc hoc hct e he hb => ?_) hw' hK
        · by_cases hij : i = j
          · subst hij; simp [hs, him]
          · rw [getD_set_ne true hij]; exact hk j hj hjm
        · by_cases hie : i = e.on
          · rw [← hie]; simp [hs, him]
          · rw [getD_set_ne false hie]
            by_cases hic : i = c
            · subst hic
              rw [ho] at hoc; cases hoc
              have := hdd e he hb
              rwa [getD_lo _ (by have := hd e he hb; omega)] at this
            · rw [getD_set_ne true hic] at hct
              exact hcl c oc hc hoc hct e he hb

/-- **the first m operations (the first k of them have come up) by one walk in the order of the text, then the others** -/
theorem wpAny_quiet_then (k m n : Nat) {fuel : Nat} {listed : Array Bool} {a : Act} {w : World} (l : List Oper) (hB : thenB md ops k m n = true) (hl : l = (ops.toList.take m).drop k) (hf : fuel = (m - k) + n)
    (hL : listed = (Array.replicate k true ++ Array.replicate (m - k) false) ++ Array.replicate n false) (hC : C w)
    (h : wpQuiet P (ops.extract 0 m) C (fun a' => ∀ f w', C w' → wpAny P md ops Q (f + n) (Array.replicate m true ++ Array.replicate n false) a' w') l a) : wpAny P md ops Q fuel listed a w := by
  simp only [thenB, Bool.and_eq_true, beq_iff_eq, decide_eq_true_eq] at hB
  obtain ⟨⟨⟨⟨⟨⟨hsz, hns⟩, hlex⟩, hpre⟩, hall⟩, hbeh⟩, hkm⟩ := hB
  subst hf hL
  have hll : l.length = m - k := by rw [hl]; simp; omega
  refine wpAny_pre (k := k) hsz (fun i hi => ?_) (fun j hj hjm => ?_) (fun i hi hin => ?_) _ (fun a h => h) (m - k) _ a w (by simp; omega) (fun j hj hjm => ?_) (fun i o hi ho ht e he hb => ?_) hC ?_
  · have := List.all_eq_true.1 hpre i (List.mem_range.2 hi)
    cases ho : ops[i]? with
    | none => simp [ho] at this
    | some o =>
      simp only [ho, Bool.and_eq_true] at this
      refine ⟨o, rfl, by simpa using this.1, fun e he hb => ?_⟩
      have h2 := Array.all_eq_true_iff_forall_mem.1 this.2 e he
      simpa [hb] using h2
  · have := List.all_eq_true.1 hall j (List.mem_range.2 hjm)
    simp only [Bool.or_eq_true, decide_eq_true_eq] at this
    rcases this with h | h
    · omega
    obtain ⟨i, hi, h2⟩ := List.any_eq_true.1 h
    simp only [Bool.and_eq_true, decide_eq_true_eq] at h2
    exact ⟨i, h2.1, by have := List.mem_range.1 hi; omega, h2.2⟩
  · have := List.all_eq_true.1 hbeh i (List.mem_range.2 hin)
    simp only [Bool.or_eq_true, decide_eq_true_eq] at this
    rcases this with h | h
    · omega
    · exact h
  · simp [Array.getElem?_append, hj]
  · have hik : i < k := by
      rcases Nat.lt_or_ge i k with h | h
      · exact h
      · simp [Array.getElem?_append, Nat.not_lt.2 h, show i - k < m - k by omega] at ht
    have := List.all_eq_true.1 hpre i (List.mem_range.2 hi)
    simp only [ho, Bool.and_eq_true] at this
    have h2 := Array.all_eq_true_iff_forall_mem.1 this.2 e he
    have h3 : e.on < i := by simpa [hb] using h2
    simp [Array.getElem?_append, show e.on < k by omega]
  · have := wpAnyQ_lex (P := P) (C := C) (md := md) hns l k (Array.replicate k true ++ Array.replicate (m - k) false) a (fun j => ?_) (by rw [hll]; exact hlex) h
    · rwa [hll] at this
    · rw [hl, List.getElem?_drop, Array.getElem?_extract]
      by_cases hj : k + j < m
      · rw [List.getElem?_take_of_lt hj]; simp
        intro h; omega
      · rw [List.getElem?_take_eq_none (by omega)]; simp; omega
end
end Go.Proofs.YtbkaecjkgjkheaaGreatDoor

/- One law a kind of operation, in a region that draws its order: a call, a new array, a copy, a store; and, in a class of worlds, the address of an array's element, a slice of an array. No claim of its own. -/
namespace Go.Proofs.YtbkaecjkgjkheaaGreatDoor
open Go.RowKit
set_option maxRecDepth 20000

theorem OwnN.arG {B : Nat} {w : World} {g n : Nat} {xs : List Int} (h : OwnN B w g n xs) : Ar w g 0 .u8 xs := Ar.mk fun i hi => by
  have hl := h.1
  rw [Nat.zero_add]
  exact ⟨h.cell (by omega), h.free i⟩
/-- bytes in a row, as a slice of just them -/
theorem Ar.bytG {w : World} {b p : Nat} {xs : List Int} (h : Ar w b p .u8 xs) (ha : AllB xs) (n c : Nat) (hn : xs.length = n) (hc : n ≤ c) (hm : c ≤ 9223372036854775807) : Byt w (.slice (some ⟨b, p, none⟩) n c) xs :=
  ⟨some ⟨b, p, none⟩, c, by rw [hn], by omega, hm, ha, (by intro h; cases h), fun _ => ⟨b, p, rfl, fun t ht => h.cell t ht⟩⟩
/-- a part of a row -/
theorem Ar.subG {w : World} {b o : Nat} {k : IntKind} {xs : List Int} (h : Ar w b o k xs) (s : Nat) (ys : List Int) (hl : s + ys.length ≤ xs.length) (hg : ∀ t, t < ys.length → gb ys t = gb xs (s + t)) : Ar w b (o + s) k ys := Ar.mk fun i hi => by
  rw [Nat.add_assoc, hg i hi]
  exact ⟨h.cell (s + i) (by omega), h.free (s + i) (by omega)⟩

theorem run_copyG (w : World) (b p dl dc : Nat) (ao : Option Addr) (ys : List Int) (cap : Nat) (ty : TypeId) (h5 : 0 < ys.length → ∃ b off, ao = some ⟨b, off, none⟩ ∧ ∀ t, t < ys.length → w.cell? ⟨b, off + t, none⟩ = some (.int .u8 (gb ys t))) (ht : w.there b p (min ys.length dl)) :
    (Builtin.copy_ #[22, 22] ty #[.slice (some ⟨b, p, none⟩) dl dc, .slice ao ys.length cap]).run Tryz.prog w = .ok (.int .i64 ((min ys.length dl : Nat) : Int)) (w.setCells b p ((ys.take dl).map (Value.int .u8))) := by
  obtain ⟨i0, hi, hz0, hz1, hz2⟩ := info_parts info_u8
  have hs : (Tryz.prog.info? 5).map (·.size) = some 1 := by rw [hi]; simp [hz1]
  by_cases hz : min ys.length dl = 0
  · have := run_copy_none (P := Tryz.prog) w 22 22 ty 5 (some ⟨b, p, none⟩) ao dl dc ys.length cap Tryz.underlying22 hs hz
    rw [this, hz]
    have : ys.take dl = [] := by
      rcases Nat.eq_zero_or_pos dl with h | h
      · subst h; simp
      · have : ys = [] := List.eq_nil_of_length_eq_zero (by omega)
        subst this; simp
    rw [this]; rfl
  · obtain ⟨b', off, rfl, hc⟩ := h5 (by omega)
    have hlen : ((ys.take dl).map (Value.int .u8)).length = min ys.length dl := by simp; omega
    have := run_copy_cells (P := Tryz.prog) w 22 22 ty 5 b p dl dc ⟨b', off, none⟩ ys.length cap ((ys.take dl).map (Value.int .u8)) Tryz.underlying22 hs hlen (fun j u hj => by
      have hj' : j < min ys.length dl := by rw [← hlen]; exact (List.getElem?_eq_some_iff.1 hj).1
      rw [Addr.add_mid, hc j (by omega), ← hj]
      simp [gb, List.getD, show j < dl by omega, show j < ys.length by omega]) (fun j hj => (ht j (by rw [← hlen]; exact hj)).1) (fun j hj => (ht j (by rw [← hlen]; exact hj)).2) (fun u hu => by
      simp only [List.mem_map] at hu
      obtain ⟨x, _, rfl⟩ := hu
      rfl)
    rw [this, hlen]; rfl

/-- as many cells are there -/
theorem thereG {w : World} {b : Nat} {k : IntKind} {xs : List Int} (h : Ar w b 0 k xs) (p n : Nat) (hl : p + n ≤ xs.length) : w.there b p n := fun j hj => by
  have := h.2 (p + j) (by omega)
  rwa [Nat.zero_add] at this
theorem Ar.layG {w : World} {b : Nat} {xs : List Int} (h : Ar w b 0 .u8 xs) (p : Nat) (ys : List Int) (hl : p + ys.length ≤ xs.length) : Ar (w.setCells b p (ys.map (Value.int .u8))) b 0 .u8 (laid xs p ys) := by
  have := h.lay p ys hl
  rwa [Nat.zero_add] at this

section
variable {ops : Array Oper} {o : Oper} {a : Act} {Q : Exit → Act → World → Prop} {K : Act → World → Prop} {E : Prop}

/-- 'copy(d, s)' of as many bytes as d has room for, into the middle of an array; the world gets a name -/
theorem step_copyG (w : World) (hg : o.guard = none) (d : Option Tmp) (hd : o.dst = d) (x y : Operand) (hop : o.op = .call { callee := .builtin .copy, args := #[x, y], argTypes := #[22, 22] })
    (b p n dc : Nat) (v : Value) (xs ys : List Int) (hx : a.eval x = .slice (some ⟨b, p, none⟩) n dc) (hy : a.eval y = v) (hb : Byt w v ys) (hA : Ar w b 0 .u8 xs) (hn : ys.length = n) (hl : p + n ≤ xs.length)
    (hK : ∀ w', Ar w' b 0 .u8 (laid xs p ys) → Below b w w' → K (a.put d (.int .i64 (n : Int))) w') :
    if Region.wanted o (yielded ops a.tmps) = true then Oper.wp Tryz.prog o a w K Q else E := by
  have hw : Region.wanted o (yielded ops a.tmps) = true := by simp [Region.wanted, hg]
  rw [if_pos hw]
  subst hd
  obtain ⟨ao, cap, rfl, h1, h2, h3, h4, h5⟩ := hb
  have e : min ys.length n = n := by omega
  have hrun := run_copyG w b p n dc ao ys cap o.type h5 (by rw [e]; exact thereG hA p n hl)
  rw [e, List.take_of_length_le (by omega)] at hrun
  unfold Oper.wp execOp
  simp only [hop, resolve, invoke, builtin, Sem.run_bind, Sem.run_pure, Result.andThen_ok, List.map_toArray, List.map_cons, List.map_nil, hx, hy, hrun]
  exact hK _ (hA.layG p ys (by omega)) (below_cells _ (Nat.le_refl _) _ _ (Below.refl _ _))

/-- a call -/
theorem step_callG (w : World) (hg : o.guard = none) (d : Option Tmp) (hd : o.dst = d) (f : FuncId) (args : Array Operand) (ats : Array TypeId) (hop : o.op = .call { callee := .value (.func f), args := args, argTypes := ats })
    (hcf : ∀ (q : Array Value) (w : World), (callFunc f q).run Tryz.prog w = .ok (.enter f q) w) (vs : Array Value) (hx : args.map a.eval = vs) (R : Value → World → Prop) (hc : Calls Tryz.prog f vs w fun e w' => ∃ v, e = .returned v ∧ R v w') (hK : ∀ v w', R v w' → K (a.put d v) w') : if Region.wanted o (yielded ops a.tmps) = true then Oper.wp Tryz.prog o a w K Q else E := by
  have hw : Region.wanted o (yielded ops a.tmps) = true := by simp [Region.wanted, hg]
  rw [if_pos hw]
  subst hd
  subst hx
  unfold Oper.wp
  simp only [execOp, hop]
  go_simp
  refine hc.mono ?_
  rintro e w' ⟨v, rfl, hr⟩
  exact hK v w' hr
/-- a call that hands back one value -/
theorem step_callD (w : World) (hg : o.guard = none) (d : Option Tmp) (hd : o.dst = d) (f : FuncId) (args : Array Operand) (ats : Array TypeId) (hop : o.op = .call { callee := .value (.func f), args := args, argTypes := ats })
    (hcf : ∀ (q : Array Value) (w : World), (callFunc f q).run Tryz.prog w = .ok (.enter f q) w) (vs : Array Value) (hx : args.map a.eval = vs) (v : Value) (R : World → Prop) (hc : Calls Tryz.prog f vs w fun e w' => e = .returned v ∧ R w') (hK : ∀ w', R w' → K (a.put d v) w') : if Region.wanted o (yielded ops a.tmps) = true then Oper.wp Tryz.prog o a w K Q else E := by
  have hw : Region.wanted o (yielded ops a.tmps) = true := by simp [Region.wanted, hg]
  rw [if_pos hw]
  subst hd
  subst hx
  unfold Oper.wp
  simp only [execOp, hop]
  go_simp
  refine hc.mono ?_
  rintro e w' ⟨rfl, hr⟩
  exact hK w' hr
/-- a new array of noughts -/
theorem step_newG (w : World) (hg : o.guard = none) (d : Option Tmp) (hd : o.dst = d) (t : TypeId) (hop : o.op = Op.alloc t) (k : IntKind) (xs : List Int) (hz : (Tryz.prog.info? t).map (fun i => (i.zero, i.size)) = some (some (.agg (ints k xs)), xs.length))
    (hK : ∀ w', Ar w' w.heap.size 0 k xs → Below w.heap.size w w' → w.heap.size < w'.heap.size → K (a.put d (.pointer (some ⟨w.heap.size, 0, none⟩))) w') :
    if Region.wanted o (yielded ops a.tmps) = true then Oper.wp Tryz.prog o a w K Q else E := by
  have hw : Region.wanted o (yielded ops a.tmps) = true := by simp [Region.wanted, hg]
  rw [if_pos hw]
  subst hd
  have hz' := (zero_of_info hz).1
  unfold Oper.wp
  simp [execOp, hop, Instr.alloc, hz', newVar, newRow, Value.cells, Result.andThen]
  exact hK _ (Ar.new w t k xs) ((Below.refl _ _).alloc (Nat.le_refl _) _) (by simp)
/-- a whole array is written -/
theorem step_storeG (w : World) (hg : o.guard = none) (d : Option Tmp) (hd : o.dst = d) (x y : Operand) (t : TypeId) (hop : o.op = Op.store t x y) (k : IntKind) (xs ys : List Int) (b : Nat) (hx : a.eval x = .pointer (some ⟨b, 0, none⟩)) (hy : a.eval y = .agg (ints k ys))
    (hA : Ar w b 0 k xs) (n : Nat) (hi : (Tryz.prog.info? t).map (·.size) = some n) (hl : xs.length = n) (hn : ys.length = n)
    (hK : ∀ w', Ar w' b 0 k ys → Below b w w' → K (a.put d undef) w') :
    if Region.wanted o (yielded ops a.tmps) = true then Oper.wp Tryz.prog o a w K Q else E := by
  have hw : Region.wanted o (yielded ops a.tmps) = true := by simp [Region.wanted, hg]
  rw [if_pos hw]
  subst hd
  have ht : w.there b 0 ys.length := by rw [hn, ← hl]; exact hA.2
  refine wp_store_mid t x y hop b 0 (ints k ys) hx hy (by rw [ints_size]; exact ht) (by rw [hi, ints_size, hn]) (ints_one k ys) ?_
  rw [ints_toList]
  exact hK _ (Ar.whole ht) (below_cells _ (Nat.le_refl _) _ _ (Below.refl _ _))
/-- a value is laid in a slot -/
theorem step_movG (w : World) (hg : o.guard = none) (d : Option Tmp) (hd : o.dst = d) (x : Operand) (hop : o.op = Op.assign x) (v : Value) (hx : a.eval x = v)
    (hK : K (a.put d v) w) : if Region.wanted o (yielded ops a.tmps) = true then Oper.wp Tryz.prog o a w K Q else E := by
  have hw : Region.wanted o (yielded ops a.tmps) = true := by simp [Region.wanted, hg]
  rw [if_pos hw]
  subst hd
  unfold Oper.wp execOp
  simp only [hop, hx, Sem.run_pure]
  exact hK
end

/-- an operation that is taken first, its slot written out -/
theorem take_lawG {ops : Array Oper} {Q : Exit → Act → World → Prop} (i : Nat) {oi : Oper} (d : Option Tmp) (v : Value) {fuel : Nat} {listed : Array Bool} {a : Act} {w : World} (hi : ops[i]? = some oi) (hd : oi.dst = d)
    (hs : Region.noSelect ops = true) (hf : Region.free .any ops listed i = true) (hr : (Region.ready .any ops listed).contains i = true)
    (hQ : ∀ c a w, Q (.panic c) (a.put d v) w → Q (.panic c) a w) (hy : Yields Tryz.prog ops oi v a)
    (h : wpAny Tryz.prog .any ops Q fuel (listed.setIfInBounds i true) (a.put d v) w) : wpAny Tryz.prog .any ops Q (fuel + 1) listed a w := by
  subst hd
  exact wpAny_take hi hs hf hr hQ hy h
/-- the same of one that reads, in a class of worlds -/
theorem take_lawH {ops : Array Oper} {Q : Exit → Act → World → Prop} {S : World → Prop} (i : Nat) {oi : Oper} (d : Option Tmp) (v : Value) {fuel : Nat} {listed : Array Bool} {a : Act} {w : World} (hi : ops[i]? = some oi) (hd : oi.dst = d)
    (hs : Region.noSelect ops = true) (hf : Region.free .any ops listed i = true) (hr : (Region.ready .any ops listed).contains i = true)
    (hQ : ∀ c a w, Q (.panic c) (a.put d v) w → Q (.panic c) a w) (hy : YieldsIf Tryz.prog ops S oi v a) (hS : S w)
    (h : wpAnyH Tryz.prog .any ops Q S fuel (listed.setIfInBounds i true) (a.put d v) w) : wpAnyH Tryz.prog .any ops Q S (fuel + 1) listed a w := by
  subst hd
  exact wpAnyH_take hi hs hf hr hQ hy hS h

section
variable {ops : Array Oper} {C : World → Prop} {K : Act → Prop} {o : Oper} {a : Act}
/-- the address of an array's element -/
theorem q_idxA (hw : Region.wanted o (yielded ops a.tmps) = true) (d : Option Tmp) (hd : o.dst = d) (x y : Operand) (t : TypeId) (hop : o.op = Op.indexAddr t x y) (b p q n s i : Nat) (hu : Tryz.prog.underlying t = some (.array (Tryz.prog.arrayLen t) (Tryz.prog.elem t))) (hn : Tryz.prog.arrayLen t = n) (hs : (Tryz.prog.info? (Tryz.prog.elem t)).map (·.size) = some s)
    (hx : a.eval x = .pointer (some ⟨b, p, none⟩)) (hy : a.eval y = .int .i64 (i : Int)) (hi : i < n) (hq : q = p + i * s)
    (hK : K (a.put d (.pointer (some ⟨b, q, none⟩)))) :
    if Region.wanted o (yielded ops a.tmps) = true then o.quiet Tryz.prog a C K else K (a.put o.dst undef) := by
  refine q_val hw d hd _ (fun w _ => ?_) hK
  subst hq
  have hsz : (sizeOf (Tryz.prog.elem t)).run Tryz.prog w = .ok s w := by
    cases hqq : Tryz.prog.info? (Tryz.prog.elem t) with
    | none => simp [hqq] at hs
    | some i0 =>
      have : i0.size = s := by simpa [hqq] using hs
      simp [sizeOf, typeInfo, hqq, this]
  have hr : (Instr.indexAt t (.pointer (some ⟨b, p, none⟩)) (.int .i64 (i : Int))).run Tryz.prog w = .ok (.pointer (some ⟨b, p + i * s, none⟩)) w := by
    rw [run_indexAt_array _ _ _ _ _ hu, if_pos (by omega), hsz]
    simp [Result.andThen, Addr.add]
  unfold execOp
  simp only [hop, hx, hy, Sem.run_bind, Sem.run_pure, Result.andThen_ok, hr]
/-- 'x[:]' of an array -/
theorem q_allA (hw : Region.wanted o (yielded ops a.tmps) = true) (d : Option Tmp) (hd : o.dst = d) (x : Operand) (t : TypeId) (hop : o.op = Op.slice t x none none none) (b p n : Nat) (hu : Tryz.prog.underlying t = some (.array (Tryz.prog.arrayLen t) (Tryz.prog.elem t))) (hn : Tryz.prog.arrayLen t = n) (hs : (Tryz.prog.info? (Tryz.prog.elem t)).map (·.size) = some 1)
    (hx : a.eval x = .pointer (some ⟨b, p, none⟩))
    (hK : K (a.put d (.slice (some ⟨b, p, none⟩) n n))) :
    if Region.wanted o (yielded ops a.tmps) = true then o.quiet Tryz.prog a C K else K (a.put o.dst undef) := by
  refine q_val hw d hd _ (fun w _ => ?_) hK
  have hsz : (sizeOf (Tryz.prog.elem t)).run Tryz.prog w = .ok 1 w := by
    cases hqq : Tryz.prog.info? (Tryz.prog.elem t) with
    | none => simp [hqq] at hs
    | some i0 =>
      have : i0.size = 1 := by simpa [hqq] using hs
      simp [sizeOf, typeInfo, hqq, this]
  have hrun := run_sliceAt_array_all (P := Tryz.prog) w t ⟨b, p, none⟩ hu
  rw [hsz, hn] at hrun
  have hv : slicedAt ⟨b, p, none⟩ 0 n n 1 = .slice (some ⟨b, p, none⟩) n n := by
    unfold slicedAt
    rw [Nat.zero_mul, Addr.add_mid]
    simp
  simp only [Result.andThen] at hrun
  rw [hv] at hrun
  unfold execOp
  simp only [hop, hx, Option.map, Sem.run_bind, Sem.run_pure, Result.andThen_ok, hrun]
/-- a whole array is read, in the middle of a block -/
theorem q_loadA (hw : Region.wanted o (yielded ops a.tmps) = true) (d : Option Tmp) (hd : o.dst = d) (x : Operand) (t : TypeId) (hop : o.op = Op.load t x) (k : IntKind) (xs : List Int) (b p : Nat) (hx : a.eval x = .pointer (some ⟨b, p, none⟩)) (h : ∀ w, C w → Ar w b p k xs)
    (m n : Nat) (e : TypeId) (hu : Tryz.prog.underlying t = some (.array m e)) (hi : (Tryz.prog.info? t).map (·.size) = some n) (hn : xs.length = n) (hK : K (a.put d (.agg (ints k xs)))) :
    if Region.wanted o (yielded ops a.tmps) = true then o.quiet Tryz.prog a C K else K (a.put o.dst undef) := by
  refine q_val hw d hd _ (fun w hC => ?_) hK
  have := run_loadVar_mid (P := Tryz.prog) w b p t _ _ (h w hC).1 hu rfl (by rw [hi]; simp [hn])
  unfold execOp
  simp only [hop, hx, Instr.loadAt, Instr.sureAddr, Sem.run_bind, Sem.run_pure, Result.andThen_ok, this]
  rfl
end

section
variable {ops : Array Oper} {rest : List Oper} {o : Oper} {a : Act} {Q : Exit → Act → World → Prop}
/-- a whole array is read, of whatever elements -/
theorem load_lawN (w : World) (hg : o.guard = none) (x : Operand) (t : TypeId) (hop : o.op = Op.load t x) (k : IntKind) (xs : List Int) (b p : Nat) (hx : a.eval x = .pointer (some ⟨b, p, none⟩)) (h : Ar w b p k xs)
    (m n : Nat) (e : TypeId) (hu : Tryz.prog.underlying t = some (.array m e)) (hi : (Tryz.prog.info? t).map (·.size) = some n) (hn : xs.length = n)
    (hK : wpList Tryz.prog ops Q rest (a.put o.dst (.agg (ints k xs))) w) :
    wpList Tryz.prog ops Q (o :: rest) a w :=
  wpList_load_mid hg t x hop b p hx _ _ h.1 hu rfl (by rw [hi]; simp [hn]) hK
end
theorem results_arN {fn : Func} {p : Tmp} {ty : TypeId} (h : fn.results = #[.cell p ty]) (tmps : Array Value) (w : World) (b o : Nat) (k : IntKind) (xs : List Int) (hp : tmps.getD p undef = .pointer (some ⟨b, o, none⟩)) (ha : Ar w b o k xs)
    (m n : Nat) (e : TypeId) (hu : Tryz.prog.underlying ty = some (.array m e)) (hi : (Tryz.prog.info? ty).map (·.size) = some n) (hn : xs.length = n) : (results fn tmps).run Tryz.prog w = .ok (.agg (ints k xs)) w := by
  have hp' : tmps[p]?.getD undef = .pointer (some ⟨b, o, none⟩) := by simpa using hp
  have hl := run_loadVar_mid (P := Tryz.prog) w b o ty _ _ ha.1 hu rfl (by rw [hi]; simp [hn])
  simp [results, h, hp', asAddr, hl, ints]
end Go.Proofs.YtbkaecjkgjkheaaGreatDoor

