/- What twice's doubled and plus answer. No claim of its own. -/
import Derived.Test.YtjojimffolagmaaTPoly
namespace Go.Proofs.Ytjojimffolagmaa
open Go.RowKit

/-! ### a byte, doubled, with the top bit of the one ahead -/
def dN (b c : Nat) : Nat := (b * 2 % 256) ||| (c / 128)
theorem dN_bit0 (b c : Nat) : (dN b c).testBit 0 = c.testBit 7 := by
  unfold dN
  rw [Nat.testBit_or, show c / 128 = c / 2 ^ 7 from rfl, Nat.testBit_div_two_pow, show b * 2 % 256 = b * 2 % 2 ^ 8 from rfl, Nat.testBit_mod_two_pow, Nat.mul_comm, Nat.testBit_zero]
  simp
theorem dN_bit (b c j : Nat) (hc : c < 256) (hj : j < 7) : (dN b c).testBit (j + 1) = b.testBit j := by
  unfold dN
  have : c / 128 < 2 ^ (j + 1) := Nat.lt_of_lt_of_le (show c / 128 < 2 ^ 1 by omega) (Nat.pow_le_pow_right (by omega) (by omega))
  rw [Nat.testBit_or, Nat.testBit_lt_two_pow this, show b * 2 % 256 = b * 2 % 2 ^ 8 from rfl, Nat.testBit_mod_two_pow, Nat.mul_comm, two_bit]
  simp [show j + 1 < 8 by omega]
theorem dN_lt (b c : Nat) (hc : c < 256) : dN b c < 256 := Nat.or_lt_two_pow (n := 8) (by omega) (by omega)
/-- the byte ahead of place i -/
def ah (xs : List Int) (i : Nat) : Int := if i = 0 then 0 else gb xs (i - 1)
theorem ah_bd (xs : List Int) (h : AllB xs) (i : Nat) : 0 ≤ ah xs i ∧ ah xs i ≤ 255 := by
  unfold ah
  split
  · omega
  · exact h _
def dv (xs : List Int) (i : Nat) : Int := ((dN (gb xs i).toNat (ah xs i).toNat : Nat) : Int)
theorem or_dv (xs : List Int) (h : AllB xs) (i : Nat) : bits .or .u8 (gb xs i * 2 % 256) (ah xs i / 128) = dv xs i := by
  have h1 := h i
  have h2 := ah_bd xs h i
  rw [u8_or _ _ (by omega) (by omega) (by omega) (by omega)]
  unfold dv dN
  rw [show (gb xs i * 2 % 256).toNat = (gb xs i).toNat * 2 % 256 by omega, show (ah xs i / 128).toNat = (ah xs i).toNat / 128 by omega]
/-- the bits of a number that is doubled -/
theorem td_bit0 (n : Nat) : (td n).testBit 0 = n.testBit 127 := by
  unfold td
  rw [Nat.testBit_xor, Nat.testBit_mod_two_pow]
  cases n.testBit 127 <;> simp [sel]
theorem td_bit (n t : Nat) (h : t < 127) : (td n).testBit (t + 1) = (n.testBit t ^^ (sel (n.testBit 127) 135).testBit (t + 1)) := by
  unfold td
  rw [Nat.testBit_xor, Nat.testBit_mod_two_pow, two_bit]
  simp [show t + 1 < 128 by omega]
theorem sel_low (c : Bool) (t : Nat) (h : 8 ≤ t) : (sel c 135).testBit t = false :=
  Nat.testBit_lt_two_pow (Nat.lt_of_lt_of_le (sel_lt c 135 256 (by decide)) (Nat.pow_le_pow_right (n := 2) (by omega) (show 8 ≤ t from h)))
theorem byte_eq (n i m : Nat) (hm : m < 256) (h : ∀ j, j < 8 → n.testBit (8 * i + j) = m.testBit j) : n / 2 ^ (8 * i) % 2 ^ 8 = m := by
  apply Nat.eq_of_testBit_eq
  intro j
  by_cases hj : j < 8
  · rw [part_bit n i j hj, h j hj]
  · rw [Nat.testBit_mod_two_pow, Nat.testBit_lt_two_pow (Nat.lt_of_lt_of_le (show m < 2 ^ 8 by omega) (Nat.pow_le_pow_right (by omega) (by omega)))]
    simp [hj]
theorem td_byte (xs : List Int) (hx : B16 xs) (i : Nat) (h1 : 1 ≤ i) (hi : i < 16) : gb (bt16 (td (nm16 xs))) i = dv xs i := by
  rw [bt16_gb _ _ hi]
  unfold dv
  have hc := ah_bd xs hx.2 i
  refine congrArg (fun n : Nat => (n : Int)) (byte_eq _ i _ (dN_lt _ _ (by omega)) fun j hj => ?_)
  obtain ⟨i, rfl⟩ : ∃ k, i = k + 1 := ⟨i - 1, by omega⟩
  have ha : ah xs (i + 1) = gb xs i := by simp [ah]
  cases j with
  | zero =>
    rw [dN_bit0 _ _, show 8 * (i + 1) + 0 = 8 * i + 7 + 1 by omega, td_bit _ _ (by omega), nm_bit xs hx.2 i 7 (by omega) (by omega), sel_low _ _ (by omega), ha, Bool.xor_false]
  | succ j =>
    rw [dN_bit _ _ _ (by omega) (by omega), ← Nat.add_assoc, td_bit _ _ (by omega), nm_bit xs hx.2 (i + 1) j (by omega) (by omega), sel_low _ _ (by omega), Bool.xor_false]
theorem td_byte0 (xs : List Int) (hx : B16 xs) : gb (bt16 (td (nm16 xs))) 0 = xr (dv xs 0) (gb xs 15 / 128 * 135) := by
  rw [bt16_gb _ _ (by omega)]
  unfold xr
  have h15 := hx.2 15
  have h0 := hx.2 0
  have ht : (nm16 xs).testBit 127 = (gb xs 15).toNat.testBit 7 := nm_bit xs hx.2 15 7 (by omega) (by omega)
  have hs : (gb xs 15 / 128 * 135).toNat = sel ((gb xs 15).toNat.testBit 7) 135 := by
    have hb : (gb xs 15).toNat.testBit 7 = decide ((gb xs 15).toNat / 128 % 2 = 1) := by
      rw [Nat.testBit_eq_decide_div_mod_eq]
    rw [hb]
    by_cases c : 128 ≤ (gb xs 15).toNat
    · rw [decide_eq_true (by omega), show gb xs 15 / 128 = 1 by omega]; rfl
    · rw [decide_eq_false (by omega), show gb xs 15 / 128 = 0 by omega]; rfl
  rw [hs]
  have e0 : (dv xs 0).toNat = dN (gb xs 0).toNat 0 := by simp [dv, ah]
  rw [e0]
  have hd := dN_lt (gb xs 0).toNat 0 (by omega)
  refine congrArg (fun n : Nat => (n : Int)) (byte_eq _ 0 _ (Nat.xor_lt_two_pow (n := 8) hd (sel_lt _ _ _ (by decide))) fun j hj => ?_)
  rw [Nat.testBit_xor, Nat.mul_zero, Nat.zero_add]
  cases j with
  | zero =>
    rw [dN_bit0 _ _, td_bit0, ht, Nat.zero_testBit, Bool.false_xor]
    cases (gb xs 15).toNat.testBit 7 <;> rfl
  | succ j =>
    have := nm_bit xs hx.2 0 j (by omega) (by omega)
    rw [Nat.mul_zero, Nat.zero_add] at this
    rw [dN_bit _ _ _ (by omega) (by omega), td_bit _ _ (by omega), this, ht]
/-- the first k bytes, doubled -/
def prd (xs : List Int) (k : Nat) : List Int := (List.range 16).map fun t => if t < k then dv xs t else 0
theorem prd_len (xs : List Int) (k : Nat) : (prd xs k).length = 16 := by simp [prd]
theorem gb_prd (xs : List Int) (k t : Nat) (h : t < 16) : gb (prd xs k) t = if t < k then dv xs t else 0 := range_gbT _ _ _ h
theorem prd_zero (xs : List Int) : prd xs 0 = z16 := rfl
theorem prd_set (xs : List Int) (k : Nat) : (prd xs k).set k (dv xs k) = prd xs (k + 1) := ext_gb (by simp [prd]) fun t ht => by
  rw [List.length_set, prd_len] at ht
  rw [gb_setT _ _ _ _ (by rw [prd_len]; exact ht), gb_prd _ _ _ ht, gb_prd _ _ _ ht]
  by_cases e : k = t
  · subst e; simp
  · rw [if_neg e]
    by_cases h : t < k
    · rw [if_pos h, if_pos (by omega)]
    · rw [if_neg h, if_neg (by omega)]
theorem prd_end (xs : List Int) (hx : B16 xs) : (prd xs 16).set 0 (xr (dv xs 0) (gb xs 15 / 128 * 135)) = bt16 (td (nm16 xs)) := ext_gb (by rw [List.length_set, prd_len, bt16_len]) fun t ht => by
  rw [List.length_set, prd_len] at ht
  rw [gb_setT _ _ _ _ (by rw [prd_len]; exact ht), gb_prd _ _ _ ht]
  by_cases e : 0 = t
  · subst e; rw [if_pos rfl, td_byte0 xs hx]
  · rw [if_neg e, if_pos ht, td_byte xs hx t (by omega) ht]

set_option linter.unusedSimpArgs false in
set_option maxRecDepth 20000 in
set_option maxHeartbeats 4000000 in
theorem tdbl_any (xs : List Int) (w : World) (hx : B16 xs) :
    Calls Try.prog 20 #[.agg (ints .u8 xs)] w fun e w' => e = .returned (.agg (ints .u8 (bt16 (td (nm16 xs))))) ∧ Below w.heap.size w w' := by
  have HX : Hid (B16 xs) := hx
  have HE : Hid ((prd xs 16).set 0 (xr (dv xs 0) (gb xs 15 / 128 * 135)) = bt16 (td (nm16 xs)) ∧ (bt16 (td (nm16 xs))).length = 16) := ⟨prd_end xs hx, bt16_len _⟩
  generalize bt16 (td (nm16 xs)) = zs at *
  clear hx
  go_enter Try.func20, Try.ntmps20
  go_wp2_with (first
    | (have q2 := s2; refine new_lawF _ rfl 40 rfl .u8 z16 z_poly ?_; intro w3 A3 B3 s3; have HA3 : Hid (Ar w3 w2.heap.size 0 .u8 z16) := A3; clear A3)
    | (have q1 := s1; refine new_lawF _ rfl 40 rfl .u8 z16 z_poly ?_; intro w2 A2 B2 s2; have HA2 : Hid (Ar w2 w1.heap.size 0 .u8 z16) := A2; clear A2)
    | (refine box_lawF _ rfl (.tmp 0) 40 rfl .u8 xs rfl ?_; intro w1 A1 B1 s1; have HA1 : Hid (Ar w1 w.heap.size 0 .u8 xs) := A1; clear A1)
    | (refine load_law _ rfl (.tmp 1) 40 rfl .u8 xs w.heap.size 0 rfl ((HA1.out.below B2 s1).below B3 (by omega)) 16 5 Try.underlying40 i_poly HX.out.1 ?_))
  have D1 : Hid (Ar w3 w1.heap.size 0 .u8 z16) := HA2.out.below B3 s2
  have BW : Below w.heap.size w w3 := (B1.trans (B2.mono (by omega))).trans (B3.mono (by omega))
  have o3 : w2.heap.size < w3.heap.size := s3
  have o2 : w1.heap.size < w2.heap.size := s2
  have o1 : w.heap.size < w1.heap.size := s1
  generalize hg0 : w.heap.size = g0 at *
  generalize w2.heap.size = g2 at *
  generalize w1.heap.size = g1 at *
  go_loopw [4, 8] (fun c i wr => ∃ k : Nat, k ≤ 16 ∧ i = .int .i64 k ∧ c = .int .u8 (ah xs k / 128) ∧ Ar wr g2 0 .u8 (prd xs k) ∧ Ar wr g1 0 .u8 z16 ∧ Below g0 w wr) (fun _ i _ => 16 - (intOf i).toNat)
  case atStart => exact ⟨0, Nat.zero_le _, rfl, rfl, by rw [prd_zero]; exact HA3.out, D1.out, BW⟩
  case round =>
    obtain ⟨k, hk, rfl, rfl, hA, hR, hB⟩ := hrel
    obtain ⟨wa, rfl⟩ : ∃ wx, wx = wr := ⟨_, rfl⟩
    have k0 : (0 : Int) ≤ (k : Int) := by omega
    have q1 : IntKind.i64.wrap (k : Int) = k := by rw [IntKind.wrap_i64]; omega
    by_cases hlt : k < 16
    · have k1 : (k : Int) < 16 := by omega
      have c3 := hA.cell0 k (by rw [prd_len]; omega)
      have c4 := hA.free0 k (by rw [prd_len]; omega)
      have hz := or_dv xs HX.out.2 k
      have bx := HX.out.2 k
      have bc := ah_bd xs HX.out.2 k
      have HN : Hid (ah xs (k + 1) = gb xs k) := by show _ = _; simp [ah]
      have hA2 : Hid (Ar (wa.setCell ⟨g2, k, none⟩ (.int .u8 (dv xs k))) g2 0 .u8 (prd xs (k + 1))) := by
        have h := hA.set0 k (by rw [prd_len]; omega) (dv xs k)
        rw [prd_set] at h
        exact h
      have hR2 : Hid (Ar (wa.setCell ⟨g2, k, none⟩ (.int .u8 (dv xs k))) g1 0 .u8 z16) := hR.other (by show g1 ≠ g2; omega) _
      have hB2 : Hid (Below g0 w (wa.setCell ⟨g2, k, none⟩ (.int .u8 (dv xs k)))) := hB.setCell (by show g0 ≤ g2; omega) _
      clear hA hR hB
      have HG : Hid (gb xs k = gb xs k) := rfl
      obtain ⟨x, hx⟩ : ∃ x, x = gb xs k := ⟨_, rfl⟩
      have HGX : Hid (x = gb xs k) := hx
      rw [← hx] at hz bx HN
      clear hx HG
      generalize dv xs k = z at *
      generalize gb (prd xs k) k = y at *
      obtain ⟨c, hc⟩ : ∃ c, c = ah xs k := ⟨_, rfl⟩
      rw [← hc] at hz bc ⊢
      clear hc
      go_wp2_with (refine idx16 _ rfl (.tmp 7) (.tmp 8) rfl xs _ k rfl rfl rfl HX.out.1 hlt x HGX.out ?_)
      go_roundw
      case rel => exact ⟨k + 1, by omega, by go_num, by rw [HN.out], hA2.out, hR2.out, hB2.out⟩
      case measure => simp [intOf]; omega
    · have hk16 : k = 16 := by omega
      subst hk16
      have c3 := hA.cell0 0 (by rw [prd_len]; omega)
      have c4 := hA.free0 0 (by rw [prd_len]; omega)
      rw [gb_prd _ _ _ (by omega), if_pos (by omega)] at c3
      have b15 := HX.out.2 15
      have bd : 0 ≤ dv xs 0 ∧ dv xs 0 ≤ 255 := by
        have := dN_lt (gb xs 0).toNat (ah xs 0).toNat (by have := ah_bd xs HX.out.2 0; omega)
        unfold dv; omega
      have e16 : ah xs 16 = gb xs 15 := by simp [ah]
      rw [e16]
      have hc : gb xs 15 / 128 = 0 ∨ gb xs 15 / 128 = 1 := by omega
      have hxr := xr_of (dv xs 0) (gb xs 15 / 128 * 135) bd (by omega)
      have hA2 : Hid (Ar (wa.setCell ⟨g2, 0, none⟩ (.int .u8 (xr (dv xs 0) (gb xs 15 / 128 * 135)))) g2 0 .u8 zs) := by
        have h := hA.set0 0 (by rw [prd_len]; omega) (xr (dv xs 0) (gb xs 15 / 128 * 135))
        rw [HE.out.1] at h
        exact h
      have hR2 : Hid (Ar (wa.setCell ⟨g2, 0, none⟩ (.int .u8 (xr (dv xs 0) (gb xs 15 / 128 * 135)))) g1 0 .u8 z16) := hR.other (by show g1 ≠ g2; omega) _
      have hB2 : Hid (Below g0 w (wa.setCell ⟨g2, 0, none⟩ (.int .u8 (xr (dv xs 0) (gb xs 15 / 128 * 135))))) := hB.setCell (by show g0 ≤ g2; omega) _
      have HZL : Hid (zs.length = 16) := HE.out.2
      clear hA hR hB HE e16 b15
      generalize xr (dv xs 0) (gb xs 15 / 128 * 135) = z at *
      generalize dv xs 0 = d at *
      generalize gb xs 15 / 128 = c at *
      have hm : c * 135 % 256 = c * 135 := by omega
      go_wp2_with (first
        | (refine load_law _ rfl (.tmp 3) 40 rfl .u8 zs g2 0 rfl hA2.out 16 5 Try.underlying40 i_poly HZL.out ?_)
        | (refine store_lawF _ rfl (.tmp 2) (.tmp 27) 40 rfl .u8 z16 zs g1 rfl rfl hR2.out 16 i_poly z16_len HZL.out ?_; intro w7 A7 B7))
      refine bodyPost_ret (v := .agg (ints .u8 zs)) (results_ar rfl _ _ g1 0 .u8 zs rfl A7 16 5 Try.underlying40 i_poly HZL.out) rfl ⟨rfl, ?_⟩
      rw [hg0]
      exact hB2.out.trans (B7.mono (by omega))
end Go.Proofs.Ytjojimffolagmaa
