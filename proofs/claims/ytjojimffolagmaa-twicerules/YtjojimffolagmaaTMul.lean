/- What twice's plus and times (of polynomials) answer. No claim of its own. -/
import Derived.Test.YtjojimffolagmaaTDbl
namespace Go.Proofs.Ytjojimffolagmaa
open Go.RowKit

/-- the first n bytes are xored -/
def prx (xs ys : List Int) (n : Nat) : List Int := (List.range 16).map fun t => if t < n then xr (gb xs t) (gb ys t) else gb xs t
theorem prx_len (xs ys : List Int) (n : Nat) : (prx xs ys n).length = 16 := by simp [prx]
theorem gb_prx (xs ys : List Int) (n t : Nat) (h : t < 16) : gb (prx xs ys n) t = if t < n then xr (gb xs t) (gb ys t) else gb xs t := range_gbT _ _ _ h
theorem prx_zero (xs ys : List Int) (h : xs.length = 16) : prx xs ys 0 = xs := ext_gb (by rw [prx_len, h]) fun t ht => by
  rw [prx_len] at ht
  rw [gb_prx _ _ _ _ ht, if_neg (by omega)]
theorem prx_end (xs ys : List Int) (h : xs.length = 16) (h' : ys.length = 16) : prx xs ys 16 = xorl xs ys := ext_gb (by rw [prx_len, xorl_len _ _ (by omega), h]) fun t ht => by
  rw [prx_len] at ht
  rw [gb_prx _ _ _ _ ht, if_pos ht, xorl_gb _ _ (by omega) _ (by omega)]
theorem prx_set (xs ys : List Int) (n : Nat) : (prx xs ys n).set n (xr (gb xs n) (gb ys n)) = prx xs ys (n + 1) := ext_gb (by simp [prx]) fun t ht => by
  rw [List.length_set, prx_len] at ht
  rw [gb_setT _ _ _ _ (by rw [prx_len]; exact ht), gb_prx _ _ _ _ ht, gb_prx _ _ _ _ ht]
  by_cases e : n = t
  · subst e; simp
  · rw [if_neg e]
    by_cases h : t < n
    · rw [if_pos h, if_pos (by omega)]
    · rw [if_neg h, if_neg (by omega)]
theorem xor_bt (m n : Nat) (hm : m < 2 ^ 128) (hn : n < 2 ^ 128) : xorl (bt16 m) (bt16 n) = bt16 (m ^^^ n) := by
  have hl : (bt16 m).length = (bt16 n).length := by rw [bt16_len, bt16_len]
  refine nm_only _ _ ⟨by rw [xorl_len _ _ hl, bt16_len], xorl_all _ _ hl (bt16_all m) (bt16_all n)⟩ (bt16_b _) ?_
  rw [nm_xor _ _ (bt16_b m) (bt16_b n), nm_bt m hm, nm_bt n hn, nm_bt _ (xor_lt128 m n hm hn)]

set_option linter.unusedSimpArgs false in
set_option maxRecDepth 20000 in
set_option maxHeartbeats 4000000 in
theorem tplus_any (xs ys : List Int) (w : World) (hx : B16 xs) (hy : B16 ys) :
    Calls Try.prog 26 #[.agg (ints .u8 xs), .agg (ints .u8 ys)] w fun e w' => e = .returned (.agg (ints .u8 (xorl xs ys))) ∧ Below w.heap.size w w' := by
  have HX : Hid (B16 xs) := hx
  have HY : Hid (B16 ys) := hy
  have HZ : Hid (prx xs ys 0 = xs ∧ prx xs ys 16 = xorl xs ys ∧ (xorl xs ys).length = 16) := ⟨prx_zero xs ys hx.1, prx_end xs ys hx.1 hy.1, by rw [xorl_len _ _ (by rw [hx.1, hy.1]), hx.1]⟩
  generalize xorl xs ys = zs at *
  clear hx hy
  go_enter Try.func26, Try.ntmps26
  go_wp2_with (first
    | (have q2 := s2; refine new_lawF _ rfl 40 rfl .u8 z16 z_poly ?_; intro w3 A3 B3 s3; have HA3 : Hid (Ar w3 w2.heap.size 0 .u8 z16) := A3; clear A3)
    | (refine box_lawF _ rfl (.tmp 0) 40 rfl .u8 xs rfl ?_; intro w1 A1 B1 s1; have HA1 : Hid (Ar w1 w.heap.size 0 .u8 xs) := A1; clear A1)
    | (refine box_lawF _ rfl (.tmp 1) 40 rfl .u8 ys rfl ?_; intro w2 A2 B2 s2; have HA2 : Hid (Ar w2 w1.heap.size 0 .u8 ys) := A2; clear A2)
    | (refine load_law _ rfl (.tmp 3) 40 rfl .u8 ys w1.heap.size 0 rfl (HA2.out.below B3 s2) 16 5 Try.underlying40 i_poly HY.out.1 ?_))
  have D1 : Hid (Ar w3 w.heap.size 0 .u8 xs) := (HA1.out.below B2 s1).below B3 (by omega)
  have BW : Below w.heap.size w w3 := (B1.trans (B2.mono (by omega))).trans (B3.mono (by omega))
  have o3 : w2.heap.size < w3.heap.size := s3
  have o2 : w1.heap.size < w2.heap.size := s2
  have o1 : w.heap.size < w1.heap.size := s1
  generalize hg0 : w.heap.size = g0 at *
  generalize w2.heap.size = g2 at *
  generalize w1.heap.size = g1 at *
  go_loopw [8] (fun i wr => ∃ k : Nat, k ≤ 16 ∧ i = .int .i64 k ∧ Ar wr g0 0 .u8 (prx xs ys k) ∧ Ar wr g2 0 .u8 z16 ∧ Below g0 w wr) (fun i _ => 16 - (intOf i).toNat)
  case atStart => exact ⟨0, Nat.zero_le _, rfl, by rw [HZ.out.1]; exact D1.out, HA3.out, BW⟩
  case round =>
    obtain ⟨k, hk, rfl, hA, hR, hB⟩ := hrel
    obtain ⟨wa, rfl⟩ : ∃ wx, wx = wr := ⟨_, rfl⟩
    have k0 : (0 : Int) ≤ (k : Int) := by omega
    have q1 : IntKind.i64.wrap (k : Int) = k := by rw [IntKind.wrap_i64]; omega
    by_cases hlt : k < 16
    · have k1 : (k : Int) < 16 := by omega
      have c3 := hA.cell0 k (by rw [prx_len]; omega)
      have c4 := hA.free0 k (by rw [prx_len]; omega)
      rw [gb_prx _ _ _ _ hlt, if_neg (by omega)] at c3
      have hz := xr_of _ _ (HX.out.2 k) (HY.out.2 k)
      have hA2 : Hid (Ar (wa.setCell ⟨g0, k, none⟩ (.int .u8 (xr (gb xs k) (gb ys k)))) g0 0 .u8 (prx xs ys (k + 1))) := by
        have h := hA.set0 k (by rw [prx_len]; omega) (xr (gb xs k) (gb ys k))
        rw [prx_set] at h
        exact h
      have hR2 : Hid (Ar (wa.setCell ⟨g0, k, none⟩ (.int .u8 (xr (gb xs k) (gb ys k)))) g2 0 .u8 z16) := hR.other (by show g2 ≠ g0; omega) _
      have hB2 : Hid (Below g0 w (wa.setCell ⟨g0, k, none⟩ (.int .u8 (xr (gb xs k) (gb ys k))))) := hB.setCell (by show g0 ≤ g0; omega) _
      clear hA hR hB
      obtain ⟨y, hy⟩ : ∃ y, y = gb ys k := ⟨_, rfl⟩
      have HGY : Hid (y = gb ys k) := hy
      rw [← hy] at hz hA2 hR2 hB2
      clear hy
      generalize xr (gb xs k) y = z at *
      generalize gb xs k = x at *
      go_wp2_with (refine idx16 _ rfl (.tmp 7) (.tmp 8) rfl ys _ k rfl rfl rfl HY.out.1 hlt y HGY.out ?_)
      go_roundw
      case rel => exact ⟨k + 1, by omega, by go_num, hA2.out, hR2.out, hB2.out⟩
      case measure => simp [intOf]; omega
    · have hk16 : k = 16 := by omega
      subst hk16
      have HA2 : Hid (Ar wa g0 0 .u8 zs) := by have := hA; rw [HZ.out.2.1] at this; exact this
      have HR : Hid (Ar wa g2 0 .u8 z16) := hR
      clear hA hR
      go_wp2_with (first
        | (refine load_law _ rfl (.tmp 2) 40 rfl .u8 zs g0 0 rfl HA2.out 16 5 Try.underlying40 i_poly HZ.out.2.2 ?_)
        | (refine store_lawF _ rfl (.tmp 4) (.tmp 19) 40 rfl .u8 z16 zs g2 rfl rfl HR.out 16 i_poly z16_len HZ.out.2.2 ?_; intro w7 A7 B7))
      refine bodyPost_ret (v := .agg (ints .u8 zs)) (results_ar rfl _ _ g2 0 .u8 zs rfl A7 16 5 Try.underlying40 i_poly HZ.out.2.2) rfl ⟨rfl, ?_⟩
      rw [hg0]
      exact hB.trans (B7.mono (by omega))

/-! ### by numbers -/
theorem pdbl_any (n : Nat) (w : World) (hn : n < 2 ^ 128) :
    Calls Try.prog 20 #[.agg (ints .u8 (bt16 n))] w fun e w' => e = .returned (.agg (ints .u8 (bt16 (td n)))) ∧ Below w.heap.size w w' := by
  have := tdbl_any (bt16 n) w (bt16_b n)
  rwa [nm_bt n hn] at this
theorem pplus_any (m n : Nat) (w : World) (hm : m < 2 ^ 128) (hn : n < 2 ^ 128) :
    Calls Try.prog 26 #[.agg (ints .u8 (bt16 m)), .agg (ints .u8 (bt16 n))] w fun e w' => e = .returned (.agg (ints .u8 (bt16 (m ^^^ n)))) ∧ Below w.heap.size w w' := by
  have := tplus_any (bt16 m) (bt16 n) w (bt16_b m) (bt16_b n)
  rwa [xor_bt m n hm hn] at this
theorem bt16_zero : bt16 0 = z16 := by decide

/-- a byte's bit, as the program asks for it -/
theorem ask_bit : ∀ b : Nat, b < 256 → ∀ j : Nat, j < 8 → bits .and .u8 ((b : Int) / 2 ^ j) 1 = if b.testBit j then 1 else 0 := by decide +kernel
end Go.Proofs.Ytjojimffolagmaa
