/- What sha's padding answers: what stands behind a text. No claim of its own. -/
import Derived.Test.YtaplllonomdgeaaBytes
namespace Go.Proofs.Ytaplllonomdgeaa
open Go.RowKit

/-- how many noughts -/
def zn (n : Nat) : Nat := (64 - (n + 9) % 64) % 64
/-- how many bits, as eight bytes -/
def be8 (n : Nat) : List Int := (le ((n : Int) * 8) 8).reverse
theorem be8_len (n : Nat) : (be8 n).length = 8 := by simp [be8, le_len]
theorem be8_all (n : Nat) : AllB (be8 n) := allB_reverse (le_all _ _)
theorem be8_of (n : Nat) : (le ((n : Int) * 8) (clamp 8 8)).reverse = be8 n := by rw [show clamp 8 8 = 8 by decide]; rfl
/-- what stands behind a text of n bytes -/
def padl (n : Nat) : List Int := 128 :: (List.replicate (zn n) 0 ++ be8 n)
theorem padl_len (n : Nat) : (padl n).length = zn n + 9 := by simp [padl, be8_len]
theorem padl_all (n : Nat) : AllB (padl n) := by
  refine allB_append (xs := [128]) (allB_mem (by simp)) (allB_append (allB_replicate 0 _ (by omega)) (be8_all n))
theorem padl_lay (n : Nat) : laid ((List.replicate (zn n + 9) (0 : Int)).set 0 128) (1 + zn n) (be8 n) = padl n := by
  have e0 : (List.replicate (zn n + 9) (0 : Int)).set 0 128 = 128 :: List.replicate (zn n + 8) 0 := by
    rw [show zn n + 9 = (zn n + 8) + 1 by omega, List.replicate_succ, List.set_cons_zero]
  unfold laid padl
  rw [e0, be8_len, show 1 + zn n = zn n + 1 by omega, List.take_succ_cons, List.take_replicate, show zn n + 1 + 8 = (zn n + 8) + 1 by omega, List.drop_succ_cons, List.drop_replicate]
  simp

set_option maxHeartbeats 2000000 in
theorem padding_any (n : Nat) (w : World) (hn : n ≤ 1048576) :
    Calls Try.prog 42 #[.int .i64 n] w fun e w' => ∃ v, e = .returned v ∧ Byt w' v (padl n) ∧ (∃ g, w.heap.size ≤ g ∧ Ar w' g 0 .u8 (padl n) ∧ v = .slice (some ⟨g, 0, none⟩) (padl n).length (padl n).length) ∧ Below w.heap.size w w' := by
  have hz0 := padl_lay n
  have hz1 : zn n < 64 := by unfold zn; omega
  obtain ⟨z, hz⟩ : ∃ z, z = zn n := ⟨_, rfl⟩
  obtain ⟨r, hr⟩ : ∃ r, r = (n + 9) % 64 := ⟨_, rfl⟩
  obtain ⟨q, hq⟩ : ∃ q, q = 64 - r := ⟨_, rfl⟩
  have hzq : z = q % 64 := by rw [hz, hq, hr]; rfl
  have h1 : ((n : Int) + 1 + 8) % 64 = (r : Int) := by omega
  have h1' : ((n : Int) + 9) % 64 = (r : Int) := by omega
  have h2 : (64 : Int) - (r : Int) = (q : Int) := by omega
  have h3 : (q : Int) % 64 = (z : Int) := by omega
  have i1 : (n : Int) ≤ 1048576 := by omega
  have i2 : (0 : Int) ≤ (n : Int) := by omega
  have i3 : (r : Int) < 64 := by omega
  have i4 : (q : Int) ≤ 64 := by omega
  have i5 : (z : Int) < 64 := by omega
  rw [← hz] at hz0 hz1
  have HZ0 : Hid (laid ((List.replicate (z + 9) (0 : Int)).set 0 128) (1 + z) (be8 n) = padl n) := hz0
  have HPL : Hid ((padl n).length = z + 9) := by rw [hz]; exact padl_len n
  clear hz0 hr hq hzq hz
  obtain ⟨L, hL⟩ : ∃ L, L = z + 9 := ⟨_, rfl⟩
  obtain ⟨m, hm⟩ : ∃ m, m = 1 + z := ⟨_, rfl⟩
  obtain ⟨y, hy⟩ : ∃ y, y = (n : Int) * 8 := ⟨_, rfl⟩
  have k1 : 1 + (z : Int) = (m : Int) := by omega
  have k2 : IntKind.i64.wrap (m : Int) = (m : Int) := by rw [IntKind.wrap_i64]; omega
  have k3 : (m : Int) ≤ (L : Int) := by omega
  have k4 : ¬ L = m := by omega
  have k5 : (0 : Int) ≤ (m : Int) := by omega
  have k6 : (m : Int) + 8 = (L : Int) := by omega
  have k7 : IntKind.i64.wrap (L : Int) = (L : Int) := by rw [IntKind.wrap_i64]; omega
  have y1 : (n : Int) * 8 = y := hy.symm
  have y2 : IntKind.u64.wrap y = y := by rw [IntKind.wrap_u64]; omega
  have y3 : IntKind.u64.wrap (n : Int) = n := by rw [IntKind.wrap_u64]; omega
  have HY : Hid (0 ≤ y ∧ y ≤ 18446744073709551615) := ⟨by omega, by omega⟩
  have HBE : Hid ((le y (clamp 8 8)).reverse = be8 n) := by rw [hy]; exact be8_of n
  have HB8 : Hid ((be8 n).length = 8) := be8_len n
  have HLm : Hid (L = m + 8 ∧ m ≤ 64) := ⟨by omega, by omega⟩
  rw [← hL] at HZ0 HPL
  rw [← hm] at HZ0
  clear hL hm hy
  generalize be8 n = b8 at *
  go_enter Try.func42, Try.ntmps42
  go_wp2_with (at_make; refine make_law _ rfl _ _ rfl w.heap.size (Nat.le_refl _) _ L rfl rfl rfl (by have := HLm.out; omega) ?_; intro w1 hown hbel hlt; have c0 := hown.cell (k := 0) (by have := HLm.out; omega); have f0 := hown.free 0)
  have A1 := hown.ar.set0 0 (by simp; have := HLm.out; omega) 128
  have B1 := hbel.setCell (p := ⟨w.heap.size, 0, none⟩) (Nat.le_refl _) (Value.int IntKind.u8 128)
  have Z1 : w.heap.size < (w1.setCell ⟨w.heap.size, 0, none⟩ (Value.int IntKind.u8 128)).heap.size := by simpa using hlt
  clear hown hbel c0 f0 hlt
  generalize w1.setCell ⟨w.heap.size, 0, none⟩ (Value.int IntKind.u8 128) = w2 at A1 B1 Z1 ⊢
  have HA1 : Hid (Ar w2 w.heap.size 0 .u8 ((List.replicate L (0 : Int)).set 0 128)) := A1
  have HT : Hid (w2.there w.heap.size m 8) := by
    intro j hj
    have := A1.2 (m + j) (by simp; have := HLm.out; omega)
    rwa [Nat.zero_add] at this
  clear A1
  go_region_held3 (fun w' => w'.there w.heap.size m 8)
    (first | with_reducible exact World.there_setCells T1 _ _ _ | with_reducible exact T1 | with_reducible exact (World.there_drew ..).2 HT.out)
    (first
      | (go_at_call_of 24 (Value.int .u64 y); refine (big_any y 8 _ HY.out).mono ?_; rintro e w3 ⟨v3, rfl, hv3, hb3⟩; rw [HBE.out] at hv3; have A2 : Ar w3 w.heap.size 0 .u8 ((List.replicate L (0 : Int)).set 0 128) := Ar.below (w := w2.drew) (HA1.out.heap rfl) hb3 Z1; have T1 : w3.there w.heap.size m 8 := fun j hj => by { have := A2.2 (m + j) (by simp; have := HLm.out; omega); rw [Nat.zero_add] at this; exact this })
      | (refine step_copy _ rfl (some 27) rfl (.tmp 22) (.tmp 26) rfl w.heap.size m (L - m) (L - m) v3 b8 rfl rfl hv3 (by rw [HB8.out]; intro j hj; exact T1 j (by omega)) ?_)
      | fail)
  have A3 : Ar (w3.setCells w.heap.size m ((b8.take (L - m)).map (Value.int .u8))) w.heap.size 0 .u8 (padl n) := by
    have h8 := HB8.out
    have hm := HLm.out
    have := A2.lay m b8 (by rw [h8]; simp; omega)
    rw [HZ0.out, Nat.zero_add] at this
    rw [List.take_of_length_le (by omega)]
    exact this
  have B3 : Below w.heap.size w (w3.setCells w.heap.size m ((b8.take (L - m)).map (Value.int .u8))) := Lib.below_setCells _ (Nat.le_refl _) _ _ (B1.drew.trans (hb3.mono B1.size))
  generalize w3.setCells w.heap.size m ((b8.take (L - m)).map (Value.int .u8)) = w4 at A3 B3 ⊢
  have HB : Hid (Byt w4 (.slice (some ⟨w.heap.size, 0, none⟩) L L) (padl n)) := by
    have := A3.byt (padl_all n) 0 L L (by omega) (by rw [HPL.out]; omega) (by omega) (by have := HLm.out; omega)
    rw [List.take_of_length_le (by rw [HPL.out]; omega), List.drop_zero] at this
    exact this
  have HA : Hid (Ar w4 w.heap.size 0 .u8 (padl n)) := A3
  clear A3
  go_wp2
  go_ret
  exact ⟨_, rfl, HB.out, ⟨w.heap.size, Nat.le_refl _, HA.out, by rw [HPL.out]; rfl⟩, B3⟩
end Go.Proofs.Ytaplllonomdgeaa
