/- What the reference's Shift answers. No claim of its own. -/
import Derived.Test.YtjiddmgnkldmkaaAShf
namespace Go.Proofs.Ytjiddmgnkldmkaa
open Go.RowKit

set_option maxRecDepth 20000 in
set_option maxHeartbeats 4000000 in
theorem rshift_any (v : Value) (xs : List Int) (n : Nat) (w : World) (hv : Byt w v xs) (hl : xs.length = 16) (hn : n ≤ 3) :
    Calls Try.prog 41 #[v, .int .i64 n] w fun e w' => ∃ g, e = .returned (.slice (some ⟨g, 0, none⟩) 16 16) ∧ Ar w' g 0 .u8 (shl16 xs n) ∧ w.heap.size ≤ g ∧ Below w.heap.size w w' := by
  obtain ⟨ao, ca, rfl, ha1, ha2, ha3, -, ha5⟩ := hv
  obtain ⟨bb, bo, rfl, hcell⟩ := ha5 (by omega)
  have HC : Hid (∀ t, t < 16 → w.cell? ⟨bb, bo + t, none⟩ = some (.int .u8 (gb xs t))) := fun t ht => hcell t (by omega)
  have hbw : bb < w.heap.size := World.block_lt_of_cell? w _ (hcell 0 (by omega))
  have HZ : Hid (prs xs n 0 = z16 ∧ prs xs n 16 = shl16 xs n ∧ (shl16 xs n).length = 16) := ⟨prs_zero xs n, prs_end xs n, shl16_len xs n⟩
  have HPS : Hid (∀ t, (prs xs n t).set t (gb xs (shi t n)) = prs xs n (t + 1)) := prs_set xs n
  rw [hl]
  generalize shl16 xs n = zs at *
  clear hcell ha5 hl ha3
  go_enter Try.func41, Try.ntmps41
  go_wp2_with (at_make; refine make_law _ rfl _ _ rfl w.heap.size (Nat.le_refl _) 16 16 rfl rfl rfl (by omega) ?_; intro w1 hown B1 s1; have HO1 : Hid (Ar w1 w.heap.size 0 .u8 z16) := hown.arG; clear hown)
  generalize hg0 : w.heap.size = g0 at *
  go_loopw [6] (fun i wr => ∃ k : Nat, k ≤ 16 ∧ i = .int .i64 k ∧ Ar wr g0 0 .u8 (prs xs n k) ∧ Below g0 w wr) (fun i _ => 16 - (intOf i).toNat)
  case atStart => exact ⟨0, Nat.zero_le _, rfl, by rw [HZ.out.1]; exact HO1.out, B1⟩
  case round =>
    obtain ⟨k, hk, rfl, hA, hB⟩ := hrel
    have k0 : (0 : Int) ≤ (k : Int) := by omega
    have q1 : IntKind.i64.wrap (k : Int) = k := by rw [IntKind.wrap_i64]; omega
    by_cases hlt : k < 16
    · have k1 : (k : Int) < 16 := by omega
      obtain ⟨a, ha⟩ : ∃ a, a = k / 4 := ⟨_, rfl⟩
      obtain ⟨b, hb⟩ : ∃ b, b = k % 4 := ⟨_, rfl⟩
      obtain ⟨m, hm⟩ : ∃ m, m = n * b := ⟨_, rfl⟩
      have m9 : m ≤ 9 := by rw [hm]; have : n * b ≤ 3 * 3 := Nat.mul_le_mul hn (by omega); omega
      obtain ⟨c, hc⟩ : ∃ c, c = (a + m) % 4 := ⟨_, rfl⟩
      have t1 : (k : Int).tdiv 4 = (a : Int) := by rw [Int.tdiv_eq_ediv_of_nonneg (by omega)]; omega
      have t2 : (k : Int).tmod 4 = (b : Int) := by rw [Int.tmod_eq_emod_of_nonneg (by omega)]; omega
      have t3 : (n : Int) * (b : Int) = (m : Int) := by rw [hm]; simp
      have t4 : ((a : Int) + (m : Int)).tmod 4 = (c : Int) := by rw [Int.tmod_eq_emod_of_nonneg (by omega)]; omega
      have u1 : IntKind.i64.wrap (a : Int) = a := by rw [IntKind.wrap_i64]; omega
      have u2 : IntKind.i64.wrap (b : Int) = b := by rw [IntKind.wrap_i64]; omega
      have u3 : IntKind.i64.wrap (m : Int) = m := by rw [IntKind.wrap_i64]; omega
      have u4 : IntKind.i64.wrap ((a : Int) + (m : Int)) = (a : Int) + (m : Int) := by rw [IntKind.wrap_i64]; omega
      have u5 : IntKind.i64.wrap (c : Int) = c := by rw [IntKind.wrap_i64]; omega
      have u6 : IntKind.i64.wrap (4 * (c : Int)) = 4 * (c : Int) := by rw [IntKind.wrap_i64]; omega
      obtain ⟨j, hj⟩ : ∃ j, j = 4 * c + b := ⟨_, rfl⟩
      have t5 : 4 * (c : Int) + (b : Int) = (j : Int) := by omega
      have u7 : IntKind.i64.wrap (j : Int) = j := by rw [IntKind.wrap_i64]; omega
      have hjs : shi k n = j := by unfold shi; rw [← ha, ← hb, ← hm, ← hc, ← hj]
      have j16 : j < 16 := by omega
      have j0 : (0 : Int) ≤ (j : Int) := by omega
      have j1 : (j : Int) < 16 := by omega
      have c1 : wr.cell? ⟨bb, bo + j, none⟩ = some (.int .u8 (gb xs j)) := (hB.cell hbw).trans (HC.out j j16)
      have c3 := hA.cell0 k (by rw [prs_len]; omega)
      have c4 := hA.free0 k (by rw [prs_len]; omega)
      have hA2 : Hid (Ar (wr.setCell ⟨g0, k, none⟩ (.int .u8 (gb xs j))) g0 0 .u8 (prs xs n (k + 1))) := by
        have h := hA.set0 k (by rw [prs_len]; omega) (gb xs j)
        have e := HPS.out k
        rw [hjs] at e
        rw [e] at h
        exact h
      have hB2 : Hid (Below g0 w (wr.setCell ⟨g0, k, none⟩ (.int .u8 (gb xs j)))) := hB.setCell (Nat.le_refl _) _
      clear hA ha hb hm hc hj hjs
      generalize gb xs j = y at *
      go_wp2
      go_roundw
      case rel => exact ⟨k + 1, by omega, by go_num, hA2.out, hB2.out⟩
      case measure => simp [intOf]; omega
    · have hk16 : k = 16 := by omega
      subst hk16
      rw [HZ.out.2.1] at hA
      go_wp2
      go_ret
      exact ⟨g0, rfl, hA, by omega, by rw [hg0]; exact hB⟩
end Go.Proofs.Ytjiddmgnkldmkaa
