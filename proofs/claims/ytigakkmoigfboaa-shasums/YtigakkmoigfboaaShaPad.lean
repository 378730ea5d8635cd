/- What sha's Pad answers. No claim of its own. -/
import Derived.Test.YtigakkmoigfboaaSum
namespace Go.Proofs.Ytigakkmoigfboaa
open Go.RowKit

theorem laid0 (xs ys : List Int) (n : Nat) (h : n = xs.length) (m : Nat) (hm : m = n + ys.length) : laid (laid (List.replicate m 0) 0 xs) n ys = xs ++ ys := by
  have e1 : laid (List.replicate m (0 : Int)) 0 xs = xs ++ List.replicate ys.length 0 := by
    unfold laid
    rw [List.take_zero, List.nil_append, List.drop_replicate, Nat.zero_add]
    congr 2; omega
  rw [e1]
  unfold laid
  rw [List.take_append_of_le_length (by omega), List.take_of_length_le (by omega), List.drop_of_length_le (by simp; omega), List.append_nil]

set_option maxRecDepth 100000 in
set_option maxHeartbeats 2000000 in
theorem pad_any (w : World) (v : Value) (xs : List Int) (h : Byt w v xs) (hn : xs.length ≤ 1000000) :
    Calls Try.prog 11 #[v] w fun e w' => ∃ v', e = .returned v' ∧ Byt w' v' (xs ++ padl xs.length) ∧ Below w.heap.size w w' := by
  have HV : Hid (Byt w v xs) := h
  have HA : Hid (AllB (xs ++ padl xs.length)) := allB_append h.all (padl_all _)
  obtain ⟨ao, cap, rfl, hv1, hv2, -, -, -⟩ := h
  obtain ⟨q, hq⟩ : ∃ q, q = (padl xs.length).length := ⟨_, rfl⟩
  have hq1 : 9 ≤ q ∧ q ≤ 73 := by rw [hq, padl_len]; unfold zn; omega
  obtain ⟨n, hnx⟩ : ∃ n, n = xs.length := ⟨_, rfl⟩
  obtain ⟨m, hm⟩ : ∃ m, m = n + q := ⟨_, rfl⟩
  have HL : Hid (laid (laid (List.replicate m 0) 0 xs) n (padl xs.length) = xs ++ padl xs.length ∧ n = xs.length ∧ m = n + q ∧ q = (padl xs.length).length) := ⟨laid0 xs _ n hnx m (by rw [hm, hq]), hnx, hm, hq⟩
  have m1 : (n : Int) + (q : Int) = (m : Int) := by omega
  have m2 : IntKind.i64.wrap (m : Int) = (m : Int) := by rw [IntKind.wrap_i64]; omega
  have m3 : (m : Int) ≤ 1000073 := by omega
  have m4 : (n : Int) ≤ (m : Int) := by omega
  have m5 : ¬ m = n := by omega
  have m6 : m ≤ 1000073 := by omega
  have m7 : n ≤ 1000000 := by omega
  rw [← hnx] at hv1 HV ⊢
  have HPL : Hid (padl n = padl xs.length) := by show _ = _; rw [hnx]
  clear hq hnx hm hn
  go_enter Try.func11, Try.ntmps11
  go_wp2_with (first
    | (go_at_call_of 21 (Value.int .i64 (n : Int)); refine (padding_any n _ (by omega)).mono ?_; rintro e w1 ⟨v1, rfl, hy1, ⟨g1, hg1, ar1, hv1e⟩, hb1⟩; rw [HPL.out] at hy1 hv1e; rw [← HL.out.2.2.2] at hv1e; subst hv1e; have HY1 : Hid (Byt w1 (.slice (some ⟨g1, 0, none⟩) q q) (padl xs.length)) := hy1; clear hy1 ar1; have hz1 := hb1.size)
    | (at_make; refine make_law _ rfl _ _ rfl w1.heap.size (Nat.le_refl _) _ m rfl rfl rfl (by omega) ?_; intro w2 hown hbel hlt; have AR2 : Hid (Ar w2 w1.heap.size 0 .u8 (List.replicate m 0)) := hown.ar; clear hown)
    | (refine copy_lawm _ rfl (.tmp 14) (.tmp 15) rfl w1.heap.size 0 m m n _ xs rfl rfl ((HV.out.below hb1).below hbel) (by have := HL.out.2; omega) (by have := AR2.out.2; intro j hj; exact this j (by simp; omega)) ?_; intro w3 hw3; have HW3 : Hid (w3 = w2.setCells w1.heap.size 0 ((xs.take m).map (Value.int .u8))) := hw3; clear hw3; have AR3 : Hid (Ar w3 w1.heap.size 0 .u8 (laid (List.replicate m 0) 0 xs)) := by { have hl := HL.out.2; have := AR2.out.lay 0 xs (by simp; omega); rw [HW3.out, List.take_of_length_le (by omega)]; exact this }; have b3 : Below w1.heap.size w1 w3 := by { rw [HW3.out]; exact Lib.below_setCells _ (Nat.le_refl _) _ _ hbel })
    | (refine copy_lawm _ rfl (.tmp 20) (.tmp 21) rfl w1.heap.size n (m - n) (m - n) q _ (padl xs.length) rfl rfl (HY1.out.below b3) (by have := HL.out.2; omega) (by have := AR3.out.2; have hl := HL.out.2; intro j hj; have := this (n + j) (by rw [laid_len _ _ _ (by simp; omega)]; simp; omega); rwa [Nat.zero_add] at this) ?_; intro w4 hw4; have HW4 : Hid (w4 = w3.setCells w1.heap.size n (((padl xs.length).take (m - n)).map (Value.int .u8))) := hw4; clear hw4)
    | fail)
  have hl := HL.out
  have A4 : Ar w4 w1.heap.size 0 .u8 (xs ++ padl xs.length) := by
    have := AR3.out.lay n (padl xs.length) (by rw [laid_len _ _ _ (by simp; omega)]; simp; omega)
    rw [hl.1, Nat.zero_add] at this
    rw [HW4.out, List.take_of_length_le (by omega)]; exact this
  have b4 : Below w.heap.size w w4 := by
    rw [HW4.out]; exact Lib.below_setCells _ hz1 _ _ (hb1.trans (b3.mono hz1))
  have hlen : (xs ++ padl xs.length).length = m := by simp; omega
  have HB : Hid (Byt w4 (.slice (some ⟨w1.heap.size, 0, none⟩) m m) (xs ++ padl xs.length)) := by
    have := A4.byt HA.out 0 m m (by omega) (by omega) (by omega) (by omega)
    rwa [List.take_of_length_le (by omega), List.drop_zero] at this
  go_ret
  exact ⟨_, rfl, by rw [HPL.out]; exact HB.out, b4⟩
end Go.Proofs.Ytigakkmoigfboaa
