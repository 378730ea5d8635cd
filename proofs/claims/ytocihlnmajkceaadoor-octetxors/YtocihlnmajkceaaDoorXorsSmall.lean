/- The call of the law on two lists of bytes, neither longer than 70000 bytes. No claim of its own. -/
import Derived.Test.YtocihlnmajkceaaDoorCards
import Derived.Test.YtocihlnmajkceaaDoorTie
import Derived.Test.YtocihlnmajkceaaDoorSame
import Derived.Test.YtocihlnmajkceaaDoorLaw
import Derived.Test.YtocihlnmajkceaaDoorXor
import Derived.Deep.RegionWith
import Derived.Deep.DeepCutAuto
namespace Go.Proofs.YtocihlnmajkceaaDoor.octetXors
open Go.ChangeShapes Go.WideShapes Go.ChangeAt Go.RowKit

theorem inv_far (xs : List Int) (h : 65536 < xs.length) : decide (inv xs = inv (xs.take 65536)) = false := by
  simp only [decide_eq_false_iff_not]
  intro e
  have := congrArg List.length e
  rw [inv_len, inv_len, List.length_take] at this
  omega

set_option maxRecDepth 100000 in
set_option maxHeartbeats 16000000 in
theorem walk_small (va vb : Value) (xs ys : List Int) (w : World) (ha : Byt w va xs) (hb : Byt w vb ys) (ht : Tab w) (hla : xs.length ≤ 65536) (hlb : ys.length ≤ 70000) :
    Calls Tryd.prog 4 #[va, vb] w fun e w' => e = .returned (.bool true) ∧ Below w.heap.size w w' := by
  have HA := ha
  have HB := hb
  obtain ⟨ao, ca, rfl, ha1, ha2, -, -, -⟩ := ha
  obtain ⟨bo, cb, rfl, hb1, hb2, -, -, -⟩ := hb
  have l1 : ¬ 70000 < (xs.length : Int) := by omega
  have l2 : ¬ 70000 < (ys.length : Int) := by omega
  have i1 : (0 : Int) ≤ (xs.length : Int) := by omega
  have i2 : (xs.length : Int) ≤ (ca : Int) := by omega
  have l3 : (xs.length : Int) ≤ 65536 := by omega
  have hcut2 : ∀ w', Below w.heap.size w w' → Byt w' (.slice ao xs.length ca) xs := fun w' hw => HA.below hw
  go_enter Tryd.func4, Tryd.ntmps4
  go_wp2_with (first
    | (go_at_call 17; refine (xor_both _ _ xs ys _ HA HB (by omega)).mono ?_; rintro e w0 ⟨x0, c0, rfl, hb0, hyes, hno⟩; have hz0 := hb0.size; have HA0 := HA.below hb0; have HB0 := HB.below hb0; have HY : Hid (xs.length = ys.length → c0 = 0 ∧ Byt w0 x0 (xorl xs ys)) := hyes; have HN : Hid (xs.length ≠ ys.length → c0 = 2 ∧ x0 = .slice none 0 0) := hno; clear hyes hno))
  go_cut [53] (fun r wc => r = .bool false ∧ Below w.heap.size w wc ∧ Below w0.heap.size w0 wc)
  case first =>
    first | go_region_with
      (first
        | (go_at_call_of 18 (Value.slice bo ys.length cb); refine (oSame_any _ _ xs ys _ ?_ ?_).mono ?_; exact HA0; exact HB0; rintro e w1 ⟨rfl, n1, rfl⟩)
        | (go_at_call_of 8 (Value.slice bo ys.length cb); refine (same_any _ _ _ xs ys ?_ ?_).mono ?_; exact HA0; exact HB0; rintro e w2 ⟨rfl, n2, rfl⟩)
        | (go_at_call 18; refine (oSame_any _ _ xs xs _ ?_ ?_).mono ?_; exact HA0; exact HA0; rintro e w3 ⟨rfl, n3, rfl⟩; rw [decide_eq_true rfl])
        | (go_at_call 19; refine (invert_any _ xs _ ?_ (by omega)).mono ?_; exact HA0; rintro e w4 ⟨v4, rfl, hv4, hb4⟩; have hz4 := hb4.size; have b4 : Below w.heap.size w w4 := (below_drewN hb0 _).trans (hb4.mono (by simpa using hz0)))
        | (go_at_call 20; refine (rinvert_any _ xs _ ?_ (by omega)).mono ?_; exact hcut2 _ b4; rintro e w5 ⟨v5, rfl, hv5, hb5⟩; have hz5 := hb5.size)
        | (go_at_call_of 8 v4; refine (same_any _ _ _ _ _ (hv4.below hb5) hv5).mono ?_; rintro e w6 ⟨rfl, n6, rfl⟩; rw [decide_eq_true rfl])) | fail
    all_goals
      have b5 : Below w.heap.size w w5 := b4.trans (hb5.mono b4.size)
      have c5 : Below w0.heap.size w0 w5 := ((below_drewN (Below.refl _ _) _).trans hb4).trans (hb5.mono (by simpa using hz4))
      go_wp2_with fail
      go_meet
      exact ⟨rfl, below_drewN b5 n6, below_drewN c5 n6⟩
  case rest =>
    obtain ⟨rfl, b6, c6⟩ := hcut
    have b6z := b6.size
    by_cases hl : xs.length = ys.length
    · obtain ⟨rfl, hx0⟩ := HY.out hl
      have HX0 := hx0.below c6
      have HL : Hid (xs.length = ys.length) := hl
      have hl2 : ((xs.length : Int) != (ys.length : Int)) = false := by simp; omega
      have HA6 := HA.below b6
      have HB6 := HB.below b6
      have HXL : Hid ((xorl xs ys).length = xs.length) := xorl_len xs ys hl
      have hmx : xs.length ≤ 1048576 := by omega
      clear hl HY HN
      go_wp2_with (first
        | (go_at_call 17; refine (xor_any _ _ (xorl xs ys) ys _ HX0 HB6 (by rw [HXL.out]; exact HL.out) (by rw [HXL.out]; exact hmx)).mono ?_; rintro e w7 ⟨v7, rfl, hv7, hb7⟩; have hz7 := hb7.size)
        | (go_at_call 21; refine (rxor_any _ _ xs ys _ (HA6.below hb7) (HB6.below hb7) HL.out hmx).mono ?_; rintro e w8 ⟨v8, rfl, hv8, hb8⟩; have hz8 := hb8.size; have b8 : Below w.heap.size w w8 := (b6.trans (hb7.mono b6z)).trans (hb8.mono (Nat.le_trans b6z hz7)))
        | (go_at_call_of 8 v8; refine (same_any _ _ _ _ _ ((HX0.below hb7).below hb8) hv8).mono ?_; rintro e w9 ⟨rfl, n9, rfl⟩; rw [decide_eq_true rfl]; have b9 := below_drewN b8 n9)
        | (go_at_call_of 8 v7; refine (same_any _ v7 _ _ xs ((hv7.below hb8).below (below_drewN (Below.refl _ _) n9)) (HA.below b9)).mono ?_; rintro e w10 ⟨rfl, n10, rfl⟩; rw [decide_eq_true (xorl_back xs ys HL.out HA.all)]; have b10 : Below w.heap.size w (w8.drewN (n9 + n10)) := below_drewN b8 (n9 + n10))
        | (go_at_call 7; refine (awake_any _ (ht.below b10)).mono ?_; rintro e w11 ⟨rfl, hb11⟩))
      go_ret
      exact ⟨rfl, b10.trans (hb11.mono b10.size)⟩
    · obtain ⟨rfl, rfl⟩ := HN.out hl
      have hl2 : ((xs.length : Int) != (ys.length : Int)) = true := by simp; omega
      clear hl HY HN
      go_wp2_with (go_at_call 7; refine (awake_any _ (ht.below b6)).mono ?_; rintro e w11 ⟨rfl, hb11⟩)
      go_ret
      exact ⟨rfl, b6.trans (hb11.mono b6.size)⟩
end Go.Proofs.YtocihlnmajkceaaDoor.octetXors
