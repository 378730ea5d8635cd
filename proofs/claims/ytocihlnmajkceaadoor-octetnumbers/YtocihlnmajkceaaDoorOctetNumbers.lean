/- P1.1, P1.4: for every number n, every k and every list of bytes b: octet.Big(n, k) and octet.Little(n, k) are the k low bytes of n (k taken as 0 if below, as 8 if above), octet.Num(b) and octet.NumLittle(b) the numbers of the last and of the first eight bytes, and eight bytes of n tell n again; where b is longer than 70000 bytes it is said that the program answers at all. -/
import Derived.Test.YtocihlnmajkceaaDoorCards
import Derived.Test.YtocihlnmajkceaaDoorTie
import Derived.Test.YtocihlnmajkceaaDoorSame
import Derived.Test.YtocihlnmajkceaaDoorLaw
import Derived.Test.YtocihlnmajkceaaDoorRefNumbers
import Derived.Deep.RegionWith
namespace Go.Proofs.YtocihlnmajkceaaDoor.octetNumbers
open Go.ChangeShapes Go.WideShapes Go.ChangeAt Go.RowKit

set_option maxHeartbeats 4000000 in
theorem walk (n k : Int) (v : Value) (xs : List Int) (w : World) (hn : 0 ≤ n ∧ n ≤ 18446744073709551615) (_ : -9223372036854775808 ≤ k ∧ k ≤ 9223372036854775807) (hb : Byt w v xs) (ht : Tab w) :
    Calls Tryd.prog 3 #[.int .u64 n, .int .i64 k, v] w fun e w' => e = .returned (.bool true) ∧ Below w.heap.size w w' := by
  have HB := hb
  obtain ⟨ao, cap, rfl, h1, h2, -, -, -⟩ := hb
  by_cases hlen : 70000 < (xs.length : Int)
  · go_enter Tryd.func3, Tryd.ntmps3
    go_wp2_with (go_at_call 7; refine (awake_any _ ht).mono ?_; rintro e w4 ⟨rfl, hb4⟩)
    go_ret
    exact ⟨rfl, hb4⟩
  · have HN : Hid (0 ≤ n ∧ n ≤ 18446744073709551615) := hn
    clear hn
    go_enter Tryd.func3, Tryd.ntmps3
    go_wp2_with (first
      | (go_at_call_of 9 (Value.int .i64 k); refine (big_any n k _ HN.out).mono ?_; rintro e w1 ⟨v1, rfl, hv1, hb1⟩; have hz1 := hb1.size)
      | (go_at_call 10; refine (rbig_any n k _ HN.out).mono ?_; rintro e w2 ⟨v2, rfl, hv2, hb2⟩; have hz2 := hb2.size)
      | (go_at_call_of 8 v1; refine (same_any _ v1 v2 _ _ (hv1.below hb2) hv2).mono ?_; rintro e w3 ⟨rfl, n3, rfl⟩; rw [decide_eq_true rfl])
      | (go_at_call_of 11 (Value.int .i64 k); refine (little_any n k _ HN.out).mono ?_; rintro e w4 ⟨v4, rfl, hv4, hb4⟩; have hz4 := hb4.size)
      | (go_at_call 12; refine (rlittle_any n k _ HN.out).mono ?_; rintro e w5 ⟨v5, rfl, hv5, hb5⟩; have hz5 := hb5.size)
      | (go_at_call_of 8 v4; refine (same_any _ v4 v5 _ _ (hv4.below hb5) hv5).mono ?_; rintro e w6 ⟨rfl, n6, rfl⟩; rw [decide_eq_true rfl]; have b6 : Below w.heap.size w (w5.drewN n6) := below_drewN ((below_drewN (hb1.trans (hb2.mono hz1)) n3).trans ((hb4.trans (hb5.mono hz4)).mono (by simp; omega))) n6; have B6 := HB.below b6)
      | (go_at_call_of 13 (Value.slice ao xs.length cap); refine (num_any _ xs _ B6).mono ?_; rintro e w7 ⟨rfl, hw⟩; obtain rfl := hw.symm)
      | (go_at_call 14; refine (rnum_any _ xs _ B6 (by omega)).mono ?_; rintro e w8 ⟨rfl, hb8⟩; have hz8 := hb8.size; have B8 := B6.below hb8)
      | (go_at_call_of 15 (Value.slice ao xs.length cap); refine (numLittle_any _ xs _ B8).mono ?_; rintro e w9 ⟨rfl, hw⟩; obtain rfl := hw.symm)
      | (go_at_call 16; refine (rnumLittle_any _ xs _ B8).mono ?_; rintro e w9 ⟨rfl, hw⟩; obtain rfl := hw.symm)
      | (go_at_call_of 9 (Value.int .i64 8); refine (big_any n 8 _ HN.out).mono ?_; rintro e w10 ⟨v10, rfl, hv10, hb10⟩; have hz10 := hb10.size)
      | (go_at_call_of 13 v10; refine (num_any v10 _ _ hv10).mono ?_; rintro e w11 ⟨rfl, hw⟩; obtain rfl := hw.symm; rw [clamp88, last8_le n HN.out])
      | (go_at_call_of 11 (Value.int .i64 8); refine (little_any n 8 _ HN.out).mono ?_; rintro e w12 ⟨v12, rfl, hv12, hb12⟩; have hz12 := hb12.size; have b12 := (((b6.trans (hb8.mono b6.size)).trans (hb10.mono (Nat.le_trans b6.size hz8))).trans (hb12.mono (Nat.le_trans (Nat.le_trans b6.size hz8) hz10))))
      | (go_at_call_of 15 v12; refine (numLittle_any v12 _ _ hv12).mono ?_; rintro e w13 ⟨rfl, hw⟩; obtain rfl := hw.symm; rw [clamp88, numL_le n HN.out])
      | (go_at_call 7; refine (awake_any _ (ht.below b12)).mono ?_; rintro e w14 ⟨rfl, hb14⟩))
    go_ret
    exact ⟨rfl, b12.trans (hb14.mono b12.size)⟩

theorem params : ∀ t ∈ Tryd.f3.params.toList, Tryd.prog.readableRec t = true ∧ t < Tryd.prog.types.size := by
  rw [Tryd.params3]
  intro t ht
  simp at ht
  rcases ht with rfl | rfl | rfl
  · exact ⟨by kernel_rfl, of_decide_eq_true (by kernel_rfl)⟩
  · exact ⟨by kernel_rfl, of_decide_eq_true (by kernel_rfl)⟩
  · exact ⟨by kernel_rfl, of_decide_eq_true (by kernel_rfl)⟩

theorem contract (H : Type) (enc : TypeId × Value → H) (W : World) (base : Nat) (args : Array Value) (ds gs : List (DataW H)) (before : List MemPlace)
    (hval : ∀ (j : Nat) t v, Tryd.f3.params[j]? = some t → args[j]? = some v → Value.okWide Tryd.prog W .any base t v)
    (hW : DataW.Whole enc Tryd.prog Tryd.f3.params.toList Rows.octetNumbersSpec.vars false W args.toList ds gs before) (hL : laidMetH Tryd.prog Rows.octetNumbersRow.laid W) :
    Calls Tryd.prog 3 args W fun e W' => ∃ v, e = .returned v ∧ Rows.octetNumbersSpec.post enc Tryd.prog Tryd.f3 false true false false W args v W' := by
  have hW' := hW
  obtain ⟨p, q, hA0, hV, rfl, hfz, hnd⟩ := hW
  have hA : DataW.TrodAll enc Tryd.prog W 0 (fun _ => true) true Tryd.f3.params.toList args.toList ds p := hA0
  rw [Tryd.params3] at hA hval
  obtain ⟨v0, v1, v2, d0, d1, d2, p0, p1, p2, rfl, rfl, rfl, h0, h1, h2⟩ := trodAll_three hA
  obtain ⟨rfl, rfl⟩ := trodVars_none hV
  obtain ⟨x0, rfl, rfl, rfl, w0⟩ := open_int Tryd.underlying22 (hval 0 22 v0 rfl rfl) h0
  obtain ⟨x1, rfl, rfl, rfl, w1⟩ := open_int Tryd.underlying3 (hval 1 3 v1 rfl rfl) h1
  obtain ⟨xs2, b2⟩ := byt_open (hval 2 23 v2 rfl rfl) h2
  clear hA0
  refine (walk x0 x1 v2 xs2 W (bounds_u64 w0) (bounds_i64 w1) b2 (table hL)).mono fun e W' ⟨he, hg⟩ => ?_
  subst he
  exact ⟨_, rfl, post_law rfl (by kernel_rfl) params rfl rfl rfl hW' hg⟩

theorem laid_met (os : Os) : laidMet Tryd.prog Rows.octetNumbersRow.laid (({ World.holding Tryd.prog os ⟨#[], #[], []⟩ with heap := (World.holding Tryd.prog os ⟨#[], #[], []⟩).heap.modify 0 fun | .cells _ t frozen => .cells #[.int .u8 48, .int .u8 49, .int .u8 50, .int .u8 51, .int .u8 52, .int .u8 53, .int .u8 54, .int .u8 55, .int .u8 56, .int .u8 57, .int .u8 97, .int .u8 98, .int .u8 99, .int .u8 100, .int .u8 101, .int .u8 102] t frozen | o => o } : World).forCall (fun _ _ => 0) ⟨#[], #[.int .u64 0, .int .i64 0, .slice none 0 0], []⟩).memory :=
  laidMet_of_run' 8 (by kernel_rfl) (by kernel_rfl)
theorem reads (os : Os) {H : Type} (enc : TypeId × Value → H) : ∃ places, DataW.whole enc Tryd.prog (({ World.holding Tryd.prog os ⟨#[], #[], []⟩ with heap := (World.holding Tryd.prog os ⟨#[], #[], []⟩).heap.modify 0 fun | .cells _ t frozen => .cells #[.int .u8 48, .int .u8 49, .int .u8 50, .int .u8 51, .int .u8 52, .int .u8 53, .int .u8 54, .int .u8 55, .int .u8 56, .int .u8 57, .int .u8 97, .int .u8 98, .int .u8 99, .int .u8 100, .int .u8 101, .int .u8 102] t frozen | o => o } : World).forCall (fun _ _ => 0) ⟨#[], #[.int .u64 0, .int .i64 0, .slice none 0 0], []⟩).memory Tryd.f3.params.toList Rows.octetNumbersSpec.vars false #[Value.int .u64 0, Value.int .i64 0, Value.slice none 0 0].toList 8 = some ([.lit (.int .u64 0), .lit (.int .i64 0), .nil], [], places) :=
  ⟨[], by kernel_rfl⟩

set_option maxRecDepth 100000 in
theorem lifted (os : Os) (started : os.Started) (H : Type) (enc : TypeId × Value → H) (F : Stop.Interp) :
    ReturnsInHanded {} Tryd.checked os 3 .any ((OpenSpec.ofChange Rows.octetNumbersSpec).preRow enc Tryd.prog Tryd.f3 Rows.octetNumbersRow.domain false Rows.octetNumbersRow.laid) (((OpenSpec.ofChange Rows.octetNumbersSpec).at F).post enc Tryd.prog Tryd.f3 false true false false) := by
  obtain ⟨places, hx⟩ := reads os enc
  refine returnsInHanded_of_row (C := Tryd.checked) (s := OpenSpec.ofChange Rows.octetNumbersSpec) own started (by kernel_rfl) Tryd.func3
    (witness_row_at (enc := enc) (C := Tryd.checked) false ({ World.holding Tryd.prog os ⟨#[], #[], []⟩ with heap := (World.holding Tryd.prog os ⟨#[], #[], []⟩).heap.modify 0 fun | .cells _ t frozen => .cells #[.int .u8 48, .int .u8 49, .int .u8 50, .int .u8 51, .int .u8 52, .int .u8 53, .int .u8 54, .int .u8 55, .int .u8 56, .int .u8 57, .int .u8 97, .int .u8 98, .int .u8 99, .int .u8 100, .int .u8 101, .int .u8 102] t frozen | o => o } : World) #[.int .u64 0, .int .i64 0, .slice none 0 0] rfl (by kernel_rfl) (by kernel_rfl) (by kernel_rfl)
      (OpenSpec.preRow_of_cond 8 hx (by kernel_rfl) (fun k hk => by cases hk) (by kernel_rfl) (laid_met os))) ?_
  intro W base args ds gs before hval hW _ _ _ hL _ _
  exact contract H enc W base args ds gs before hval hW hL

theorem said : Rows.OctetNumbersSaid :=
  OpenClaim.holds_of_cond 3 Tryd.f3 rfl rfl rfl rfl rfl rfl rfl ⟨rfl, rfl, rfl, rfl, rfl⟩ rfl rfl rfl rfl rfl (by kernel_rfl) Tryd.func3 (by kernel_rfl)
    (of_decide_eq_true (by kernel_rfl)) (by unfold Func.isWrapper; first | (rw [if_pos (by decide +kernel)]; kernel_rfl) | (rw [if_neg (by decide +kernel)]; exact ⟨rfl, rfl⟩))
    (fun os started H enc _ F => by rw [OpenClaim.pre_eq_preRow]; exact lifted os started H enc F)

theorem plain (f : FuncId) (fn : Func) (hf : Tryd.pinned.checked.prog.funcNamed "nepenthe/nepenthelaw01.OctetNumbers" = some f) (hfn : Tryd.pinned.checked.prog.funcs[f]? = some fn) :
    false = Tryd.pinned.checked.prog.looks [] ∧ ∀ (j : Nat) t, fn.params[j]? = some t → Tryd.pinned.checked.prog.wantsStandIn t = false := by
  obtain rfl : f = 3 := Option.some.inj ((show Tryd.prog.funcNamed "nepenthe/nepenthelaw01.OctetNumbers" = some 3 by kernel_rfl).symm.trans hf) |>.symm
  obtain rfl : fn = Tryd.f3 := (Option.some.inj (Tryd.func3.symm.trans hfn)).symm
  refine ⟨by kernel_rfl, fun j t ht => ?_⟩
  rw [Tryd.params3] at ht
  have hm := Array.mem_of_getElem? ht
  simp at hm
  rcases hm with rfl | rfl | rfl
  · exact (show Tryd.prog.wantsStandIn 22 = false by kernel_rfl)
  · exact (show Tryd.prog.wantsStandIn 3 = false by kernel_rfl)
  · exact (show Tryd.prog.wantsStandIn 23 = false by kernel_rfl)
end Go.Proofs.YtocihlnmajkceaaDoor.octetNumbers

namespace Go.Proofs.YtocihlnmajkceaaDoor
theorem octetNumbers_card : Rows.OctetNumbersCardSaid :=
  Claim7.holds_tied_plain_at .later [] _ _ _ _ octetNumbers.said (fun _ h => by cases h) (by kernel_rfl) (fun _ h => by cases h) octetNumbers_row_tie rfl ⟨rfl, rfl⟩ (by kernel_rfl) rfl octetNumbers.plain (by kernel_rfl)
#print axioms octetNumbers_card
end Go.Proofs.YtocihlnmajkceaaDoor
