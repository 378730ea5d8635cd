/- Behind any torn erase there is what the reference tells, nothing was cleared, and with an empty mask it is done whole; and the program answers. -/
import Derived.Test.YtkpnmandpmfhjaaUAwk
import Derived.Test.YtkpnmandpmfhjaaUErase
import Derived.Test.YtkpnmandpmfhjaaUJoin
import Derived.Test.YtkpnmandpmfhjaaSame
import Derived.Test.YtkpnmandpmfhjaaLawG
namespace Go.Proofs.Ytkpnmandpmfhjaa.faultSets
open Go.ChangeShapes Go.WideShapes Go.ChangeAt Go.RowKit

open Go.Proofs.Ytkpnmandpmfhjaa.fa

set_option maxRecDepth 20000 in
set_option maxHeartbeats 4000000 in
theorem walk_l (v0 v1 : Value) (xs : List Int) (w : World) (h0 : Byt w v0 xs) (hl : 300 < xs.length) :
    Calls Try.prog 5 #[v0, v1] w fun e w' => e = .returned (.bool true) ∧ Below w.heap.size w w' := by
  have AW : Hid (∀ w0, Calls Try.prog 10 #[] w0 fun e w' => e = .returned (.bool true) ∧ Below w0.heap.size w0 w') := awake_any
  obtain ⟨ao, ca, rfl, c1, c2, -⟩ := h0
  have l1 : (300 : Int) < (xs.length : Int) := by omega
  have BB : Hid (Below w.heap.size w w) := Below.refl _ _
  have BB0 := BB
  have t0 : (0 : Nat) = 0 := rfl
  go_enter Try.func5, Try.ntmps5
  go_wp2_with (first
    | (have q := t0; go_at_call 10; refine (AW.out _).mono ?_; rintro e w99 ⟨rfl, B99⟩; have BB : Hid (Below w.heap.size w w99) := BB.out.trans (B99.mono BB.out.size); clear t0 q; have t1 : (1 : Nat) = 1 := rfl))
  go_ret
  exact ⟨rfl, BB.out⟩

set_option maxRecDepth 20000 in
set_option maxHeartbeats 4000000 in
theorem walk_s (v0 : Value) (xs : List Int) (v1 : Value) (m : List Int) (w : World) (h0 : Byt w v0 xs) (h1 : Byt w v1 m) (hl : xs.length ≤ 300) :
    Calls Try.prog 5 #[v0, v1] w fun e w' => e = .returned (.bool true) ∧ Below w.heap.size w w' := by
  have AW : Hid (∀ w0, Calls Try.prog 10 #[] w0 fun e w' => e = .returned (.bool true) ∧ Below w0.heap.size w0 w') := awake_any
  have SS : Hid (∀ va vb (zs : List Int) w0, Byt w0 va zs → Byt w0 vb zs → Calls Try.prog 13 #[va, vb] w0 fun e w' => e = .returned (.bool true) ∧ ∃ n, w' = w0.drewN n) := fun va vb zs w0 h1 h2 => by
    have := same_any w0 va vb zs zs h1 h2
    rwa [decide_eq_true rfl] at this
  have ha := h0.all
  have hm := h1.all
  have E1 := stl_erased xs m ha hm
  have E2 : stl xs (mb []) = List.replicate xs.length 255 := by
    rw [stl_erased xs [] ha (allB_mem fun x hx => by simp at hx)]
    exact ofb_full _ _ fun i _ => erased_whole xs i
  have E3 : andl (ofb xs.length (erased xs m)) xs = xs := and_sup xs ha _ fun i _ => erased_sup xs m i
  have E4 : clamp (xs.length : Int) 65536 = xs.length := by unfold clamp; omega
  have EL : (ofb xs.length (erased xs m)).length = xs.length := ofb_len _ _
  have S1 : Hid (Calls Try.prog 16 #[v0, v1] w fun e w' => ∃ v, e = .returned v ∧ Byt w' v (ofb xs.length (erased xs m)) ∧ Below w.heap.size w w') := by
    have := fset_any v0 v1 xs m w h0 h1 (by omega)
    rwa [E1] at this
  have S2 : Hid (∀ w0, Below w.heap.size w w0 → Calls Try.prog 16 #[v0, .slice none 0 0] w0 fun e w' => ∃ v, e = .returned v ∧ Byt w' v (List.replicate xs.length 255) ∧ Below w0.heap.size w0 w') := fun w0 hb => by
    have := fset_any v0 (.slice none 0 0) xs [] w0 (h0.below hb) (Byt.nil w0) (by omega)
    rwa [E2] at this
  have S3 : Hid (∀ w0, Below w.heap.size w w0 → Calls Try.prog 17 #[v0, v1] w0 fun e w' => ∃ v, e = .returned v ∧ Byt w' v (ofb xs.length (erased xs m)) ∧ Below w0.heap.size w0 w') := fun w0 hb => rerase_any v0 v1 xs m w0 (h0.below hb) (h1.below hb) (by omega)
  have S4 : Hid (∀ va w0, Byt w0 va (ofb xs.length (erased xs m)) → Below w.heap.size w w0 → Calls Try.prog 15 #[va, v0] w0 fun e w' => ∃ v, e = .returned v ∧ Byt w' v xs ∧ Below w0.heap.size w0 w') := fun va w0 hy hb => by
    have := rand_any va v0 _ xs w0 hy (h0.below hb) EL (by omega)
    rwa [E3] at this
  have S5 : Hid (∀ w0, Calls Try.prog 18 #[.int .u8 255, .int .i64 (xs.length : Int)] w0 fun e w' => ∃ v, e = .returned v ∧ Byt w' v (List.replicate xs.length 255) ∧ Below w0.heap.size w0 w') := fun w0 => by
    have := rfill_any 255 xs.length w0 (by decide)
    rwa [E4] at this
  have H0 : Hid (Byt w v0 xs) := h0
  generalize ofb xs.length (erased xs m) = E at *
  generalize List.replicate xs.length (255 : Int) = R at *
  obtain ⟨ao, ca, rfl, c1, c2, -⟩ := h0
  have l1 : (xs.length : Int) ≤ 300 := by omega
  clear ha hm E1 E2 E3 E4 EL h1
  have BB : Hid (Below w.heap.size w w) := Below.refl _ _
  have BB0 := BB
  have t0 : (0 : Nat) = 0 := rfl
  go_enter Try.func5, Try.ntmps5
  go_wp2_with (first
    | (have q := t8; go_at_call 10; refine (AW.out _).mono ?_; rintro e w99 ⟨rfl, B99⟩; have BB : Hid (Below w.heap.size w w99) := BB.out.trans (B99.mono BB.out.size); clear t8 q; have t9 : (9 : Nat) = 9 := rfl)
    | (have q := t7; go_at_call 13; refine (SS.out _ _ R _ YB.out YF.out).mono ?_; rintro e wx8 ⟨rfl, n8, hw⟩; obtain rfl := hw.symm; have YA : Hid (Byt (w7.drewN (n8)) a1 E) := YA.out; have YB : Hid (Byt (w7.drewN (n8)) b1 R) := YB.out; have YC : Hid (Byt (w7.drewN (n8)) c9 E) := YC.out; have YD : Hid (Byt (w7.drewN (n8)) d1 xs) := YD.out; have YF : Hid (Byt (w7.drewN (n8)) f1 R) := YF.out; have BB : Hid (Below w.heap.size w (w7.drewN (n8))) := below_drawn BB0.out (n8); clear t7 q; have t8 : (8 : Nat) = 8 := rfl)
    | (have q := t6; go_at_call 18; refine (S5.out _).mono ?_; rintro e w7 ⟨f1, rfl, y9, B7⟩; have YA : Hid (Byt w7 a1 E) := YA.out.below B7; have YB : Hid (Byt w7 b1 R) := YB.out.below B7; have YC : Hid (Byt w7 c9 E) := YC.out.below B7; have YD : Hid (Byt w7 d1 xs) := YD.out.below B7; have YF : Hid (Byt w7 f1 R) := y9; have BB : Hid (Below w.heap.size w w7) := BB.out.trans (B7.mono BB.out.size); have BB0 := BB; clear y9 B7; clear t6 q; have t7 : (7 : Nat) = 7 := rfl)
    | (have q := t5; go_at_call 13; refine (SS.out _ _ xs _ YD.out (H0.out.below BB.out)).mono ?_; rintro e wx6 ⟨rfl, n6, hw⟩; obtain rfl := hw.symm; have YA : Hid (Byt (w5.drewN (n6)) a1 E) := YA.out; have YB : Hid (Byt (w5.drewN (n6)) b1 R) := YB.out; have YC : Hid (Byt (w5.drewN (n6)) c9 E) := YC.out; have YD : Hid (Byt (w5.drewN (n6)) d1 xs) := YD.out; have BB : Hid (Below w.heap.size w (w5.drewN (n6))) := below_drawn BB0.out (n6); clear t5 q; have t6 : (6 : Nat) = 6 := rfl)
    | (have q := t4; go_at_call 15; refine (S4.out _ _ YA.out BB.out).mono ?_; rintro e w5 ⟨d1, rfl, y9, B5⟩; have YA : Hid (Byt w5 a1 E) := YA.out.below B5; have YB : Hid (Byt w5 b1 R) := YB.out.below B5; have YC : Hid (Byt w5 c9 E) := YC.out.below B5; have YD : Hid (Byt w5 d1 xs) := y9; have BB : Hid (Below w.heap.size w w5) := BB.out.trans (B5.mono BB.out.size); have BB0 := BB; clear y9 B5; clear t4 q; have t5 : (5 : Nat) = 5 := rfl)
    | (have q := t3; go_at_call 13; refine (SS.out _ _ E _ YA.out YC.out).mono ?_; rintro e wx4 ⟨rfl, n4, hw⟩; obtain rfl := hw.symm; have YA : Hid (Byt (w3.drewN (n4)) a1 E) := YA.out; have YB : Hid (Byt (w3.drewN (n4)) b1 R) := YB.out; have YC : Hid (Byt (w3.drewN (n4)) c9 E) := YC.out; have BB : Hid (Below w.heap.size w (w3.drewN (n4))) := below_drawn BB0.out (n4); clear t3 q; have t4 : (4 : Nat) = 4 := rfl)
    | (have q := t2; go_at_call 17; refine (S3.out _ BB.out).mono ?_; rintro e w3 ⟨c9, rfl, y9, B3⟩; have YA : Hid (Byt w3 a1 E) := YA.out.below B3; have YB : Hid (Byt w3 b1 R) := YB.out.below B3; have YC : Hid (Byt w3 c9 E) := y9; have BB : Hid (Below w.heap.size w w3) := BB.out.trans (B3.mono BB.out.size); have BB0 := BB; clear y9 B3; clear t2 q; have t3 : (3 : Nat) = 3 := rfl)
    | (have q := t1; go_at_call 16; refine (S2.out _ BB.out).mono ?_; rintro e w2 ⟨b1, rfl, y9, B2⟩; have YA : Hid (Byt w2 a1 E) := YA.out.below B2; have YB : Hid (Byt w2 b1 R) := y9; have BB : Hid (Below w.heap.size w w2) := BB.out.trans (B2.mono BB.out.size); have BB0 := BB; clear y9 B2; clear t1 q; have t2 : (2 : Nat) = 2 := rfl)
    | (have q := t0; go_at_call 16; refine (S1.out).mono ?_; rintro e w1 ⟨a1, rfl, y9, B1⟩; have YA : Hid (Byt w1 a1 E) := y9; have BB : Hid (Below w.heap.size w w1) := BB.out.trans (B1.mono BB.out.size); have BB0 := BB; clear y9 B1; clear t0 q; have t1 : (1 : Nat) = 1 := rfl))
  go_ret
  exact ⟨rfl, BB.out⟩

theorem walk (v0 : Value) (xs : List Int) (v1 : Value) (m : List Int) (w : World) (h0 : Byt w v0 xs) (h1 : Byt w v1 m) :
    Calls Try.prog 5 #[v0, v1] w fun e w' => e = .returned (.bool true) ∧ Below w.heap.size w w' := by
  by_cases h : xs.length ≤ 300
  · exact walk_s v0 xs v1 m w h0 h1 h
  · exact walk_l v0 v1 xs w h0 (by omega)

theorem params : ∀ t ∈ Try.f5.params.toList, Try.prog.readableRec t = true ∧ t < Try.prog.types.size := by
  rw [Try.params5]
  intro t ht
  simp at ht
  subst ht
  exact ⟨by kernel_rfl, of_decide_eq_true (by kernel_rfl)⟩

theorem contract (H : Type) (enc : TypeId × Value → H) (W : World) (base : Nat) (args : Array Value) (ds gs : List (DataW H)) (before : List MemPlace)
    (hval : ∀ (j : Nat) t v, Try.f5.params[j]? = some t → args[j]? = some v → Value.okWide Try.prog W .any base t v)
    (hW : DataW.Whole enc Try.prog Try.f5.params.toList Rows.faultSetsSpec.vars false W args.toList ds gs before) :
    Calls Try.prog 5 args W fun e W' => ∃ v, e = .returned v ∧ Rows.faultSetsSpec.post enc Try.prog Try.f5 false true false false W args v W' := by
  have hW' := hW
  obtain ⟨p, q, hA0, hV, rfl, hfz, hnd⟩ := hW
  have hA : DataW.TrodAll enc Try.prog W 0 (fun _ => true) true Try.f5.params.toList args.toList ds p := hA0
  rw [Try.params5] at hA hval
  obtain ⟨v0, v1, d0, d1, p0, p1, rfl, rfl, rfl, h0, h1⟩ := trodAll_two hA
  obtain ⟨rfl, rfl⟩ := trodVars_none hV
  obtain ⟨xs0, b0⟩ := byt_open (hval 0 22 v0 rfl rfl) h0
  obtain ⟨xs1, b1⟩ := byt_open (hval 1 22 v1 rfl rfl) h1
  clear hA0
  refine (walk v0 xs0 v1 xs1 W b0 b1).mono fun e W' ⟨he, hg⟩ => ?_
  subst he
  exact ⟨_, rfl, post_law rfl (by kernel_rfl) params rfl rfl rfl hW' hg⟩

theorem laid_met (os : Os) : laidMet Try.prog Rows.faultSetsRow.laid ((World.holding Try.prog os ⟨#[], #[], []⟩).forCall (fun _ _ => 0) ⟨#[], #[.slice none 0 0, .slice none 0 0], []⟩).memory :=
  laidMet_of_run' 8 (by kernel_rfl) (by kernel_rfl)
theorem reads (os : Os) {H : Type} (enc : TypeId × Value → H) : ∃ places, DataW.whole enc Try.prog ((World.holding Try.prog os ⟨#[], #[], []⟩).forCall (fun _ _ => 0) ⟨#[], #[.slice none 0 0, .slice none 0 0], []⟩).memory Try.f5.params.toList Rows.faultSetsSpec.vars false #[Value.slice none 0 0, Value.slice none 0 0].toList 8 = some ([.nil, .nil], [], places) :=
  ⟨[], by kernel_rfl⟩

set_option maxRecDepth 100000 in
theorem lifted (os : Os) (started : os.Started) (H : Type) (enc : TypeId × Value → H) (F : Stop.Interp) :
    ReturnsInHanded {} Try.checked os 5 .any ((OpenSpec.ofChange Rows.faultSetsSpec).preRow enc Try.prog Try.f5 Rows.faultSetsRow.domain false Rows.faultSetsRow.laid) (((OpenSpec.ofChange Rows.faultSetsSpec).at F).post enc Try.prog Try.f5 false true false false) := by
  obtain ⟨places, hx⟩ := reads os enc
  refine returnsInHanded_of_row (C := Try.checked) (s := OpenSpec.ofChange Rows.faultSetsSpec) own started (by kernel_rfl) Try.func5
    (witness_row_at (enc := enc) (C := Try.checked) false (World.holding Try.prog os ⟨#[], #[], []⟩) #[.slice none 0 0, .slice none 0 0] rfl (by kernel_rfl) (by kernel_rfl) (by kernel_rfl)
      (OpenSpec.preRow_of_cond 8 hx (by kernel_rfl) (fun k hk => by cases hk) (by kernel_rfl) (laid_met os))) ?_
  intro W base args ds gs before hval hW _ _ _ _ _ _
  exact contract H enc W base args ds gs before hval hW

theorem said : Rows.FaultSetsSaid :=
  OpenClaim.holds_of_cond 5 Try.f5 rfl rfl rfl rfl rfl rfl rfl ⟨rfl, rfl, rfl, rfl, rfl⟩ rfl rfl rfl rfl rfl (by kernel_rfl) Try.func5 (by kernel_rfl)
    (of_decide_eq_true (by kernel_rfl)) (by unfold Func.isWrapper; first | (rw [if_pos (by decide +kernel)]; kernel_rfl) | (rw [if_neg (by decide +kernel)]; exact ⟨rfl, rfl⟩))
    (fun os started H enc _ F => by rw [OpenClaim.pre_eq_preRow]; exact lifted os started H enc F)
end Go.Proofs.Ytkpnmandpmfhjaa.faultSets

namespace Go.Proofs.Ytkpnmandpmfhjaa
theorem faultSets_said : Rows.FaultSetsSaid := faultSets.said
#print axioms faultSets_said
end Go.Proofs.Ytkpnmandpmfhjaa
