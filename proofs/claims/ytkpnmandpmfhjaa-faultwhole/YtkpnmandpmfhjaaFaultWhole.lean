/- With an empty mask a torn program does it whole; one that fails does it whole just where there was nothing to clear, whatever the mask is; and the program answers. -/
import Derived.Test.YtkpnmandpmfhjaaUAwk
import Derived.Test.YtkpnmandpmfhjaaUJoin
import Derived.Test.YtkpnmandpmfhjaaSame
import Derived.Test.YtkpnmandpmfhjaaLawG
namespace Go.Proofs.Ytkpnmandpmfhjaa.faultWhole
open Go.ChangeShapes Go.WideShapes Go.ChangeAt Go.RowKit

open Go.Proofs.Ytkpnmandpmfhjaa.fa

set_option maxRecDepth 20000 in
set_option maxHeartbeats 4000000 in
theorem walk_n (v0 v1 v2 : Value) (xs ys : List Int) (w : World) (h0 : Byt w v0 xs) (h1 : Byt w v1 ys) (hl : xs.length ≠ ys.length) :
    Calls Try.prog 6 #[v0, v1, v2] w fun e w' => e = .returned (.bool true) ∧ Below w.heap.size w w' := by
  have AW : Hid (∀ w0, Calls Try.prog 10 #[] w0 fun e w' => e = .returned (.bool true) ∧ Below w0.heap.size w0 w') := awake_any
  obtain ⟨ao, ca, rfl, c1, c2, -⟩ := h0
  obtain ⟨bo', cb, rfl, d1, d2, -⟩ := h1
  have l1 : ((xs.length : Int) != (ys.length : Int)) = true := by simp; omega
  have BB : Hid (Below w.heap.size w w) := Below.refl _ _
  have BB0 := BB
  have t0 : (0 : Nat) = 0 := rfl
  go_enter Try.func6, Try.ntmps6
  go_wp2_with (first
    | (have q := t0; go_at_call 10; refine (AW.out _).mono ?_; rintro e w99 ⟨rfl, B99⟩; have BB : Hid (Below w.heap.size w w99) := BB.out.trans (B99.mono BB.out.size); clear t0 q; have t1 : (1 : Nat) = 1 := rfl))
  go_ret
  exact ⟨rfl, BB.out⟩

set_option maxRecDepth 20000 in
set_option maxHeartbeats 4000000 in
theorem walk_l (v0 v1 v2 : Value) (xs ys : List Int) (w : World) (h0 : Byt w v0 xs) (h1 : Byt w v1 ys) (hl : xs.length = ys.length) (hg : 300 < xs.length) :
    Calls Try.prog 6 #[v0, v1, v2] w fun e w' => e = .returned (.bool true) ∧ Below w.heap.size w w' := by
  have AW : Hid (∀ w0, Calls Try.prog 10 #[] w0 fun e w' => e = .returned (.bool true) ∧ Below w0.heap.size w0 w') := awake_any
  obtain ⟨ao, ca, rfl, c1, c2, -⟩ := h0
  obtain ⟨bo', cb, rfl, d1, d2, -⟩ := h1
  rw [← hl] at *
  have l1 : (300 : Int) < (xs.length : Int) := by omega
  have BB : Hid (Below w.heap.size w w) := Below.refl _ _
  have BB0 := BB
  have t0 : (0 : Nat) = 0 := rfl
  go_enter Try.func6, Try.ntmps6
  go_wp2_with (first
    | (have q := t0; go_at_call 10; refine (AW.out _).mono ?_; rintro e w99 ⟨rfl, B99⟩; have BB : Hid (Below w.heap.size w w99) := BB.out.trans (B99.mono BB.out.size); clear t0 q; have t1 : (1 : Nat) = 1 := rfl))
  go_ret
  exact ⟨rfl, BB.out⟩

set_option maxRecDepth 20000 in
set_option maxHeartbeats 4000000 in
theorem walk_s (v0 : Value) (xs : List Int) (v1 : Value) (ys : List Int) (v2 : Value) (m : List Int) (w : World) (h0 : Byt w v0 xs) (h1 : Byt w v1 ys) (h2 : Byt w v2 m) (hl : xs.length = ys.length) (hg : xs.length ≤ 300) :
    Calls Try.prog 6 #[v0, v1, v2] w fun e w' => e = .returned (.bool true) ∧ Below w.heap.size w w' := by
  have AW : Hid (∀ w0, Calls Try.prog 10 #[] w0 fun e w' => e = .returned (.bool true) ∧ Below w0.heap.size w0 w') := awake_any
  have SS : Hid (∀ va vb (zs : List Int) w0, Byt w0 va zs → Byt w0 vb zs → Calls Try.prog 13 #[va, vb] w0 fun e w' => e = .returned (.bool true) ∧ ∃ n, w' = w0.drewN n) := fun va vb zs w0 h1 h2 => by
    have := same_any w0 va vb zs zs h1 h2
    rwa [decide_eq_true rfl] at this
  have ha := h0.all
  have hy := h1.all
  have hmm := h2.all
  have ET := pgl_torn xs ys [] ha hy
  rw [torn_and xs ys ha] at ET
  have SF : Hid (∀ w0, Below w.heap.size w w0 → Calls Try.prog 12 #[v0, v1, v2] w0 fun e w' => ∃ v, e = .returned (.tuple #[v, .int .i64 0]) ∧ Byt w' v (ofb xs.length (failed xs ys m (8 * xs.length))) ∧ Below w0.heap.size w0 w') := fun w0 hb => by
    refine (fail_any v0 v1 v2 xs ys m w0 (h0.below hb) (h1.below hb) (h2.below hb) hl (by omega)).mono ?_
    rintro e w' ⟨v, p, z, he, hz, hv, hbb⟩
    rw [pgl_failed xs ys m p z ha hy hz] at hv
    exact ⟨v, he, hv, hbb⟩
  have EF := failed_and xs ys m ha
  have S1 : Hid (Calls Try.prog 15 #[v0, v1] w fun e w' => ∃ v, e = .returned v ∧ Byt w' v (andl xs ys) ∧ Below w.heap.size w w') := rand_any v0 v1 xs ys w h0 h1 hl (by omega)
  have SC : Hid (∀ w0, Below w.heap.size w w0 → Calls Try.prog 11 #[v0, v1, .slice none 0 0] w0 fun e w' => ∃ v, e = .returned (.tuple #[v, .int .i64 0]) ∧ Byt w' v (andl xs ys) ∧ Below w0.heap.size w0 w') := fun w0 hb => by
    have := clear_any v0 v1 (.slice none 0 0) xs ys [] w0 (h0.below hb) (h1.below hb) (Byt.nil w0) hl (by omega)
    rwa [ET] at this
  have S6 : Hid (∀ vb w0, Byt w0 vb (andl xs ys) → Below w.heap.size w w0 → Calls Try.prog 13 #[v0, vb] w0 fun e w' => e = .returned (.bool (decide (xs = andl xs ys))) ∧ ∃ n, w' = w0.drewN n) := fun vb w0 hv hb => same_any w0 v0 vb _ _ (h0.below hb) hv
  have S8 : Hid (∀ va vb w0, Byt w0 va (ofb xs.length (failed xs ys m (8 * xs.length))) → Byt w0 vb (andl xs ys) → Calls Try.prog 13 #[va, vb] w0 fun e w' => e = .returned (.bool (decide (xs = andl xs ys))) ∧ ∃ n, w' = w0.drewN n) := fun va vb w0 h3 h4 => by
    have := same_any w0 va vb _ _ h3 h4
    rwa [EF] at this
  generalize decide (xs = andl xs ys) = s at *
  generalize ofb xs.length (failed xs ys m (8 * xs.length)) = G at *
  generalize andl xs ys = U at *
  obtain ⟨ao, ca, rfl, c1, c2, -⟩ := h0
  obtain ⟨bo', cb, rfl, d1, d2, -⟩ := h1
  rw [← hl] at *
  have l1 : (xs.length : Int) ≤ 300 := by omega
  clear ha hy hmm ET EF h2
  have BB : Hid (Below w.heap.size w w) := Below.refl _ _
  have BB0 := BB
  have t0 : (0 : Nat) = 0 := rfl
  go_enter Try.func6, Try.ntmps6
  go_wp2_with (first
    | (have q := t6; go_at_call 10; refine (AW.out _).mono ?_; rintro e w99 ⟨rfl, B99⟩; have BB : Hid (Below w.heap.size w w99) := BB.out.trans (B99.mono BB.out.size); clear t6 q; have t7 : (7 : Nat) = 7 := rfl)
    | (have q := t5; go_at_call 13; refine (S8.out _ _ _ YB.out YW.out).mono ?_; rintro e wx6 ⟨rfl, n6, hw⟩; obtain rfl := hw.symm; have YW : Hid (Byt (w3.drewN (n4 + n5 + n6)) u1 U) := YW.out; have YA : Hid (Byt (w3.drewN (n4 + n5 + n6)) a1 U) := YA.out; have YB : Hid (Byt (w3.drewN (n4 + n5 + n6)) b1 G) := YB.out; have BB : Hid (Below w.heap.size w (w3.drewN (n4 + n5 + n6))) := below_drawn BB0.out (n4 + n5 + n6); clear t5 q; have t6 : (6 : Nat) = 6 := rfl)
    | (have q := t4; go_at_call 13; refine (SS.out _ _ U _ YA.out YW.out).mono ?_; rintro e wx5 ⟨rfl, n5, hw⟩; obtain rfl := hw.symm; have YW : Hid (Byt (w3.drewN (n4 + n5)) u1 U) := YW.out; have YA : Hid (Byt (w3.drewN (n4 + n5)) a1 U) := YA.out; have YB : Hid (Byt (w3.drewN (n4 + n5)) b1 G) := YB.out; have BB : Hid (Below w.heap.size w (w3.drewN (n4 + n5))) := below_drawn BB0.out (n4 + n5); clear t4 q; have t5 : (5 : Nat) = 5 := rfl)
    | (have q := t3; go_at_call 13; refine (S6.out _ _ YW.out BB.out).mono ?_; rintro e wx4 ⟨rfl, n4, hw⟩; obtain rfl := hw.symm; have YW : Hid (Byt (w3.drewN (n4)) u1 U) := YW.out; have YA : Hid (Byt (w3.drewN (n4)) a1 U) := YA.out; have YB : Hid (Byt (w3.drewN (n4)) b1 G) := YB.out; have BB : Hid (Below w.heap.size w (w3.drewN (n4))) := below_drawn BB0.out (n4); clear t3 q; have t4 : (4 : Nat) = 4 := rfl)
    | (have q := t2; go_at_call 12; refine (SF.out _ BB.out).mono ?_; rintro e w3 ⟨b1, rfl, y9, B3⟩; have YW : Hid (Byt w3 u1 U) := YW.out.below B3; have YA : Hid (Byt w3 a1 U) := YA.out.below B3; have YB : Hid (Byt w3 b1 G) := y9; have BB : Hid (Below w.heap.size w w3) := BB.out.trans (B3.mono BB.out.size); have BB0 := BB; clear y9 B3; clear t2 q; have t3 : (3 : Nat) = 3 := rfl)
    | (have q := t1; go_at_call 11; refine (SC.out _ BB.out).mono ?_; rintro e w2 ⟨a1, rfl, y9, B2⟩; have YW : Hid (Byt w2 u1 U) := YW.out.below B2; have YA : Hid (Byt w2 a1 U) := y9; have BB : Hid (Below w.heap.size w w2) := BB.out.trans (B2.mono BB.out.size); have BB0 := BB; clear y9 B2; clear t1 q; have t2 : (2 : Nat) = 2 := rfl)
    | (have q := t0; go_at_call 15; refine (S1.out).mono ?_; rintro e w1 ⟨u1, rfl, y9, B1⟩; have YW : Hid (Byt w1 u1 U) := y9; have BB : Hid (Below w.heap.size w w1) := BB.out.trans (B1.mono BB.out.size); have BB0 := BB; clear y9 B1; clear t0 q; have t1 : (1 : Nat) = 1 := rfl))
  go_ret
  exact ⟨rfl, BB.out⟩

theorem walk (v0 : Value) (xs : List Int) (v1 : Value) (ys : List Int) (v2 : Value) (m : List Int) (w : World) (h0 : Byt w v0 xs) (h1 : Byt w v1 ys) (h2 : Byt w v2 m) :
    Calls Try.prog 6 #[v0, v1, v2] w fun e w' => e = .returned (.bool true) ∧ Below w.heap.size w w' := by
  by_cases hl : xs.length = ys.length
  · by_cases h : xs.length ≤ 300
    · exact walk_s v0 xs v1 ys v2 m w h0 h1 h2 hl h
    · exact walk_l v0 v1 v2 xs ys w h0 h1 hl (by omega)
  · exact walk_n v0 v1 v2 xs ys w h0 h1 hl

theorem params : ∀ t ∈ Try.f6.params.toList, Try.prog.readableRec t = true ∧ t < Try.prog.types.size := by
  rw [Try.params6]
  intro t ht
  simp at ht
  subst ht
  exact ⟨by kernel_rfl, of_decide_eq_true (by kernel_rfl)⟩

theorem contract (H : Type) (enc : TypeId × Value → H) (W : World) (base : Nat) (args : Array Value) (ds gs : List (DataW H)) (before : List MemPlace)
    (hval : ∀ (j : Nat) t v, Try.f6.params[j]? = some t → args[j]? = some v → Value.okWide Try.prog W .any base t v)
    (hW : DataW.Whole enc Try.prog Try.f6.params.toList Rows.faultWholeSpec.vars false W args.toList ds gs before) :
    Calls Try.prog 6 args W fun e W' => ∃ v, e = .returned v ∧ Rows.faultWholeSpec.post enc Try.prog Try.f6 false true false false W args v W' := by
  have hW' := hW
  obtain ⟨p, q, hA0, hV, rfl, hfz, hnd⟩ := hW
  have hA : DataW.TrodAll enc Try.prog W 0 (fun _ => true) true Try.f6.params.toList args.toList ds p := hA0
  rw [Try.params6] at hA hval
  obtain ⟨v0, v1, v2, d0, d1, d2, p0, p1, p2, rfl, rfl, rfl, h0, h1, h2⟩ := trodAll_three hA
  obtain ⟨rfl, rfl⟩ := trodVars_none hV
  obtain ⟨xs0, b0⟩ := byt_open (hval 0 22 v0 rfl rfl) h0
  obtain ⟨xs1, b1⟩ := byt_open (hval 1 22 v1 rfl rfl) h1
  obtain ⟨xs2, b2⟩ := byt_open (hval 2 22 v2 rfl rfl) h2
  clear hA0
  refine (walk v0 xs0 v1 xs1 v2 xs2 W b0 b1 b2).mono fun e W' ⟨he, hg⟩ => ?_
  subst he
  exact ⟨_, rfl, post_law rfl (by kernel_rfl) params rfl rfl rfl hW' hg⟩

theorem laid_met (os : Os) : laidMet Try.prog Rows.faultWholeRow.laid ((World.holding Try.prog os ⟨#[], #[], []⟩).forCall (fun _ _ => 0) ⟨#[], #[.slice none 0 0, .slice none 0 0, .slice none 0 0], []⟩).memory :=
  laidMet_of_run' 8 (by kernel_rfl) (by kernel_rfl)
theorem reads (os : Os) {H : Type} (enc : TypeId × Value → H) : ∃ places, DataW.whole enc Try.prog ((World.holding Try.prog os ⟨#[], #[], []⟩).forCall (fun _ _ => 0) ⟨#[], #[.slice none 0 0, .slice none 0 0, .slice none 0 0], []⟩).memory Try.f6.params.toList Rows.faultWholeSpec.vars false #[Value.slice none 0 0, Value.slice none 0 0, Value.slice none 0 0].toList 8 = some ([.nil, .nil, .nil], [], places) :=
  ⟨[], by kernel_rfl⟩

set_option maxRecDepth 100000 in
theorem lifted (os : Os) (started : os.Started) (H : Type) (enc : TypeId × Value → H) (F : Stop.Interp) :
    ReturnsInHanded {} Try.checked os 6 .any ((OpenSpec.ofChange Rows.faultWholeSpec).preRow enc Try.prog Try.f6 Rows.faultWholeRow.domain false Rows.faultWholeRow.laid) (((OpenSpec.ofChange Rows.faultWholeSpec).at F).post enc Try.prog Try.f6 false true false false) := by
  obtain ⟨places, hx⟩ := reads os enc
  refine returnsInHanded_of_row (C := Try.checked) (s := OpenSpec.ofChange Rows.faultWholeSpec) own started (by kernel_rfl) Try.func6
    (witness_row_at (enc := enc) (C := Try.checked) false (World.holding Try.prog os ⟨#[], #[], []⟩) #[.slice none 0 0, .slice none 0 0, .slice none 0 0] rfl (by kernel_rfl) (by kernel_rfl) (by kernel_rfl)
      (OpenSpec.preRow_of_cond 8 hx (by kernel_rfl) (fun k hk => by cases hk) (by kernel_rfl) (laid_met os))) ?_
  intro W base args ds gs before hval hW _ _ _ _ _ _
  exact contract H enc W base args ds gs before hval hW

theorem said : Rows.FaultWholeSaid :=
  OpenClaim.holds_of_cond 6 Try.f6 rfl rfl rfl rfl rfl rfl rfl ⟨rfl, rfl, rfl, rfl, rfl⟩ rfl rfl rfl rfl rfl (by kernel_rfl) Try.func6 (by kernel_rfl)
    (of_decide_eq_true (by kernel_rfl)) (by unfold Func.isWrapper; first | (rw [if_pos (by decide +kernel)]; kernel_rfl) | (rw [if_neg (by decide +kernel)]; exact ⟨rfl, rfl⟩))
    (fun os started H enc _ F => by rw [OpenClaim.pre_eq_preRow]; exact lifted os started H enc F)
end Go.Proofs.Ytkpnmandpmfhjaa.faultWhole

namespace Go.Proofs.Ytkpnmandpmfhjaa
theorem faultWhole_said : Rows.FaultWholeSaid := faultWhole.said
#print axioms faultWhole_said
end Go.Proofs.Ytkpnmandpmfhjaa
