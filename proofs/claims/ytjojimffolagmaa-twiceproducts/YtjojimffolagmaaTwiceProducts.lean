/- P8.1, P8.2: the product of any two: ErrShape where one of them is not sixteen bytes; else what the definition says; doubling is a product with x. -/
import Derived.Test.YtjojimffolagmaaTAwk
namespace Go.Proofs.Ytjojimffolagmaa.twiceProducts
open Go.ChangeShapes Go.WideShapes Go.ChangeAt Go.RowKit

set_option maxHeartbeats 4000000 in
theorem walk_no (va : Value) (xs : List Int) (vb : Value) (ys : List Int) (w : World) (ha : Byt w va xs) (hb : Byt w vb ys) (h : xs.length ≠ 16 ∨ ys.length ≠ 16) :
    Calls Try.prog 5 #[va, vb] w fun e w' => e = .returned (.bool true) ∧ Below w.heap.size w w' := by
  have S1 : Hid (Calls Try.prog 15 #[va, vb] w fun e w' => e = .returned (.tuple #[.slice none 0 0, .int .i64 2]) ∧ w' = w) := mul_no va vb xs ys w ha hb h
  obtain ⟨ao, ca, rfl, h1, h2, -, -, -⟩ := ha
  obtain ⟨bo, cb, rfl, h3, h4, -, -, -⟩ := hb
  by_cases hl : xs.length = 16
  · have h5 : ((ys.length : Int) != 16) = true := by simp; omega
    rw [hl] at S1 h1 ⊢
    clear h hl
    generalize ys.length = m at *
    go_enter Try.func5, Try.ntmps5
    go_wp2_with (first
      | (go_at_call 8; refine (awake_any _).mono ?_; rintro e w9 ⟨rfl, B9⟩)
      | (go_at_call 15; refine (S1.out).mono ?_; rintro e wx ⟨rfl, hw⟩; obtain rfl := hw.symm))
    go_ret
    exact ⟨rfl, B9⟩
  · have h5 : ((xs.length : Int) != 16) = true := by simp; omega
    clear h hl
    generalize xs.length = m at *
    generalize ys.length = m' at *
    go_enter Try.func5, Try.ntmps5
    go_wp2_with (first
      | (go_at_call 8; refine (awake_any _).mono ?_; rintro e w9 ⟨rfl, B9⟩)
      | (go_at_call 15; refine (S1.out).mono ?_; rintro e wx ⟨rfl, hw⟩; obtain rfl := hw.symm))
    go_ret
    exact ⟨rfl, B9⟩

theorem two_val : nm16 (z16.set 0 2) = 2 := by decide +kernel

set_option maxHeartbeats 4000000 in
theorem walk_yes (va : Value) (xs : List Int) (vb : Value) (ys : List Int) (w : World) (ha : Byt w va xs) (hb : Byt w vb ys) (hl : xs.length = 16) (hm : ys.length = 16) :
    Calls Try.prog 5 #[va, vb] w fun e w' => e = .returned (.bool true) ∧ Below w.heap.size w w' := by
  have S1 : Hid (Calls Try.prog 15 #[va, vb] w fun e w' => ∃ g, e = .returned (.tuple #[.slice (some ⟨g, 0, none⟩) 16 16, .int .i64 0]) ∧ Ar w' g 0 .u8 (bt16 (tp (nm16 xs) (nm16 ys))) ∧ w.heap.size ≤ g ∧ Below w.heap.size w w') := mul_any va vb xs ys w ha hb hl hm
  have S2 : Hid (∀ w', Below w.heap.size w w' → Calls Try.prog 9 #[va] w' fun e w'' => ∃ g, e = .returned (.tuple #[.slice (some ⟨g, 0, none⟩) 16 16, .int .i64 0]) ∧ Ar w'' g 0 .u8 (bt16 (td (nm16 xs))) ∧ w'.heap.size ≤ g ∧ Below w'.heap.size w' w'') := fun w' h => double_any va xs w' (ha.below h) hl
  have S3 : Hid (∀ w' u, Below w.heap.size w w' → Byt w' u (z16.set 0 2) → Calls Try.prog 15 #[va, u] w' fun e w'' => ∃ g, e = .returned (.tuple #[.slice (some ⟨g, 0, none⟩) 16 16, .int .i64 0]) ∧ Ar w'' g 0 .u8 (bt16 (td (nm16 xs))) ∧ w'.heap.size ≤ g ∧ Below w'.heap.size w' w'') := fun w' u h hu => by
    have := mul_any va u xs _ w' (ha.below h) hu hl (by decide)
    rwa [two_val, tp_two _ (nm16_lt xs ha.all)] at this
  have S4 : Hid (∀ w', Below w.heap.size w w' → Calls Try.prog 16 #[va, vb] w' fun e w'' => ∃ v', e = .returned v' ∧ Byt w'' v' (bt16 (tp (nm16 xs) (nm16 ys))) ∧ Below w'.heap.size w' w'') := fun w' h => rmul_any va vb xs ys w' (ha.below h) (hb.below h) hl hm
  have PB : Hid ((bt16 (tp (nm16 xs) (nm16 ys))).length = 16 ∧ AllB (bt16 (tp (nm16 xs) (nm16 ys)))) := ⟨bt16_len _, bt16_all _⟩
  have DB : Hid ((bt16 (td (nm16 xs))).length = 16 ∧ AllB (bt16 (td (nm16 xs)))) := ⟨bt16_len _, bt16_all _⟩
  have TB : Hid ((z16.set 0 2).length = 16 ∧ AllB (z16.set 0 2)) := ⟨by decide, allB_mem (by decide)⟩
  generalize bt16 (tp (nm16 xs) (nm16 ys)) = zs at *
  generalize bt16 (td (nm16 xs)) = ds at *
  obtain ⟨ao, ca, rfl, h1, h2, -, -, -⟩ := ha
  obtain ⟨bo, cb, rfl, h3, h4, -, -, -⟩ := hb
  rw [hl] at S1 S2 S3 S4 h1 ⊢
  rw [hm] at S1 S4 h3 ⊢
  clear hl hm
  go_enter Try.func5, Try.ntmps5
  go_wp2_with (first
    | (go_at_call 8; refine (awake_any _).mono ?_; rintro e w9 ⟨rfl, B9⟩; have BB : Hid (Below w.heap.size w w9) := BB.out.trans (B9.mono BB.out.size); clear B9)
    | (go_at_call 11; have q := D7; refine (same_yes _ _ _ ds D7.out Q7.out).mono ?_; rintro e w8 ⟨rfl, B8⟩; have BB : Hid (Below w.heap.size w w8) := BB.out.trans (B8.mono BB.out.size); clear B8)
    | (go_at_call 11; refine (same_yes _ _ _ zs P6.out R6.out).mono ?_; rintro e w7 ⟨rfl, B7⟩; have D7 : Hid (Byt w7 (.slice (some ⟨gd, 0, none⟩) 16 16) ds) := D6.out.below B7; have Q7 : Hid (Byt w7 (.slice (some ⟨gq, 0, none⟩) 16 16) ds) := Q6.out.below B7; have BB : Hid (Below w.heap.size w w7) := BB.out.trans (B7.mono BB.out.size); clear B7)
    | (go_at_call 16; refine (S4.out _ BB.out).mono ?_; rintro e w6 ⟨v6, rfl, y6, B6⟩; have R6 : Hid (Byt w6 v6 zs) := y6; have P6 : Hid (Byt w6 (.slice (some ⟨gp, 0, none⟩) 16 16) zs) := P5.out.below B6; have D6 : Hid (Byt w6 (.slice (some ⟨gd, 0, none⟩) 16 16) ds) := D5.out.below B6; have Q6 : Hid (Byt w6 (.slice (some ⟨gq, 0, none⟩) 16 16) ds) := Q5.out.below B6; have BB : Hid (Below w.heap.size w w6) := BB.out.trans (B6.mono BB.out.size); clear y6 B6)
    | (go_at_call 15; have q := T4; refine (S3.out _ _ BB.out T4.out).mono ?_; rintro e w5 ⟨gq, rfl, a5, L5, B5⟩; have Q5 : Hid (Byt w5 (.slice (some ⟨gq, 0, none⟩) 16 16) ds) := a5.bytG DB.out.2 16 16 DB.out.1 (by omega) (by omega); have P5 : Hid (Byt w5 (.slice (some ⟨gp, 0, none⟩) 16 16) zs) := P4.out.below B5; have D5 : Hid (Byt w5 (.slice (some ⟨gd, 0, none⟩) 16 16) ds) := D4.out.below B5; have BB : Hid (Below w.heap.size w w5) := BB.out.trans (B5.mono BB.out.size); clear a5 B5)
    | (go_at_call 9; have q := T3; refine (S2.out _ BB.out).mono ?_; rintro e w4 ⟨gd, rfl, a4, L4, B4⟩; have D4 : Hid (Byt w4 (.slice (some ⟨gd, 0, none⟩) 16 16) ds) := a4.bytG DB.out.2 16 16 DB.out.1 (by omega) (by omega); have P4 : Hid (Byt w4 (.slice (some ⟨gp, 0, none⟩) 16 16) zs) := P3.out.below B4; have T4 : Hid (Byt w4 (.slice (some ⟨w1.heap.size, 0, none⟩) 16 16) (z16.set 0 2)) := T3.out.below B4; have BB : Hid (Below w.heap.size w w4) := BB.out.trans (B4.mono BB.out.size); clear a4 B4)
    | (have q2 := s2; refine set_lawF _ rfl (.tmp 38) _ 5 rfl .u8 2 w1.heap.size 0 z16 rfl rfl HO2.out (by decide) i_u8 ?_; intro w3 A3 B3; have T3 : Hid (Byt w3 (.slice (some ⟨w1.heap.size, 0, none⟩) 16 16) (z16.set 0 2)) := A3.bytG TB.out.2 16 16 TB.out.1 (by omega) (by omega); have P3 : Hid (Byt w3 (.slice (some ⟨gp, 0, none⟩) 16 16) zs) := (PA2.out.below B3 (by have := PL.out; omega)).bytG PB.out.2 16 16 PB.out.1 (by omega) (by omega); have BB : Hid (Below w.heap.size w w3) := BB.out.trans (B3.mono (by have := LL.out; omega)); clear A3 B3)
    | (at_make; refine make_law _ rfl _ _ rfl w1.heap.size (Nat.le_refl _) 16 16 rfl rfl rfl (by omega) ?_; intro w2 hown B2 s2; have HO2 : Hid (Ar w2 w1.heap.size 0 .u8 z16) := hown.arG; have PA2 : Hid (Ar w2 gp 0 .u8 zs) := PA1.out.below B2 PL.out; have BB : Hid (Below w.heap.size w w2) := BB.out.trans (B2.mono LL.out); clear hown)
    | (go_at_call 15; refine (S1.out).mono ?_; rintro e w1 ⟨gp, rfl, a1, L1, B1⟩; have PA1 : Hid (Ar w1 gp 0 .u8 zs) := a1; have PL : Hid (gp < w1.heap.size) := a1.lt (by rw [PB.out.1]; omega); have LL : Hid (w.heap.size ≤ w1.heap.size) := B1.size; have BB : Hid (Below w.heap.size w w1) := B1; clear a1 B1))
  go_ret
  exact ⟨rfl, BB.out⟩

theorem walk (va : Value) (xs : List Int) (vb : Value) (ys : List Int) (w : World) (ha : Byt w va xs) (hb : Byt w vb ys) :
    Calls Try.prog 5 #[va, vb] w fun e w' => e = .returned (.bool true) ∧ Below w.heap.size w w' := by
  by_cases h : xs.length ≠ 16 ∨ ys.length ≠ 16
  · exact walk_no va xs vb ys w ha hb h
  · exact walk_yes va xs vb ys w ha hb (by omega) (by omega)

theorem params : ∀ t ∈ Try.f5.params.toList, Try.prog.readableRec t = true ∧ t < Try.prog.types.size := by
  rw [Try.params5]
  intro t ht
  simp at ht
  subst ht
  exact ⟨by kernel_rfl, of_decide_eq_true (by kernel_rfl)⟩

theorem contract (H : Type) (enc : TypeId × Value → H) (W : World) (base : Nat) (args : Array Value) (ds gs : List (DataW H)) (before : List MemPlace)
    (hval : ∀ (j : Nat) t v, Try.f5.params[j]? = some t → args[j]? = some v → Value.okWide Try.prog W .any base t v)
    (hW : DataW.Whole enc Try.prog Try.f5.params.toList Rows.twiceProductsSpec.vars false W args.toList ds gs before) :
    Calls Try.prog 5 args W fun e W' => ∃ v, e = .returned v ∧ Rows.twiceProductsSpec.post enc Try.prog Try.f5 false true false false W args v W' := by
  have hW' := hW
  obtain ⟨p, q, hA0, hV, rfl, hfz, hnd⟩ := hW
  have hA : DataW.TrodAll enc Try.prog W 0 (fun _ => true) true Try.f5.params.toList args.toList ds p := hA0
  rw [Try.params5] at hA hval
  obtain ⟨v0, v1, d0, d1, p0, p1, rfl, rfl, rfl, h0, h1⟩ := trodAll_two hA
  obtain ⟨rfl, rfl⟩ := trodVars_none hV
  obtain ⟨xs0, b0⟩ := byt_open (hval 0 22 v0 rfl rfl) h0
  obtain ⟨xs1, b1⟩ := byt_open (hval 1 22 v1 rfl rfl) h1
  clear hA0
  refine (walk v0 xs0 v1 xs1 W b0 b1).mono fun e W' ⟨he, hg⟩ => ?_
  subst he
  exact ⟨_, rfl, post_law rfl (by kernel_rfl) params rfl rfl rfl hW' hg⟩

theorem laid_met (os : Os) : laidMet Try.prog Rows.twiceProductsRow.laid ((World.holding Try.prog os ⟨#[], #[], []⟩).forCall (fun _ _ => 0) ⟨#[], #[.slice none 0 0, .slice none 0 0], []⟩).memory :=
  laidMet_of_run' 8 (by kernel_rfl) (by kernel_rfl)
theorem reads (os : Os) {H : Type} (enc : TypeId × Value → H) : ∃ places, DataW.whole enc Try.prog ((World.holding Try.prog os ⟨#[], #[], []⟩).forCall (fun _ _ => 0) ⟨#[], #[.slice none 0 0, .slice none 0 0], []⟩).memory Try.f5.params.toList Rows.twiceProductsSpec.vars false #[Value.slice none 0 0, Value.slice none 0 0].toList 8 = some ([.nil, .nil], [], places) :=
  ⟨[], by kernel_rfl⟩

set_option maxRecDepth 100000 in
theorem lifted (os : Os) (started : os.Started) (H : Type) (enc : TypeId × Value → H) (F : Stop.Interp) :
    ReturnsInHanded {} Try.checked os 5 .any ((OpenSpec.ofChange Rows.twiceProductsSpec).preRow enc Try.prog Try.f5 Rows.twiceProductsRow.domain false Rows.twiceProductsRow.laid) (((OpenSpec.ofChange Rows.twiceProductsSpec).at F).post enc Try.prog Try.f5 false true false false) := by
  obtain ⟨places, hx⟩ := reads os enc
  refine returnsInHanded_of_row (C := Try.checked) (s := OpenSpec.ofChange Rows.twiceProductsSpec) own started (by kernel_rfl) Try.func5
    (witness_row_at (enc := enc) (C := Try.checked) false (World.holding Try.prog os ⟨#[], #[], []⟩) #[.slice none 0 0, .slice none 0 0] rfl (by kernel_rfl) (by kernel_rfl) (by kernel_rfl)
      (OpenSpec.preRow_of_cond 8 hx (by kernel_rfl) (fun k hk => by cases hk) (by kernel_rfl) (laid_met os))) ?_
  intro W base args ds gs before hval hW _ _ _ _ _ _
  exact contract H enc W base args ds gs before hval hW

theorem said : Rows.TwiceProductsSaid :=
  OpenClaim.holds_of_cond 5 Try.f5 rfl rfl rfl rfl rfl rfl rfl ⟨rfl, rfl, rfl, rfl, rfl⟩ rfl rfl rfl rfl rfl (by kernel_rfl) Try.func5 (by kernel_rfl)
    (of_decide_eq_true (by kernel_rfl)) (by unfold Func.isWrapper; first | (rw [if_pos (by decide +kernel)]; kernel_rfl) | (rw [if_neg (by decide +kernel)]; exact ⟨rfl, rfl⟩))
    (fun os started H enc _ F => by rw [OpenClaim.pre_eq_preRow]; exact lifted os started H enc F)
end Go.Proofs.Ytjojimffolagmaa.twiceProducts

namespace Go.Proofs.Ytjojimffolagmaa
theorem twiceProducts_said : Rows.TwiceProductsSaid := twiceProducts.said
#print axioms twiceProducts_said
end Go.Proofs.Ytjojimffolagmaa
