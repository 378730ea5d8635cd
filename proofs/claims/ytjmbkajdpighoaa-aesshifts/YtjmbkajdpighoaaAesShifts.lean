/- P7.1: any block's rows, shifted and shifted back, are as by definition, or ErrShape where it is not 16 bytes; shifted back is as it was; the program answers at all. -/
import Derived.Test.YtjmbkajdpighoaaACalls
import Derived.Test.YtjmbkajdpighoaaArrO
import Derived.Test.YtjmbkajdpighoaaRShf
namespace Go.Proofs.Ytjmbkajdpighoaa.aesShifts
open Go.ChangeShapes Go.WideShapes Go.ChangeAt Go.RowKit

set_option maxHeartbeats 4000000 in
theorem walk_no (v : Value) (xs : List Int) (w : World) (hv : Byt w v xs) (hl : ¬ xs.length = 16) :
    Calls Try.prog 4 #[v] w fun e w' => e = .returned (.bool true) ∧ Below w.heap.size w w' := by
  have S1 : Hid (Calls Try.prog 15 #[v] w fun e w' => e = .returned (.tuple #[.slice none 0 0, .int .i64 2]) ∧ w' = w) := shift_no v xs w hv hl
  have S2 : Hid (Calls Try.prog 16 #[v] w fun e w' => e = .returned (.tuple #[.slice none 0 0, .int .i64 2]) ∧ w' = w) := unshift_no v xs w hv hl
  obtain ⟨ao, ca, rfl, h1, h2, -, -, -⟩ := hv
  have h3 : ¬ ((xs.length : Int) = 16) := by omega
  clear hl
  generalize xs.length = n at *
  go_enter Try.func4, Try.ntmps4
  go_wp2_with (first
    | (go_at_call 11; refine (awake_any _).mono ?_; rintro e w9 ⟨rfl, B9⟩)
    | (go_at_call 16; refine (S2.out).mono ?_; rintro e wx ⟨rfl, hw⟩; obtain rfl := hw.symm)
    | (go_at_call 15; refine (S1.out).mono ?_; rintro e wx ⟨rfl, hw⟩; obtain rfl := hw.symm))
  go_ret
  exact ⟨rfl, B9⟩

set_option maxHeartbeats 4000000 in
theorem walk_yes (v : Value) (xs : List Int) (w : World) (hv : Byt w v xs) (hl : xs.length = 16) :
    Calls Try.prog 4 #[v] w fun e w' => e = .returned (.bool true) ∧ Below w.heap.size w w' := by
  have hxa := hv.all
  have hs1 := shl16_blk xs 1 ⟨hl, hxa⟩
  have hs3 := shl16_blk xs 3 ⟨hl, hxa⟩
  have HV : Hid (Byt w v xs) := hv
  have XA : Hid (AllB xs ∧ xs.length = 16) := ⟨hxa, hl⟩
  have X1 : Hid (AllB (shl16 xs 1) ∧ (shl16 xs 1).length = 16) := ⟨hs1.2, hs1.1⟩
  have X3 : Hid (AllB (shl16 xs 3) ∧ (shl16 xs 3).length = 16) := ⟨hs3.2, hs3.1⟩
  have S1 : Hid (∀ v w0, Byt w0 v xs → Calls Try.prog 15 #[v] w0 fun e w' => ∃ g, e = .returned (.tuple #[.slice (some ⟨g, 0, none⟩) 16 16, .int .i64 0]) ∧ Ar w' g 0 .u8 (shl16 xs 1) ∧ w0.heap.size ≤ g ∧ Below w0.heap.size w0 w') := fun v w0 h => shift_any v xs w0 h hl
  have S2 : Hid (∀ v w0, Byt w0 v xs → Calls Try.prog 16 #[v] w0 fun e w' => ∃ g, e = .returned (.tuple #[.slice (some ⟨g, 0, none⟩) 16 16, .int .i64 0]) ∧ Ar w' g 0 .u8 (shl16 xs 3) ∧ w0.heap.size ≤ g ∧ Below w0.heap.size w0 w') := fun v w0 h => unshift_any v xs w0 h hl
  have S3 : Hid (∀ v w0, Byt w0 v (shl16 xs 1) → Calls Try.prog 16 #[v] w0 fun e w' => ∃ g, e = .returned (.tuple #[.slice (some ⟨g, 0, none⟩) 16 16, .int .i64 0]) ∧ Ar w' g 0 .u8 xs ∧ w0.heap.size ≤ g ∧ Below w0.heap.size w0 w') := fun v w0 h => by
    have := unshift_any v (shl16 xs 1) w0 h hs1.1
    rw [shl_31 xs hl] at this
    exact this
  have R1 : Hid (∀ v w0, Byt w0 v xs → Calls Try.prog 18 #[v, .int .i64 1] w0 fun e w' => ∃ g, e = .returned (.slice (some ⟨g, 0, none⟩) 16 16) ∧ Ar w' g 0 .u8 (shl16 xs 1) ∧ w0.heap.size ≤ g ∧ Below w0.heap.size w0 w') := fun v w0 h => rshift_any v xs 1 w0 h hl (by omega)
  have R3 : Hid (∀ v w0, Byt w0 v xs → Calls Try.prog 18 #[v, .int .i64 3] w0 fun e w' => ∃ g, e = .returned (.slice (some ⟨g, 0, none⟩) 16 16) ∧ Ar w' g 0 .u8 (shl16 xs 3) ∧ w0.heap.size ≤ g ∧ Below w0.heap.size w0 w') := fun v w0 h => rshift_any v xs 3 w0 h hl (by omega)
  generalize shl16 xs 1 = x1 at *
  generalize shl16 xs 3 = x3 at *
  obtain ⟨ao, ca, rfl, h1, h2, -, -, -⟩ := hv
  rw [hl] at HV ⊢
  have BB : Hid (Below w.heap.size w w) := Below.refl _ _
  clear hl hxa hs1 hs3 h1 h2
  go_enter Try.func4, Try.ntmps4
  go_wp2_with (first
    | (go_at_call 11; refine (awake_any _).mono ?_; rintro e w9 ⟨rfl, B9⟩; have BB : Hid (Below w.heap.size w w9) := BB.out.trans (B9.mono BB.out.size); clear B9)
    | (go_at_call 17; have q := M6; refine (same_yes _ _ _ xs Z6.out (HV.out.below BB.out)).mono ?_; rintro e w7 ⟨rfl, B7⟩; have BB : Hid (Below w.heap.size w w7) := BB.out.trans (B7.mono BB.out.size); clear B7)
    | (go_at_call 17; have q := T5; refine (same_yes _ _ _ x3 Y5.out T5.out).mono ?_; rintro e w6 ⟨rfl, B6⟩; have M6 : Hid True := trivial; have Z6 : Hid (Byt w6 (.slice (some ⟨gz, 0, none⟩) 16 16) xs) := Z5.out.below B6; have BB : Hid (Below w.heap.size w w6) := BB.out.trans (B6.mono BB.out.size); clear B6)
    | (go_at_call 18; have q := M4; refine (R3.out _ _ (HV.out.below BB.out)).mono ?_; rintro e w5 ⟨gt, rfl, A5, L5, B5⟩; have T5 : Hid (Byt w5 (.slice (some ⟨gt, 0, none⟩) 16 16) x3) := A5.bytG X3.out.1 16 16 X3.out.2 (by omega) (by omega); have Y5 : Hid (Byt w5 (.slice (some ⟨gy, 0, none⟩) 16 16) x3) := Y4.out.below B5; have Z5 : Hid (Byt w5 (.slice (some ⟨gz, 0, none⟩) 16 16) xs) := Z4.out.below B5; have BB : Hid (Below w.heap.size w w5) := BB.out.trans (B5.mono BB.out.size); clear A5 B5)
    | (go_at_call 17; refine (same_yes _ _ _ x1 Xs.out Ts.out).mono ?_; rintro e w4 ⟨rfl, B4⟩; have M4 : Hid True := trivial; have Y4 : Hid (Byt w4 (.slice (some ⟨gy, 0, none⟩) 16 16) x3) := Ys.out.below B4; have Z4 : Hid (Byt w4 (.slice (some ⟨gz, 0, none⟩) 16 16) xs) := Zs.out.below B4; have BB : Hid (Below w.heap.size w w4) := BB.out.trans (B4.mono BB.out.size); clear B4)
    | (go_at_call 18; refine (R1.out _ _ (HV.out.below BB.out)).mono ?_; rintro e ws ⟨gs, rfl, As, Ls, Bs⟩; have Ts : Hid (Byt ws (.slice (some ⟨gs, 0, none⟩) 16 16) x1) := As.bytG X1.out.1 16 16 X1.out.2 (by omega) (by omega); have Xs : Hid (Byt ws (.slice (some ⟨gx, 0, none⟩) 16 16) x1) := Xr.out.below Bs; have Ys : Hid (Byt ws (.slice (some ⟨gy, 0, none⟩) 16 16) x3) := Yr.out.below Bs; have Zs : Hid (Byt ws (.slice (some ⟨gz, 0, none⟩) 16 16) xs) := Zr.out.below Bs; have BB : Hid (Below w.heap.size w ws) := BB.out.trans (Bs.mono BB.out.size); clear As Bs)
    | (go_at_call 16; have q := Yq; refine (S3.out _ _ Xq.out).mono ?_; rintro e wr ⟨gz, rfl, Ar_, Lr, Br⟩; have Zr : Hid (Byt wr (.slice (some ⟨gz, 0, none⟩) 16 16) xs) := Ar_.bytG XA.out.1 16 16 XA.out.2 (by omega) (by omega); have Xr : Hid (Byt wr (.slice (some ⟨gx, 0, none⟩) 16 16) x1) := Xq.out.below Br; have Yr : Hid (Byt wr (.slice (some ⟨gy, 0, none⟩) 16 16) x3) := Yq.out.below Br; have BB : Hid (Below w.heap.size w wr) := BB.out.trans (Br.mono BB.out.size); clear Ar_ Br)
    | (go_at_call 16; refine (S2.out _ _ (HV.out.below BB.out)).mono ?_; rintro e wq ⟨gy, rfl, Aq, Lq, Bq⟩; have Yq : Hid (Byt wq (.slice (some ⟨gy, 0, none⟩) 16 16) x3) := Aq.bytG X3.out.1 16 16 X3.out.2 (by omega) (by omega); have Xq : Hid (Byt wq (.slice (some ⟨gx, 0, none⟩) 16 16) x1) := Xp.out.below Bq; have BB : Hid (Below w.heap.size w wq) := BB.out.trans (Bq.mono BB.out.size); clear Aq Bq)
    | (go_at_call 15; refine (S1.out _ _ (HV.out)).mono ?_; rintro e wp_ ⟨gx, rfl, Ap, Lp, Bp⟩; have Xp : Hid (Byt wp_ (.slice (some ⟨gx, 0, none⟩) 16 16) x1) := Ap.bytG X1.out.1 16 16 X1.out.2 (by omega) (by omega); have BB : Hid (Below w.heap.size w wp_) := Bp; clear Ap Bp))
  go_ret
  exact ⟨rfl, BB.out⟩

theorem walk (v : Value) (xs : List Int) (w : World) (hv : Byt w v xs) :
    Calls Try.prog 4 #[v] w fun e w' => e = .returned (.bool true) ∧ Below w.heap.size w w' := by
  by_cases hl : xs.length = 16
  · exact walk_yes v xs w hv hl
  · exact walk_no v xs w hv hl

theorem params : ∀ t ∈ Try.f4.params.toList, Try.prog.readableRec t = true ∧ t < Try.prog.types.size := by
  rw [Try.params4]
  intro t ht
  simp at ht
  subst ht
  exact ⟨by kernel_rfl, of_decide_eq_true (by kernel_rfl)⟩

theorem contract (H : Type) (enc : TypeId × Value → H) (W : World) (base : Nat) (args : Array Value) (ds gs : List (DataW H)) (before : List MemPlace)
    (hval : ∀ (j : Nat) t v, Try.f4.params[j]? = some t → args[j]? = some v → Value.okWide Try.prog W .any base t v)
    (hW : DataW.Whole enc Try.prog Try.f4.params.toList Rows.aesShiftsSpec.vars false W args.toList ds gs before) :
    Calls Try.prog 4 args W fun e W' => ∃ v, e = .returned v ∧ Rows.aesShiftsSpec.post enc Try.prog Try.f4 false true false false W args v W' := by
  have hW' := hW
  obtain ⟨p, q, hA0, hV, rfl, hfz, hnd⟩ := hW
  have hA : DataW.TrodAll enc Try.prog W 0 (fun _ => true) true Try.f4.params.toList args.toList ds p := hA0
  rw [Try.params4] at hA hval
  obtain ⟨v0, d0, rfl, rfl, h0⟩ := trodAll_one hA
  obtain ⟨rfl, rfl⟩ := trodVars_none hV
  obtain ⟨xs0, b0⟩ := byt_open (hval 0 22 v0 rfl rfl) h0
  clear hA0
  refine (walk v0 xs0 W b0).mono fun e W' ⟨he, hg⟩ => ?_
  subst he
  exact ⟨_, rfl, post_law rfl (by kernel_rfl) params rfl rfl rfl hW' hg⟩

theorem laid_met (os : Os) : laidMet Try.prog Rows.aesShiftsRow.laid ((World.holding Try.prog os ⟨#[], #[], []⟩).forCall (fun _ _ => 0) ⟨#[], #[.slice none 0 0], []⟩).memory :=
  laidMet_of_run' 8 (by kernel_rfl) (by kernel_rfl)
theorem reads (os : Os) {H : Type} (enc : TypeId × Value → H) : ∃ places, DataW.whole enc Try.prog ((World.holding Try.prog os ⟨#[], #[], []⟩).forCall (fun _ _ => 0) ⟨#[], #[.slice none 0 0], []⟩).memory Try.f4.params.toList Rows.aesShiftsSpec.vars false #[Value.slice none 0 0].toList 8 = some ([.nil], [], places) :=
  ⟨[], by kernel_rfl⟩

set_option maxRecDepth 100000 in
theorem lifted (os : Os) (started : os.Started) (H : Type) (enc : TypeId × Value → H) (F : Stop.Interp) :
    ReturnsInHanded {} Try.checked os 4 .any ((OpenSpec.ofChange Rows.aesShiftsSpec).preRow enc Try.prog Try.f4 Rows.aesShiftsRow.domain false Rows.aesShiftsRow.laid) (((OpenSpec.ofChange Rows.aesShiftsSpec).at F).post enc Try.prog Try.f4 false true false false) := by
  obtain ⟨places, hx⟩ := reads os enc
  refine returnsInHanded_of_row (C := Try.checked) (s := OpenSpec.ofChange Rows.aesShiftsSpec) own started (by kernel_rfl) Try.func4
    (witness_row_at (enc := enc) (C := Try.checked) false (World.holding Try.prog os ⟨#[], #[], []⟩) #[.slice none 0 0] rfl (by kernel_rfl) (by kernel_rfl) (by kernel_rfl)
      (OpenSpec.preRow_of_cond 8 hx (by kernel_rfl) (fun k hk => by cases hk) (by kernel_rfl) (laid_met os))) ?_
  intro W base args ds gs before hval hW _ _ _ _ _ _
  exact contract H enc W base args ds gs before hval hW

theorem said : Rows.AesShiftsSaid :=
  OpenClaim.holds_of_cond 4 Try.f4 rfl rfl rfl rfl rfl rfl rfl ⟨rfl, rfl, rfl, rfl, rfl⟩ rfl rfl rfl rfl rfl (by kernel_rfl) Try.func4 (by kernel_rfl)
    (of_decide_eq_true (by kernel_rfl)) (by unfold Func.isWrapper; first | (rw [if_pos (by decide +kernel)]; kernel_rfl) | (rw [if_neg (by decide +kernel)]; exact ⟨rfl, rfl⟩))
    (fun os started H enc _ F => by rw [OpenClaim.pre_eq_preRow]; exact lifted os started H enc F)
end Go.Proofs.Ytjmbkajdpighoaa.aesShifts

namespace Go.Proofs.Ytjmbkajdpighoaa
theorem aesShifts_said : Rows.AesShiftsSaid := aesShifts.said
#print axioms aesShifts_said
end Go.Proofs.Ytjmbkajdpighoaa
