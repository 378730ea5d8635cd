/- A nil ledger answers as the document says, whatever it is asked: no blocks, nothing known, ErrShape for each change. No condition. -/
import Derived.Test.YtnmofigidlmcaaaEOpn
import Derived.Test.YtnmofigidlmcaaaENil
namespace Go.Proofs.Ytnmofigidlmcaaa.ledgerNil
open Go.ChangeShapes Go.WideShapes Go.ChangeAt Go.RowKit
set_option maxRecDepth 20000

open Go.Proofs.Ytnmofigidlmcaaa.le Go.Proofs.Ytnmofigidlmcaaa.he

set_option maxHeartbeats 4000000 in
theorem walk (kd b s : Int) (x : Bk) (w : World) (_ : Wd kd) (_ : Wd b) (_ : Wd s) : Calls Try.prog 5 #[stp kd b s, .agg x.cs.toArray] w fun e w' => e = .returned (.bool true) ∧ Below w.heap.size w w' := by
  have HN : Hid (∀ w, Lq w (.pointer none) 0 (fun _ => b0)) := fun w => lq_nil w _
  have nb : Hid (∀ z : Int, ¬ (0 ≤ z ∧ z < ((0 : Nat) : Int))) := fun z => by show ¬ _; omega
  have S1 : Hid (∀ w, Calls Try.prog 20 #[.pointer none] w fun e w' => e = .returned (.tuple #[.int .i64 (-1), .int .i64 (-1)]) ∧ Below w.heap.size w w') := fun w => spread_any _ 0 _ w (HN.out w) (by omega)
  have S2 : Hid (∀ w, Calls Try.prog 9 #[.pointer none] w fun e w' => e = .returned (.int .i64 0) ∧ w' = w) := fun w => len_any _ 0 _ w (HN.out w)
  have S3 : Hid (∀ w, Calls Try.prog 14 #[.pointer none, .int .i64 b] w fun e w' => e = .returned (.agg #[.int .i64 0, .int .i64 0, .int .i64 0, .int .i64 0, .bool false, .bool false, .bool false, .bool false, .bool false]) ∧ Below w.heap.size w w') := fun w => at_no _ 0 _ w b (HN.out w) (nb.out b)
  have S4 : Hid (∀ w, Calls Try.prog 30 #[.pointer none, .int .i64 b, .agg x.cs.toArray] w fun e w' => e = .returned (.int .i64 2) ∧ Below w.heap.size w w') := fun w => set_no _ 0 _ w b x (HN.out w) (nb.out b)
  have S5 : Hid (∀ w, Calls Try.prog 11 #[.pointer none, stp kd b s] w fun e w' => e = .returned (.int .i64 2) ∧ Below w.heap.size w w') := fun w => chg_no _ 0 _ kd b s w (HN.out w) (nb.out b)
  have S6 : Hid (∀ w, Calls Try.prog 18 #[.pointer none] w fun e w' => e = .returned (.int .i64 (-1)) ∧ Below w.heap.size w w') := fun w => pick_any _ 0 _ w (HN.out w) (by omega)
  have S7 : Hid (∀ w, Calls Try.prog 19 #[.pointer none, .int .i64 s, .int .i64 0] w fun e w' => e = .returned (.int .i64 (-1)) ∧ Below w.heap.size w w') := fun w => victim_any _ 0 _ w s 0 (HN.out w) (by omega)
  have S8 : Hid (∀ w, Calls Try.prog 24 #[.pointer none, .int .i64 s] w fun e w' => e = .returned (.int .i64 0) ∧ Below w.heap.size w w') := fun w => held_any _ 0 _ w s (HN.out w) (by omega)
  have S9 : Hid (∀ w, Calls Try.prog 26 #[.pointer none] w fun e w' => e = .returned (.int .i64 0) ∧ Below w.heap.size w w') := fun w => bads_any _ 0 _ w (HN.out w) (by omega)
  have SA : Hid (∀ w, Calls Try.prog 15 #[.pointer none, .int .i64 b] w fun e w' => e = .returned (.bool false) ∧ w' = w) := fun w => dirty_no _ 0 _ w b (HN.out w) (nb.out b)
  have SB : Hid (∀ w, Calls Try.prog 28 #[.pointer none, .int .i64 s] w fun e w' => e = .returned (.bool false) ∧ Below w.heap.size w w') := fun w => leaks_any _ 0 _ w s (HN.out w) (by omega)
  clear HN nb
  have t0 : (0 : Nat) = 0 := rfl
  go_enter Try.func5, Try.ntmps5
  go_wp2_with (first
    | (have qq := tC; go_at_call 7; refine (awake_any _).mono ?_; rintro e9 w9 ⟨rfl, B9⟩; have BB : Hid (Below w.heap.size w w9) := BB.out.trans (B9.mono BB.out.size); clear tC)
    | (have qq := tB2; go_at_call 28; refine (SB.out _).mono ?_; rintro e9 w9 ⟨rfl, B9⟩; have V0 : Hid (Vr w9 w.heap.size (stl kd b s)) := V0.out.below B9 (range_lt V0.out.1 (Nat.succ_pos _)); have V1 : Hid (Vr w9 w1.heap.size x.cs) := V1.out.below B9 (range_lt V1.out.1 (Nat.succ_pos _)); have BB : Hid (Below w.heap.size w w9) := BB.out.trans (B9.mono BB.out.size); clear a0 a1 a2 nx; have a0 := V0.out.cell 0 _ rfl; have a1 := V0.out.cell 1 _ rfl; have a2 := V0.out.cell 2 _ rfl; have nx := nine0 V1.out.1; clear B9 tB2; have tC : (0 : Nat) = 0 := rfl)
    | (have qq := tB; go_at_call 15; refine (SA.out _).mono ?_; rintro e9 w9 ⟨rfl, hw⟩; obtain rfl := hw.symm; clear tB; have tB2 : (0 : Nat) = 0 := rfl)
    | (have qq := tA; go_at_call 26; refine (S9.out _).mono ?_; rintro e9 w9 ⟨rfl, B9⟩; have V0 : Hid (Vr w9 w.heap.size (stl kd b s)) := V0.out.below B9 (range_lt V0.out.1 (Nat.succ_pos _)); have V1 : Hid (Vr w9 w1.heap.size x.cs) := V1.out.below B9 (range_lt V1.out.1 (Nat.succ_pos _)); have BB : Hid (Below w.heap.size w w9) := BB.out.trans (B9.mono BB.out.size); clear a0 a1 a2 nx; have a0 := V0.out.cell 0 _ rfl; have a1 := V0.out.cell 1 _ rfl; have a2 := V0.out.cell 2 _ rfl; have nx := nine0 V1.out.1; clear B9 tA; have tB : (0 : Nat) = 0 := rfl)
    | (have qq := t9; go_at_call 24; refine (S8.out _).mono ?_; rintro e9 w9 ⟨rfl, B9⟩; have V0 : Hid (Vr w9 w.heap.size (stl kd b s)) := V0.out.below B9 (range_lt V0.out.1 (Nat.succ_pos _)); have V1 : Hid (Vr w9 w1.heap.size x.cs) := V1.out.below B9 (range_lt V1.out.1 (Nat.succ_pos _)); have BB : Hid (Below w.heap.size w w9) := BB.out.trans (B9.mono BB.out.size); clear a0 a1 a2 nx; have a0 := V0.out.cell 0 _ rfl; have a1 := V0.out.cell 1 _ rfl; have a2 := V0.out.cell 2 _ rfl; have nx := nine0 V1.out.1; clear B9 t9; have tA : (0 : Nat) = 0 := rfl)
    | (have qq := t8; go_at_call 19; refine (S7.out _).mono ?_; rintro e9 w9 ⟨rfl, B9⟩; have V0 : Hid (Vr w9 w.heap.size (stl kd b s)) := V0.out.below B9 (range_lt V0.out.1 (Nat.succ_pos _)); have V1 : Hid (Vr w9 w1.heap.size x.cs) := V1.out.below B9 (range_lt V1.out.1 (Nat.succ_pos _)); have BB : Hid (Below w.heap.size w w9) := BB.out.trans (B9.mono BB.out.size); clear a0 a1 a2 nx; have a0 := V0.out.cell 0 _ rfl; have a1 := V0.out.cell 1 _ rfl; have a2 := V0.out.cell 2 _ rfl; have nx := nine0 V1.out.1; clear B9 t8; have t9 : (0 : Nat) = 0 := rfl)
    | (have qq := t7; go_at_call 18; refine (S6.out _).mono ?_; rintro e9 w9 ⟨rfl, B9⟩; have V0 : Hid (Vr w9 w.heap.size (stl kd b s)) := V0.out.below B9 (range_lt V0.out.1 (Nat.succ_pos _)); have V1 : Hid (Vr w9 w1.heap.size x.cs) := V1.out.below B9 (range_lt V1.out.1 (Nat.succ_pos _)); have BB : Hid (Below w.heap.size w w9) := BB.out.trans (B9.mono BB.out.size); clear a0 a1 a2 nx; have a0 := V0.out.cell 0 _ rfl; have a1 := V0.out.cell 1 _ rfl; have a2 := V0.out.cell 2 _ rfl; have nx := nine0 V1.out.1; clear B9 t7; have t8 : (0 : Nat) = 0 := rfl)
    | (have qq := t6; go_at_call 11; refine (S5.out _).mono ?_; rintro e9 w9 ⟨rfl, B9⟩; have V0 : Hid (Vr w9 w.heap.size (stl kd b s)) := V0.out.below B9 (range_lt V0.out.1 (Nat.succ_pos _)); have V1 : Hid (Vr w9 w1.heap.size x.cs) := V1.out.below B9 (range_lt V1.out.1 (Nat.succ_pos _)); have BB : Hid (Below w.heap.size w w9) := BB.out.trans (B9.mono BB.out.size); clear a0 a1 a2 nx; have a0 := V0.out.cell 0 _ rfl; have a1 := V0.out.cell 1 _ rfl; have a2 := V0.out.cell 2 _ rfl; have nx := nine0 V1.out.1; clear B9 t6; have t7 : (0 : Nat) = 0 := rfl)
    | (have qq := t5; go_at_call 30; refine (S4.out _).mono ?_; rintro e9 w9 ⟨rfl, B9⟩; have V0 : Hid (Vr w9 w.heap.size (stl kd b s)) := V0.out.below B9 (range_lt V0.out.1 (Nat.succ_pos _)); have V1 : Hid (Vr w9 w1.heap.size x.cs) := V1.out.below B9 (range_lt V1.out.1 (Nat.succ_pos _)); have BB : Hid (Below w.heap.size w w9) := BB.out.trans (B9.mono BB.out.size); clear a0 a1 a2 nx; have a0 := V0.out.cell 0 _ rfl; have a1 := V0.out.cell 1 _ rfl; have a2 := V0.out.cell 2 _ rfl; have nx := nine0 V1.out.1; clear B9 t5; have t6 : (0 : Nat) = 0 := rfl)
    | (have qq := t4; go_at_call 14; refine (S3.out _).mono ?_; rintro e9 w9 ⟨rfl, B9⟩; have V0 : Hid (Vr w9 w.heap.size (stl kd b s)) := V0.out.below B9 (range_lt V0.out.1 (Nat.succ_pos _)); have V1 : Hid (Vr w9 w1.heap.size x.cs) := V1.out.below B9 (range_lt V1.out.1 (Nat.succ_pos _)); have BB : Hid (Below w.heap.size w w9) := BB.out.trans (B9.mono BB.out.size); clear a0 a1 a2 nx; have a0 := V0.out.cell 0 _ rfl; have a1 := V0.out.cell 1 _ rfl; have a2 := V0.out.cell 2 _ rfl; have nx := nine0 V1.out.1; clear B9 t4; have t5 : (0 : Nat) = 0 := rfl)
    | (have qq := t3; go_at_call 9; refine (S2.out _).mono ?_; rintro e9 w9 ⟨rfl, hw⟩; obtain rfl := hw.symm; clear t3; have t4 : (0 : Nat) = 0 := rfl)
    | (have qq := t2; go_at_call 20; refine (S1.out _).mono ?_; rintro e9 w9 ⟨rfl, B9⟩; have V0 : Hid (Vr w9 w.heap.size (stl kd b s)) := V0.out.below B9 (range_lt V0.out.1 (Nat.succ_pos _)); have V1 : Hid (Vr w9 w1.heap.size x.cs) := V1.out.below B9 (range_lt V1.out.1 (Nat.succ_pos _)); have BB : Hid (Below w.heap.size w w9) := BB.out.trans (B9.mono BB.out.size); clear a0 a1 a2 nx; have a0 := V0.out.cell 0 _ rfl; have a1 := V0.out.cell 1 _ rfl; have a2 := V0.out.cell 2 _ rfl; have nx := nine0 V1.out.1; clear B9 t2; have t3 : (0 : Nat) = 0 := rfl)
    | (have qq := t1; refine box_lawC _ x.cs rfl ?_; intro w9 X9 B9 l9; have V1 : Hid (Vr w9 w1.heap.size x.cs) := X9; have V0 : Hid (Vr w9 w.heap.size (stl kd b s)) := V0.out.below B9 (range_lt V0.out.1 (Nat.succ_pos _)); have BB : Hid (Below w.heap.size w w9) := BB.out.trans (B9.mono BB.out.size); have a0 := V0.out.cell 0 _ rfl; have a1 := V0.out.cell 1 _ rfl; have a2 := V0.out.cell 2 _ rfl; have nx := nine0 V1.out.1; clear X9 B9 l9 t1; have t2 : (0 : Nat) = 0 := rfl)
    | (have qq := t0; refine box_lawC _ (stl kd b s) rfl ?_; intro w1 X1 B1 l1; have V0 : Hid (Vr w1 w.heap.size (stl kd b s)) := X1; have BB : Hid (Below w.heap.size w w1) := B1; clear X1 B1 t0; have t1 : (0 : Nat) = 0 := rfl))
  go_ret
  exact ⟨rfl, BB.out⟩

theorem params : ∀ t ∈ Try.f5.params.toList, Try.prog.readableRec t = true ∧ t < Try.prog.types.size := by
  rw [Try.params5]
  intro t ht
  simp at ht
  rcases ht with rfl | rfl
  · exact ⟨by kernel_rfl, of_decide_eq_true (by kernel_rfl)⟩
  · exact ⟨by kernel_rfl, of_decide_eq_true (by kernel_rfl)⟩

theorem contract (H : Type) (enc : TypeId × Value → H) (W : World) (base : Nat) (args : Array Value) (ds gs : List (DataW H)) (before : List MemPlace)
    (hval : ∀ (j : Nat) t v, Try.f5.params[j]? = some t → args[j]? = some v → Value.okWide Try.prog W .any base t v)
    (hW : DataW.Whole enc Try.prog Try.f5.params.toList Rows.ledgerNilSpec.vars false W args.toList ds gs before) :
    Calls Try.prog 5 args W fun e W' => ∃ v, e = .returned v ∧ Rows.ledgerNilSpec.post enc Try.prog Try.f5 false true false false W args v W' := by
  have hW' := hW
  obtain ⟨p, q, hA0, hV, rfl, hfz, hnd⟩ := hW
  have hA : DataW.TrodAll enc Try.prog W 0 (fun _ => true) true Try.f5.params.toList args.toList ds p := hA0
  rw [Try.params5] at hA hval
  obtain ⟨v0, v1, d0, d1, p0, p1, rfl, rfl, rfl, h0, h1⟩ := trodAll_two hA
  obtain ⟨rfl, rfl⟩ := trodVars_none hV
  obtain ⟨ka0, kb0, kc0, rfl, wa0, wb0, wc0⟩ := le.step_open (hval 0 33 v0 rfl rfl) h0
  obtain ⟨bx1, rfl⟩ := le.lblk_open (hval 1 39 v1 rfl rfl) h1
  clear hA0
  refine (walk ka0 kb0 kc0 bx1 W wa0 wb0 wc0).mono fun e W' ⟨he, hg⟩ => ?_
  subst he
  exact ⟨_, rfl, post_law rfl (by kernel_rfl) params rfl rfl rfl hW' hg⟩

theorem laid_met (os : Os) : laidMet Try.prog Rows.ledgerNilRow.laid ((World.holding Try.prog os ⟨#[], #[], []⟩).forCall (fun _ _ => 0) ⟨#[], #[.agg #[.int .i64 0, .int .i64 0, .int .i64 0], .agg #[.int .i64 0, .int .i64 0, .int .i64 0, .int .i64 0, .bool false, .bool false, .bool false, .bool false, .bool false]], []⟩).memory :=
  laidMet_of_run' 8 (by kernel_rfl) (by kernel_rfl)
theorem reads (os : Os) {H : Type} (enc : TypeId × Value → H) : ∃ places, DataW.whole enc Try.prog ((World.holding Try.prog os ⟨#[], #[], []⟩).forCall (fun _ _ => 0) ⟨#[], #[.agg #[.int .i64 0, .int .i64 0, .int .i64 0], .agg #[.int .i64 0, .int .i64 0, .int .i64 0, .int .i64 0, .bool false, .bool false, .bool false, .bool false, .bool false]], []⟩).memory Try.f5.params.toList Rows.ledgerNilSpec.vars false #[Value.agg #[.int .i64 0, .int .i64 0, .int .i64 0], Value.agg #[.int .i64 0, .int .i64 0, .int .i64 0, .int .i64 0, .bool false, .bool false, .bool false, .bool false, .bool false]].toList 8 = some ([.agg [.lit (.int .i64 0), .lit (.int .i64 0), .lit (.int .i64 0)], .agg [.lit (.int .i64 0), .lit (.int .i64 0), .lit (.int .i64 0), .lit (.int .i64 0), .lit (.bool false), .lit (.bool false), .lit (.bool false), .lit (.bool false), .lit (.bool false)]], [], places) :=
  ⟨[], by kernel_rfl⟩

set_option maxRecDepth 100000 in
theorem lifted (os : Os) (started : os.Started) (H : Type) (enc : TypeId × Value → H) (F : Stop.Interp) :
    ReturnsInHanded {} Try.checked os 5 .any ((OpenSpec.ofChange Rows.ledgerNilSpec).preRow enc Try.prog Try.f5 Rows.ledgerNilRow.domain false Rows.ledgerNilRow.laid) (((OpenSpec.ofChange Rows.ledgerNilSpec).at F).post enc Try.prog Try.f5 false true false false) := by
  obtain ⟨places, hx⟩ := reads os enc
  refine returnsInHanded_of_row (C := Try.checked) (s := OpenSpec.ofChange Rows.ledgerNilSpec) own started (by kernel_rfl) Try.func5
    (witness_row_at (enc := enc) (C := Try.checked) false (World.holding Try.prog os ⟨#[], #[], []⟩) #[.agg #[.int .i64 0, .int .i64 0, .int .i64 0], .agg #[.int .i64 0, .int .i64 0, .int .i64 0, .int .i64 0, .bool false, .bool false, .bool false, .bool false, .bool false]] rfl (by kernel_rfl) (by kernel_rfl) (by kernel_rfl)
      (OpenSpec.preRow_of_cond 8 hx (by kernel_rfl) (fun k hk => by cases hk) (by kernel_rfl) (laid_met os))) ?_
  intro W base args ds gs before hval hW _ _ _ _ _ _
  exact contract H enc W base args ds gs before hval hW

theorem said : Rows.LedgerNilSaid :=
  OpenClaim.holds_of_cond 5 Try.f5 rfl rfl rfl rfl rfl rfl rfl ⟨rfl, rfl, rfl, rfl, rfl⟩ rfl rfl rfl rfl rfl (by kernel_rfl) Try.func5 (by kernel_rfl)
    (of_decide_eq_true (by kernel_rfl)) (by unfold Func.isWrapper; first | (rw [if_pos (by decide +kernel)]; kernel_rfl) | (rw [if_neg (by decide +kernel)]; exact ⟨rfl, rfl⟩))
    (fun os started H enc _ F => by rw [OpenClaim.pre_eq_preRow]; exact lifted os started H enc F)
end Go.Proofs.Ytnmofigidlmcaaa.ledgerNil

namespace Go.Proofs.Ytnmofigidlmcaaa
theorem ledgerNil_said : Rows.LedgerNilSaid := ledgerNil.said
#print axioms ledgerNil_said
end Go.Proofs.Ytnmofigidlmcaaa
