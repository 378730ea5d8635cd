/- A nil map answers as the document says, whatever it is asked: ErrShape for each change, nought, nothing or false for all else. No condition. -/
import Derived.Test.YtedmmpognhpbdaaJNil
namespace Go.Proofs.Ytedmmpognhpbdaa.pagemapNil
open Go.ChangeShapes Go.WideShapes Go.ChangeAt Go.RowKit
set_option maxRecDepth 20000

open Go.Proofs.Ytedmmpognhpbdaa.pm Go.Proofs.Ytedmmpognhpbdaa.he

set_option maxHeartbeats 4000000 in
theorem walk (x : Stp) (w : World) (wx : Tw x) : Calls Try.prog 7 #[.agg x.cs.toArray] w fun e w' => e = .returned (.bool true) ∧ Below w.heap.size w w' := by
  have S1 : Hid (∀ W, Calls Try.prog 22 #[.pointer none, .int .i64 x.n] W fun e w' => e = .returned (.tuple #[.slice none 0 0, .int .i64 2]) ∧ Below W.heap.size W w') := fun W => (nodrop _ _ _ _ _ x.n W (pq_nil W) (by unfold szn; split <;> rfl)).mono fun e w' ⟨h1, h2⟩ => ⟨h1, by rw [h2]; exact Below.refl _ _⟩
  have S2 : Hid (∀ W, Calls Try.prog 20 #[.pointer none, .agg x.s.cs.toArray] W fun e w' => e = .returned (.tuple #[.slice none 0 0, .int .i64 2]) ∧ Below W.heap.size W w') := fun W => put_no _ _ _ _ _ x.s W (pq_nil W) ⟨wx.2.2.2.1.2.1.2.2.2.1, wx.2.2.2.1.2.1.2.2.2.2⟩ (fun _ _ => Nat.zero_le _) (fun h => by have h1 := h.2.1; have h2 := h.2.2.1; have : szn (fun _ => 0) x.s.h.n = 0 := (by unfold szn; split <;> rfl); omega)
  have S3 : Hid (∀ W, Calls Try.prog 21 #[.pointer none, .int .i64 x.n, .int .i64 0] W fun e w' => e = .returned (.tuple #[.agg sp0.cs.toArray, .bool false]) ∧ Below W.heap.size W w') := fun W => get_no _ _ _ _ _ x.n 0 W (pq_nil W) (fun h => by have : szn (fun _ => 0) x.n = 0 := (by unfold szn; split <;> rfl); omega)
  have S4 : Hid (∀ W, Calls Try.prog 19 #[.pointer none, .int .i64 x.n, .int .i64 x.z] W fun e w' => e = .returned (.int .i64 2) ∧ Below W.heap.size W w') := fun W => (add_no _ _ _ _ _ x.n x.z W (pq_nil W) (.inl rfl)).mono fun e w' ⟨h1, h2⟩ => ⟨h1, by rw [h2]; exact Below.refl _ _⟩
  have S5 : Hid (∀ W, Calls Try.prog 23 #[.pointer none, .int .i64 x.n] W fun e w' => e = .returned (.int .i64 0) ∧ Below W.heap.size W w') := fun W => (size_any _ _ _ _ _ x.n W (pq_nil W)).mono fun e w' ⟨h1, h2⟩ => ⟨by rw [h1, show szn (fun _ => 0) x.n = 0 by unfold szn; split <;> rfl]; rfl, by rw [h2]; exact Below.refl _ _⟩
  have S6 : Hid (∀ W, Calls Try.prog 11 #[.pointer none, .agg (pc x.t).toArray] W fun e w' => e = .returned (.int .i64 0) ∧ Below W.heap.size W w') := fun W => refs_any _ _ _ _ _ x.t W (pq_nil W)
  have S7 : Hid (∀ W, Calls Try.prog 24 #[.pointer none, .agg (pc x.t).toArray, .agg (pc x.t).toArray, .agg x.s.o.cs.toArray] W fun e w' => e = .returned (.int .i64 2) ∧ Below W.heap.size W w') := fun W => move_nil _ _ _ W
  have S8 : Hid (∀ W, Calls Try.prog 15 #[.pointer none, .int .i64 x.n] W fun e w' => e = .returned (.slice none 0 0) ∧ Below W.heap.size W w') := fun W => in_nil _ W
  have S9 : Hid (∀ W, Calls Try.prog 25 #[.pointer none, .int .i64 x.n] W fun e w' => e = .returned (.int .i64 0) ∧ Below W.heap.size W w') := fun W => (data_none _ _ _ _ _ x.n W (pq_nil W) (by unfold szn; split <;> rfl)).mono fun e w' ⟨h1, h2⟩ => ⟨h1, by rw [h2]; exact Below.refl _ _⟩
  clear wx
  have t0 : (0 : Nat) = 0 := rfl
  go_enter Try.func7, Try.ntmps7
  go_wp2_with (first
    | (have qq := t12; go_at_call 14; refine (awake_any _).mono ?_; rintro e9 w13 ⟨rfl, B9⟩; have V0 : Hid (Vr w13 w.heap.size x.cs) := V0.out.below B9 (range_lt V0.out.1 (Nat.succ_pos _)); have nx := cells19 V0.out.1; have BB : Hid (Below w.heap.size w w13) := BB.out.trans (B9.mono BB.out.size); clear B9; clear t12; have t13 : (0 : Nat) = 0 := rfl)
    | (have qq := t11; go_at_call 25; refine (S9.out _).mono ?_; rintro e9 w12 ⟨rfl, B9⟩; have V0 : Hid (Vr w12 w.heap.size x.cs) := V0.out.below B9 (range_lt V0.out.1 (Nat.succ_pos _)); have nx := cells19 V0.out.1; have BB : Hid (Below w.heap.size w w12) := BB.out.trans (B9.mono BB.out.size); clear B9; clear t11; have t12 : (0 : Nat) = 0 := rfl)
    | (have qq := t10; go_at_call 15; refine (S8.out _).mono ?_; rintro e9 w11 ⟨rfl, B9⟩; have V0 : Hid (Vr w11 w.heap.size x.cs) := V0.out.below B9 (range_lt V0.out.1 (Nat.succ_pos _)); have nx := cells19 V0.out.1; have BB : Hid (Below w.heap.size w w11) := BB.out.trans (B9.mono BB.out.size); clear B9; clear t10; have t11 : (0 : Nat) = 0 := rfl)
    | (have qq := t9; go_at_call 24; refine (S7.out _).mono ?_; rintro e9 w10 ⟨rfl, B9⟩; have V0 : Hid (Vr w10 w.heap.size x.cs) := V0.out.below B9 (range_lt V0.out.1 (Nat.succ_pos _)); have nx := cells19 V0.out.1; have BB : Hid (Below w.heap.size w w10) := BB.out.trans (B9.mono BB.out.size); clear B9; clear t9; have t10 : (0 : Nat) = 0 := rfl)
    | (have qq := t8; go_at_call 11; refine (S6.out _).mono ?_; rintro e9 w9 ⟨rfl, B9⟩; have V0 : Hid (Vr w9 w.heap.size x.cs) := V0.out.below B9 (range_lt V0.out.1 (Nat.succ_pos _)); have nx := cells19 V0.out.1; have BB : Hid (Below w.heap.size w w9) := BB.out.trans (B9.mono BB.out.size); clear B9; clear t8; have t9 : (0 : Nat) = 0 := rfl)
    | (have qq := t7; go_at_call 23; refine (S5.out _).mono ?_; rintro e9 w8 ⟨rfl, B9⟩; have V0 : Hid (Vr w8 w.heap.size x.cs) := V0.out.below B9 (range_lt V0.out.1 (Nat.succ_pos _)); have nx := cells19 V0.out.1; have BB : Hid (Below w.heap.size w w8) := BB.out.trans (B9.mono BB.out.size); clear B9; clear t7; have t8 : (0 : Nat) = 0 := rfl)
    | (have qq := t6; go_at_call 19; refine (S4.out _).mono ?_; rintro e9 w7 ⟨rfl, B9⟩; have V0 : Hid (Vr w7 w.heap.size x.cs) := V0.out.below B9 (range_lt V0.out.1 (Nat.succ_pos _)); have nx := cells19 V0.out.1; have BB : Hid (Below w.heap.size w w7) := BB.out.trans (B9.mono BB.out.size); clear B9; clear t6; have t7 : (0 : Nat) = 0 := rfl)
    | (have qq := t5; (with_reducible refine at_store ?_); refine store_lawC _ sp0.cs w4.heap.size 0 rfl rfl VZ.out.2 size_spot sp0.one ?_; intro w6 _ _ _ B7; have B9 : Below w4.heap.size w4 w6 := B8.out.trans B7; have V0 : Hid (Vr w6 w.heap.size x.cs) := V0.out.below B9 (range_lt V0.out.1 (Nat.succ_pos _)); have nx := cells19 V0.out.1; have BB : Hid (Below w.heap.size w w6) := BB.out.trans (B9.mono BB.out.size); clear B9; clear B7 B8 VZ t5; have t6 : (0 : Nat) = 0 := rfl)
    | (have qq := t4; (with_reducible refine at_alloc ?_); refine new_lawC _ sp0.cs zero_spot ?_; intro w5 X9 B9 l9; have VZ : Hid (Vr w5 w4.heap.size sp0.cs) := X9; have B8 : Hid (Below w4.heap.size w4 w5) := B9; clear X9 B9 l9 t4; have t5 : (0 : Nat) = 0 := rfl)
    | (have qq := t3; go_at_call 21; refine (S3.out _).mono ?_; rintro e9 w4 ⟨rfl, B9⟩; have V0 : Hid (Vr w4 w.heap.size x.cs) := V0.out.below B9 (range_lt V0.out.1 (Nat.succ_pos _)); have nx := cells19 V0.out.1; have BB : Hid (Below w.heap.size w w4) := BB.out.trans (B9.mono BB.out.size); clear B9; clear t3; have t4 : (0 : Nat) = 0 := rfl)
    | (have qq := t2; go_at_call 20; refine (S2.out _).mono ?_; rintro e9 w3 ⟨rfl, B9⟩; have V0 : Hid (Vr w3 w.heap.size x.cs) := V0.out.below B9 (range_lt V0.out.1 (Nat.succ_pos _)); have nx := cells19 V0.out.1; have BB : Hid (Below w.heap.size w w3) := BB.out.trans (B9.mono BB.out.size); clear B9; clear t2; have t3 : (0 : Nat) = 0 := rfl)
    | (have qq := t1; go_at_call 22; refine (S1.out _).mono ?_; rintro e9 w2 ⟨rfl, B9⟩; have V0 : Hid (Vr w2 w.heap.size x.cs) := V0.out.below B9 (range_lt V0.out.1 (Nat.succ_pos _)); have nx := cells19 V0.out.1; have BB : Hid (Below w.heap.size w w2) := BB.out.trans (B9.mono BB.out.size); clear B9; clear t1; have t2 : (0 : Nat) = 0 := rfl)
    | (have qq := t0; refine box_lawC _ x.cs rfl ?_; intro w1 X9 B9 l9; have V0 : Hid (Vr w1 w.heap.size x.cs) := X9; have nx := cells19 X9.1; have BB : Hid (Below w.heap.size w w1) := B9; clear X9 B9 l9 t0; have t1 : (0 : Nat) = 0 := rfl))
  go_ret
  exact ⟨rfl, BB.out⟩

theorem params : ∀ t ∈ Try.f7.params.toList, Try.prog.readableRec t = true ∧ t < Try.prog.types.size := by
  rw [Try.params7]
  intro t ht
  simp at ht
  subst ht
  exact ⟨by kernel_rfl, of_decide_eq_true (by kernel_rfl)⟩

theorem contract (H : Type) (enc : TypeId × Value → H) (W : World) (base : Nat) (args : Array Value) (ds gs : List (DataW H)) (before : List MemPlace)
    (hval : ∀ (j : Nat) t v, Try.f7.params[j]? = some t → args[j]? = some v → Value.okWide Try.prog W .any base t v)
    (hW : DataW.Whole enc Try.prog Try.f7.params.toList Rows.pagemapNilSpec.vars false W args.toList ds gs before) :
    Calls Try.prog 7 args W fun e W' => ∃ v, e = .returned v ∧ Rows.pagemapNilSpec.post enc Try.prog Try.f7 false true false false W args v W' := by
  have hW' := hW
  obtain ⟨p, q, hA0, hV, rfl, hfz, hnd⟩ := hW
  have hA : DataW.TrodAll enc Try.prog W 0 (fun _ => true) true Try.f7.params.toList args.toList ds p := hA0
  rw [Try.params7] at hA hval
  obtain ⟨v0, d0, rfl, rfl, h0⟩ := trodAll_one hA
  obtain ⟨rfl, rfl⟩ := trodVars_none hV
  obtain ⟨sx0, rfl, wx0⟩ := pm.step_open (hval 0 39 v0 rfl rfl) h0
  clear hA0
  refine (walk sx0 W wx0).mono fun e W' ⟨he, hg⟩ => ?_
  subst he
  exact ⟨_, rfl, post_law rfl (by kernel_rfl) params rfl rfl rfl hW' hg⟩

theorem laid_met (os : Os) : laidMet Try.prog Rows.pagemapNilRow.laid ((World.holding Try.prog os ⟨#[], #[], []⟩).forCall (fun _ _ => 0) ⟨#[], #[.agg #[.int .i64 0, .int .i64 0, .int .i64 0, .int .i64 0, .int .i64 0, .int .i64 0, .int .i64 0, .int .i64 0, .int .u32 0, .int .u64 0, .int .u64 0, .int .i64 0, .int .i64 0, .int .i64 0, .int .u32 0, .int .u64 0, .int .u64 0, .int .i64 0, .int .i64 0]], []⟩).memory :=
  laidMet_of_run' 8 (by kernel_rfl) (by kernel_rfl)
theorem reads (os : Os) {H : Type} (enc : TypeId × Value → H) : ∃ places, DataW.whole enc Try.prog ((World.holding Try.prog os ⟨#[], #[], []⟩).forCall (fun _ _ => 0) ⟨#[], #[.agg #[.int .i64 0, .int .i64 0, .int .i64 0, .int .i64 0, .int .i64 0, .int .i64 0, .int .i64 0, .int .i64 0, .int .u32 0, .int .u64 0, .int .u64 0, .int .i64 0, .int .i64 0, .int .i64 0, .int .u32 0, .int .u64 0, .int .u64 0, .int .i64 0, .int .i64 0]], []⟩).memory Try.f7.params.toList Rows.pagemapNilSpec.vars false #[Value.agg #[.int .i64 0, .int .i64 0, .int .i64 0, .int .i64 0, .int .i64 0, .int .i64 0, .int .i64 0, .int .i64 0, .int .u32 0, .int .u64 0, .int .u64 0, .int .i64 0, .int .i64 0, .int .i64 0, .int .u32 0, .int .u64 0, .int .u64 0, .int .i64 0, .int .i64 0]].toList 8 = some ([.agg [.lit (.int .i64 0), .lit (.int .i64 0), .lit (.int .i64 0), .agg [.agg [.lit (.int .i64 0), .lit (.int .i64 0)], .agg [.lit (.int .i64 0), .lit (.int .i64 0), .lit (.int .i64 0), .lit (.int .u32 0), .lit (.int .u64 0), .lit (.int .u64 0)], .agg [.lit (.int .i64 0), .lit (.int .i64 0), .lit (.int .i64 0), .lit (.int .u32 0), .lit (.int .u64 0), .lit (.int .u64 0)]], .agg [.lit (.int .i64 0), .lit (.int .i64 0)]]], [], places) :=
  ⟨[], by kernel_rfl⟩

set_option maxRecDepth 100000 in
theorem lifted (os : Os) (started : os.Started) (H : Type) (enc : TypeId × Value → H) (F : Stop.Interp) :
    ReturnsInHanded {} Try.checked os 7 .any ((OpenSpec.ofChange Rows.pagemapNilSpec).preRow enc Try.prog Try.f7 Rows.pagemapNilRow.domain false Rows.pagemapNilRow.laid) (((OpenSpec.ofChange Rows.pagemapNilSpec).at F).post enc Try.prog Try.f7 false true false false) := by
  obtain ⟨places, hx⟩ := reads os enc
  refine returnsInHanded_of_row (C := Try.checked) (s := OpenSpec.ofChange Rows.pagemapNilSpec) own started (by kernel_rfl) Try.func7
    (witness_row_at (enc := enc) (C := Try.checked) false (World.holding Try.prog os ⟨#[], #[], []⟩) #[.agg #[.int .i64 0, .int .i64 0, .int .i64 0, .int .i64 0, .int .i64 0, .int .i64 0, .int .i64 0, .int .i64 0, .int .u32 0, .int .u64 0, .int .u64 0, .int .i64 0, .int .i64 0, .int .i64 0, .int .u32 0, .int .u64 0, .int .u64 0, .int .i64 0, .int .i64 0]] rfl (by kernel_rfl) (by kernel_rfl) (by kernel_rfl)
      (OpenSpec.preRow_of_cond 8 hx (by kernel_rfl) (fun k hk => by cases hk) (by kernel_rfl) (laid_met os))) ?_
  intro W base args ds gs before hval hW _ _ _ _ _ _
  exact contract H enc W base args ds gs before hval hW

theorem said : Rows.PagemapNilSaid :=
  OpenClaim.holds_of_cond 7 Try.f7 rfl rfl rfl rfl rfl rfl rfl ⟨rfl, rfl, rfl, rfl, rfl⟩ rfl rfl rfl rfl rfl (by kernel_rfl) Try.func7 (by kernel_rfl)
    (of_decide_eq_true (by kernel_rfl)) (by unfold Func.isWrapper; first | (rw [if_pos (by decide +kernel)]; kernel_rfl) | (rw [if_neg (by decide +kernel)]; exact ⟨rfl, rfl⟩))
    (fun os started H enc _ F => by rw [OpenClaim.pre_eq_preRow]; exact lifted os started H enc F)
end Go.Proofs.Ytedmmpognhpbdaa.pagemapNil

namespace Go.Proofs.Ytedmmpognhpbdaa
theorem pagemapNil_said : Rows.PagemapNilSaid := pagemapNil.said
#print axioms pagemapNil_said
end Go.Proofs.Ytedmmpognhpbdaa
