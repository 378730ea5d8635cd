/- P14.1: for every head h: head.Bytes(h) is ErrShape and no bytes, if the kind is none of 1 to 4, or Ns or Count is no byte; else its 24 bytes, as the reference makes them. -/
import Derived.Test.YtjlnalfbaojedaaDoorCards
import Derived.Test.YtjlnalfbaojedaaDoorTie
import Derived.Test.YtjlnalfbaojedaaDoorHAwk
import Derived.Test.YtjlnalfbaojedaaDoorHRef
namespace Go.Proofs.YtjlnalfbaojedaaDoor.headBytes
open Go.ChangeShapes Go.WideShapes Go.ChangeAt Go.RowKit Go.Proofs.YtjlnalfbaojedaaDoor.he
set_option maxRecDepth 20000

set_option maxHeartbeats 8000000 in
theorem walk (k n c l e t : Int) (w : World) (hf : Hb l e t) (hT : Tab w) :
    Calls Tryd.prog 3 #[.agg (hv k n c l e t).toArray] w fun x w' => x = .returned (.bool true) ∧ Below w.heap.size w w' := by
  have t0 : (0 : Nat) = 0 := rfl
  by_cases hr : Rh k n c
  · have HRb : Hid (true = decide (1 ≤ k ∧ k ≤ 4 ∧ 0 ≤ n ∧ n ≤ 255 ∧ 0 ≤ c ∧ c ≤ 255)) := by
      have q : 1 ≤ k ∧ k ≤ 4 ∧ 0 ≤ n ∧ n ≤ 255 ∧ 0 ≤ c ∧ c ≤ 255 := hr
      exact (decide_eq_true q).symm
    have SB : Hid (∀ w', Below w.heap.size w w' → Calls Tryd.prog 9 #[.agg (hv k n c l e t).toArray] w' fun x w'' => ∃ v, x = .returned (.tuple #[v, .int .i64 0]) ∧ Own w'.heap.size w'' v (hb k n c l e t) ∧ Below w'.heap.size w' w'') := fun w' q => hbytes_yes k n c l e t w' hr hf.1 hf.2.1 hf.2.2 (hT.below q)
    have SR : Hid (∀ w', Calls Tryd.prog 13 #[.agg (hv k n c l e t).toArray] w' fun x w'' => ∃ v, x = .returned v ∧ Own w'.heap.size w'' v (hb k n c l e t) ∧ Below w'.heap.size w' w'') := fun w' => rbytes_own k n c l e t w' hr hf.1 hf.2.1 hf.2.2
    have AZ : Hid (AllB (hb k n c l e t)) := hb_all hr l e t
    generalize hb k n c l e t = Z at *
    clear hr hf
    go_enter Tryd.func3, Tryd.ntmps3
    go_wp2_with (first
      | (have qa := ta; go_at_call 11; refine (awake_any _ (hT.below BB.out)).mono ?_; rintro e9 w9 ⟨rfl, B9⟩; have BB : Hid (Below w.heap.size w w9) := BB.out.trans (B9.mono BB.out.size); clear B9 ta)
      | (have q := t4; go_at_call 12; refine (same_any _ _ _ Z Z (Y1.out.below B4) Y2.out).mono ?_; rintro e9 w5 ⟨rfl, n5, hw⟩; subst hw; rw [show decide (Z = Z) = true by simp]; have BB : Hid (Below w.heap.size w (w4.drewN n5)) := below_drawn BB.out n5; clear t4; have ta : (0 : Nat) = 0 := rfl)
      | (have q := t3; go_at_call 13; refine (SR.out _).mono ?_; rintro e9 w4 ⟨v4, rfl, o4, B4⟩; have Y2 : Hid (Byt w4 v4 Z) := o4.byt AZ.out; have BB : Hid (Below w.heap.size w w4) := BB.out.trans (B4.mono BB.out.size); clear o4 t3; have t4 : (0 : Nat) = 0 := rfl)
      | (have q := t2; go_at_call 10; refine (right_any k n c l e t _ true HRb.out).mono ?_; rintro e9 w3 ⟨rfl, Bx⟩; have Y1 : Hid (Byt w3 v2 Z) := Y1.out.below Bx; have HA : Hid (Vr w3 w.heap.size (hv k n c l e t)) := HA.out.below Bx (range_lt HA.out.1 (by simp [hv])); have BB : Hid (Below w.heap.size w w3) := BB.out.trans (Bx.mono BB.out.size); clear c0 c1 c2 c3 c4 c5; have c0 := HA.out.cell 0 _ rfl; have c1 := HA.out.cell 1 _ rfl; have c2 := HA.out.cell 2 _ rfl; have c3 := HA.out.cell 3 _ rfl; have c4 := HA.out.cell 4 _ rfl; have c5 := HA.out.cell 5 _ rfl; clear Bx t2; have t3 : (0 : Nat) = 0 := rfl)
      | (have q := t1; go_at_call 9; refine (SB.out _ BB.out).mono ?_; rintro e9 w2 ⟨v2, rfl, o2, Bx⟩; have Y1 : Hid (Byt w2 v2 Z) := o2.byt AZ.out; have HA : Hid (Vr w2 w.heap.size (hv k n c l e t)) := HA.out.below Bx (range_lt HA.out.1 (by simp [hv])); have BB : Hid (Below w.heap.size w w2) := BB.out.trans (Bx.mono BB.out.size); clear c0 c1 c2 c3 c4 c5; have c0 := HA.out.cell 0 _ rfl; have c1 := HA.out.cell 1 _ rfl; have c2 := HA.out.cell 2 _ rfl; have c3 := HA.out.cell 3 _ rfl; have c4 := HA.out.cell 4 _ rfl; have c5 := HA.out.cell 5 _ rfl; clear o2 Bx t1; have t2 : (0 : Nat) = 0 := rfl)
      | (have q0 := t0; refine box_lawC _ (hv k n c l e t) rfl ?_; intro w1 V1 B1 s1; have HA : Hid (Vr w1 w.heap.size (hv k n c l e t)) := V1; have c0 := HA.out.cell 0 _ rfl; have c1 := HA.out.cell 1 _ rfl; have c2 := HA.out.cell 2 _ rfl; have c3 := HA.out.cell 3 _ rfl; have c4 := HA.out.cell 4 _ rfl; have c5 := HA.out.cell 5 _ rfl; have BB : Hid (Below w.heap.size w w1) := B1; clear V1 B1 t0; have t1 : (0 : Nat) = 0 := rfl))
    go_ret
    exact ⟨rfl, BB.out⟩
  · have HRb : Hid (false = decide (1 ≤ k ∧ k ≤ 4 ∧ 0 ≤ n ∧ n ≤ 255 ∧ 0 ≤ c ∧ c ≤ 255)) := by
      have q : ¬ (1 ≤ k ∧ k ≤ 4 ∧ 0 ≤ n ∧ n ≤ 255 ∧ 0 ≤ c ∧ c ≤ 255) := hr
      exact (decide_eq_false q).symm
    have SB : Hid (∀ w', Calls Tryd.prog 9 #[.agg (hv k n c l e t).toArray] w' fun x w'' => x = .returned (.tuple #[.slice none 0 0, .int .i64 2]) ∧ Below w'.heap.size w' w'') := fun w' => hbytes_no k n c l e t w' hr
    clear hr hf
    go_enter Tryd.func3, Tryd.ntmps3
    go_wp2_with (first
      | (have qa := ta; go_at_call 11; refine (awake_any _ (hT.below BB.out)).mono ?_; rintro e9 w9 ⟨rfl, B9⟩; have BB : Hid (Below w.heap.size w w9) := BB.out.trans (B9.mono BB.out.size); clear B9 ta)
      | (have q := t2; go_at_call 10; refine (right_any k n c l e t _ false HRb.out).mono ?_; rintro e9 w3 ⟨rfl, Bx⟩; have HA : Hid (Vr w3 w.heap.size (hv k n c l e t)) := HA.out.below Bx (range_lt HA.out.1 (by simp [hv])); have BB : Hid (Below w.heap.size w w3) := BB.out.trans (Bx.mono BB.out.size); clear c0 c1 c2 c3 c4 c5; have c0 := HA.out.cell 0 _ rfl; have c1 := HA.out.cell 1 _ rfl; have c2 := HA.out.cell 2 _ rfl; have c3 := HA.out.cell 3 _ rfl; have c4 := HA.out.cell 4 _ rfl; have c5 := HA.out.cell 5 _ rfl; clear Bx t2; have ta : (0 : Nat) = 0 := rfl)
      | (have q := t1; go_at_call 9; refine (SB.out _).mono ?_; rintro e9 w2 ⟨rfl, Bx⟩; have HA : Hid (Vr w2 w.heap.size (hv k n c l e t)) := HA.out.below Bx (range_lt HA.out.1 (by simp [hv])); have BB : Hid (Below w.heap.size w w2) := BB.out.trans (Bx.mono BB.out.size); clear c0 c1 c2 c3 c4 c5; have c0 := HA.out.cell 0 _ rfl; have c1 := HA.out.cell 1 _ rfl; have c2 := HA.out.cell 2 _ rfl; have c3 := HA.out.cell 3 _ rfl; have c4 := HA.out.cell 4 _ rfl; have c5 := HA.out.cell 5 _ rfl; clear Bx t1; have t2 : (0 : Nat) = 0 := rfl)
      | (have q0 := t0; refine box_lawC _ (hv k n c l e t) rfl ?_; intro w1 V1 B1 s1; have HA : Hid (Vr w1 w.heap.size (hv k n c l e t)) := V1; have c0 := HA.out.cell 0 _ rfl; have c1 := HA.out.cell 1 _ rfl; have c2 := HA.out.cell 2 _ rfl; have c3 := HA.out.cell 3 _ rfl; have c4 := HA.out.cell 4 _ rfl; have c5 := HA.out.cell 5 _ rfl; have BB : Hid (Below w.heap.size w w1) := B1; clear V1 B1 t0; have t1 : (0 : Nat) = 0 := rfl))
    go_ret
    exact ⟨rfl, BB.out⟩

theorem params : ∀ t ∈ Tryd.f3.params.toList, Tryd.prog.readableRec t = true ∧ t < Tryd.prog.types.size := by
  rw [Tryd.params3]
  intro t ht
  simp at ht
  subst ht
  exact ⟨by kernel_rfl, of_decide_eq_true (by kernel_rfl)⟩

theorem contract (H : Type) (enc : TypeId × Value → H) (W : World) (base : Nat) (args : Array Value) (ds gs : List (DataW H)) (before : List MemPlace)
    (hval : ∀ (j : Nat) t v, Tryd.f3.params[j]? = some t → args[j]? = some v → Value.okWide Tryd.prog W .any base t v)
    (hW : DataW.Whole enc Tryd.prog Tryd.f3.params.toList Rows.headBytesSpec.vars false W args.toList ds gs before) (hL : laidMetH Tryd.prog Rows.headBytesRow.laid W) :
    Calls Tryd.prog 3 args W fun e W' => ∃ v, e = .returned v ∧ Rows.headBytesSpec.post enc Tryd.prog Tryd.f3 false true false false W args v W' := by
  have hW' := hW
  obtain ⟨p, q, hA0, hV, rfl, hfz, hnd⟩ := hW
  have hA : DataW.TrodAll enc Tryd.prog W 0 (fun _ => true) true Tryd.f3.params.toList args.toList ds p := hA0
  rw [Tryd.params3] at hA hval
  obtain ⟨v0, d0, rfl, rfl, h0⟩ := trodAll_one hA
  obtain ⟨rfl, rfl⟩ := trodVars_none hV
  obtain ⟨hk0, hn0, hc0, hl0, he0, ht0, rfl, hf0⟩ := head_open (hval 0 25 v0 rfl rfl) h0
  clear hA0
  refine (walk hk0 hn0 hc0 hl0 he0 ht0 W hf0 (table hL)).mono fun e W' ⟨he, hg⟩ => ?_
  subst he
  exact ⟨_, rfl, post_law rfl (by kernel_rfl) params rfl rfl rfl hW' hg⟩

theorem laid_met (os : Os) : laidMet Tryd.prog Rows.headBytesRow.laid (({ World.holding Tryd.prog os ⟨#[], #[], []⟩ with heap := (World.holding Tryd.prog os ⟨#[], #[], []⟩).heap.modify 0 fun | .cells _ t frozen => .cells #[.int .i64 1, .int .i64 1, .int .i64 1, .int .i64 1, .int .i64 4, .int .i64 8, .int .i64 8] t frozen | o => o } : World).forCall (fun _ _ => 0) ⟨#[], #[.agg #[.int .i64 0, .int .i64 0, .int .i64 0, .int .u32 0, .int .u64 0, .int .u64 0]], []⟩).memory :=
  laidMet_of_run' 8 (by kernel_rfl) (by kernel_rfl)
theorem reads (os : Os) {H : Type} (enc : TypeId × Value → H) : ∃ places, DataW.whole enc Tryd.prog (({ World.holding Tryd.prog os ⟨#[], #[], []⟩ with heap := (World.holding Tryd.prog os ⟨#[], #[], []⟩).heap.modify 0 fun | .cells _ t frozen => .cells #[.int .i64 1, .int .i64 1, .int .i64 1, .int .i64 1, .int .i64 4, .int .i64 8, .int .i64 8] t frozen | o => o } : World).forCall (fun _ _ => 0) ⟨#[], #[.agg #[.int .i64 0, .int .i64 0, .int .i64 0, .int .u32 0, .int .u64 0, .int .u64 0]], []⟩).memory Tryd.f3.params.toList Rows.headBytesSpec.vars false #[Value.agg #[.int .i64 0, .int .i64 0, .int .i64 0, .int .u32 0, .int .u64 0, .int .u64 0]].toList 8 = some ([.agg [.lit (.int .i64 0), .lit (.int .i64 0), .lit (.int .i64 0), .lit (.int .u32 0), .lit (.int .u64 0), .lit (.int .u64 0)]], [], places) :=
  ⟨[], by kernel_rfl⟩

set_option maxRecDepth 100000 in
theorem lifted (os : Os) (started : os.Started) (H : Type) (enc : TypeId × Value → H) (F : Stop.Interp) :
    ReturnsInHanded {} Tryd.checked os 3 .any ((OpenSpec.ofChange Rows.headBytesSpec).preRow enc Tryd.prog Tryd.f3 Rows.headBytesRow.domain false Rows.headBytesRow.laid) (((OpenSpec.ofChange Rows.headBytesSpec).at F).post enc Tryd.prog Tryd.f3 false true false false) := by
  obtain ⟨places, hx⟩ := reads os enc
  refine returnsInHanded_of_row (C := Tryd.checked) (s := OpenSpec.ofChange Rows.headBytesSpec) own started (by kernel_rfl) Tryd.func3
    (witness_row_at (enc := enc) (C := Tryd.checked) false ({ World.holding Tryd.prog os ⟨#[], #[], []⟩ with heap := (World.holding Tryd.prog os ⟨#[], #[], []⟩).heap.modify 0 fun | .cells _ t frozen => .cells #[.int .i64 1, .int .i64 1, .int .i64 1, .int .i64 1, .int .i64 4, .int .i64 8, .int .i64 8] t frozen | o => o } : World) #[.agg #[.int .i64 0, .int .i64 0, .int .i64 0, .int .u32 0, .int .u64 0, .int .u64 0]] rfl (by kernel_rfl) (by kernel_rfl) (by kernel_rfl)
      (OpenSpec.preRow_of_cond 8 hx (by kernel_rfl) (fun k hk => by cases hk) (by kernel_rfl) (laid_met os))) ?_
  intro W base args ds gs before hval hW _ _ _ hL _ _
  exact contract H enc W base args ds gs before hval hW hL

theorem said : Rows.HeadBytesSaid :=
  OpenClaim.holds_of_cond 3 Tryd.f3 rfl rfl rfl rfl rfl rfl rfl ⟨rfl, rfl, rfl, rfl, rfl⟩ rfl rfl rfl rfl rfl (by kernel_rfl) Tryd.func3 (by kernel_rfl)
    (of_decide_eq_true (by kernel_rfl)) (by unfold Func.isWrapper; first | (rw [if_pos (by decide +kernel)]; kernel_rfl) | (rw [if_neg (by decide +kernel)]; exact ⟨rfl, rfl⟩))
    (fun os started H enc _ F => by rw [OpenClaim.pre_eq_preRow]; exact lifted os started H enc F)

theorem plain (f : FuncId) (fn : Func) (hf : Tryd.pinned.checked.prog.funcNamed "nepenthe/nepenthelaw14.HeadBytes" = some f) (hfn : Tryd.pinned.checked.prog.funcs[f]? = some fn) :
    false = Tryd.pinned.checked.prog.looks [] ∧ ∀ (j : Nat) t, fn.params[j]? = some t → Tryd.pinned.checked.prog.wantsStandIn t = false := by
  obtain rfl : f = 3 := Option.some.inj ((show Tryd.prog.funcNamed "nepenthe/nepenthelaw14.HeadBytes" = some 3 by kernel_rfl).symm.trans hf) |>.symm
  obtain rfl : fn = Tryd.f3 := (Option.some.inj (Tryd.func3.symm.trans hfn)).symm
  refine ⟨by kernel_rfl, fun j t ht => ?_⟩
  rw [Tryd.params3] at ht
  have hm := Array.mem_of_getElem? ht
  simp at hm
  subst hm
  exact (show Tryd.prog.wantsStandIn 25 = false by kernel_rfl)
end Go.Proofs.YtjlnalfbaojedaaDoor.headBytes

namespace Go.Proofs.YtjlnalfbaojedaaDoor
theorem headBytes_card : Rows.HeadBytesCardSaid :=
  Claim7.holds_tied_plain_at .later [] _ _ _ _ headBytes.said (fun _ h => by cases h) (by kernel_rfl) (fun _ h => by cases h) headBytes_row_tie rfl ⟨rfl, rfl⟩ (by kernel_rfl) rfl headBytes.plain (by kernel_rfl)
#print axioms headBytes_card
end Go.Proofs.YtjlnalfbaojedaaDoor

