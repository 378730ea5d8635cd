/- A nil array: it has no power, no operation, no bytes; all that would change it is refused. No condition. -/
import Derived.Test.YtnklbmeadjgehaaNAwk
import Derived.Test.YtnklbmeadjgehaaGOpen
namespace Go.Proofs.Ytnklbmeadjgehaa.nandNil
open Go.ChangeShapes Go.WideShapes Go.ChangeAt Go.RowKit
set_option maxRecDepth 20000

open Go.Proofs.Ytnklbmeadjgehaa.na Go.Proofs.Ytnklbmeadjgehaa.fa
open Go.Proofs.Ytnklbmeadjgehaa.ge (place_open)

set_option maxHeartbeats 4000000 in
theorem walk (p : List Int) (v1 : Value) (ys : List Int) (n : Int) (w : World) (hp : p.length = 2) (_h1 : Byt w v1 ys) (_hn : -9223372036854775808 ≤ n ∧ n ≤ 9223372036854775807) :
    Calls Try.prog 7 #[.agg (ints .i64 p), v1, .int .i64 n] w fun e w' => e = .returned (.bool true) ∧ Below w.heap.size w w' := by
  have hq : ∀ w : World, (binOp .eql 23 (.agg #[.int .i64 0, .int .i64 0, .int .i64 0, .int .i64 0, .int .i64 0, .int .i64 0]) (.agg #[.int .i64 0, .int .i64 0, .int .i64 0, .int .i64 0, .int .i64 0, .int .i64 0])).run Try.prog w = .ok (.bool true) w := fun w => by kernel_rfl
  obtain ⟨x, y, rfl⟩ : ∃ x y, p = [x, y] := by
    match p, hp with
    | [x, y], _ => exact ⟨x, y, rfl⟩
  have SR : Hid (∀ w, Calls Try.prog 22 #[.pointer none, .agg #[.int .i64 x, .int .i64 y]] w fun e w' => e = .returned (.tuple #[.slice none 0 0, .int .i64 4]) ∧ Below w.heap.size w w') := fun w => read_nil [x, y] w
  have SP : Hid (∀ w, Calls Try.prog 29 #[.pointer none, .agg #[.int .i64 x, .int .i64 y], v1] w fun e w' => e = .returned (.int .i64 4) ∧ Below w.heap.size w w') := fun w => program_nil [x, y] v1 w
  have SK : Hid (∀ w, Calls Try.prog 32 #[.pointer none, .agg #[.int .i64 x, .int .i64 y], .int .i64 n, .int .u8 1] w fun e w' => e = .returned (.int .i64 4) ∧ Below w.heap.size w w') := fun w => poke_nil [x, y] n 1 w
  have t0 : (0 : Nat) = 0 := rfl
  go_enter Try.func7, Try.ntmps7
  go_wp2_with (first
    | (have q0 := t0; refine box_lawF _ rfl (.tmp 0) 43 rfl .i64 [x, y] rfl ?_; intro w1 X1 B1 l1; have HP : Hid (Ar w1 w.heap.size 0 .i64 [x, y]) := X1; have f0 := X1.cell0 0 (by simp); have f1 := X1.cell0 1 (by simp); change w1.cell? ⟨w.heap.size, 0, none⟩ = some (.int .i64 x) at f0; change w1.cell? ⟨w.heap.size, 1, none⟩ = some (.int .i64 y) at f1; have BB : Hid (Below w.heap.size w w1) := B1; clear X1 B1 t0)
    | (go_at_call 28; refine (power_nil true _).mono ?_; rintro e w' ⟨⟨v9, rfl⟩, hw⟩; obtain rfl := hw.symm)
    | (go_at_call 22; refine (SR.out _).mono ?_; rintro e w2 ⟨rfl, B2⟩; have HP : Hid (Ar w2 w.heap.size 0 .i64 [x, y]) := HP.out.below B2 (HP.out.lt (by simp)); have f0 := HP.out.cell0 0 (by simp); have f1 := HP.out.cell0 1 (by simp); change w2.cell? ⟨w.heap.size, 0, none⟩ = some (.int .i64 x) at f0; change w2.cell? ⟨w.heap.size, 1, none⟩ = some (.int .i64 y) at f1; have BB : Hid (Below w.heap.size w w2) := BB.out.trans (B2.mono BB.out.size); clear B2)
    | (go_at_call 29; refine (SP.out _).mono ?_; rintro e w2 ⟨rfl, B2⟩; have HP : Hid (Ar w2 w.heap.size 0 .i64 [x, y]) := HP.out.below B2 (HP.out.lt (by simp)); have f0 := HP.out.cell0 0 (by simp); have f1 := HP.out.cell0 1 (by simp); change w2.cell? ⟨w.heap.size, 0, none⟩ = some (.int .i64 x) at f0; change w2.cell? ⟨w.heap.size, 1, none⟩ = some (.int .i64 y) at f1; have BB : Hid (Below w.heap.size w w2) := BB.out.trans (B2.mono BB.out.size); clear B2)
    | (go_at_call 30; refine (erase_nil n _).mono ?_; rintro e w' ⟨rfl, hw⟩; obtain rfl := hw.symm)
    | (go_at_call 31; refine (scrub_nil n _).mono ?_; rintro e w' ⟨rfl, hw⟩; obtain rfl := hw.symm)
    | (go_at_call 32; refine (SK.out _).mono ?_; rintro e w2 ⟨rfl, B2⟩; have BB : Hid (Below w.heap.size w w2) := BB.out.trans (B2.mono BB.out.size); clear B2)
    | (go_at_call 17; refine (on_nil _).mono ?_; rintro e w' ⟨rfl, hw⟩; obtain rfl := hw.symm)
    | (go_at_call 16; refine (ops_nil _).mono ?_; rintro e w' ⟨rfl, hw⟩; obtain rfl := hw.symm)
    | (go_at_call 18; refine (erases_nil n _).mono ?_; rintro e w' ⟨rfl, hw⟩; obtain rfl := hw.symm)
    | (go_at_call 20; refine (image_nil _).mono ?_; rintro e w' ⟨rfl, hw⟩; obtain rfl := hw.symm)
    | (go_at_call 26; refine (trace_nil _).mono ?_; rintro e w' ⟨rfl, hw⟩; obtain rfl := hw.symm)
    | (go_at_call 13; refine (geometry_nil _).mono ?_; rintro e w2 ⟨rfl, B2⟩; have BB : Hid (Below w.heap.size w w2) := BB.out.trans (B2.mono BB.out.size); clear B2)
    | (go_at_call 11; refine (awake_any _).mono ?_; rintro e w2 ⟨rfl, B2⟩; have BB : Hid (Below w.heap.size w w2) := BB.out.trans (B2.mono BB.out.size); clear B2))
  go_ret
  exact ⟨rfl, BB.out⟩

theorem params : ∀ t ∈ Try.f7.params.toList, Try.prog.readableRec t = true ∧ t < Try.prog.types.size := by
  rw [Try.params7]
  intro t ht
  simp at ht
  rcases ht with rfl | rfl | rfl
  · exact ⟨by kernel_rfl, of_decide_eq_true (by kernel_rfl)⟩
  · exact ⟨by kernel_rfl, of_decide_eq_true (by kernel_rfl)⟩
  · exact ⟨by kernel_rfl, of_decide_eq_true (by kernel_rfl)⟩

theorem contract (H : Type) (enc : TypeId × Value → H) (W : World) (base : Nat) (args : Array Value) (ds gs : List (DataW H)) (before : List MemPlace)
    (hval : ∀ (j : Nat) t v, Try.f7.params[j]? = some t → args[j]? = some v → Value.okWide Try.prog W .any base t v)
    (hW : DataW.Whole enc Try.prog Try.f7.params.toList Rows.nandNilSpec.vars false W args.toList ds gs before) :
    Calls Try.prog 7 args W fun e W' => ∃ v, e = .returned v ∧ Rows.nandNilSpec.post enc Try.prog Try.f7 false true false false W args v W' := by
  have hW' := hW
  obtain ⟨p, q, hA0, hV, rfl, hfz, hnd⟩ := hW
  have hA : DataW.TrodAll enc Try.prog W 0 (fun _ => true) true Try.f7.params.toList args.toList ds p := hA0
  rw [Try.params7] at hA hval
  obtain ⟨v0, v1, v2, d0, d1, d2, p0, p1, p2, rfl, rfl, rfl, h0, h1, h2⟩ := trodAll_three hA
  obtain ⟨rfl, rfl⟩ := trodVars_none hV
  obtain ⟨g0, rfl, n0⟩ := place_open (hval 0 43 v0 rfl rfl) h0
  obtain ⟨xs1, b1⟩ := byt_open (hval 1 53 v1 rfl rfl) h1
  obtain ⟨x2, rfl, rfl, rfl, w2⟩ := open_int Try.underlying3 (hval 2 3 v2 rfl rfl) h2
  clear hA0
  refine (walk g0 v1 xs1 x2 W n0 b1 (bounds_i64 w2)).mono fun e W' ⟨he, hg⟩ => ?_
  subst he
  exact ⟨_, rfl, post_law rfl (by kernel_rfl) params rfl rfl rfl hW' hg⟩

theorem laid_met (os : Os) : laidMet Try.prog Rows.nandNilRow.laid ((World.holding Try.prog os ⟨#[], #[], []⟩).forCall (fun _ _ => 0) ⟨#[], #[.agg #[.int .i64 0, .int .i64 0], .slice none 0 0, .int .i64 0], []⟩).memory :=
  laidMet_of_run' 8 (by kernel_rfl) (by kernel_rfl)
theorem reads (os : Os) {H : Type} (enc : TypeId × Value → H) : ∃ places, DataW.whole enc Try.prog ((World.holding Try.prog os ⟨#[], #[], []⟩).forCall (fun _ _ => 0) ⟨#[], #[.agg #[.int .i64 0, .int .i64 0], .slice none 0 0, .int .i64 0], []⟩).memory Try.f7.params.toList Rows.nandNilSpec.vars false #[Value.agg #[.int .i64 0, .int .i64 0], Value.slice none 0 0, Value.int .i64 0].toList 8 = some ([.agg [.lit (.int .i64 0), .lit (.int .i64 0)], .nil, .lit (.int .i64 0)], [], places) :=
  ⟨[], by kernel_rfl⟩

set_option maxRecDepth 100000 in
theorem lifted (os : Os) (started : os.Started) (H : Type) (enc : TypeId × Value → H) (F : Stop.Interp) :
    ReturnsInHanded {} Try.checked os 7 .any ((OpenSpec.ofChange Rows.nandNilSpec).preRow enc Try.prog Try.f7 Rows.nandNilRow.domain false Rows.nandNilRow.laid) (((OpenSpec.ofChange Rows.nandNilSpec).at F).post enc Try.prog Try.f7 false true false false) := by
  obtain ⟨places, hx⟩ := reads os enc
  refine returnsInHanded_of_row (C := Try.checked) (s := OpenSpec.ofChange Rows.nandNilSpec) own started (by kernel_rfl) Try.func7
    (witness_row_at (enc := enc) (C := Try.checked) false (World.holding Try.prog os ⟨#[], #[], []⟩) #[.agg #[.int .i64 0, .int .i64 0], .slice none 0 0, .int .i64 0] rfl (by kernel_rfl) (by kernel_rfl) (by kernel_rfl)
      (OpenSpec.preRow_of_cond 8 hx (by kernel_rfl) (fun k hk => by cases hk) (by kernel_rfl) (laid_met os))) ?_
  intro W base args ds gs before hval hW _ _ _ _ _ _
  exact contract H enc W base args ds gs before hval hW

theorem said : Rows.NandNilSaid :=
  OpenClaim.holds_of_cond 7 Try.f7 rfl rfl rfl rfl rfl rfl rfl ⟨rfl, rfl, rfl, rfl, rfl⟩ rfl rfl rfl rfl rfl (by kernel_rfl) Try.func7 (by kernel_rfl)
    (of_decide_eq_true (by kernel_rfl)) (by unfold Func.isWrapper; first | (rw [if_pos (by decide +kernel)]; kernel_rfl) | (rw [if_neg (by decide +kernel)]; exact ⟨rfl, rfl⟩))
    (fun os started H enc _ F => by rw [OpenClaim.pre_eq_preRow]; exact lifted os started H enc F)
end Go.Proofs.Ytnklbmeadjgehaa.nandNil

namespace Go.Proofs.Ytnklbmeadjgehaa
theorem nandNil_said : Rows.NandNilSaid := nandNil.said
#print axioms nandNil_said
end Go.Proofs.Ytnklbmeadjgehaa
