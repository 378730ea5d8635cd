/- P10.1: any bytes, wrapped under any key: what the definition says, where the key has 32 bytes and they may be wrapped (of 65 to 256 bytes aside: there that the program answers at all); else ErrShape and nothing. -/
import Derived.Test.YtjiddmgnkldmkaaWAwk
import Derived.Test.YtjiddmgnkldmkaaWRef
import Derived.Test.YtjiddmgnkldmkaaArrO
namespace Go.Proofs.Ytjiddmgnkldmkaa.wrapWraps
open Go.ChangeShapes Go.WideShapes Go.ChangeAt Go.RowKit

open Go.Proofs.Ytjiddmgnkldmkaa.wr

set_option maxRecDepth 20000 in
set_option maxHeartbeats 4000000 in
theorem walk_a (v0 : Value) (v1 : Value) (b : List Int) (w : World) (h1 : Byt w v1 b) (l1 : 64 < b.length) (l2 : b.length ≤ 256) :
    Calls Try.prog 3 #[v0, v1] w fun e w' => e = .returned (.bool true) ∧ Below w.heap.size w w' := by
  have AW : Hid (∀ w0, Calls Try.prog 7 #[] w0 fun e w' => e = .returned (.bool true) ∧ Below w0.heap.size w0 w') := awake_any
  have m1 : (64 : Int) < (b.length : Int) := by omega
  have m2 : (b.length : Int) ≤ 256 := by omega
  clear l1 l2
  obtain ⟨bo, bc, rfl, -, -, -, -, -⟩ := h1
  generalize b.length = m at *
  have t9 : True := trivial
  go_enter Try.func3, Try.ntmps3
  go_wp2_with (have q := t9; go_at_call 7; refine (AW.out _).mono ?_; rintro e w9 ⟨rfl, B9⟩; clear t9 q)
  go_ret
  exact ⟨rfl, B9⟩

set_option maxRecDepth 20000 in
set_option maxHeartbeats 4000000 in
theorem walk_n1 (v0 : Value) (key : List Int) (v1 : Value) (b : List Int) (w : World) (h0 : Byt w v0 key) (h1 : Byt w v1 b) (hk : ¬ key.length = 32) (hm : b.length ≤ 64) :
    Calls Try.prog 3 #[v0, v1] w fun e w' => e = .returned (.bool true) ∧ Below w.heap.size w w' := by
  have AW : Hid (∀ w0, Calls Try.prog 7 #[] w0 fun e w' => e = .returned (.bool true) ∧ Below w0.heap.size w0 w') := awake_any
  have S1 : Hid (Calls Try.prog 8 #[v0, v1] w fun e w' => e = .returned (.tuple #[.slice none 0 0, .int .i64 2]) ∧ Below w.heap.size w w') := wrap_no v0 v1 key b w h0 h1 (fun h => hk h.1)
  have hlen := h1.len
  obtain ⟨bo, bc, rfl, -, -, -, -, -⟩ := h1
  obtain ⟨ko, kc, rfl, -, -, -, -, -⟩ := h0
  have m1 : ¬ ((64 : Int) < (b.length : Int)) := by omega
  have n1 : ¬ ((key.length : Int) = 32) := by omega
  have n2 : ((key.length : Int) != 32) = true := by simp; omega
  generalize key.length = kl at *
  clear hk hm
  generalize b.length = m at *
  have t0 : True := trivial
  have t1 : True := trivial
  have t9 : True := trivial
  go_enter Try.func3, Try.ntmps3
  go_wp2_with (first
    | (have q := t0; go_at_call 8; refine (S1.out).mono ?_; rintro e w1 ⟨rfl, B1⟩; clear t0 q)
    | (have q := t9; go_at_call 7; refine (AW.out _).mono ?_; rintro e w9 ⟨rfl, B9⟩; clear t9 q))
  go_ret
  exact ⟨rfl, B1.trans (B9.mono B1.size)⟩

set_option maxRecDepth 20000 in
set_option maxHeartbeats 4000000 in
theorem walk_n2 (v0 : Value) (key : List Int) (v1 : Value) (b : List Int) (w : World) (h0 : Byt w v0 key) (h1 : Byt w v1 b) (hk : ¬ key.length = 32) (hm : 256 < b.length) :
    Calls Try.prog 3 #[v0, v1] w fun e w' => e = .returned (.bool true) ∧ Below w.heap.size w w' := by
  have AW : Hid (∀ w0, Calls Try.prog 7 #[] w0 fun e w' => e = .returned (.bool true) ∧ Below w0.heap.size w0 w') := awake_any
  have S1 : Hid (Calls Try.prog 8 #[v0, v1] w fun e w' => e = .returned (.tuple #[.slice none 0 0, .int .i64 2]) ∧ Below w.heap.size w w') := wrap_no v0 v1 key b w h0 h1 (fun h => hk h.1)
  have hlen := h1.len
  obtain ⟨bo, bc, rfl, -, -, -, -, -⟩ := h1
  obtain ⟨ko, kc, rfl, -, -, -, -, -⟩ := h0
  have m1 : (64 : Int) < (b.length : Int) := by omega
  have m2 : ¬ ((b.length : Int) ≤ 256) := by omega
  have n1 : ¬ ((key.length : Int) = 32) := by omega
  have n2 : ((key.length : Int) != 32) = true := by simp; omega
  generalize key.length = kl at *
  clear hk hm
  generalize b.length = m at *
  have t0 : True := trivial
  have t1 : True := trivial
  have t9 : True := trivial
  go_enter Try.func3, Try.ntmps3
  go_wp2_with (first
    | (have q := t0; go_at_call 8; refine (S1.out).mono ?_; rintro e w1 ⟨rfl, B1⟩; clear t0 q)
    | (have q := t9; go_at_call 7; refine (AW.out _).mono ?_; rintro e w9 ⟨rfl, B9⟩; clear t9 q))
  go_ret
  exact ⟨rfl, B1.trans (B9.mono B1.size)⟩

set_option maxRecDepth 20000 in
set_option maxHeartbeats 4000000 in
theorem walk_n3 (v0 : Value) (key : List Int) (v1 : Value) (b : List Int) (w : World) (h0 : Byt w v0 key) (h1 : Byt w v1 b) (hk : key.length = 32) (hm : b.length ≤ 64) (hr : ¬ (16 ≤ (b.length : Int) ∧ (b.length : Int) ≤ 256 ∧ ((b.length : Int)) % 8 = 0)) :
    Calls Try.prog 3 #[v0, v1] w fun e w' => e = .returned (.bool true) ∧ Below w.heap.size w w' := by
  have AW : Hid (∀ w0, Calls Try.prog 7 #[] w0 fun e w' => e = .returned (.bool true) ∧ Below w0.heap.size w0 w') := awake_any
  have S1 : Hid (Calls Try.prog 8 #[v0, v1] w fun e w' => e = .returned (.tuple #[.slice none 0 0, .int .i64 2]) ∧ Below w.heap.size w w') := wrap_no v0 v1 key b w h0 h1 (fun h => hr h.2)
  have hlen := h1.len
  have S2 : Hid (∀ w, Calls Try.prog 9 #[.int .i64 ((b.length : Int))] w fun e w' => e = .returned (.bool false) ∧ w' = w) := fun w => right_any _ w false (by rw [eq_comm, decide_eq_false_iff_not]; exact hr) (by omega) (by omega)
  obtain ⟨bo, bc, rfl, -, -, -, -, -⟩ := h1
  obtain ⟨ko, kc, rfl, -, -, -, -, -⟩ := h0
  have m1 : ¬ ((64 : Int) < (b.length : Int)) := by omega
  rw [hk] at S1 ⊢
  clear hk hm hr
  generalize b.length = m at *
  have t0 : True := trivial
  have t1 : True := trivial
  have t9 : True := trivial
  go_enter Try.func3, Try.ntmps3
  go_wp2_with (first
    | (have q := t0; go_at_call 8; refine (S1.out).mono ?_; rintro e w1 ⟨rfl, B1⟩; clear t0 q)
    | (have q := t1; go_at_call 9; refine (S2.out _).mono ?_; rintro e wx ⟨rfl, hw⟩; obtain rfl := hw.symm; clear t1 q)
    | (have q := t9; go_at_call 7; refine (AW.out _).mono ?_; rintro e w9 ⟨rfl, B9⟩; clear t9 q))
  go_ret
  exact ⟨rfl, B1.trans (B9.mono B1.size)⟩

set_option maxRecDepth 20000 in
set_option maxHeartbeats 4000000 in
theorem walk_n4 (v0 : Value) (key : List Int) (v1 : Value) (b : List Int) (w : World) (h0 : Byt w v0 key) (h1 : Byt w v1 b) (hk : key.length = 32) (hm : 256 < b.length) (hr : ¬ (16 ≤ (b.length : Int) ∧ (b.length : Int) ≤ 256 ∧ ((b.length : Int)) % 8 = 0)) :
    Calls Try.prog 3 #[v0, v1] w fun e w' => e = .returned (.bool true) ∧ Below w.heap.size w w' := by
  have AW : Hid (∀ w0, Calls Try.prog 7 #[] w0 fun e w' => e = .returned (.bool true) ∧ Below w0.heap.size w0 w') := awake_any
  have S1 : Hid (Calls Try.prog 8 #[v0, v1] w fun e w' => e = .returned (.tuple #[.slice none 0 0, .int .i64 2]) ∧ Below w.heap.size w w') := wrap_no v0 v1 key b w h0 h1 (fun h => hr h.2)
  have hlen := h1.len
  have S2 : Hid (∀ w, Calls Try.prog 9 #[.int .i64 ((b.length : Int))] w fun e w' => e = .returned (.bool false) ∧ w' = w) := fun w => right_any _ w false (by rw [eq_comm, decide_eq_false_iff_not]; exact hr) (by omega) (by omega)
  obtain ⟨bo, bc, rfl, -, -, -, -, -⟩ := h1
  obtain ⟨ko, kc, rfl, -, -, -, -, -⟩ := h0
  have m1 : (64 : Int) < (b.length : Int) := by omega
  have m2 : ¬ ((b.length : Int) ≤ 256) := by omega
  rw [hk] at S1 ⊢
  clear hk hm hr
  generalize b.length = m at *
  have t0 : True := trivial
  have t1 : True := trivial
  have t9 : True := trivial
  go_enter Try.func3, Try.ntmps3
  go_wp2_with (first
    | (have q := t0; go_at_call 8; refine (S1.out).mono ?_; rintro e w1 ⟨rfl, B1⟩; clear t0 q)
    | (have q := t1; go_at_call 9; refine (S2.out _).mono ?_; rintro e wx ⟨rfl, hw⟩; obtain rfl := hw.symm; clear t1 q)
    | (have q := t9; go_at_call 7; refine (AW.out _).mono ?_; rintro e w9 ⟨rfl, B9⟩; clear t9 q))
  go_ret
  exact ⟨rfl, B1.trans (B9.mono B1.size)⟩

set_option maxRecDepth 20000 in
set_option maxHeartbeats 4000000 in
theorem walk_y (v0 : Value) (key : List Int) (v1 : Value) (b : List Int) (w : World) (h0 : Byt w v0 key) (h1 : Byt w v1 b) (hk : key.length = 32) (hm : b.length ≤ 64) (n : Nat) (hb : b.length = 8 * n) (hn : 2 ≤ n) :
    Calls Try.prog 3 #[v0, v1] w fun e w' => e = .returned (.bool true) ∧ Below w.heap.size w w' := by
  have AW : Hid (∀ w0, Calls Try.prog 7 #[] w0 fun e w' => e = .returned (.bool true) ∧ Below w0.heap.size w0 w') := awake_any
  have S3 : Hid (∀ w, Calls Try.prog 12 #[] w fun e w' => ∃ v, e = .returned v ∧ Byt w' v ptab ∧ Below w.heap.size w w') := rtable_any
  have S1 : Hid (Calls Try.prog 8 #[v0, v1] w fun e w' => ∃ v, e = .returned (.tuple #[v, .int .i64 0]) ∧ Byt w' v (wrapped key b n) ∧ Below w.heap.size w w') := wrap_any v0 v1 key b n w h0 hk h1 hb hn (by omega)
  have S2 : Hid (∀ w, Calls Try.prog 9 #[.int .i64 (b.length : Int)] w fun e w' => e = .returned (.bool true) ∧ w' = w) := fun w => right_any _ w true (by simp; omega) (by omega) (by omega)
  have S4 : Hid (∀ w0 tv, Below w.heap.size w w0 → Byt w0 tv ptab → Calls Try.prog 11 #[v0, v1, tv] w0 fun e w' => ∃ v', e = .returned v' ∧ Byt w' v' (wrapped key b n) ∧ Below w0.heap.size w0 w') := fun w0 tv hB ht => rwrap_any v0 v1 tv key b n w0 (h0.below hB) hk (h1.below hB) hb (by omega) (by omega) ht
  generalize wrapped key b n = W at *
  generalize ptab = tab at *
  obtain ⟨bo, bc, rfl, -, -, -, -, -⟩ := h1
  obtain ⟨ko, kc, rfl, -, -, -, -, -⟩ := h0
  have m1 : ¬ ((64 : Int) < (b.length : Int)) := by omega
  rw [hk] at S1 S4 ⊢
  clear hk hm hb hn
  generalize b.length = m at *
  have t0 : True := trivial
  have t1 : True := trivial
  have t2 : True := trivial
  have t3 : True := trivial
  have t4 : True := trivial
  have t9 : True := trivial
  go_enter Try.func3, Try.ntmps3
  go_wp2_with (first
    | (have q := t0; go_at_call 8; refine (S1.out).mono ?_; rintro e w1 ⟨v1', rfl, y1, B1⟩; have V1 : Hid (Byt w1 v1' W) := y1; clear y1 t0 q)
    | (have q := t1; go_at_call 9; refine (S2.out _).mono ?_; rintro e wx ⟨rfl, hw⟩; obtain rfl := hw.symm; clear t1 q)
    | (have q := t2; go_at_call 12; refine (S3.out _).mono ?_; rintro e w2 ⟨tv, rfl, y2, B2⟩; have T2 : Hid (Byt w2 tv tab) := y2; have V2 : Hid (Byt w2 v1' W) := V1.out.below B2; have BB2 : Hid (Below w.heap.size w w2) := B1.trans (B2.mono B1.size); clear y2 B2 t2 q)
    | (have q := t3; go_at_call 11; refine (S4.out _ _ BB2.out T2.out).mono ?_; rintro e w3 ⟨v3, rfl, y3, B3⟩; have Y3 : Hid (Byt w3 v3 W) := y3; have V3 : Hid (Byt w3 v1' W) := V2.out.below B3; have BB3 : Hid (Below w.heap.size w w3) := BB2.out.trans (B3.mono BB2.out.size); clear y3 B3 t3 q)
    | (have q := t4; go_at_call 10; refine (same_yes _ _ _ W V3.out Y3.out).mono ?_; rintro e w4 ⟨rfl, B4⟩; have BB4 : Hid (Below w.heap.size w w4) := BB3.out.trans (B4.mono BB3.out.size); clear B4 t4 q)
    | (have q := t9; go_at_call 7; refine (AW.out _).mono ?_; rintro e w9 ⟨rfl, B9⟩; clear t9 q))
  go_ret
  exact ⟨rfl, BB4.out.trans (B9.mono BB4.out.size)⟩

set_option maxRecDepth 20000 in
set_option maxHeartbeats 4000000 in
theorem walk (v0 : Value) (key : List Int) (v1 : Value) (b : List Int) (w : World) (h0 : Byt w v0 key) (h1 : Byt w v1 b) :
    Calls Try.prog 3 #[v0, v1] w fun e w' => e = .returned (.bool true) ∧ Below w.heap.size w w' := by
  by_cases ha : 64 < b.length ∧ b.length ≤ 256
  · exact walk_a v0 v1 b w h1 ha.1 ha.2
  by_cases hk : key.length = 32
  · by_cases hr : 16 ≤ (b.length : Int) ∧ (b.length : Int) ≤ 256 ∧ (b.length : Int) % 8 = 0
    · exact walk_y v0 key v1 b w h0 h1 hk (by omega) (b.length / 8) (by omega) (by omega)
    · by_cases hm : b.length ≤ 64
      · exact walk_n3 v0 key v1 b w h0 h1 hk hm hr
      · exact walk_n4 v0 key v1 b w h0 h1 hk (by omega) hr
  · by_cases hm : b.length ≤ 64
    · exact walk_n1 v0 key v1 b w h0 h1 hk hm
    · exact walk_n2 v0 key v1 b w h0 h1 hk (by omega)

theorem params : ∀ t ∈ Try.f3.params.toList, Try.prog.readableRec t = true ∧ t < Try.prog.types.size := by
  rw [Try.params3]
  intro t ht
  simp at ht
  subst ht
  exact ⟨by kernel_rfl, of_decide_eq_true (by kernel_rfl)⟩

theorem contract (H : Type) (enc : TypeId × Value → H) (W : World) (base : Nat) (args : Array Value) (ds gs : List (DataW H)) (before : List MemPlace)
    (hval : ∀ (j : Nat) t v, Try.f3.params[j]? = some t → args[j]? = some v → Value.okWide Try.prog W .any base t v)
    (hW : DataW.Whole enc Try.prog Try.f3.params.toList Rows.wrapWrapsSpec.vars false W args.toList ds gs before) :
    Calls Try.prog 3 args W fun e W' => ∃ v, e = .returned v ∧ Rows.wrapWrapsSpec.post enc Try.prog Try.f3 false true false false W args v W' := by
  have hW' := hW
  obtain ⟨p, q, hA0, hV, rfl, hfz, hnd⟩ := hW
  have hA : DataW.TrodAll enc Try.prog W 0 (fun _ => true) true Try.f3.params.toList args.toList ds p := hA0
  rw [Try.params3] at hA hval
  obtain ⟨v0, v1, d0, d1, p0, p1, rfl, rfl, rfl, h0, h1⟩ := trodAll_two hA
  obtain ⟨rfl, rfl⟩ := trodVars_none hV
  obtain ⟨xs0, b0⟩ := byt_open (hval 0 22 v0 rfl rfl) h0
  obtain ⟨xs1, b1⟩ := byt_open (hval 1 22 v1 rfl rfl) h1
  clear hA0
  refine (walk v0 xs0 v1 xs1 W b0 b1).mono fun e W' ⟨he, hg⟩ => ?_
  subst he
  exact ⟨_, rfl, post_law rfl (by kernel_rfl) params rfl rfl rfl hW' hg⟩

theorem laid_met (os : Os) : laidMet Try.prog Rows.wrapWrapsRow.laid ((World.holding Try.prog os ⟨#[], #[], []⟩).forCall (fun _ _ => 0) ⟨#[], #[.slice none 0 0, .slice none 0 0], []⟩).memory :=
  laidMet_of_run' 8 (by kernel_rfl) (by kernel_rfl)
theorem reads (os : Os) {H : Type} (enc : TypeId × Value → H) : ∃ places, DataW.whole enc Try.prog ((World.holding Try.prog os ⟨#[], #[], []⟩).forCall (fun _ _ => 0) ⟨#[], #[.slice none 0 0, .slice none 0 0], []⟩).memory Try.f3.params.toList Rows.wrapWrapsSpec.vars false #[Value.slice none 0 0, Value.slice none 0 0].toList 8 = some ([.nil, .nil], [], places) :=
  ⟨[], by kernel_rfl⟩

set_option maxRecDepth 100000 in
theorem lifted (os : Os) (started : os.Started) (H : Type) (enc : TypeId × Value → H) (F : Stop.Interp) :
    ReturnsInHanded {} Try.checked os 3 .any ((OpenSpec.ofChange Rows.wrapWrapsSpec).preRow enc Try.prog Try.f3 Rows.wrapWrapsRow.domain false Rows.wrapWrapsRow.laid) (((OpenSpec.ofChange Rows.wrapWrapsSpec).at F).post enc Try.prog Try.f3 false true false false) := by
  obtain ⟨places, hx⟩ := reads os enc
  refine returnsInHanded_of_row (C := Try.checked) (s := OpenSpec.ofChange Rows.wrapWrapsSpec) own started (by kernel_rfl) Try.func3
    (witness_row_at (enc := enc) (C := Try.checked) false (World.holding Try.prog os ⟨#[], #[], []⟩) #[.slice none 0 0, .slice none 0 0] rfl (by kernel_rfl) (by kernel_rfl) (by kernel_rfl)
      (OpenSpec.preRow_of_cond 8 hx (by kernel_rfl) (fun k hk => by cases hk) (by kernel_rfl) (laid_met os))) ?_
  intro W base args ds gs before hval hW _ _ _ _ _ _
  exact contract H enc W base args ds gs before hval hW

theorem said : Rows.WrapWrapsSaid :=
  OpenClaim.holds_of_cond 3 Try.f3 rfl rfl rfl rfl rfl rfl rfl ⟨rfl, rfl, rfl, rfl, rfl⟩ rfl rfl rfl rfl rfl (by kernel_rfl) Try.func3 (by kernel_rfl)
    (of_decide_eq_true (by kernel_rfl)) (by unfold Func.isWrapper; first | (rw [if_pos (by decide +kernel)]; kernel_rfl) | (rw [if_neg (by decide +kernel)]; exact ⟨rfl, rfl⟩))
    (fun os started H enc _ F => by rw [OpenClaim.pre_eq_preRow]; exact lifted os started H enc F)
end Go.Proofs.Ytjiddmgnkldmkaa.wrapWraps

namespace Go.Proofs.Ytjiddmgnkldmkaa
theorem wrapWraps_said : Rows.WrapWrapsSaid := wrapWraps.said
#print axioms wrapWraps_said
end Go.Proofs.Ytjiddmgnkldmkaa
