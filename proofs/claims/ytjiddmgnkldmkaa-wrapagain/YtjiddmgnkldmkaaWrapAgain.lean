/- P10.3: what fits under any key, unwrapped and wrapped again, is as it was, of any bytes that may be unwrapped (else ErrIntegrity); of others that the program answers at all. -/
import Derived.Test.YtjiddmgnkldmkaaWAwk
import Derived.Test.YtjiddmgnkldmkaaArrO
namespace Go.Proofs.Ytjiddmgnkldmkaa.wrapAgain
open Go.ChangeShapes Go.WideShapes Go.ChangeAt Go.RowKit

open Go.Proofs.Ytjiddmgnkldmkaa.wr

set_option maxRecDepth 20000 in
set_option maxHeartbeats 4000000 in
theorem walk_s (key : List Int) (v1 : Value) (b : List Int) (w : World) (kl : key.length = 32) (ka : AllB key) (h1 : Byt w v1 b) (hs : b.length < 8) :
    Calls Try.prog 6 #[.agg (ints .u8 key), v1] w fun e w' => e = .returned (.bool true) ∧ Below w.heap.size w w' := by
  have AW : Hid (∀ w0, Calls Try.prog 7 #[] w0 fun e w' => e = .returned (.bool true) ∧ Below w0.heap.size w0 w') := awake_any
  have KA : Hid (AllB key ∧ key.length = 32) := ⟨ka, kl⟩
  have HV : Hid (Byt w v1 b) := h1
  have s8 : (b.length : Int) < 8 := by omega
  clear kl ka hs
  obtain ⟨bo, bc, rfl, -, -, -, -, -⟩ := h1
  generalize b.length = m at *
  have t0 : True := trivial
  have t9 : True := trivial
  go_enter Try.func6, Try.ntmps6
  go_wp2_with (first
    | (have q := t0; refine box_lawF _ rfl (.tmp 0) 33 rfl .u8 key rfl ?_; intro w1 A1 B1 s1; have Y1 : Hid (Byt w1 (.slice (some ⟨w.heap.size, 0, none⟩) 32 32) key) := A1.bytG KA.out.1 32 32 KA.out.2 (by omega) (by omega); have V1 : Hid (Byt w1 (.slice bo m bc) b) := HV.out.below B1; have BB1 : Hid (Below w.heap.size w w1) := B1; clear A1 s1 B1 t0 q)
    | (have q := t9; go_at_call 7; refine (AW.out _).mono ?_; rintro e w9 ⟨rfl, B9⟩; clear t9 q))
  go_ret
  exact ⟨rfl, BB1.out.trans (B9.mono BB1.out.size)⟩

set_option maxRecDepth 20000 in
set_option maxHeartbeats 4000000 in
theorem walk_n (key : List Int) (v1 : Value) (b : List Int) (w : World) (kl : key.length = 32) (ka : AllB key) (h1 : Byt w v1 b) (hs : 8 ≤ b.length) (hr : ¬ (16 ≤ (b.length : Int) - 8 ∧ (b.length : Int) - 8 ≤ 256 ∧ ((b.length : Int) - 8) % 8 = 0)) :
    Calls Try.prog 6 #[.agg (ints .u8 key), v1] w fun e w' => e = .returned (.bool true) ∧ Below w.heap.size w w' := by
  have AW : Hid (∀ w0, Calls Try.prog 7 #[] w0 fun e w' => e = .returned (.bool true) ∧ Below w0.heap.size w0 w') := awake_any
  have KA : Hid (AllB key ∧ key.length = 32) := ⟨ka, kl⟩
  have HV : Hid (Byt w v1 b) := h1
  have S2 : Hid (∀ w, Calls Try.prog 9 #[.int .i64 ((b.length : Int) - 8)] w fun e w' => e = .returned (.bool false) ∧ w' = w) := fun w => right_any _ w false (by rw [eq_comm, decide_eq_false_iff_not]; exact hr) (by omega) (by have := h1.len; omega)
  have k8 : IntKind.i64.wrap ((b.length : Int) - 8) = (b.length : Int) - 8 := by rw [IntKind.wrap_i64]; have := h1.len; omega
  have s8 : ¬ ((b.length : Int) < 8) := by omega
  clear kl ka hr hs
  obtain ⟨bo, bc, rfl, -, -, -, -, -⟩ := h1
  generalize b.length = m at *
  have t0 : True := trivial
  have t1 : True := trivial
  have t9 : True := trivial
  go_enter Try.func6, Try.ntmps6
  go_wp2_with (first
    | (have q := t0; refine box_lawF _ rfl (.tmp 0) 33 rfl .u8 key rfl ?_; intro w1 A1 B1 s1; have Y1 : Hid (Byt w1 (.slice (some ⟨w.heap.size, 0, none⟩) 32 32) key) := A1.bytG KA.out.1 32 32 KA.out.2 (by omega) (by omega); have V1 : Hid (Byt w1 (.slice bo m bc) b) := HV.out.below B1; have BB1 : Hid (Below w.heap.size w w1) := B1; clear A1 s1 B1 t0 q)
    | (have q := t1; go_at_call 9; refine (S2.out _).mono ?_; rintro e wx ⟨rfl, hw⟩; obtain rfl := hw.symm; clear t1 q)
    | (have q := t9; go_at_call 7; refine (AW.out _).mono ?_; rintro e w9 ⟨rfl, B9⟩; clear t9 q))
  go_ret
  exact ⟨rfl, BB1.out.trans (B9.mono BB1.out.size)⟩

set_option maxRecDepth 20000 in
set_option maxHeartbeats 4000000 in
theorem walk_x (key : List Int) (v1 : Value) (b : List Int) (w : World) (kl : key.length = 32) (ka : AllB key) (h1 : Byt w v1 b) (n : Nat) (hb : b.length = 8 * n + 8) (hn : 2 ≤ n) (hn' : n ≤ 32) (hf : ¬ hd (unwr key b n) = a6) :
    Calls Try.prog 6 #[.agg (ints .u8 key), v1] w fun e w' => e = .returned (.bool true) ∧ Below w.heap.size w w' := by
  have AW : Hid (∀ w0, Calls Try.prog 7 #[] w0 fun e w' => e = .returned (.bool true) ∧ Below w0.heap.size w0 w') := awake_any
  have KA : Hid (AllB key ∧ key.length = 32) := ⟨ka, kl⟩
  have HV : Hid (Byt w v1 b) := h1
  have S2 : Hid (∀ w, Calls Try.prog 9 #[.int .i64 ((b.length : Int) - 8)] w fun e w' => e = .returned (.bool true) ∧ w' = w) := fun w => right_any _ w true (by simp; omega) (by omega) (by have := h1.len; omega)
  have k8 : IntKind.i64.wrap ((b.length : Int) - 8) = (b.length : Int) - 8 := by rw [IntKind.wrap_i64]; have := h1.len; omega
  have s8 : ¬ ((b.length : Int) < 8) := by omega
  have SU : Hid (∀ kv bv w0, Byt w0 kv key → Byt w0 bv b → Calls Try.prog 13 #[kv, bv] w0 fun e w' => e = .returned (.tuple #[.slice none 0 0, .int .i64 16]) ∧ Below w0.heap.size w0 w') := fun kv bv w0 h2 h3 => (unwrap_any kv bv key b n w0 h2 kl h3 hb hn hn').mono fun e w' ⟨h, hB⟩ => by
    rcases h with ⟨hy, -⟩ | ⟨-, he⟩
    · exact absurd hy hf
    · exact ⟨he, hB⟩
  clear hf
  clear kl ka hb hn hn'
  obtain ⟨bo, bc, rfl, -, -, -, -, -⟩ := h1
  generalize b.length = m at *
  have t0 : True := trivial
  have t1 : True := trivial
  have t2 : True := trivial
  have t9 : True := trivial
  go_enter Try.func6, Try.ntmps6
  go_wp2_with (first
    | (have q := t0; refine box_lawF _ rfl (.tmp 0) 33 rfl .u8 key rfl ?_; intro w1 A1 B1 s1; have Y1 : Hid (Byt w1 (.slice (some ⟨w.heap.size, 0, none⟩) 32 32) key) := A1.bytG KA.out.1 32 32 KA.out.2 (by omega) (by omega); have V1 : Hid (Byt w1 (.slice bo m bc) b) := HV.out.below B1; have BB1 : Hid (Below w.heap.size w w1) := B1; clear A1 s1 B1 t0 q)
    | (have q := t1; go_at_call 9; refine (S2.out _).mono ?_; rintro e wx ⟨rfl, hw⟩; obtain rfl := hw.symm; clear t1 q)
    | (have q := t2; go_at_call 13; refine (SU.out _ _ _ Y1.out V1.out).mono ?_; rintro e w2 ⟨rfl, B2⟩; have BB2 : Hid (Below w.heap.size w w2) := BB1.out.trans (B2.mono BB1.out.size); clear B2 t2 q)
    | (have q := t9; go_at_call 7; refine (AW.out _).mono ?_; rintro e w9 ⟨rfl, B9⟩; clear t9 q))
  go_ret
  exact ⟨rfl, BB2.out.trans (B9.mono BB2.out.size)⟩

set_option maxRecDepth 20000 in
set_option maxHeartbeats 4000000 in
theorem walk_y (key : List Int) (v1 : Value) (b : List Int) (w : World) (kl : key.length = 32) (ka : AllB key) (h1 : Byt w v1 b) (n : Nat) (hb : b.length = 8 * n + 8) (hn : 2 ≤ n) (hn' : n ≤ 32) (hf : hd (unwr key b n) = a6) :
    Calls Try.prog 6 #[.agg (ints .u8 key), v1] w fun e w' => e = .returned (.bool true) ∧ Below w.heap.size w w' := by
  have AW : Hid (∀ w0, Calls Try.prog 7 #[] w0 fun e w' => e = .returned (.bool true) ∧ Below w0.heap.size w0 w') := awake_any
  have KA : Hid (AllB key ∧ key.length = 32) := ⟨ka, kl⟩
  have HV : Hid (Byt w v1 b) := h1
  have S2 : Hid (∀ w, Calls Try.prog 9 #[.int .i64 ((b.length : Int) - 8)] w fun e w' => e = .returned (.bool true) ∧ w' = w) := fun w => right_any _ w true (by simp; omega) (by omega) (by have := h1.len; omega)
  have k8 : IntKind.i64.wrap ((b.length : Int) - 8) = (b.length : Int) - 8 := by rw [IntKind.wrap_i64]; have := h1.len; omega
  have s8 : ¬ ((b.length : Int) < 8) := by omega
  have hfit := unwr_fit key kl ka b n (by omega) ⟨hb, h1.all⟩
  have hw := wrapped_unwr key kl ka b n (by omega) ⟨hb, h1.all⟩ hf
  have SU : Hid (∀ kv bv w0, Byt w0 kv key → Byt w0 bv b → Calls Try.prog 13 #[kv, bv] w0 fun e w' => ∃ v, e = .returned (.tuple #[v, .int .i64 0]) ∧ Byt w' v ((unwr key b n).drop 8) ∧ Below w0.heap.size w0 w') := fun kv bv w0 h2 h3 => (unwrap_any kv bv key b n w0 h2 kl h3 hb hn hn').mono fun e w' ⟨h, hB⟩ => by
    rcases h with ⟨-, v, he, hy⟩ | ⟨hno, -⟩
    · exact ⟨v, he, hy, hB⟩
    · exact absurd hf hno
  have SW : Hid (∀ kv bv w0, Byt w0 kv key → Byt w0 bv ((unwr key b n).drop 8) → Calls Try.prog 8 #[kv, bv] w0 fun e w' => ∃ v, e = .returned (.tuple #[v, .int .i64 0]) ∧ Byt w' v b ∧ Below w0.heap.size w0 w') := fun kv bv w0 h2 h3 => by
    have := wrap_any kv bv key _ n w0 h2 kl h3 (by rw [List.length_drop, hfit.1]; omega) hn hn'
    rwa [hw] at this
  clear hfit hw hf
  generalize (unwr key b n).drop 8 = W at *
  clear kl ka hb hn hn'
  obtain ⟨bo, bc, rfl, -, -, -, -, -⟩ := h1
  generalize b.length = m at *
  have t0 : True := trivial
  have t1 : True := trivial
  have t2 : True := trivial
  have t3 : True := trivial
  have t4 : True := trivial
  have t9 : True := trivial
  go_enter Try.func6, Try.ntmps6
  go_wp2_with (first
    | (have q := t0; refine box_lawF _ rfl (.tmp 0) 33 rfl .u8 key rfl ?_; intro w1 A1 B1 s1; have Y1 : Hid (Byt w1 (.slice (some ⟨w.heap.size, 0, none⟩) 32 32) key) := A1.bytG KA.out.1 32 32 KA.out.2 (by omega) (by omega); have V1 : Hid (Byt w1 (.slice bo m bc) b) := HV.out.below B1; have BB1 : Hid (Below w.heap.size w w1) := B1; clear A1 s1 B1 t0 q)
    | (have q := t1; go_at_call 9; refine (S2.out _).mono ?_; rintro e wx ⟨rfl, hw⟩; obtain rfl := hw.symm; clear t1 q)
    | (have q := t2; go_at_call 13; refine (SU.out _ _ _ Y1.out V1.out).mono ?_; rintro e w2 ⟨v2, rfl, y2, B2⟩; have X2 : Hid (Byt w2 v2 W) := y2; have Y2 : Hid (Byt w2 (.slice (some ⟨w.heap.size, 0, none⟩) 32 32) key) := Y1.out.below B2; have V2 : Hid (Byt w2 (.slice bo m bc) b) := V1.out.below B2; have BB2 : Hid (Below w.heap.size w w2) := BB1.out.trans (B2.mono BB1.out.size); clear y2 B2 t2 q)
    | (have q := t3; go_at_call 8; refine (SW.out _ _ _ Y2.out X2.out).mono ?_; rintro e w3 ⟨v3, rfl, y3, B3⟩; have X3 : Hid (Byt w3 v3 b) := y3; have V3 : Hid (Byt w3 (.slice bo m bc) b) := V2.out.below B3; have BB3 : Hid (Below w.heap.size w w3) := BB2.out.trans (B3.mono BB2.out.size); clear y3 B3 t3 q)
    | (have q := t4; go_at_call 10; refine (same_yes _ _ _ b X3.out V3.out).mono ?_; rintro e w4 ⟨rfl, B4⟩; have BB4 : Hid (Below w.heap.size w w4) := BB3.out.trans (B4.mono BB3.out.size); clear B4 t4 q)
    | (have q := t9; go_at_call 7; refine (AW.out _).mono ?_; rintro e w9 ⟨rfl, B9⟩; clear t9 q))
  go_ret
  exact ⟨rfl, BB4.out.trans (B9.mono BB4.out.size)⟩

set_option maxRecDepth 20000 in
set_option maxHeartbeats 4000000 in
theorem walk (l0 : List Nat) (v1 : Value) (b : List Int) (w : World) (n0 : l0.length = 32) (b0 : ∀ x ∈ l0, x < 256) (h1 : Byt w v1 b) :
    Calls Try.prog 6 #[.agg (l0.map fun x : Nat => Value.int .u8 (x : Int)).toArray, v1] w fun e w' => e = .returned (.bool true) ∧ Below w.heap.size w w' := by
  rw [arr_ints]
  have ka := arr_all l0 b0
  have kl : (cI l0).length = 32 := by rw [cI_len]; exact n0
  generalize cI l0 = key at *
  by_cases hs : b.length < 8
  · exact walk_s key v1 b w kl ka h1 hs
  by_cases hr : 16 ≤ (b.length : Int) - 8 ∧ (b.length : Int) - 8 ≤ 256 ∧ ((b.length : Int) - 8) % 8 = 0
  · by_cases hf : hd (unwr key b (b.length / 8 - 1)) = a6
    · exact walk_y key v1 b w kl ka h1 (b.length / 8 - 1) (by omega) (by omega) (by omega) hf
    · exact walk_x key v1 b w kl ka h1 (b.length / 8 - 1) (by omega) (by omega) (by omega) hf
  · exact walk_n key v1 b w kl ka h1 (by omega) hr

theorem params : ∀ t ∈ Try.f6.params.toList, Try.prog.readableRec t = true ∧ t < Try.prog.types.size := by
  rw [Try.params6]
  intro t ht
  simp at ht
  rcases ht with rfl | rfl
  · exact ⟨by kernel_rfl, of_decide_eq_true (by kernel_rfl)⟩
  · exact ⟨by kernel_rfl, of_decide_eq_true (by kernel_rfl)⟩

theorem contract (H : Type) (enc : TypeId × Value → H) (W : World) (base : Nat) (args : Array Value) (ds gs : List (DataW H)) (before : List MemPlace)
    (hval : ∀ (j : Nat) t v, Try.f6.params[j]? = some t → args[j]? = some v → Value.okWide Try.prog W .any base t v)
    (hW : DataW.Whole enc Try.prog Try.f6.params.toList Rows.wrapAgainSpec.vars false W args.toList ds gs before) :
    Calls Try.prog 6 args W fun e W' => ∃ v, e = .returned v ∧ Rows.wrapAgainSpec.post enc Try.prog Try.f6 false true false false W args v W' := by
  have hW' := hW
  obtain ⟨p, q, hA0, hV, rfl, hfz, hnd⟩ := hW
  have hA : DataW.TrodAll enc Try.prog W 0 (fun _ => true) true Try.f6.params.toList args.toList ds p := hA0
  rw [Try.params6] at hA hval
  obtain ⟨v0, v1, d0, d1, p0, p1, rfl, rfl, rfl, h0, h1⟩ := trodAll_two hA
  obtain ⟨rfl, rfl⟩ := trodVars_none hV
  obtain ⟨l0, rfl, n0, b0⟩ := arr_open Try.underlying33 cells_arr32 (hval 0 33 v0 rfl rfl) h0
  obtain ⟨xs1, b1⟩ := byt_open (hval 1 22 v1 rfl rfl) h1
  clear hA0
  refine (walk l0 v1 xs1 W n0 b0 b1).mono fun e W' ⟨he, hg⟩ => ?_
  subst he
  exact ⟨_, rfl, post_law rfl (by kernel_rfl) params rfl rfl rfl hW' hg⟩

theorem laid_met (os : Os) : laidMet Try.prog Rows.wrapAgainRow.laid ((World.holding Try.prog os ⟨#[], #[], []⟩).forCall (fun _ _ => 0) ⟨#[], #[.agg #[.int .u8 0, .int .u8 0, .int .u8 0, .int .u8 0, .int .u8 0, .int .u8 0, .int .u8 0, .int .u8 0, .int .u8 0, .int .u8 0, .int .u8 0, .int .u8 0, .int .u8 0, .int .u8 0, .int .u8 0, .int .u8 0, .int .u8 0, .int .u8 0, .int .u8 0, .int .u8 0, .int .u8 0, .int .u8 0, .int .u8 0, .int .u8 0, .int .u8 0, .int .u8 0, .int .u8 0, .int .u8 0, .int .u8 0, .int .u8 0, .int .u8 0, .int .u8 0], .slice none 0 0], []⟩).memory :=
  laidMet_of_run' 8 (by kernel_rfl) (by kernel_rfl)
theorem reads (os : Os) {H : Type} (enc : TypeId × Value → H) : ∃ places, DataW.whole enc Try.prog ((World.holding Try.prog os ⟨#[], #[], []⟩).forCall (fun _ _ => 0) ⟨#[], #[.agg #[.int .u8 0, .int .u8 0, .int .u8 0, .int .u8 0, .int .u8 0, .int .u8 0, .int .u8 0, .int .u8 0, .int .u8 0, .int .u8 0, .int .u8 0, .int .u8 0, .int .u8 0, .int .u8 0, .int .u8 0, .int .u8 0, .int .u8 0, .int .u8 0, .int .u8 0, .int .u8 0, .int .u8 0, .int .u8 0, .int .u8 0, .int .u8 0, .int .u8 0, .int .u8 0, .int .u8 0, .int .u8 0, .int .u8 0, .int .u8 0, .int .u8 0, .int .u8 0], .slice none 0 0], []⟩).memory Try.f6.params.toList Rows.wrapAgainSpec.vars false #[Value.agg #[.int .u8 0, .int .u8 0, .int .u8 0, .int .u8 0, .int .u8 0, .int .u8 0, .int .u8 0, .int .u8 0, .int .u8 0, .int .u8 0, .int .u8 0, .int .u8 0, .int .u8 0, .int .u8 0, .int .u8 0, .int .u8 0, .int .u8 0, .int .u8 0, .int .u8 0, .int .u8 0, .int .u8 0, .int .u8 0, .int .u8 0, .int .u8 0, .int .u8 0, .int .u8 0, .int .u8 0, .int .u8 0, .int .u8 0, .int .u8 0, .int .u8 0, .int .u8 0], Value.slice none 0 0].toList 8 = some ([.agg [.lit (.int .u8 0), .lit (.int .u8 0), .lit (.int .u8 0), .lit (.int .u8 0), .lit (.int .u8 0), .lit (.int .u8 0), .lit (.int .u8 0), .lit (.int .u8 0), .lit (.int .u8 0), .lit (.int .u8 0), .lit (.int .u8 0), .lit (.int .u8 0), .lit (.int .u8 0), .lit (.int .u8 0), .lit (.int .u8 0), .lit (.int .u8 0), .lit (.int .u8 0), .lit (.int .u8 0), .lit (.int .u8 0), .lit (.int .u8 0), .lit (.int .u8 0), .lit (.int .u8 0), .lit (.int .u8 0), .lit (.int .u8 0), .lit (.int .u8 0), .lit (.int .u8 0), .lit (.int .u8 0), .lit (.int .u8 0), .lit (.int .u8 0), .lit (.int .u8 0), .lit (.int .u8 0), .lit (.int .u8 0)], .nil], [], places) :=
  ⟨[], by kernel_rfl⟩

set_option maxRecDepth 100000 in
theorem lifted (os : Os) (started : os.Started) (H : Type) (enc : TypeId × Value → H) (F : Stop.Interp) :
    ReturnsInHanded {} Try.checked os 6 .any ((OpenSpec.ofChange Rows.wrapAgainSpec).preRow enc Try.prog Try.f6 Rows.wrapAgainRow.domain false Rows.wrapAgainRow.laid) (((OpenSpec.ofChange Rows.wrapAgainSpec).at F).post enc Try.prog Try.f6 false true false false) := by
  obtain ⟨places, hx⟩ := reads os enc
  refine returnsInHanded_of_row (C := Try.checked) (s := OpenSpec.ofChange Rows.wrapAgainSpec) own started (by kernel_rfl) Try.func6
    (witness_row_at (enc := enc) (C := Try.checked) false (World.holding Try.prog os ⟨#[], #[], []⟩) #[.agg #[.int .u8 0, .int .u8 0, .int .u8 0, .int .u8 0, .int .u8 0, .int .u8 0, .int .u8 0, .int .u8 0, .int .u8 0, .int .u8 0, .int .u8 0, .int .u8 0, .int .u8 0, .int .u8 0, .int .u8 0, .int .u8 0, .int .u8 0, .int .u8 0, .int .u8 0, .int .u8 0, .int .u8 0, .int .u8 0, .int .u8 0, .int .u8 0, .int .u8 0, .int .u8 0, .int .u8 0, .int .u8 0, .int .u8 0, .int .u8 0, .int .u8 0, .int .u8 0], .slice none 0 0] rfl (by kernel_rfl) (by kernel_rfl) (by kernel_rfl)
      (OpenSpec.preRow_of_cond 8 hx (by kernel_rfl) (fun k hk => by cases hk) (by kernel_rfl) (laid_met os))) ?_
  intro W base args ds gs before hval hW _ _ _ _ _ _
  exact contract H enc W base args ds gs before hval hW

theorem said : Rows.WrapAgainSaid :=
  OpenClaim.holds_of_cond 6 Try.f6 rfl rfl rfl rfl rfl rfl rfl ⟨rfl, rfl, rfl, rfl, rfl⟩ rfl rfl rfl rfl rfl (by kernel_rfl) Try.func6 (by kernel_rfl)
    (of_decide_eq_true (by kernel_rfl)) (by unfold Func.isWrapper; first | (rw [if_pos (by decide +kernel)]; kernel_rfl) | (rw [if_neg (by decide +kernel)]; exact ⟨rfl, rfl⟩))
    (fun os started H enc _ F => by rw [OpenClaim.pre_eq_preRow]; exact lifted os started H enc F)
end Go.Proofs.Ytjiddmgnkldmkaa.wrapAgain

namespace Go.Proofs.Ytjiddmgnkldmkaa
theorem wrapAgain_said : Rows.WrapAgainSaid := wrapAgain.said
#print axioms wrapAgain_said
end Go.Proofs.Ytjiddmgnkldmkaa
