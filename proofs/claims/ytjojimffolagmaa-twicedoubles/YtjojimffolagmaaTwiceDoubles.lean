/- P8.1: any bytes, doubled once and n times: ErrShape where they are not sixteen, or n is below 0 or above 65536; else what the definition says (n up to 300; above it that the program answers at all). -/
import Derived.Test.YtjojimffolagmaaTAwk
namespace Go.Proofs.Ytjojimffolagmaa.twiceDoubles
open Go.ChangeShapes Go.WideShapes Go.ChangeAt Go.RowKit

set_option maxHeartbeats 4000000 in
theorem walk_far (v : Value) (n : Int) (w : World) (h1 : 300 < n) (h2 : n ≤ 65536) :
    Calls Try.prog 3 #[v, .int .i64 n] w fun e w' => e = .returned (.bool true) ∧ Below w.heap.size w w' := by
  go_enter Try.func3, Try.ntmps3
  go_wp2_with (go_at_call 8; refine (awake_any _).mono ?_; rintro e w9 ⟨rfl, B9⟩)
  go_ret
  exact ⟨rfl, B9⟩

set_option maxHeartbeats 4000000 in
theorem walk_len (v : Value) (xs : List Int) (n : Int) (w : World) (hb : Byt w v xs) (hf : n ≤ 300 ∨ 65536 < n) (hl : ¬ xs.length = 16) :
    Calls Try.prog 3 #[v, .int .i64 n] w fun e w' => e = .returned (.bool true) ∧ Below w.heap.size w w' := by
  have S1 : Hid (Calls Try.prog 9 #[v] w fun e w' => e = .returned (.tuple #[.slice none 0 0, .int .i64 2]) ∧ w' = w) := double_no v xs w hb hl
  have S2 : Hid (Calls Try.prog 10 #[v, .int .i64 n] w fun e w' => e = .returned (.tuple #[.slice none 0 0, .int .i64 2]) ∧ w' = w) := times_no v xs n w hb (Or.inl hl)
  obtain ⟨ao, ca, rfl, h1, h2, -, -, -⟩ := hb
  have h5 : ((xs.length : Int) != 16) = true := by simp; omega
  by_cases c : 300 < n
  · have c2 : ¬ n ≤ 65536 := by omega
    clear hf hl
    generalize xs.length = m at *
    go_enter Try.func3, Try.ntmps3
    go_wp2_with (first
      | (go_at_call 8; refine (awake_any _).mono ?_; rintro e w9 ⟨rfl, B9⟩)
      | (go_at_call 10; refine (S2.out).mono ?_; rintro e wx ⟨rfl, hw⟩; obtain rfl := hw.symm)
      | (go_at_call 9; refine (S1.out).mono ?_; rintro e wx ⟨rfl, hw⟩; obtain rfl := hw.symm))
    go_ret
    exact ⟨rfl, B9⟩
  · clear hf hl
    generalize xs.length = m at *
    go_enter Try.func3, Try.ntmps3
    go_wp2_with (first
      | (go_at_call 8; refine (awake_any _).mono ?_; rintro e w9 ⟨rfl, B9⟩)
      | (go_at_call 10; refine (S2.out).mono ?_; rintro e wx ⟨rfl, hw⟩; obtain rfl := hw.symm)
      | (go_at_call 9; refine (S1.out).mono ?_; rintro e wx ⟨rfl, hw⟩; obtain rfl := hw.symm))
    go_ret
    exact ⟨rfl, B9⟩

set_option maxHeartbeats 4000000 in
theorem walk_out (v : Value) (xs : List Int) (n : Int) (w : World) (hb : Byt w v xs) (hf : n < 0 ∨ 65536 < n) (hl : xs.length = 16) :
    Calls Try.prog 3 #[v, .int .i64 n] w fun e w' => e = .returned (.bool true) ∧ Below w.heap.size w w' := by
  have S1 : Hid (Calls Try.prog 9 #[v] w fun e w' => ∃ g, e = .returned (.tuple #[.slice (some ⟨g, 0, none⟩) 16 16, .int .i64 0]) ∧ Ar w' g 0 .u8 (bt16 (td (nm16 xs))) ∧ w.heap.size ≤ g ∧ Below w.heap.size w w') := double_any v xs w hb hl
  have S2 : Hid (∀ w', Below w.heap.size w w' → Calls Try.prog 10 #[v, .int .i64 n] w' fun e w'' => e = .returned (.tuple #[.slice none 0 0, .int .i64 2]) ∧ w'' = w') := fun w' h => times_no v xs n w' (hb.below h) (Or.inr hf)
  have S3 : Hid (∀ w', Below w.heap.size w w' → Calls Try.prog 12 #[v] w' fun e w'' => ∃ v', e = .returned v' ∧ Byt w'' v' (bt16 (td (nm16 xs))) ∧ Below w'.heap.size w' w'') := fun w' h => rdouble_any v xs w' (hb.below h) hl
  have ZB : Hid ((bt16 (td (nm16 xs))).length = 16 ∧ AllB (bt16 (td (nm16 xs)))) := ⟨bt16_len _, bt16_all _⟩
  generalize bt16 (td (nm16 xs)) = zs at *
  obtain ⟨ao, ca, rfl, h1, h2, -, -, -⟩ := hb
  rw [hl] at S1 S2 S3 h1 ⊢
  clear hl
  by_cases c : n < 0
  · have c2 : ¬ 300 < n := by omega
    clear hf
    go_enter Try.func3, Try.ntmps3
    go_wp2_with (first
      | (go_at_call 8; refine (awake_any _).mono ?_; rintro e w9 ⟨rfl, B9⟩; have BB : Hid (Below w.heap.size w w9) := BB.out.trans (B9.mono BB.out.size); clear B9)
      | (go_at_call 11; refine (same_yes _ _ _ zs X3.out R3.out).mono ?_; rintro e w5 ⟨rfl, B5⟩; have BB : Hid (Below w.heap.size w w5) := BB.out.trans (B5.mono BB.out.size); clear B5)
      | (go_at_call 12; refine (S3.out _ BB.out).mono ?_; rintro e w3 ⟨v3, rfl, y3, B3⟩; have R3 : Hid (Byt w3 v3 zs) := y3; have X3 : Hid (Byt w3 (.slice (some ⟨gx, 0, none⟩) 16 16) zs) := X1.out.below B3; have BB : Hid (Below w.heap.size w w3) := BB.out.trans (B3.mono BB.out.size); clear y3 B3)
      | (go_at_call 10; refine (S2.out _ BB.out).mono ?_; rintro e wx ⟨rfl, hw⟩; obtain rfl := hw.symm)
      | (go_at_call 9; refine (S1.out).mono ?_; rintro e w1 ⟨gx, rfl, a1, L1, B1⟩; have X1 : Hid (Byt w1 (.slice (some ⟨gx, 0, none⟩) 16 16) zs) := a1.bytG ZB.out.2 16 16 ZB.out.1 (by omega) (by omega); have BB : Hid (Below w.heap.size w w1) := B1; clear a1 B1))
    go_ret
    exact ⟨rfl, BB.out⟩
  · have c1 : 65536 < n := by omega
    have c2 : ¬ n ≤ 65536 := by omega
    have c3 : 300 < n := by omega
    clear hf
    go_enter Try.func3, Try.ntmps3
    go_wp2_with (first
      | (go_at_call 8; refine (awake_any _).mono ?_; rintro e w9 ⟨rfl, B9⟩; have BB : Hid (Below w.heap.size w w9) := BB.out.trans (B9.mono BB.out.size); clear B9)
      | (go_at_call 11; refine (same_yes _ _ _ zs X3.out R3.out).mono ?_; rintro e w5 ⟨rfl, B5⟩; have BB : Hid (Below w.heap.size w w5) := BB.out.trans (B5.mono BB.out.size); clear B5)
      | (go_at_call 12; refine (S3.out _ BB.out).mono ?_; rintro e w3 ⟨v3, rfl, y3, B3⟩; have R3 : Hid (Byt w3 v3 zs) := y3; have X3 : Hid (Byt w3 (.slice (some ⟨gx, 0, none⟩) 16 16) zs) := X1.out.below B3; have BB : Hid (Below w.heap.size w w3) := BB.out.trans (B3.mono BB.out.size); clear y3 B3)
      | (go_at_call 10; refine (S2.out _ BB.out).mono ?_; rintro e wx ⟨rfl, hw⟩; obtain rfl := hw.symm)
      | (go_at_call 9; refine (S1.out).mono ?_; rintro e w1 ⟨gx, rfl, a1, L1, B1⟩; have X1 : Hid (Byt w1 (.slice (some ⟨gx, 0, none⟩) 16 16) zs) := a1.bytG ZB.out.2 16 16 ZB.out.1 (by omega) (by omega); have BB : Hid (Below w.heap.size w w1) := B1; clear a1 B1))
    go_ret
    exact ⟨rfl, BB.out⟩

set_option maxHeartbeats 4000000 in
theorem walk_yes (v : Value) (xs : List Int) (n : Nat) (w : World) (hb : Byt w v xs) (hn : n ≤ 300) (hl : xs.length = 16) :
    Calls Try.prog 3 #[v, .int .i64 (n : Int)] w fun e w' => e = .returned (.bool true) ∧ Below w.heap.size w w' := by
  have S1 : Hid (Calls Try.prog 9 #[v] w fun e w' => ∃ g, e = .returned (.tuple #[.slice (some ⟨g, 0, none⟩) 16 16, .int .i64 0]) ∧ Ar w' g 0 .u8 (bt16 (td (nm16 xs))) ∧ w.heap.size ≤ g ∧ Below w.heap.size w w') := double_any v xs w hb hl
  have S2 : Hid (∀ w', Below w.heap.size w w' → Calls Try.prog 10 #[v, .int .i64 (n : Int)] w' fun e w'' => ∃ g, e = .returned (.tuple #[.slice (some ⟨g, 0, none⟩) 16 16, .int .i64 0]) ∧ Ar w'' g 0 .u8 (bt16 (tdn (nm16 xs) n)) ∧ w'.heap.size ≤ g ∧ Below w'.heap.size w' w'') := fun w' h => times_any v xs n w' (hb.below h) hl (by omega)
  have S3 : Hid (∀ w', Below w.heap.size w w' → Calls Try.prog 12 #[v] w' fun e w'' => ∃ v', e = .returned v' ∧ Byt w'' v' (bt16 (td (nm16 xs))) ∧ Below w'.heap.size w' w'') := fun w' h => rdouble_any v xs w' (hb.below h) hl
  have S4 : Hid (∀ w', Below w.heap.size w w' → Calls Try.prog 13 #[v, .int .i64 (n : Int)] w' fun e w'' => ∃ v', e = .returned v' ∧ Byt w'' v' (bt16 (tdn (nm16 xs) n)) ∧ Below w'.heap.size w' w'') := fun w' h => rtimes_any v xs n w' (hb.below h) hl (by omega)
  have ZB : Hid ((bt16 (td (nm16 xs))).length = 16 ∧ AllB (bt16 (td (nm16 xs)))) := ⟨bt16_len _, bt16_all _⟩
  have YB : Hid ((bt16 (tdn (nm16 xs) n)).length = 16 ∧ AllB (bt16 (tdn (nm16 xs) n))) := ⟨bt16_len _, bt16_all _⟩
  generalize bt16 (td (nm16 xs)) = zs at *
  generalize bt16 (tdn (nm16 xs) n) = ys at *
  obtain ⟨ao, ca, rfl, h1, h2, -, -, -⟩ := hb
  rw [hl] at S1 S2 S3 S4 h1 ⊢
  have c0 : (0 : Int) ≤ (n : Int) := by omega
  have c2 : (n : Int) ≤ 300 := by omega
  clear hl
  go_enter Try.func3, Try.ntmps3
  go_wp2_with (first
    | (go_at_call 8; refine (awake_any _).mono ?_; rintro e w9 ⟨rfl, B9⟩; have BB : Hid (Below w.heap.size w w9) := BB.out.trans (B9.mono BB.out.size); clear B9)
    | (go_at_call 11; have q := R6; refine (same_yes _ _ _ ys X6.out R6.out).mono ?_; rintro e w7 ⟨rfl, B7⟩; have BB : Hid (Below w.heap.size w w7) := BB.out.trans (B7.mono BB.out.size); clear B7)
    | (go_at_call 13; refine (S4.out _ BB.out).mono ?_; rintro e w6 ⟨v6, rfl, y6, B6⟩; have R6 : Hid (Byt w6 v6 ys) := y6; have X6 : Hid (Byt w6 (.slice (some ⟨gy, 0, none⟩) 16 16) ys) := W5.out.below B6; have BB : Hid (Below w.heap.size w w6) := BB.out.trans (B6.mono BB.out.size); clear y6 B6)
    | (go_at_call 11; refine (same_yes _ _ _ zs X3.out R3.out).mono ?_; rintro e w5 ⟨rfl, B5⟩; have W5 : Hid (Byt w5 (.slice (some ⟨gy, 0, none⟩) 16 16) ys) := W3.out.below B5; have BB : Hid (Below w.heap.size w w5) := BB.out.trans (B5.mono BB.out.size); clear B5)
    | (go_at_call 12; refine (S3.out _ BB.out).mono ?_; rintro e w3 ⟨v3, rfl, y3, B3⟩; have R3 : Hid (Byt w3 v3 zs) := y3; have X3 : Hid (Byt w3 (.slice (some ⟨gx, 0, none⟩) 16 16) zs) := X2.out.below B3; have W3 : Hid (Byt w3 (.slice (some ⟨gy, 0, none⟩) 16 16) ys) := W2.out.below B3; have BB : Hid (Below w.heap.size w w3) := BB.out.trans (B3.mono BB.out.size); clear y3 B3)
    | (go_at_call 10; refine (S2.out _ BB.out).mono ?_; rintro e w2 ⟨gy, rfl, a2, L2, B2⟩; have W2 : Hid (Byt w2 (.slice (some ⟨gy, 0, none⟩) 16 16) ys) := a2.bytG YB.out.2 16 16 YB.out.1 (by omega) (by omega); have X2 : Hid (Byt w2 (.slice (some ⟨gx, 0, none⟩) 16 16) zs) := X1.out.below B2; have BB : Hid (Below w.heap.size w w2) := BB.out.trans (B2.mono BB.out.size); clear a2 B2)
    | (go_at_call 9; refine (S1.out).mono ?_; rintro e w1 ⟨gx, rfl, a1, L1, B1⟩; have X1 : Hid (Byt w1 (.slice (some ⟨gx, 0, none⟩) 16 16) zs) := a1.bytG ZB.out.2 16 16 ZB.out.1 (by omega) (by omega); have BB : Hid (Below w.heap.size w w1) := B1; clear a1 B1))
  go_ret
  exact ⟨rfl, BB.out⟩

theorem walk (v : Value) (xs : List Int) (n : Int) (w : World) (hb : Byt w v xs) (_hn : -9223372036854775808 ≤ n ∧ n ≤ 9223372036854775807) :
    Calls Try.prog 3 #[v, .int .i64 n] w fun e w' => e = .returned (.bool true) ∧ Below w.heap.size w w' := by
  by_cases h : 300 < n ∧ n ≤ 65536
  · exact walk_far v n w h.1 h.2
  · by_cases hl : xs.length = 16
    · by_cases ho : n < 0 ∨ 65536 < n
      · exact walk_out v xs n w hb ho hl
      · have := walk_yes v xs n.toNat w hb (by omega) hl
        rwa [show ((n.toNat : Nat) : Int) = n by omega] at this
    · exact walk_len v xs n w hb (by omega) hl

theorem params : ∀ t ∈ Try.f3.params.toList, Try.prog.readableRec t = true ∧ t < Try.prog.types.size := by
  rw [Try.params3]
  intro t ht
  simp at ht
  rcases ht with rfl | rfl
  · exact ⟨by kernel_rfl, of_decide_eq_true (by kernel_rfl)⟩
  · exact ⟨by kernel_rfl, of_decide_eq_true (by kernel_rfl)⟩

theorem contract (H : Type) (enc : TypeId × Value → H) (W : World) (base : Nat) (args : Array Value) (ds gs : List (DataW H)) (before : List MemPlace)
    (hval : ∀ (j : Nat) t v, Try.f3.params[j]? = some t → args[j]? = some v → Value.okWide Try.prog W .any base t v)
    (hW : DataW.Whole enc Try.prog Try.f3.params.toList Rows.twiceDoublesSpec.vars false W args.toList ds gs before) :
    Calls Try.prog 3 args W fun e W' => ∃ v, e = .returned v ∧ Rows.twiceDoublesSpec.post enc Try.prog Try.f3 false true false false W args v W' := by
  have hW' := hW
  obtain ⟨p, q, hA0, hV, rfl, hfz, hnd⟩ := hW
  have hA : DataW.TrodAll enc Try.prog W 0 (fun _ => true) true Try.f3.params.toList args.toList ds p := hA0
  rw [Try.params3] at hA hval
  obtain ⟨v0, v1, d0, d1, p0, p1, rfl, rfl, rfl, h0, h1⟩ := trodAll_two hA
  obtain ⟨rfl, rfl⟩ := trodVars_none hV
  obtain ⟨xs0, b0⟩ := byt_open (hval 0 22 v0 rfl rfl) h0
  obtain ⟨x1, rfl, rfl, rfl, w1⟩ := open_int Try.underlying3 (hval 1 3 v1 rfl rfl) h1
  clear hA0
  refine (walk v0 xs0 x1 W b0 (bounds_i64 w1)).mono fun e W' ⟨he, hg⟩ => ?_
  subst he
  exact ⟨_, rfl, post_law rfl (by kernel_rfl) params rfl rfl rfl hW' hg⟩

theorem laid_met (os : Os) : laidMet Try.prog Rows.twiceDoublesRow.laid ((World.holding Try.prog os ⟨#[], #[], []⟩).forCall (fun _ _ => 0) ⟨#[], #[.slice none 0 0, .int .i64 0], []⟩).memory :=
  laidMet_of_run' 8 (by kernel_rfl) (by kernel_rfl)
theorem reads (os : Os) {H : Type} (enc : TypeId × Value → H) : ∃ places, DataW.whole enc Try.prog ((World.holding Try.prog os ⟨#[], #[], []⟩).forCall (fun _ _ => 0) ⟨#[], #[.slice none 0 0, .int .i64 0], []⟩).memory Try.f3.params.toList Rows.twiceDoublesSpec.vars false #[Value.slice none 0 0, Value.int .i64 0].toList 8 = some ([.nil, .lit (.int .i64 0)], [], places) :=
  ⟨[], by kernel_rfl⟩

set_option maxRecDepth 100000 in
theorem lifted (os : Os) (started : os.Started) (H : Type) (enc : TypeId × Value → H) (F : Stop.Interp) :
    ReturnsInHanded {} Try.checked os 3 .any ((OpenSpec.ofChange Rows.twiceDoublesSpec).preRow enc Try.prog Try.f3 Rows.twiceDoublesRow.domain false Rows.twiceDoublesRow.laid) (((OpenSpec.ofChange Rows.twiceDoublesSpec).at F).post enc Try.prog Try.f3 false true false false) := by
  obtain ⟨places, hx⟩ := reads os enc
  refine returnsInHanded_of_row (C := Try.checked) (s := OpenSpec.ofChange Rows.twiceDoublesSpec) own started (by kernel_rfl) Try.func3
    (witness_row_at (enc := enc) (C := Try.checked) false (World.holding Try.prog os ⟨#[], #[], []⟩) #[.slice none 0 0, .int .i64 0] rfl (by kernel_rfl) (by kernel_rfl) (by kernel_rfl)
      (OpenSpec.preRow_of_cond 8 hx (by kernel_rfl) (fun k hk => by cases hk) (by kernel_rfl) (laid_met os))) ?_
  intro W base args ds gs before hval hW _ _ _ _ _ _
  exact contract H enc W base args ds gs before hval hW

theorem said : Rows.TwiceDoublesSaid :=
  OpenClaim.holds_of_cond 3 Try.f3 rfl rfl rfl rfl rfl rfl rfl ⟨rfl, rfl, rfl, rfl, rfl⟩ rfl rfl rfl rfl rfl (by kernel_rfl) Try.func3 (by kernel_rfl)
    (of_decide_eq_true (by kernel_rfl)) (by unfold Func.isWrapper; first | (rw [if_pos (by decide +kernel)]; kernel_rfl) | (rw [if_neg (by decide +kernel)]; exact ⟨rfl, rfl⟩))
    (fun os started H enc _ F => by rw [OpenClaim.pre_eq_preRow]; exact lifted os started H enc F)
end Go.Proofs.Ytjojimffolagmaa.twiceDoubles

namespace Go.Proofs.Ytjojimffolagmaa
theorem twiceDoubles_said : Rows.TwiceDoublesSaid := twiceDoubles.said
#print axioms twiceDoubles_said
end Go.Proofs.Ytjojimffolagmaa
