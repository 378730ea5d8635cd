/- P14.1, P14.2: for all bytes b: head.Read(b) is ErrShape with a head of noughts and no tag, if b has not 88 bytes, and head.Committed(b) is false then; of 88 bytes head.Committed tells whether the last eight are nought, and head.Read is ErrForm with a head of noughts and no tag, if they tell no head, else the head and the tag, as the reference reads them. -/
import Derived.Test.YtjlnalfbaojedaaDoorCards
import Derived.Test.YtjlnalfbaojedaaDoorTie
import Derived.Test.YtjlnalfbaojedaaDoorHEqx
import Derived.Test.YtjlnalfbaojedaaDoorHRrd
namespace Go.Proofs.YtjlnalfbaojedaaDoor.headReads
open Go.ChangeShapes Go.WideShapes Go.ChangeAt Go.RowKit Go.Proofs.YtjlnalfbaojedaaDoor.he
set_option maxRecDepth 20000

/-- how many bytes a slice has -/
theorem len_law {ops : Array Oper} {rest : List Oper} {o : Oper} {a : Act} {Q : Exit → Act → World → Prop} (w : World) (hg : o.guard = none) (x : Operand) (hop : o.op = .call { callee := .builtin .len, args := #[x], argTypes := #[26] }) (v : Value) (xs : List Int) (n : Int) (hx : a.eval x = v) (hb : Byt w v xs) (hn : (xs.length : Int) = n)
    (hK : wpList Tryd.prog ops Q rest (a.put o.dst (.int .i64 n)) w) : wpList Tryd.prog ops Q (o :: rest) a w := by
  refine wpList_plain hg fun K hK' => ?_
  obtain ⟨ao, cap, rfl, -⟩ := hb
  subst hn
  unfold Oper.wp
  simp [execOp, hop, resolve, invoke, builtin, hx, Result.andThen]
  exact hK' _ _ hK
set_option maxHeartbeats 8000000 in
theorem walk (v : Value) (xs : List Int) (w : World) (hv' : Byt w v xs) (hT : Tab w) :
    Calls Tryd.prog 5 #[v] w fun x w' => x = .returned (.bool true) ∧ Below w.heap.size w w' := by
  have t0 : (0 : Nat) = 0 := rfl
  have B00 : Below w.heap.size w w := Below.refl _ _
  have hq0 : ∀ w : World, (binOp .eql 25 (.agg #[.int .i64 0, .int .i64 0, .int .i64 0, .int .u32 0, .int .u64 0, .int .u64 0]) (.agg #[.int .i64 0, .int .i64 0, .int .i64 0, .int .u32 0, .int .u64 0, .int .u64 0])).run Tryd.prog w = .ok (.bool true) w := eql_head 0 0 0 0 0 0
  have BB : Hid (Below w.heap.size w w) := B00
  clear B00
  by_cases hl : xs.length = 88
  · by_cases ht : Tl xs
    · have SC : Hid (∀ w', Below w.heap.size w w' → Calls Tryd.prog 16 #[v] w' fun x w'' => x = .returned (.bool (decide (xs.drop 80 = List.replicate 8 0))) ∧ Below w'.heap.size w' w'') := fun w' q => comm_yes v xs w' (hv'.below q) hl
      have SD : Hid (∀ w', Below w.heap.size w w' → Calls Tryd.prog 18 #[v] w' fun x w'' => x = .returned (.bool (decide (xs.drop 80 = List.replicate 8 0))) ∧ Below w'.heap.size w' w'') := fun w' q => rcomm_any v xs w' (hv'.below q) hl
      generalize decide (xs.drop 80 = List.replicate 8 0) = bc at *
      have SE : Hid (∀ w', Below w.heap.size w w' → Calls Tryd.prog 17 #[v] w' fun x w'' => ∃ u, x = .returned (.tuple #[.agg (hv (qk xs) (qn xs) (qc xs) (ql xs) (qe xs) (qt xs)).toArray, u, .int .i64 0]) ∧ Byt w'' u (sub xs 48 80) ∧ Below w'.heap.size w' w'') := fun w' q => read_yes v xs w' (hv'.below q) hl (hT.below q) ht
      have SR : Hid (∀ w', Below w.heap.size w w' → Calls Tryd.prog 19 #[v] w' fun x w'' => x = .returned (.tuple #[.agg (hv (qk xs) (qn xs) (qc xs) (ql xs) (qe xs) (qt xs)).toArray, .bool true]) ∧ Below w'.heap.size w' w'') := fun w' q => rread_yes v xs w' (hv'.below q) hl ht
      have HL : Hid (xs.length = 88) := hl
      have HV : Hid (Byt w v xs) := hv'
      generalize hTG : sub xs 48 80 = TG at SE
      have HS : Hid (sub xs 48 80 = TG) := hTG
      generalize qk xs = k at *
      generalize qn xs = n at *
      generalize qc xs = c at *
      generalize ql xs = l at *
      generalize qe xs = e at *
      generalize qt xs = t at *
      have hq : ∀ w : World, (binOp .eql 25 (.agg #[.int .i64 k, .int .i64 n, .int .i64 c, .int .u32 l, .int .u64 e, .int .u64 t]) (.agg #[.int .i64 k, .int .i64 n, .int .i64 c, .int .u32 l, .int .u64 e, .int .u64 t])).run Tryd.prog w = .ok (.bool true) w := eql_head k n c l e t
      clear hv' hl ht hTG
      cases bc
      · go_enter Tryd.func5, Tryd.ntmps5
        go_wp2_with (first
          | (have qa := ta; go_at_call 11; refine (awake_any _ (hT.below BB.out)).mono ?_; rintro e9 w9 ⟨rfl, B9⟩; have BB : Hid (Below w.heap.size w w9) := BB.out.trans (B9.mono BB.out.size); clear B9 ta)
          | (have q := t9; go_at_call 12; refine (same_yes _ _ _ TG YT.out Y9.out).mono ?_; rintro e9 w9 ⟨rfl, Bx⟩;  have BB : Hid (Below w.heap.size w w9) := BB.out.trans (Bx.mono BB.out.size); clear Bx t9; have ta : (0 : Nat) = 0 := rfl)
          | (have q := t8; refine cut_partG _ (by rfl) (.tmp 73) (.const (.int .i64 48)) (.const (.int .i64 80)) rfl _ xs _ _ 48 80 rfl rfl rfl rfl rfl (by omega) (by have := HL.out; omega) (HV.out.below BB.out) ?_; intro v9 y9; rw [show (xs.take 80).drop 48 = TG from HS.out] at y9; have Y9 : Hid (Byt w8 v9 TG) := y9; clear y9 t8; have t9 : (0 : Nat) = 0 := rfl)
          | (have q := t7; refine store_lawC _ (hv k n c l e t) w6.heap.size 0 rfl rfl HW.out.2 rowy_head.2 (hv_one _ _ _ _ _ _) ?_; intro w8 E9 R9 T9 B9; have HW : Hid (Vr w8 w6.heap.size (hv k n c l e t)) := ⟨R9, T9⟩; have Bac : Below w6.heap.size w6 w8 := CN.out.trans B9; have HX : Hid (Vr w8 w1.heap.size (hv k n c l e t)) := HX.out.below Bac (range_lt HX.out.1 (by simp [hv])); clear d0 d1 d2 d3 d4 d5; have d0 := HX.out.cell 0 _ rfl; have d1 := HX.out.cell 1 _ rfl; have d2 := HX.out.cell 2 _ rfl; have d3 := HX.out.cell 3 _ rfl; have d4 := HX.out.cell 4 _ rfl; have d5 := HX.out.cell 5 _ rfl; have f0 := HW.out.cell 0 _ rfl; have f1 := HW.out.cell 1 _ rfl; have f2 := HW.out.cell 2 _ rfl; have f3 := HW.out.cell 3 _ rfl; have f4 := HW.out.cell 4 _ rfl; have f5 := HW.out.cell 5 _ rfl; have YT : Hid (Byt w8 u1 TG) := YT.out.below Bac; have BB : Hid (Below w.heap.size w w8) := BB.out.trans (Bac.mono BB.out.size); clear E9 R9 T9 B9 Bac t7; have t8 : (0 : Nat) = 0 := rfl)
          | (have q := t6; refine new_lawC _ (hv 0 0 0 0 0 0) zero_head ?_; intro w7 V9 B9 s9; have HW : Hid (Vr w7 w6.heap.size (hv 0 0 0 0 0 0)) := V9; have CN : Hid (Below w6.heap.size w6 w7) := B9; clear V9 B9 s9 t6; have t7 : (0 : Nat) = 0 := rfl)
          | (have q := t5; go_at_call 19; refine (SR.out _ BB.out).mono ?_; rintro e9 w6 ⟨rfl, Bx⟩; have HX : Hid (Vr w6 w1.heap.size (hv k n c l e t)) := HX.out.below Bx (range_lt HX.out.1 (by simp [hv])); clear d0 d1 d2 d3 d4 d5; have d0 := HX.out.cell 0 _ rfl; have d1 := HX.out.cell 1 _ rfl; have d2 := HX.out.cell 2 _ rfl; have d3 := HX.out.cell 3 _ rfl; have d4 := HX.out.cell 4 _ rfl; have d5 := HX.out.cell 5 _ rfl; have YT : Hid (Byt w6 u1 TG) := YT.out.below Bx; have BB : Hid (Below w.heap.size w w6) := BB.out.trans (Bx.mono BB.out.size); clear Bx t5; have t6 : (0 : Nat) = 0 := rfl)
          | (have q := t4; go_at_call 18; refine (SD.out _ BB.out).mono ?_; rintro e9 w5 ⟨rfl, Bx⟩; have HX : Hid (Vr w5 w1.heap.size (hv k n c l e t)) := HX.out.below Bx (range_lt HX.out.1 (by simp [hv])); clear d0 d1 d2 d3 d4 d5; have d0 := HX.out.cell 0 _ rfl; have d1 := HX.out.cell 1 _ rfl; have d2 := HX.out.cell 2 _ rfl; have d3 := HX.out.cell 3 _ rfl; have d4 := HX.out.cell 4 _ rfl; have d5 := HX.out.cell 5 _ rfl; have YT : Hid (Byt w5 u1 TG) := YT.out.below Bx; have BB : Hid (Below w.heap.size w w5) := BB.out.trans (Bx.mono BB.out.size); clear Bx t4; have t5 : (0 : Nat) = 0 := rfl)
          | (have q := t3b; go_at_call 16; refine (SC.out _ BB.out).mono ?_; rintro e9 w4 ⟨rfl, Bx⟩; have HX : Hid (Vr w4 w1.heap.size (hv k n c l e t)) := HX.out.below Bx (range_lt HX.out.1 (by simp [hv])); clear d0 d1 d2 d3 d4 d5; have d0 := HX.out.cell 0 _ rfl; have d1 := HX.out.cell 1 _ rfl; have d2 := HX.out.cell 2 _ rfl; have d3 := HX.out.cell 3 _ rfl; have d4 := HX.out.cell 4 _ rfl; have d5 := HX.out.cell 5 _ rfl; have YT : Hid (Byt w4 u1 TG) := YT.out.below Bx; have BB : Hid (Below w.heap.size w w4) := BB.out.trans (Bx.mono BB.out.size); clear Bx t3b; have t4 : (0 : Nat) = 0 := rfl)
          | (have q := t3; refine len_law _ rfl (.tmp 14) rfl _ xs 88 rfl (HV.out.below BB.out) (by rw [HL.out]; rfl) ?_; clear t3; have t3b : (0 : Nat) = 0 := rfl)
          | (have q := t2; refine store_lawC _ (hv k n c l e t) w1.heap.size 0 rfl rfl HX.out.2 rowy_head.2 (hv_one _ _ _ _ _ _) ?_; intro w3 E9 R9 T9 B9; have HX : Hid (Vr w3 w1.heap.size (hv k n c l e t)) := ⟨R9, T9⟩; have Bac : Below w1.heap.size w1 w3 := CN.out.trans B9; have d0 := HX.out.cell 0 _ rfl; have d1 := HX.out.cell 1 _ rfl; have d2 := HX.out.cell 2 _ rfl; have d3 := HX.out.cell 3 _ rfl; have d4 := HX.out.cell 4 _ rfl; have d5 := HX.out.cell 5 _ rfl; have YT : Hid (Byt w3 u1 TG) := YT.out.below Bac; have BB : Hid (Below w.heap.size w w3) := BB.out.trans (Bac.mono BB.out.size); clear E9 R9 T9 B9 Bac t2; have t3 : (0 : Nat) = 0 := rfl)
          | (have q := t1; refine new_lawC _ (hv 0 0 0 0 0 0) zero_head ?_; intro w2 V9 B9 s9; have HX : Hid (Vr w2 w1.heap.size (hv 0 0 0 0 0 0)) := V9; have CN : Hid (Below w1.heap.size w1 w2) := B9; clear V9 B9 s9 t1; have t2 : (0 : Nat) = 0 := rfl)
          | (have q := t0; go_at_call 17; refine (SE.out _ BB.out).mono ?_; rintro e9 w1 ⟨u1, rfl, y1, Bx⟩; have YT : Hid (Byt w1 u1 TG) := y1; clear y1; have BB : Hid (Below w.heap.size w w1) := BB.out.trans (Bx.mono BB.out.size); clear Bx t0; have t1 : (0 : Nat) = 0 := rfl))
        go_ret
        exact ⟨rfl, BB.out⟩
      · go_enter Tryd.func5, Tryd.ntmps5
        go_wp2_with (first
          | (have qa := ta; go_at_call 11; refine (awake_any _ (hT.below BB.out)).mono ?_; rintro e9 w9 ⟨rfl, B9⟩; have BB : Hid (Below w.heap.size w w9) := BB.out.trans (B9.mono BB.out.size); clear B9 ta)
          | (have q := t9; go_at_call 12; refine (same_yes _ _ _ TG YT.out Y9.out).mono ?_; rintro e9 w9 ⟨rfl, Bx⟩;  have BB : Hid (Below w.heap.size w w9) := BB.out.trans (Bx.mono BB.out.size); clear Bx t9; have ta : (0 : Nat) = 0 := rfl)
          | (have q := t8; refine cut_partG _ (by rfl) (.tmp 73) (.const (.int .i64 48)) (.const (.int .i64 80)) rfl _ xs _ _ 48 80 rfl rfl rfl rfl rfl (by omega) (by have := HL.out; omega) (HV.out.below BB.out) ?_; intro v9 y9; rw [show (xs.take 80).drop 48 = TG from HS.out] at y9; have Y9 : Hid (Byt w8 v9 TG) := y9; clear y9 t8; have t9 : (0 : Nat) = 0 := rfl)
          | (have q := t7; refine store_lawC _ (hv k n c l e t) w6.heap.size 0 rfl rfl HW.out.2 rowy_head.2 (hv_one _ _ _ _ _ _) ?_; intro w8 E9 R9 T9 B9; have HW : Hid (Vr w8 w6.heap.size (hv k n c l e t)) := ⟨R9, T9⟩; have Bac : Below w6.heap.size w6 w8 := CN.out.trans B9; have HX : Hid (Vr w8 w1.heap.size (hv k n c l e t)) := HX.out.below Bac (range_lt HX.out.1 (by simp [hv])); clear d0 d1 d2 d3 d4 d5; have d0 := HX.out.cell 0 _ rfl; have d1 := HX.out.cell 1 _ rfl; have d2 := HX.out.cell 2 _ rfl; have d3 := HX.out.cell 3 _ rfl; have d4 := HX.out.cell 4 _ rfl; have d5 := HX.out.cell 5 _ rfl; have f0 := HW.out.cell 0 _ rfl; have f1 := HW.out.cell 1 _ rfl; have f2 := HW.out.cell 2 _ rfl; have f3 := HW.out.cell 3 _ rfl; have f4 := HW.out.cell 4 _ rfl; have f5 := HW.out.cell 5 _ rfl; have YT : Hid (Byt w8 u1 TG) := YT.out.below Bac; have BB : Hid (Below w.heap.size w w8) := BB.out.trans (Bac.mono BB.out.size); clear E9 R9 T9 B9 Bac t7; have t8 : (0 : Nat) = 0 := rfl)
          | (have q := t6; refine new_lawC _ (hv 0 0 0 0 0 0) zero_head ?_; intro w7 V9 B9 s9; have HW : Hid (Vr w7 w6.heap.size (hv 0 0 0 0 0 0)) := V9; have CN : Hid (Below w6.heap.size w6 w7) := B9; clear V9 B9 s9 t6; have t7 : (0 : Nat) = 0 := rfl)
          | (have q := t5; go_at_call 19; refine (SR.out _ BB.out).mono ?_; rintro e9 w6 ⟨rfl, Bx⟩; have HX : Hid (Vr w6 w1.heap.size (hv k n c l e t)) := HX.out.below Bx (range_lt HX.out.1 (by simp [hv])); clear d0 d1 d2 d3 d4 d5; have d0 := HX.out.cell 0 _ rfl; have d1 := HX.out.cell 1 _ rfl; have d2 := HX.out.cell 2 _ rfl; have d3 := HX.out.cell 3 _ rfl; have d4 := HX.out.cell 4 _ rfl; have d5 := HX.out.cell 5 _ rfl; have YT : Hid (Byt w6 u1 TG) := YT.out.below Bx; have BB : Hid (Below w.heap.size w w6) := BB.out.trans (Bx.mono BB.out.size); clear Bx t5; have t6 : (0 : Nat) = 0 := rfl)
          | (have q := t4; go_at_call 18; refine (SD.out _ BB.out).mono ?_; rintro e9 w5 ⟨rfl, Bx⟩; have HX : Hid (Vr w5 w1.heap.size (hv k n c l e t)) := HX.out.below Bx (range_lt HX.out.1 (by simp [hv])); clear d0 d1 d2 d3 d4 d5; have d0 := HX.out.cell 0 _ rfl; have d1 := HX.out.cell 1 _ rfl; have d2 := HX.out.cell 2 _ rfl; have d3 := HX.out.cell 3 _ rfl; have d4 := HX.out.cell 4 _ rfl; have d5 := HX.out.cell 5 _ rfl; have YT : Hid (Byt w5 u1 TG) := YT.out.below Bx; have BB : Hid (Below w.heap.size w w5) := BB.out.trans (Bx.mono BB.out.size); clear Bx t4; have t5 : (0 : Nat) = 0 := rfl)
          | (have q := t3b; go_at_call 16; refine (SC.out _ BB.out).mono ?_; rintro e9 w4 ⟨rfl, Bx⟩; have HX : Hid (Vr w4 w1.heap.size (hv k n c l e t)) := HX.out.below Bx (range_lt HX.out.1 (by simp [hv])); clear d0 d1 d2 d3 d4 d5; have d0 := HX.out.cell 0 _ rfl; have d1 := HX.out.cell 1 _ rfl; have d2 := HX.out.cell 2 _ rfl; have d3 := HX.out.cell 3 _ rfl; have d4 := HX.out.cell 4 _ rfl; have d5 := HX.out.cell 5 _ rfl; have YT : Hid (Byt w4 u1 TG) := YT.out.below Bx; have BB : Hid (Below w.heap.size w w4) := BB.out.trans (Bx.mono BB.out.size); clear Bx t3b; have t4 : (0 : Nat) = 0 := rfl)
          | (have q := t3; refine len_law _ rfl (.tmp 14) rfl _ xs 88 rfl (HV.out.below BB.out) (by rw [HL.out]; rfl) ?_; clear t3; have t3b : (0 : Nat) = 0 := rfl)
          | (have q := t2; refine store_lawC _ (hv k n c l e t) w1.heap.size 0 rfl rfl HX.out.2 rowy_head.2 (hv_one _ _ _ _ _ _) ?_; intro w3 E9 R9 T9 B9; have HX : Hid (Vr w3 w1.heap.size (hv k n c l e t)) := ⟨R9, T9⟩; have Bac : Below w1.heap.size w1 w3 := CN.out.trans B9; have d0 := HX.out.cell 0 _ rfl; have d1 := HX.out.cell 1 _ rfl; have d2 := HX.out.cell 2 _ rfl; have d3 := HX.out.cell 3 _ rfl; have d4 := HX.out.cell 4 _ rfl; have d5 := HX.out.cell 5 _ rfl; have YT : Hid (Byt w3 u1 TG) := YT.out.below Bac; have BB : Hid (Below w.heap.size w w3) := BB.out.trans (Bac.mono BB.out.size); clear E9 R9 T9 B9 Bac t2; have t3 : (0 : Nat) = 0 := rfl)
          | (have q := t1; refine new_lawC _ (hv 0 0 0 0 0 0) zero_head ?_; intro w2 V9 B9 s9; have HX : Hid (Vr w2 w1.heap.size (hv 0 0 0 0 0 0)) := V9; have CN : Hid (Below w1.heap.size w1 w2) := B9; clear V9 B9 s9 t1; have t2 : (0 : Nat) = 0 := rfl)
          | (have q := t0; go_at_call 17; refine (SE.out _ BB.out).mono ?_; rintro e9 w1 ⟨u1, rfl, y1, Bx⟩; have YT : Hid (Byt w1 u1 TG) := y1; clear y1; have BB : Hid (Below w.heap.size w w1) := BB.out.trans (Bx.mono BB.out.size); clear Bx t0; have t1 : (0 : Nat) = 0 := rfl))
        go_ret
        exact ⟨rfl, BB.out⟩
    · have SC : Hid (∀ w', Below w.heap.size w w' → Calls Tryd.prog 16 #[v] w' fun x w'' => x = .returned (.bool (decide (xs.drop 80 = List.replicate 8 0))) ∧ Below w'.heap.size w' w'') := fun w' q => comm_yes v xs w' (hv'.below q) hl
      have SD : Hid (∀ w', Below w.heap.size w w' → Calls Tryd.prog 18 #[v] w' fun x w'' => x = .returned (.bool (decide (xs.drop 80 = List.replicate 8 0))) ∧ Below w'.heap.size w' w'') := fun w' q => rcomm_any v xs w' (hv'.below q) hl
      generalize decide (xs.drop 80 = List.replicate 8 0) = bc at *
      have SE : Hid (∀ w', Below w.heap.size w w' → Calls Tryd.prog 17 #[v] w' fun x w'' => x = .returned (.tuple #[.agg (hv 0 0 0 0 0 0).toArray, .slice none 0 0, .int .i64 1]) ∧ Below w'.heap.size w' w'') := fun w' q => read_no v xs w' (hv'.below q) hl (hT.below q) ht
      have SR : Hid (∀ w', Below w.heap.size w w' → Calls Tryd.prog 19 #[v] w' fun x w'' => x = .returned (.tuple #[.agg (hv 0 0 0 0 0 0).toArray, .bool false]) ∧ Below w'.heap.size w' w'') := fun w' q => rread_no v xs w' (hv'.below q) hl ht
      obtain ⟨ao, cap, hz⟩ := byt_form hv' hl
      subst hz
      clear hv' hl ht
      cases bc
      · go_enter Tryd.func5, Tryd.ntmps5
        go_wp2_with (first
          | (have qa := ta; go_at_call 11; refine (awake_any _ (hT.below BB.out)).mono ?_; rintro e9 w9 ⟨rfl, B9⟩; have BB : Hid (Below w.heap.size w w9) := BB.out.trans (B9.mono BB.out.size); clear B9 ta)
          | (have q := t7; refine store_lawC _ (hv 0 0 0 0 0 0) w6.heap.size 0 rfl rfl HW.out.2 rowy_head.2 (hv_one _ _ _ _ _ _) ?_; intro w8 E9 R9 T9 B9; have HW : Hid (Vr w8 w6.heap.size (hv 0 0 0 0 0 0)) := ⟨R9, T9⟩; have Bac : Below w6.heap.size w6 w8 := CN.out.trans B9; have HX : Hid (Vr w8 w1.heap.size (hv 0 0 0 0 0 0)) := HX.out.below Bac (range_lt HX.out.1 (by simp [hv])); clear d0 d1 d2 d3 d4 d5; have d0 := HX.out.cell 0 _ rfl; have d1 := HX.out.cell 1 _ rfl; have d2 := HX.out.cell 2 _ rfl; have d3 := HX.out.cell 3 _ rfl; have d4 := HX.out.cell 4 _ rfl; have d5 := HX.out.cell 5 _ rfl; have BB : Hid (Below w.heap.size w w8) := BB.out.trans (Bac.mono BB.out.size); clear E9 R9 T9 B9 Bac t7; have ta : (0 : Nat) = 0 := rfl)
          | (have q := t6; refine new_lawC _ (hv 0 0 0 0 0 0) zero_head ?_; intro w7 V9 B9 s9; have HW : Hid (Vr w7 w6.heap.size (hv 0 0 0 0 0 0)) := V9; have CN : Hid (Below w6.heap.size w6 w7) := B9; clear V9 B9 s9 t6; have t7 : (0 : Nat) = 0 := rfl)
          | (have q := t5; go_at_call 19; refine (SR.out _ BB.out).mono ?_; rintro e9 w6 ⟨rfl, Bx⟩; have HX : Hid (Vr w6 w1.heap.size (hv 0 0 0 0 0 0)) := HX.out.below Bx (range_lt HX.out.1 (by simp [hv])); clear d0 d1 d2 d3 d4 d5; have d0 := HX.out.cell 0 _ rfl; have d1 := HX.out.cell 1 _ rfl; have d2 := HX.out.cell 2 _ rfl; have d3 := HX.out.cell 3 _ rfl; have d4 := HX.out.cell 4 _ rfl; have d5 := HX.out.cell 5 _ rfl; have BB : Hid (Below w.heap.size w w6) := BB.out.trans (Bx.mono BB.out.size); clear Bx t5; have t6 : (0 : Nat) = 0 := rfl)
          | (have q := t4; go_at_call 18; refine (SD.out _ BB.out).mono ?_; rintro e9 w5 ⟨rfl, Bx⟩; have HX : Hid (Vr w5 w1.heap.size (hv 0 0 0 0 0 0)) := HX.out.below Bx (range_lt HX.out.1 (by simp [hv])); clear d0 d1 d2 d3 d4 d5; have d0 := HX.out.cell 0 _ rfl; have d1 := HX.out.cell 1 _ rfl; have d2 := HX.out.cell 2 _ rfl; have d3 := HX.out.cell 3 _ rfl; have d4 := HX.out.cell 4 _ rfl; have d5 := HX.out.cell 5 _ rfl; have BB : Hid (Below w.heap.size w w5) := BB.out.trans (Bx.mono BB.out.size); clear Bx t4; have t5 : (0 : Nat) = 0 := rfl)
          | (have q := t3; go_at_call 16; refine (SC.out _ BB.out).mono ?_; rintro e9 w4 ⟨rfl, Bx⟩; have HX : Hid (Vr w4 w1.heap.size (hv 0 0 0 0 0 0)) := HX.out.below Bx (range_lt HX.out.1 (by simp [hv])); clear d0 d1 d2 d3 d4 d5; have d0 := HX.out.cell 0 _ rfl; have d1 := HX.out.cell 1 _ rfl; have d2 := HX.out.cell 2 _ rfl; have d3 := HX.out.cell 3 _ rfl; have d4 := HX.out.cell 4 _ rfl; have d5 := HX.out.cell 5 _ rfl; have BB : Hid (Below w.heap.size w w4) := BB.out.trans (Bx.mono BB.out.size); clear Bx t3; have t4 : (0 : Nat) = 0 := rfl)
          | (have q := t2; refine store_lawC _ (hv 0 0 0 0 0 0) w1.heap.size 0 rfl rfl HX.out.2 rowy_head.2 (hv_one _ _ _ _ _ _) ?_; intro w3 E9 R9 T9 B9; have HX : Hid (Vr w3 w1.heap.size (hv 0 0 0 0 0 0)) := ⟨R9, T9⟩; have Bac : Below w1.heap.size w1 w3 := CN.out.trans B9; have d0 := HX.out.cell 0 _ rfl; have d1 := HX.out.cell 1 _ rfl; have d2 := HX.out.cell 2 _ rfl; have d3 := HX.out.cell 3 _ rfl; have d4 := HX.out.cell 4 _ rfl; have d5 := HX.out.cell 5 _ rfl;  have BB : Hid (Below w.heap.size w w3) := BB.out.trans (Bac.mono BB.out.size); clear E9 R9 T9 B9 Bac t2; have t3 : (0 : Nat) = 0 := rfl)
          | (have q := t1; refine new_lawC _ (hv 0 0 0 0 0 0) zero_head ?_; intro w2 V9 B9 s9; have HX : Hid (Vr w2 w1.heap.size (hv 0 0 0 0 0 0)) := V9; have CN : Hid (Below w1.heap.size w1 w2) := B9; clear V9 B9 s9 t1; have t2 : (0 : Nat) = 0 := rfl)
          | (have q := t0; go_at_call 17; refine (SE.out _ BB.out).mono ?_; rintro e9 w1 ⟨rfl, Bx⟩;  have BB : Hid (Below w.heap.size w w1) := BB.out.trans (Bx.mono BB.out.size); clear Bx t0; have t1 : (0 : Nat) = 0 := rfl))
        go_ret
        exact ⟨rfl, BB.out⟩
      · go_enter Tryd.func5, Tryd.ntmps5
        go_wp2_with (first
          | (have qa := ta; go_at_call 11; refine (awake_any _ (hT.below BB.out)).mono ?_; rintro e9 w9 ⟨rfl, B9⟩; have BB : Hid (Below w.heap.size w w9) := BB.out.trans (B9.mono BB.out.size); clear B9 ta)
          | (have q := t7; refine store_lawC _ (hv 0 0 0 0 0 0) w6.heap.size 0 rfl rfl HW.out.2 rowy_head.2 (hv_one _ _ _ _ _ _) ?_; intro w8 E9 R9 T9 B9; have HW : Hid (Vr w8 w6.heap.size (hv 0 0 0 0 0 0)) := ⟨R9, T9⟩; have Bac : Below w6.heap.size w6 w8 := CN.out.trans B9; have HX : Hid (Vr w8 w1.heap.size (hv 0 0 0 0 0 0)) := HX.out.below Bac (range_lt HX.out.1 (by simp [hv])); clear d0 d1 d2 d3 d4 d5; have d0 := HX.out.cell 0 _ rfl; have d1 := HX.out.cell 1 _ rfl; have d2 := HX.out.cell 2 _ rfl; have d3 := HX.out.cell 3 _ rfl; have d4 := HX.out.cell 4 _ rfl; have d5 := HX.out.cell 5 _ rfl; have BB : Hid (Below w.heap.size w w8) := BB.out.trans (Bac.mono BB.out.size); clear E9 R9 T9 B9 Bac t7; have ta : (0 : Nat) = 0 := rfl)
          | (have q := t6; refine new_lawC _ (hv 0 0 0 0 0 0) zero_head ?_; intro w7 V9 B9 s9; have HW : Hid (Vr w7 w6.heap.size (hv 0 0 0 0 0 0)) := V9; have CN : Hid (Below w6.heap.size w6 w7) := B9; clear V9 B9 s9 t6; have t7 : (0 : Nat) = 0 := rfl)
          | (have q := t5; go_at_call 19; refine (SR.out _ BB.out).mono ?_; rintro e9 w6 ⟨rfl, Bx⟩; have HX : Hid (Vr w6 w1.heap.size (hv 0 0 0 0 0 0)) := HX.out.below Bx (range_lt HX.out.1 (by simp [hv])); clear d0 d1 d2 d3 d4 d5; have d0 := HX.out.cell 0 _ rfl; have d1 := HX.out.cell 1 _ rfl; have d2 := HX.out.cell 2 _ rfl; have d3 := HX.out.cell 3 _ rfl; have d4 := HX.out.cell 4 _ rfl; have d5 := HX.out.cell 5 _ rfl; have BB : Hid (Below w.heap.size w w6) := BB.out.trans (Bx.mono BB.out.size); clear Bx t5; have t6 : (0 : Nat) = 0 := rfl)
          | (have q := t4; go_at_call 18; refine (SD.out _ BB.out).mono ?_; rintro e9 w5 ⟨rfl, Bx⟩; have HX : Hid (Vr w5 w1.heap.size (hv 0 0 0 0 0 0)) := HX.out.below Bx (range_lt HX.out.1 (by simp [hv])); clear d0 d1 d2 d3 d4 d5; have d0 := HX.out.cell 0 _ rfl; have d1 := HX.out.cell 1 _ rfl; have d2 := HX.out.cell 2 _ rfl; have d3 := HX.out.cell 3 _ rfl; have d4 := HX.out.cell 4 _ rfl; have d5 := HX.out.cell 5 _ rfl; have BB : Hid (Below w.heap.size w w5) := BB.out.trans (Bx.mono BB.out.size); clear Bx t4; have t5 : (0 : Nat) = 0 := rfl)
          | (have q := t3; go_at_call 16; refine (SC.out _ BB.out).mono ?_; rintro e9 w4 ⟨rfl, Bx⟩; have HX : Hid (Vr w4 w1.heap.size (hv 0 0 0 0 0 0)) := HX.out.below Bx (range_lt HX.out.1 (by simp [hv])); clear d0 d1 d2 d3 d4 d5; have d0 := HX.out.cell 0 _ rfl; have d1 := HX.out.cell 1 _ rfl; have d2 := HX.out.cell 2 _ rfl; have d3 := HX.out.cell 3 _ rfl; have d4 := HX.out.cell 4 _ rfl; have d5 := HX.out.cell 5 _ rfl; have BB : Hid (Below w.heap.size w w4) := BB.out.trans (Bx.mono BB.out.size); clear Bx t3; have t4 : (0 : Nat) = 0 := rfl)
          | (have q := t2; refine store_lawC _ (hv 0 0 0 0 0 0) w1.heap.size 0 rfl rfl HX.out.2 rowy_head.2 (hv_one _ _ _ _ _ _) ?_; intro w3 E9 R9 T9 B9; have HX : Hid (Vr w3 w1.heap.size (hv 0 0 0 0 0 0)) := ⟨R9, T9⟩; have Bac : Below w1.heap.size w1 w3 := CN.out.trans B9; have d0 := HX.out.cell 0 _ rfl; have d1 := HX.out.cell 1 _ rfl; have d2 := HX.out.cell 2 _ rfl; have d3 := HX.out.cell 3 _ rfl; have d4 := HX.out.cell 4 _ rfl; have d5 := HX.out.cell 5 _ rfl;  have BB : Hid (Below w.heap.size w w3) := BB.out.trans (Bac.mono BB.out.size); clear E9 R9 T9 B9 Bac t2; have t3 : (0 : Nat) = 0 := rfl)
          | (have q := t1; refine new_lawC _ (hv 0 0 0 0 0 0) zero_head ?_; intro w2 V9 B9 s9; have HX : Hid (Vr w2 w1.heap.size (hv 0 0 0 0 0 0)) := V9; have CN : Hid (Below w1.heap.size w1 w2) := B9; clear V9 B9 s9 t1; have t2 : (0 : Nat) = 0 := rfl)
          | (have q := t0; go_at_call 17; refine (SE.out _ BB.out).mono ?_; rintro e9 w1 ⟨rfl, Bx⟩;  have BB : Hid (Below w.heap.size w w1) := BB.out.trans (Bx.mono BB.out.size); clear Bx t0; have t1 : (0 : Nat) = 0 := rfl))
        go_ret
        exact ⟨rfl, BB.out⟩
  · have SE : Hid (∀ w', Below w.heap.size w w' → Calls Tryd.prog 17 #[v] w' fun x w'' => x = .returned (.tuple #[.agg (hv 0 0 0 0 0 0).toArray, .slice none 0 0, .int .i64 2]) ∧ Below w'.heap.size w' w'') := fun w' q => read_len v xs w' (hv'.below q) hl
    have SC : Hid (∀ w', Below w.heap.size w w' → Calls Tryd.prog 16 #[v] w' fun x w'' => x = .returned (.bool false) ∧ Below w'.heap.size w' w'') := fun w' q => comm_no v xs w' (hv'.below q) hl
    obtain ⟨ao, cap, rfl, h1, h2, -⟩ := hv'
    have e88 : ((xs.length : Int) == 88) = false := by rw [beq_eq_false_iff_ne]; omega
    have f88 : ((xs.length : Int) != 88) = true := bne_iff_ne.2 (by omega)
    generalize xs.length = m at *
    clear h1 h2 hl
    go_enter Tryd.func5, Tryd.ntmps5
    go_wp2_with (first
      | (have qa := ta; go_at_call 11; refine (awake_any _ (hT.below BB.out)).mono ?_; rintro e9 w9 ⟨rfl, B9⟩; have BB : Hid (Below w.heap.size w w9) := BB.out.trans (B9.mono BB.out.size); clear B9 ta)
      | (have q := t3; go_at_call 16; refine (SC.out _ BB.out).mono ?_; rintro e9 w4 ⟨rfl, Bx⟩; have HX : Hid (Vr w4 w1.heap.size (hv 0 0 0 0 0 0)) := HX.out.below Bx (range_lt HX.out.1 (by simp [hv])); clear d0 d1 d2 d3 d4 d5; have d0 := HX.out.cell 0 _ rfl; have d1 := HX.out.cell 1 _ rfl; have d2 := HX.out.cell 2 _ rfl; have d3 := HX.out.cell 3 _ rfl; have d4 := HX.out.cell 4 _ rfl; have d5 := HX.out.cell 5 _ rfl; have BB : Hid (Below w.heap.size w w4) := BB.out.trans (Bx.mono BB.out.size); clear Bx t3; have ta : (0 : Nat) = 0 := rfl)
      | (have q := t2; refine store_lawC _ (hv 0 0 0 0 0 0) w1.heap.size 0 rfl rfl HX.out.2 rowy_head.2 (hv_one _ _ _ _ _ _) ?_; intro w3 E9 R9 T9 B9; have HX : Hid (Vr w3 w1.heap.size (hv 0 0 0 0 0 0)) := ⟨R9, T9⟩; have Bac : Below w1.heap.size w1 w3 := CN.out.trans B9; have d0 := HX.out.cell 0 _ rfl; have d1 := HX.out.cell 1 _ rfl; have d2 := HX.out.cell 2 _ rfl; have d3 := HX.out.cell 3 _ rfl; have d4 := HX.out.cell 4 _ rfl; have d5 := HX.out.cell 5 _ rfl;  have BB : Hid (Below w.heap.size w w3) := BB.out.trans (Bac.mono BB.out.size); clear E9 R9 T9 B9 Bac t2; have t3 : (0 : Nat) = 0 := rfl)
      | (have q := t1; refine new_lawC _ (hv 0 0 0 0 0 0) zero_head ?_; intro w2 V9 B9 s9; have HX : Hid (Vr w2 w1.heap.size (hv 0 0 0 0 0 0)) := V9; have CN : Hid (Below w1.heap.size w1 w2) := B9; clear V9 B9 s9 t1; have t2 : (0 : Nat) = 0 := rfl)
      | (have q := t0; go_at_call 17; refine (SE.out _ BB.out).mono ?_; rintro e9 w1 ⟨rfl, Bx⟩;  have BB : Hid (Below w.heap.size w w1) := BB.out.trans (Bx.mono BB.out.size); clear Bx t0; have t1 : (0 : Nat) = 0 := rfl))
    go_ret
    exact ⟨rfl, BB.out⟩

theorem params : ∀ t ∈ Tryd.f5.params.toList, Tryd.prog.readableRec t = true ∧ t < Tryd.prog.types.size := by
  rw [Tryd.params5]
  intro t ht
  simp at ht
  subst ht
  exact ⟨by kernel_rfl, of_decide_eq_true (by kernel_rfl)⟩

theorem contract (H : Type) (enc : TypeId × Value → H) (W : World) (base : Nat) (args : Array Value) (ds gs : List (DataW H)) (before : List MemPlace)
    (hval : ∀ (j : Nat) t v, Tryd.f5.params[j]? = some t → args[j]? = some v → Value.okWide Tryd.prog W .any base t v)
    (hW : DataW.Whole enc Tryd.prog Tryd.f5.params.toList Rows.headReadsSpec.vars false W args.toList ds gs before) (hL : laidMetH Tryd.prog Rows.headReadsRow.laid W) :
    Calls Tryd.prog 5 args W fun e W' => ∃ v, e = .returned v ∧ Rows.headReadsSpec.post enc Tryd.prog Tryd.f5 false true false false W args v W' := by
  have hW' := hW
  obtain ⟨p, q, hA0, hV, rfl, hfz, hnd⟩ := hW
  have hA : DataW.TrodAll enc Tryd.prog W 0 (fun _ => true) true Tryd.f5.params.toList args.toList ds p := hA0
  rw [Tryd.params5] at hA hval
  obtain ⟨v0, d0, rfl, rfl, h0⟩ := trodAll_one hA
  obtain ⟨rfl, rfl⟩ := trodVars_none hV
  obtain ⟨xs0, b0⟩ := byt_open (hval 0 26 v0 rfl rfl) h0
  clear hA0
  refine (walk v0 xs0 W b0 (table hL)).mono fun e W' ⟨he, hg⟩ => ?_
  subst he
  exact ⟨_, rfl, post_law rfl (by kernel_rfl) params rfl rfl rfl hW' hg⟩

theorem laid_met (os : Os) : laidMet Tryd.prog Rows.headReadsRow.laid (({ World.holding Tryd.prog os ⟨#[], #[], []⟩ with heap := (World.holding Tryd.prog os ⟨#[], #[], []⟩).heap.modify 0 fun | .cells _ t frozen => .cells #[.int .i64 1, .int .i64 1, .int .i64 1, .int .i64 1, .int .i64 4, .int .i64 8, .int .i64 8] t frozen | o => o } : World).forCall (fun _ _ => 0) ⟨#[], #[.slice none 0 0], []⟩).memory :=
  laidMet_of_run' 8 (by kernel_rfl) (by kernel_rfl)
theorem reads (os : Os) {H : Type} (enc : TypeId × Value → H) : ∃ places, DataW.whole enc Tryd.prog (({ World.holding Tryd.prog os ⟨#[], #[], []⟩ with heap := (World.holding Tryd.prog os ⟨#[], #[], []⟩).heap.modify 0 fun | .cells _ t frozen => .cells #[.int .i64 1, .int .i64 1, .int .i64 1, .int .i64 1, .int .i64 4, .int .i64 8, .int .i64 8] t frozen | o => o } : World).forCall (fun _ _ => 0) ⟨#[], #[.slice none 0 0], []⟩).memory Tryd.f5.params.toList Rows.headReadsSpec.vars false #[Value.slice none 0 0].toList 8 = some ([.nil], [], places) :=
  ⟨[], by kernel_rfl⟩

set_option maxRecDepth 100000 in
theorem lifted (os : Os) (started : os.Started) (H : Type) (enc : TypeId × Value → H) (F : Stop.Interp) :
    ReturnsInHanded {} Tryd.checked os 5 .any ((OpenSpec.ofChange Rows.headReadsSpec).preRow enc Tryd.prog Tryd.f5 Rows.headReadsRow.domain false Rows.headReadsRow.laid) (((OpenSpec.ofChange Rows.headReadsSpec).at F).post enc Tryd.prog Tryd.f5 false true false false) := by
  obtain ⟨places, hx⟩ := reads os enc
  refine returnsInHanded_of_row (C := Tryd.checked) (s := OpenSpec.ofChange Rows.headReadsSpec) own started (by kernel_rfl) Tryd.func5
    (witness_row_at (enc := enc) (C := Tryd.checked) false ({ World.holding Tryd.prog os ⟨#[], #[], []⟩ with heap := (World.holding Tryd.prog os ⟨#[], #[], []⟩).heap.modify 0 fun | .cells _ t frozen => .cells #[.int .i64 1, .int .i64 1, .int .i64 1, .int .i64 1, .int .i64 4, .int .i64 8, .int .i64 8] t frozen | o => o } : World) #[.slice none 0 0] rfl (by kernel_rfl) (by kernel_rfl) (by kernel_rfl)
      (OpenSpec.preRow_of_cond 8 hx (by kernel_rfl) (fun k hk => by cases hk) (by kernel_rfl) (laid_met os))) ?_
  intro W base args ds gs before hval hW _ _ _ hL _ _
  exact contract H enc W base args ds gs before hval hW hL

theorem said : Rows.HeadReadsSaid :=
  OpenClaim.holds_of_cond 5 Tryd.f5 rfl rfl rfl rfl rfl rfl rfl ⟨rfl, rfl, rfl, rfl, rfl⟩ rfl rfl rfl rfl rfl (by kernel_rfl) Tryd.func5 (by kernel_rfl)
    (of_decide_eq_true (by kernel_rfl)) (by unfold Func.isWrapper; first | (rw [if_pos (by decide +kernel)]; kernel_rfl) | (rw [if_neg (by decide +kernel)]; exact ⟨rfl, rfl⟩))
    (fun os started H enc _ F => by rw [OpenClaim.pre_eq_preRow]; exact lifted os started H enc F)

theorem plain (f : FuncId) (fn : Func) (hf : Tryd.pinned.checked.prog.funcNamed "nepenthe/nepenthelaw14.HeadReads" = some f) (hfn : Tryd.pinned.checked.prog.funcs[f]? = some fn) :
    false = Tryd.pinned.checked.prog.looks [] ∧ ∀ (j : Nat) t, fn.params[j]? = some t → Tryd.pinned.checked.prog.wantsStandIn t = false := by
  obtain rfl : f = 5 := Option.some.inj ((show Tryd.prog.funcNamed "nepenthe/nepenthelaw14.HeadReads" = some 5 by kernel_rfl).symm.trans hf) |>.symm
  obtain rfl : fn = Tryd.f5 := (Option.some.inj (Tryd.func5.symm.trans hfn)).symm
  refine ⟨by kernel_rfl, fun j t ht => ?_⟩
  rw [Tryd.params5] at ht
  have hm := Array.mem_of_getElem? ht
  simp at hm
  subst hm
  exact (show Tryd.prog.wantsStandIn 26 = false by kernel_rfl)
end Go.Proofs.YtjlnalfbaojedaaDoor.headReads

namespace Go.Proofs.YtjlnalfbaojedaaDoor
theorem headReads_card : Rows.HeadReadsCardSaid :=
  Claim7.holds_tied_plain_at .later [] _ _ _ _ headReads.said (fun _ h => by cases h) (by kernel_rfl) (fun _ h => by cases h) headReads_row_tie rfl ⟨rfl, rfl⟩ (by kernel_rfl) rfl headReads.plain (by kernel_rfl)
#print axioms headReads_card
end Go.Proofs.YtjlnalfbaojedaaDoor

