/- P14.1, P14.3: for every head h and all bytes tag: head.End(h, tag) is ErrShape and no bytes, if the head may not be, or the tag has neither no nor 32 bytes; else the end of 88 bytes as the reference makes it, which is not committed, and which head.Read reads as it was: the same head, and the tag's 32 bytes. -/
import Derived.Test.YtjlnalfbaojedaaDoorCards
import Derived.Test.YtjlnalfbaojedaaDoorTie
import Derived.Test.YtjlnalfbaojedaaDoorHEqx
import Derived.Test.YtjlnalfbaojedaaDoorHRef
namespace Go.Proofs.YtjlnalfbaojedaaDoor.headEnds
open Go.ChangeShapes Go.WideShapes Go.ChangeAt Go.RowKit Go.Proofs.YtjlnalfbaojedaaDoor.he
set_option maxRecDepth 20000

set_option maxHeartbeats 8000000 in
theorem walk (k n c l e t : Int) (v : Value) (tag : List Int) (w : World) (hf : Hb l e t) (hv' : Byt w v tag) (hT : Tab w) :
    Calls Tryd.prog 4 #[.agg (hv k n c l e t).toArray, v] w fun x w' => x = .returned (.bool true) ∧ Below w.heap.size w w' := by
  have t0 : (0 : Nat) = 0 := rfl
  have HT : Hid (∀ w', Below w.heap.size w w' → Tab w') := fun w' q => hT.below q
  by_cases hr : Rh k n c
  · by_cases hn : tag.length = 0 ∨ tag.length = 32
    · have M8l : (List.replicate 8 (255 : Int)).length = 8 := by simp
      have TGl := tgo_len hn
      have HL : Hid ((tgo tag).length = 32 ∧ (hend (hb k n c l e t) (tgo tag) (List.replicate 8 255)).length = 88) := ⟨TGl, hend_len (hb_len _ _ _ _ _ _) TGl M8l⟩
      have HA : Hid (AllB (hend (hb k n c l e t) (tgo tag) (List.replicate 8 255))) := hend_all (hb_all hr l e t) (tgo_all hv'.all) (allB_replicate 255 8 (by omega))
      have SE : Hid (∀ w', Below w.heap.size w w' → Calls Tryd.prog 14 #[.agg (hv k n c l e t).toArray, v] w' fun x w'' => ∃ v, x = .returned (.tuple #[v, .int .i64 0]) ∧ Own w'.heap.size w'' v (hend (hb k n c l e t) (tgo tag) (List.replicate 8 255)) ∧ Below w'.heap.size w' w'') := fun w' q => end_yes k n c l e t v tag w' (hv'.below q) hf.1 hf.2.1 hf.2.2 (hT.below q) hr hn
      have SF : Hid (∀ w', Below w.heap.size w w' → Calls Tryd.prog 15 #[.agg (hv k n c l e t).toArray, v] w' fun x w'' => ∃ v, x = .returned v ∧ Byt w'' v (hend (hb k n c l e t) (tgo tag) (List.replicate 8 255)) ∧ Below w'.heap.size w' w'') := fun w' q => rend_any k n c l e t v tag w' (hv'.below q) hr hf.1 hf.2.1 hf.2.2 hn
      have SC : Hid (∀ w' u, Byt w' u (hend (hb k n c l e t) (tgo tag) (List.replicate 8 255)) → Calls Tryd.prog 16 #[u] w' fun x w'' => x = .returned (.bool false) ∧ Below w'.heap.size w' w'') := fun w' u h => comm_end TGl M8l false (by decide) w' u h
      have SD : Hid (∀ w' u, Below w.heap.size w w' → Byt w' u (hend (hb k n c l e t) (tgo tag) (List.replicate 8 255)) → Calls Tryd.prog 17 #[u] w' fun x w'' => ∃ v, x = .returned (.tuple #[.agg (hv k n c l e t).toArray, v, .int .i64 0]) ∧ Byt w'' v (tgo tag) ∧ Below w'.heap.size w' w'') := fun w' u q h => read_end hr hf TGl M8l w' u h (hT.below q)
      have HS : Hid (sub (hend (hb k n c l e t) (tgo tag) (List.replicate 8 255)) 48 80 = tgo tag) := (hend_sub (hb_len k n c l e t) TGl).2.2.1
      have HRb : Hid (∀ w, Calls Tryd.prog 10 #[.agg (hv k n c l e t).toArray] w fun x w' => x = .returned (.bool true) ∧ Below w.heap.size w w') := fun w => right_any k n c l e t w true (by
        have q : (1 ≤ k ∧ k ≤ 4 ∧ 0 ≤ n ∧ n ≤ 255 ∧ 0 ≤ c ∧ c ≤ 255) := hr
        exact (decide_eq_true q).symm)
      have hq : ∀ w : World, (binOp .eql 25 (.agg #[.int .i64 k, .int .i64 n, .int .i64 c, .int .u32 l, .int .u64 e, .int .u64 t]) (.agg #[.int .i64 k, .int .i64 n, .int .i64 c, .int .u32 l, .int .u64 e, .int .u64 t])).run Tryd.prog w = .ok (.bool true) w := eql_head k n c l e t
      generalize hend (hb k n c l e t) (tgo tag) (List.replicate 8 255) = EE at *
      generalize tgo tag = TG at *
      obtain ⟨ao, cap, rfl, h1, h2, -⟩ := hv'
      generalize tag.length = m at *
      clear hr hf M8l TGl h1 h2
      rcases hn with hn | hn
      · subst hn
        have HA' : Hid (AllB EE) := HA.out
        clear HA
        go_enter Tryd.func4, Tryd.ntmps4
        go_wp2_with (first
          | (have qa := ta; go_at_call 11; refine (awake_any _ (hT.below BB.out)).mono ?_; rintro e9 w9 ⟨rfl, B9⟩; have BB : Hid (Below w.heap.size w w9) := BB.out.trans (B9.mono BB.out.size); clear B9 ta)
          | (have q := t11; go_at_call 12; refine (same_yes _ _ _ TG Y8.out Y9.out).mono ?_; rintro e9 w10 ⟨rfl, Bx⟩; have BB : Hid (Below w.heap.size w w10) := BB.out.trans (Bx.mono BB.out.size); clear Bx t11; have ta : (0 : Nat) = 0 := rfl)
          | (have q := t10; refine cut_partG _ (by rfl) (.tmp 68) (.const (.int .i64 48)) (.const (.int .i64 80)) rfl _ EE _ _ 48 80 rfl rfl rfl rfl rfl (by omega) (by have := HL.out; omega) Y2.out ?_; intro v9 y9; rw [show (EE.take 80).drop 48 = TG from HS.out] at y9; have Y9 : Hid (Byt w9 v9 TG) := y9; clear y9 t10; have t11 : (0 : Nat) = 0 := rfl)
          | (have q := t9; refine store_lawC _ (hv k n c l e t) w7.heap.size 0 rfl rfl HX.out.2 rowy_head.2 (hv_one _ _ _ _ _ _) ?_; intro w9 E9 R9 T9 B9; have HX : Hid (Vr w9 w7.heap.size (hv k n c l e t)) := ⟨R9, T9⟩; have B79 : Below w7.heap.size w7 w9 := C8.out.trans B9; have BB : Hid (Below w.heap.size w w9) := BB.out.trans (B79.mono BB.out.size); have HA9 : Hid (Vr w9 w.heap.size (hv k n c l e t)) := HA.out.below B79 (range_lt HA.out.1 (by simp [hv])); clear c0 c1 c2 c3 c4 c5; have c0 := HA9.out.cell 0 _ rfl; have c1 := HA9.out.cell 1 _ rfl; have c2 := HA9.out.cell 2 _ rfl; have c3 := HA9.out.cell 3 _ rfl; have c4 := HA9.out.cell 4 _ rfl; have c5 := HA9.out.cell 5 _ rfl; have d0 := HX.out.cell 0 _ rfl; have d1 := HX.out.cell 1 _ rfl; have d2 := HX.out.cell 2 _ rfl; have d3 := HX.out.cell 3 _ rfl; have d4 := HX.out.cell 4 _ rfl; have d5 := HX.out.cell 5 _ rfl; have Y2 : Hid (Byt w9 v2 EE) := Y2.out.below B79; have Y8 : Hid (Byt w9 v7 TG) := YT.out.below B79; clear E9 R9 T9 B9 B79 t9; have t10 : (0 : Nat) = 0 := rfl)
          | (have q := t8; refine new_lawC _ (hv 0 0 0 0 0 0) zero_head ?_; intro w8 V8 B8 s8; have HX : Hid (Vr w8 w7.heap.size (hv 0 0 0 0 0 0)) := V8; have C8 : Hid (Below w7.heap.size w7 w8) := B8; clear V8 B8 t8; have t9 : (0 : Nat) = 0 := rfl)
          | (have q := t7; go_at_call 17; refine (SD.out _ _ BB.out Y2.out).mono ?_; rintro e9 w7 ⟨v7, rfl, y7, Bx⟩; have YT : Hid (Byt w7 v7 TG) := y7; have Y2 : Hid (Byt w7 v2 EE) := Y2.out.below Bx; have HA : Hid (Vr w7 w.heap.size (hv k n c l e t)) := HA.out.below Bx (range_lt HA.out.1 (by simp [hv])); have BB : Hid (Below w.heap.size w w7) := BB.out.trans (Bx.mono BB.out.size); clear c0 c1 c2 c3 c4 c5; have c0 := HA.out.cell 0 _ rfl; have c1 := HA.out.cell 1 _ rfl; have c2 := HA.out.cell 2 _ rfl; have c3 := HA.out.cell 3 _ rfl; have c4 := HA.out.cell 4 _ rfl; have c5 := HA.out.cell 5 _ rfl; clear Bx y7 t7; have t8 : (0 : Nat) = 0 := rfl)
          | (have q := t6; go_at_call 16; refine (SC.out _ _ Y2.out).mono ?_; rintro e9 w6 ⟨rfl, Bx⟩; have Y2 : Hid (Byt w6 v2 EE) := Y2.out.below Bx; have HA : Hid (Vr w6 w.heap.size (hv k n c l e t)) := HA.out.below Bx (range_lt HA.out.1 (by simp [hv])); have BB : Hid (Below w.heap.size w w6) := BB.out.trans (Bx.mono BB.out.size); clear c0 c1 c2 c3 c4 c5; have c0 := HA.out.cell 0 _ rfl; have c1 := HA.out.cell 1 _ rfl; have c2 := HA.out.cell 2 _ rfl; have c3 := HA.out.cell 3 _ rfl; have c4 := HA.out.cell 4 _ rfl; have c5 := HA.out.cell 5 _ rfl; clear Bx t6; have t7 : (0 : Nat) = 0 := rfl)
          | (have q := t5; go_at_call 12; refine (same_yes _ _ _ EE Y2.out Y4.out).mono ?_; rintro e9 w5 ⟨rfl, Bx⟩; have Y2 : Hid (Byt w5 v2 EE) := Y2.out.below Bx; have HA : Hid (Vr w5 w.heap.size (hv k n c l e t)) := HA.out.below Bx (range_lt HA.out.1 (by simp [hv])); have BB : Hid (Below w.heap.size w w5) := BB.out.trans (Bx.mono BB.out.size); clear c0 c1 c2 c3 c4 c5; have c0 := HA.out.cell 0 _ rfl; have c1 := HA.out.cell 1 _ rfl; have c2 := HA.out.cell 2 _ rfl; have c3 := HA.out.cell 3 _ rfl; have c4 := HA.out.cell 4 _ rfl; have c5 := HA.out.cell 5 _ rfl; clear Bx t5; have t6 : (0 : Nat) = 0 := rfl)
          | (have q := t3; go_at_call 15; refine (SF.out _ BB.out).mono ?_; rintro e9 w4 ⟨v4, rfl, y4, Bx⟩; have Y4 : Hid (Byt w4 v4 EE) := y4; have Y2 : Hid (Byt w4 v2 EE) := Y2.out.below Bx; have HA : Hid (Vr w4 w.heap.size (hv k n c l e t)) := HA.out.below Bx (range_lt HA.out.1 (by simp [hv])); have BB : Hid (Below w.heap.size w w4) := BB.out.trans (Bx.mono BB.out.size); clear c0 c1 c2 c3 c4 c5; have c0 := HA.out.cell 0 _ rfl; have c1 := HA.out.cell 1 _ rfl; have c2 := HA.out.cell 2 _ rfl; have c3 := HA.out.cell 3 _ rfl; have c4 := HA.out.cell 4 _ rfl; have c5 := HA.out.cell 5 _ rfl; clear Bx y4 t3; have t5 : (0 : Nat) = 0 := rfl)
          | (have q := t2; go_at_call 10; refine (HRb.out _).mono ?_; rintro e9 w3 ⟨rfl, Bx⟩; have Y2 : Hid (Byt w3 v2 EE) := Y2.out.below Bx; have HA : Hid (Vr w3 w.heap.size (hv k n c l e t)) := HA.out.below Bx (range_lt HA.out.1 (by simp [hv])); have BB : Hid (Below w.heap.size w w3) := BB.out.trans (Bx.mono BB.out.size); clear c0 c1 c2 c3 c4 c5; have c0 := HA.out.cell 0 _ rfl; have c1 := HA.out.cell 1 _ rfl; have c2 := HA.out.cell 2 _ rfl; have c3 := HA.out.cell 3 _ rfl; have c4 := HA.out.cell 4 _ rfl; have c5 := HA.out.cell 5 _ rfl; clear Bx t2; have t3 : (0 : Nat) = 0 := rfl)
          | (have q := t1; go_at_call 14; refine (SE.out _ BB.out).mono ?_; rintro e9 w2 ⟨v2, rfl, o2, Bx⟩; have Y2 : Hid (Byt w2 v2 EE) := o2.byt HA'.out; have HA : Hid (Vr w2 w.heap.size (hv k n c l e t)) := HA.out.below Bx (range_lt HA.out.1 (by simp [hv])); have BB : Hid (Below w.heap.size w w2) := BB.out.trans (Bx.mono BB.out.size); clear c0 c1 c2 c3 c4 c5; have c0 := HA.out.cell 0 _ rfl; have c1 := HA.out.cell 1 _ rfl; have c2 := HA.out.cell 2 _ rfl; have c3 := HA.out.cell 3 _ rfl; have c4 := HA.out.cell 4 _ rfl; have c5 := HA.out.cell 5 _ rfl; clear o2 Bx t1; have t2 : (0 : Nat) = 0 := rfl)
          | (have q0 := t0; refine box_lawC _ (hv k n c l e t) rfl ?_; intro w1 V1 B1 s1; have HA : Hid (Vr w1 w.heap.size (hv k n c l e t)) := V1; have c0 := HA.out.cell 0 _ rfl; have c1 := HA.out.cell 1 _ rfl; have c2 := HA.out.cell 2 _ rfl; have c3 := HA.out.cell 3 _ rfl; have c4 := HA.out.cell 4 _ rfl; have c5 := HA.out.cell 5 _ rfl; have BB : Hid (Below w.heap.size w w1) := B1; clear V1 B1 t0; have t1 : (0 : Nat) = 0 := rfl))
        go_ret
        exact ⟨rfl, BB.out⟩
      · subst hn
        have HA' : Hid (AllB EE) := HA.out
        clear HA
        go_enter Tryd.func4, Tryd.ntmps4
        go_wp2_with (first
          | (have qa := ta; go_at_call 11; refine (awake_any _ (hT.below BB.out)).mono ?_; rintro e9 w9 ⟨rfl, B9⟩; have BB : Hid (Below w.heap.size w w9) := BB.out.trans (B9.mono BB.out.size); clear B9 ta)
          | (have q := t11; go_at_call 12; refine (same_yes _ _ _ TG Y8.out Y9.out).mono ?_; rintro e9 w10 ⟨rfl, Bx⟩; have BB : Hid (Below w.heap.size w w10) := BB.out.trans (Bx.mono BB.out.size); clear Bx t11; have ta : (0 : Nat) = 0 := rfl)
          | (have q := t10; refine cut_partG _ (by rfl) (.tmp 68) (.const (.int .i64 48)) (.const (.int .i64 80)) rfl _ EE _ _ 48 80 rfl rfl rfl rfl rfl (by omega) (by have := HL.out; omega) Y2.out ?_; intro v9 y9; rw [show (EE.take 80).drop 48 = TG from HS.out] at y9; have Y9 : Hid (Byt w9 v9 TG) := y9; clear y9 t10; have t11 : (0 : Nat) = 0 := rfl)
          | (have q := t9; refine store_lawC _ (hv k n c l e t) w7.heap.size 0 rfl rfl HX.out.2 rowy_head.2 (hv_one _ _ _ _ _ _) ?_; intro w9 E9 R9 T9 B9; have HX : Hid (Vr w9 w7.heap.size (hv k n c l e t)) := ⟨R9, T9⟩; have B79 : Below w7.heap.size w7 w9 := C8.out.trans B9; have BB : Hid (Below w.heap.size w w9) := BB.out.trans (B79.mono BB.out.size); have HA9 : Hid (Vr w9 w.heap.size (hv k n c l e t)) := HA.out.below B79 (range_lt HA.out.1 (by simp [hv])); clear c0 c1 c2 c3 c4 c5; have c0 := HA9.out.cell 0 _ rfl; have c1 := HA9.out.cell 1 _ rfl; have c2 := HA9.out.cell 2 _ rfl; have c3 := HA9.out.cell 3 _ rfl; have c4 := HA9.out.cell 4 _ rfl; have c5 := HA9.out.cell 5 _ rfl; have d0 := HX.out.cell 0 _ rfl; have d1 := HX.out.cell 1 _ rfl; have d2 := HX.out.cell 2 _ rfl; have d3 := HX.out.cell 3 _ rfl; have d4 := HX.out.cell 4 _ rfl; have d5 := HX.out.cell 5 _ rfl; have Y2 : Hid (Byt w9 v2 EE) := Y2.out.below B79; have Y8 : Hid (Byt w9 v7 TG) := YT.out.below B79; clear E9 R9 T9 B9 B79 t9; have t10 : (0 : Nat) = 0 := rfl)
          | (have q := t8; refine new_lawC _ (hv 0 0 0 0 0 0) zero_head ?_; intro w8 V8 B8 s8; have HX : Hid (Vr w8 w7.heap.size (hv 0 0 0 0 0 0)) := V8; have C8 : Hid (Below w7.heap.size w7 w8) := B8; clear V8 B8 t8; have t9 : (0 : Nat) = 0 := rfl)
          | (have q := t7; go_at_call 17; refine (SD.out _ _ BB.out Y2.out).mono ?_; rintro e9 w7 ⟨v7, rfl, y7, Bx⟩; have YT : Hid (Byt w7 v7 TG) := y7; have Y2 : Hid (Byt w7 v2 EE) := Y2.out.below Bx; have HA : Hid (Vr w7 w.heap.size (hv k n c l e t)) := HA.out.below Bx (range_lt HA.out.1 (by simp [hv])); have BB : Hid (Below w.heap.size w w7) := BB.out.trans (Bx.mono BB.out.size); clear c0 c1 c2 c3 c4 c5; have c0 := HA.out.cell 0 _ rfl; have c1 := HA.out.cell 1 _ rfl; have c2 := HA.out.cell 2 _ rfl; have c3 := HA.out.cell 3 _ rfl; have c4 := HA.out.cell 4 _ rfl; have c5 := HA.out.cell 5 _ rfl; clear Bx y7 t7; have t8 : (0 : Nat) = 0 := rfl)
          | (have q := t6; go_at_call 16; refine (SC.out _ _ Y2.out).mono ?_; rintro e9 w6 ⟨rfl, Bx⟩; have Y2 : Hid (Byt w6 v2 EE) := Y2.out.below Bx; have HA : Hid (Vr w6 w.heap.size (hv k n c l e t)) := HA.out.below Bx (range_lt HA.out.1 (by simp [hv])); have BB : Hid (Below w.heap.size w w6) := BB.out.trans (Bx.mono BB.out.size); clear c0 c1 c2 c3 c4 c5; have c0 := HA.out.cell 0 _ rfl; have c1 := HA.out.cell 1 _ rfl; have c2 := HA.out.cell 2 _ rfl; have c3 := HA.out.cell 3 _ rfl; have c4 := HA.out.cell 4 _ rfl; have c5 := HA.out.cell 5 _ rfl; clear Bx t6; have t7 : (0 : Nat) = 0 := rfl)
          | (have q := t5; go_at_call 12; refine (same_yes _ _ _ EE Y2.out Y4.out).mono ?_; rintro e9 w5 ⟨rfl, Bx⟩; have Y2 : Hid (Byt w5 v2 EE) := Y2.out.below Bx; have HA : Hid (Vr w5 w.heap.size (hv k n c l e t)) := HA.out.below Bx (range_lt HA.out.1 (by simp [hv])); have BB : Hid (Below w.heap.size w w5) := BB.out.trans (Bx.mono BB.out.size); clear c0 c1 c2 c3 c4 c5; have c0 := HA.out.cell 0 _ rfl; have c1 := HA.out.cell 1 _ rfl; have c2 := HA.out.cell 2 _ rfl; have c3 := HA.out.cell 3 _ rfl; have c4 := HA.out.cell 4 _ rfl; have c5 := HA.out.cell 5 _ rfl; clear Bx t5; have t6 : (0 : Nat) = 0 := rfl)
          | (have q := t3; go_at_call 15; refine (SF.out _ BB.out).mono ?_; rintro e9 w4 ⟨v4, rfl, y4, Bx⟩; have Y4 : Hid (Byt w4 v4 EE) := y4; have Y2 : Hid (Byt w4 v2 EE) := Y2.out.below Bx; have HA : Hid (Vr w4 w.heap.size (hv k n c l e t)) := HA.out.below Bx (range_lt HA.out.1 (by simp [hv])); have BB : Hid (Below w.heap.size w w4) := BB.out.trans (Bx.mono BB.out.size); clear c0 c1 c2 c3 c4 c5; have c0 := HA.out.cell 0 _ rfl; have c1 := HA.out.cell 1 _ rfl; have c2 := HA.out.cell 2 _ rfl; have c3 := HA.out.cell 3 _ rfl; have c4 := HA.out.cell 4 _ rfl; have c5 := HA.out.cell 5 _ rfl; clear Bx y4 t3; have t5 : (0 : Nat) = 0 := rfl)
          | (have q := t2; go_at_call 10; refine (HRb.out _).mono ?_; rintro e9 w3 ⟨rfl, Bx⟩; have Y2 : Hid (Byt w3 v2 EE) := Y2.out.below Bx; have HA : Hid (Vr w3 w.heap.size (hv k n c l e t)) := HA.out.below Bx (range_lt HA.out.1 (by simp [hv])); have BB : Hid (Below w.heap.size w w3) := BB.out.trans (Bx.mono BB.out.size); clear c0 c1 c2 c3 c4 c5; have c0 := HA.out.cell 0 _ rfl; have c1 := HA.out.cell 1 _ rfl; have c2 := HA.out.cell 2 _ rfl; have c3 := HA.out.cell 3 _ rfl; have c4 := HA.out.cell 4 _ rfl; have c5 := HA.out.cell 5 _ rfl; clear Bx t2; have t3 : (0 : Nat) = 0 := rfl)
          | (have q := t1; go_at_call 14; refine (SE.out _ BB.out).mono ?_; rintro e9 w2 ⟨v2, rfl, o2, Bx⟩; have Y2 : Hid (Byt w2 v2 EE) := o2.byt HA'.out; have HA : Hid (Vr w2 w.heap.size (hv k n c l e t)) := HA.out.below Bx (range_lt HA.out.1 (by simp [hv])); have BB : Hid (Below w.heap.size w w2) := BB.out.trans (Bx.mono BB.out.size); clear c0 c1 c2 c3 c4 c5; have c0 := HA.out.cell 0 _ rfl; have c1 := HA.out.cell 1 _ rfl; have c2 := HA.out.cell 2 _ rfl; have c3 := HA.out.cell 3 _ rfl; have c4 := HA.out.cell 4 _ rfl; have c5 := HA.out.cell 5 _ rfl; clear o2 Bx t1; have t2 : (0 : Nat) = 0 := rfl)
          | (have q0 := t0; refine box_lawC _ (hv k n c l e t) rfl ?_; intro w1 V1 B1 s1; have HA : Hid (Vr w1 w.heap.size (hv k n c l e t)) := V1; have c0 := HA.out.cell 0 _ rfl; have c1 := HA.out.cell 1 _ rfl; have c2 := HA.out.cell 2 _ rfl; have c3 := HA.out.cell 3 _ rfl; have c4 := HA.out.cell 4 _ rfl; have c5 := HA.out.cell 5 _ rfl; have BB : Hid (Below w.heap.size w w1) := B1; clear V1 B1 t0; have t1 : (0 : Nat) = 0 := rfl))
        go_ret
        exact ⟨rfl, BB.out⟩
    · have SE : Hid (∀ w', Below w.heap.size w w' → Calls Tryd.prog 14 #[.agg (hv k n c l e t).toArray, v] w' fun x w'' => x = .returned (.tuple #[.slice none 0 0, .int .i64 2]) ∧ Below w'.heap.size w' w'') := fun w' q => end_no k n c l e t v tag w' (hv'.below q) hf.1 hf.2.1 hf.2.2 (hT.below q) (fun z => hn z.2)
      have HRb : Hid (∀ w, Calls Tryd.prog 10 #[.agg (hv k n c l e t).toArray] w fun x w' => x = .returned (.bool true) ∧ Below w.heap.size w w') := fun w => right_any k n c l e t w true (by
        have q : (1 ≤ k ∧ k ≤ 4 ∧ 0 ≤ n ∧ n ≤ 255 ∧ 0 ≤ c ∧ c ≤ 255) := hr
        exact (decide_eq_true q).symm)
      have e0 : ((tag.length : Int) == 0) = false := by rw [beq_eq_false_iff_ne]; omega
      have e32 : ((tag.length : Int) == 32) = false := by rw [beq_eq_false_iff_ne]; omega
      have f0 : ((tag.length : Int) != 0) = true := bne_iff_ne.2 (by omega)
      have f32 : ((tag.length : Int) != 32) = true := bne_iff_ne.2 (by omega)
      clear hn
      obtain ⟨ao, cap, rfl, h1, h2, -⟩ := hv'
      generalize tag.length = m at *
      clear hr hf h1 h2
      go_enter Tryd.func4, Tryd.ntmps4
      go_wp2_with (first
        | (have qa := ta; go_at_call 11; refine (awake_any _ (hT.below BB.out)).mono ?_; rintro e9 w9 ⟨rfl, B9⟩; have BB : Hid (Below w.heap.size w w9) := BB.out.trans (B9.mono BB.out.size); clear B9 ta)
        | (have q := t2; go_at_call 10; refine (HRb.out _).mono ?_; rintro e9 w3 ⟨rfl, Bx⟩;  have HA : Hid (Vr w3 w.heap.size (hv k n c l e t)) := HA.out.below Bx (range_lt HA.out.1 (by simp [hv])); have BB : Hid (Below w.heap.size w w3) := BB.out.trans (Bx.mono BB.out.size); clear c0 c1 c2 c3 c4 c5; have c0 := HA.out.cell 0 _ rfl; have c1 := HA.out.cell 1 _ rfl; have c2 := HA.out.cell 2 _ rfl; have c3 := HA.out.cell 3 _ rfl; have c4 := HA.out.cell 4 _ rfl; have c5 := HA.out.cell 5 _ rfl; clear Bx t2; have ta : (0 : Nat) = 0 := rfl)
        | (have q := t1; go_at_call 14; refine (SE.out _ BB.out).mono ?_; rintro e9 w2 ⟨rfl, Bx⟩; have HA : Hid (Vr w2 w.heap.size (hv k n c l e t)) := HA.out.below Bx (range_lt HA.out.1 (by simp [hv])); have BB : Hid (Below w.heap.size w w2) := BB.out.trans (Bx.mono BB.out.size); clear c0 c1 c2 c3 c4 c5; have c0 := HA.out.cell 0 _ rfl; have c1 := HA.out.cell 1 _ rfl; have c2 := HA.out.cell 2 _ rfl; have c3 := HA.out.cell 3 _ rfl; have c4 := HA.out.cell 4 _ rfl; have c5 := HA.out.cell 5 _ rfl; clear Bx t1; have t2 : (0 : Nat) = 0 := rfl)
        | (have q0 := t0; refine box_lawC _ (hv k n c l e t) rfl ?_; intro w1 V1 B1 s1; have HA : Hid (Vr w1 w.heap.size (hv k n c l e t)) := V1; have c0 := HA.out.cell 0 _ rfl; have c1 := HA.out.cell 1 _ rfl; have c2 := HA.out.cell 2 _ rfl; have c3 := HA.out.cell 3 _ rfl; have c4 := HA.out.cell 4 _ rfl; have c5 := HA.out.cell 5 _ rfl; have BB : Hid (Below w.heap.size w w1) := B1; clear V1 B1 t0; have t1 : (0 : Nat) = 0 := rfl))
      go_ret
      exact ⟨rfl, BB.out⟩
  · have SE : Hid (∀ w', Below w.heap.size w w' → Calls Tryd.prog 14 #[.agg (hv k n c l e t).toArray, v] w' fun x w'' => x = .returned (.tuple #[.slice none 0 0, .int .i64 2]) ∧ Below w'.heap.size w' w'') := fun w' q => end_no k n c l e t v tag w' (hv'.below q) hf.1 hf.2.1 hf.2.2 (hT.below q) (fun z => hr z.1)
    have HRb : Hid (∀ w, Calls Tryd.prog 10 #[.agg (hv k n c l e t).toArray] w fun x w' => x = .returned (.bool false) ∧ Below w.heap.size w w') := fun w => right_any k n c l e t w false (by
      have q : ¬ (1 ≤ k ∧ k ≤ 4 ∧ 0 ≤ n ∧ n ≤ 255 ∧ 0 ≤ c ∧ c ≤ 255) := hr
      exact (decide_eq_false q).symm)
    obtain ⟨ao, cap, rfl, h1, h2, -⟩ := hv'
    generalize tag.length = m at *
    clear hr hf h1 h2
    go_enter Tryd.func4, Tryd.ntmps4
    go_wp2_with (first
      | (have qa := ta; go_at_call 11; refine (awake_any _ (hT.below BB.out)).mono ?_; rintro e9 w9 ⟨rfl, B9⟩; have BB : Hid (Below w.heap.size w w9) := BB.out.trans (B9.mono BB.out.size); clear B9 ta)
      | (have q := t2; go_at_call 10; refine (HRb.out _).mono ?_; rintro e9 w3 ⟨rfl, Bx⟩;  have HA : Hid (Vr w3 w.heap.size (hv k n c l e t)) := HA.out.below Bx (range_lt HA.out.1 (by simp [hv])); have BB : Hid (Below w.heap.size w w3) := BB.out.trans (Bx.mono BB.out.size); clear c0 c1 c2 c3 c4 c5; have c0 := HA.out.cell 0 _ rfl; have c1 := HA.out.cell 1 _ rfl; have c2 := HA.out.cell 2 _ rfl; have c3 := HA.out.cell 3 _ rfl; have c4 := HA.out.cell 4 _ rfl; have c5 := HA.out.cell 5 _ rfl; clear Bx t2; have ta : (0 : Nat) = 0 := rfl)
      | (have q := t1; go_at_call 14; refine (SE.out _ BB.out).mono ?_; rintro e9 w2 ⟨rfl, Bx⟩; have HA : Hid (Vr w2 w.heap.size (hv k n c l e t)) := HA.out.below Bx (range_lt HA.out.1 (by simp [hv])); have BB : Hid (Below w.heap.size w w2) := BB.out.trans (Bx.mono BB.out.size); clear c0 c1 c2 c3 c4 c5; have c0 := HA.out.cell 0 _ rfl; have c1 := HA.out.cell 1 _ rfl; have c2 := HA.out.cell 2 _ rfl; have c3 := HA.out.cell 3 _ rfl; have c4 := HA.out.cell 4 _ rfl; have c5 := HA.out.cell 5 _ rfl; clear Bx t1; have t2 : (0 : Nat) = 0 := rfl)
      | (have q0 := t0; refine box_lawC _ (hv k n c l e t) rfl ?_; intro w1 V1 B1 s1; have HA : Hid (Vr w1 w.heap.size (hv k n c l e t)) := V1; have c0 := HA.out.cell 0 _ rfl; have c1 := HA.out.cell 1 _ rfl; have c2 := HA.out.cell 2 _ rfl; have c3 := HA.out.cell 3 _ rfl; have c4 := HA.out.cell 4 _ rfl; have c5 := HA.out.cell 5 _ rfl; have BB : Hid (Below w.heap.size w w1) := B1; clear V1 B1 t0; have t1 : (0 : Nat) = 0 := rfl))
    go_ret
    exact ⟨rfl, BB.out⟩

theorem params : ∀ t ∈ Tryd.f4.params.toList, Tryd.prog.readableRec t = true ∧ t < Tryd.prog.types.size := by
  rw [Tryd.params4]
  intro t ht
  simp at ht
  rcases ht with rfl | rfl
  · exact ⟨by kernel_rfl, of_decide_eq_true (by kernel_rfl)⟩
  · exact ⟨by kernel_rfl, of_decide_eq_true (by kernel_rfl)⟩

theorem contract (H : Type) (enc : TypeId × Value → H) (W : World) (base : Nat) (args : Array Value) (ds gs : List (DataW H)) (before : List MemPlace)
    (hval : ∀ (j : Nat) t v, Tryd.f4.params[j]? = some t → args[j]? = some v → Value.okWide Tryd.prog W .any base t v)
    (hW : DataW.Whole enc Tryd.prog Tryd.f4.params.toList Rows.headEndsSpec.vars false W args.toList ds gs before) (hL : laidMetH Tryd.prog Rows.headEndsRow.laid W) :
    Calls Tryd.prog 4 args W fun e W' => ∃ v, e = .returned v ∧ Rows.headEndsSpec.post enc Tryd.prog Tryd.f4 false true false false W args v W' := by
  have hW' := hW
  obtain ⟨p, q, hA0, hV, rfl, hfz, hnd⟩ := hW
  have hA : DataW.TrodAll enc Tryd.prog W 0 (fun _ => true) true Tryd.f4.params.toList args.toList ds p := hA0
  rw [Tryd.params4] at hA hval
  obtain ⟨v0, v1, d0, d1, p0, p1, rfl, rfl, rfl, h0, h1⟩ := trodAll_two hA
  obtain ⟨rfl, rfl⟩ := trodVars_none hV
  obtain ⟨hk0, hn0, hc0, hl0, he0, ht0, rfl, hf0⟩ := head_open (hval 0 25 v0 rfl rfl) h0
  obtain ⟨xs1, b1⟩ := byt_open (hval 1 26 v1 rfl rfl) h1
  clear hA0
  refine (walk hk0 hn0 hc0 hl0 he0 ht0 v1 xs1 W hf0 b1 (table hL)).mono fun e W' ⟨he, hg⟩ => ?_
  subst he
  exact ⟨_, rfl, post_law rfl (by kernel_rfl) params rfl rfl rfl hW' hg⟩

theorem laid_met (os : Os) : laidMet Tryd.prog Rows.headEndsRow.laid (({ World.holding Tryd.prog os ⟨#[], #[], []⟩ with heap := (World.holding Tryd.prog os ⟨#[], #[], []⟩).heap.modify 0 fun | .cells _ t frozen => .cells #[.int .i64 1, .int .i64 1, .int .i64 1, .int .i64 1, .int .i64 4, .int .i64 8, .int .i64 8] t frozen | o => o } : World).forCall (fun _ _ => 0) ⟨#[], #[.agg #[.int .i64 0, .int .i64 0, .int .i64 0, .int .u32 0, .int .u64 0, .int .u64 0], .slice none 0 0], []⟩).memory :=
  laidMet_of_run' 8 (by kernel_rfl) (by kernel_rfl)
theorem reads (os : Os) {H : Type} (enc : TypeId × Value → H) : ∃ places, DataW.whole enc Tryd.prog (({ World.holding Tryd.prog os ⟨#[], #[], []⟩ with heap := (World.holding Tryd.prog os ⟨#[], #[], []⟩).heap.modify 0 fun | .cells _ t frozen => .cells #[.int .i64 1, .int .i64 1, .int .i64 1, .int .i64 1, .int .i64 4, .int .i64 8, .int .i64 8] t frozen | o => o } : World).forCall (fun _ _ => 0) ⟨#[], #[.agg #[.int .i64 0, .int .i64 0, .int .i64 0, .int .u32 0, .int .u64 0, .int .u64 0], .slice none 0 0], []⟩).memory Tryd.f4.params.toList Rows.headEndsSpec.vars false #[Value.agg #[.int .i64 0, .int .i64 0, .int .i64 0, .int .u32 0, .int .u64 0, .int .u64 0], Value.slice none 0 0].toList 8 = some ([.agg [.lit (.int .i64 0), .lit (.int .i64 0), .lit (.int .i64 0), .lit (.int .u32 0), .lit (.int .u64 0), .lit (.int .u64 0)], .nil], [], places) :=
  ⟨[], by kernel_rfl⟩

set_option maxRecDepth 100000 in
theorem lifted (os : Os) (started : os.Started) (H : Type) (enc : TypeId × Value → H) (F : Stop.Interp) :
    ReturnsInHanded {} Tryd.checked os 4 .any ((OpenSpec.ofChange Rows.headEndsSpec).preRow enc Tryd.prog Tryd.f4 Rows.headEndsRow.domain false Rows.headEndsRow.laid) (((OpenSpec.ofChange Rows.headEndsSpec).at F).post enc Tryd.prog Tryd.f4 false true false false) := by
  obtain ⟨places, hx⟩ := reads os enc
  refine returnsInHanded_of_row (C := Tryd.checked) (s := OpenSpec.ofChange Rows.headEndsSpec) own started (by kernel_rfl) Tryd.func4
    (witness_row_at (enc := enc) (C := Tryd.checked) false ({ World.holding Tryd.prog os ⟨#[], #[], []⟩ with heap := (World.holding Tryd.prog os ⟨#[], #[], []⟩).heap.modify 0 fun | .cells _ t frozen => .cells #[.int .i64 1, .int .i64 1, .int .i64 1, .int .i64 1, .int .i64 4, .int .i64 8, .int .i64 8] t frozen | o => o } : World) #[.agg #[.int .i64 0, .int .i64 0, .int .i64 0, .int .u32 0, .int .u64 0, .int .u64 0], .slice none 0 0] rfl (by kernel_rfl) (by kernel_rfl) (by kernel_rfl)
      (OpenSpec.preRow_of_cond 8 hx (by kernel_rfl) (fun k hk => by cases hk) (by kernel_rfl) (laid_met os))) ?_
  intro W base args ds gs before hval hW _ _ _ hL _ _
  exact contract H enc W base args ds gs before hval hW hL

theorem said : Rows.HeadEndsSaid :=
  OpenClaim.holds_of_cond 4 Tryd.f4 rfl rfl rfl rfl rfl rfl rfl ⟨rfl, rfl, rfl, rfl, rfl⟩ rfl rfl rfl rfl rfl (by kernel_rfl) Tryd.func4 (by kernel_rfl)
    (of_decide_eq_true (by kernel_rfl)) (by unfold Func.isWrapper; first | (rw [if_pos (by decide +kernel)]; kernel_rfl) | (rw [if_neg (by decide +kernel)]; exact ⟨rfl, rfl⟩))
    (fun os started H enc _ F => by rw [OpenClaim.pre_eq_preRow]; exact lifted os started H enc F)

theorem plain (f : FuncId) (fn : Func) (hf : Tryd.pinned.checked.prog.funcNamed "nepenthe/nepenthelaw14.HeadEnds" = some f) (hfn : Tryd.pinned.checked.prog.funcs[f]? = some fn) :
    false = Tryd.pinned.checked.prog.looks [] ∧ ∀ (j : Nat) t, fn.params[j]? = some t → Tryd.pinned.checked.prog.wantsStandIn t = false := by
  obtain rfl : f = 4 := Option.some.inj ((show Tryd.prog.funcNamed "nepenthe/nepenthelaw14.HeadEnds" = some 4 by kernel_rfl).symm.trans hf) |>.symm
  obtain rfl : fn = Tryd.f4 := (Option.some.inj (Tryd.func4.symm.trans hfn)).symm
  refine ⟨by kernel_rfl, fun j t ht => ?_⟩
  rw [Tryd.params4] at ht
  have hm := Array.mem_of_getElem? ht
  simp at hm
  rcases hm with rfl | rfl
  · exact (show Tryd.prog.wantsStandIn 25 = false by kernel_rfl)
  · exact (show Tryd.prog.wantsStandIn 26 = false by kernel_rfl)
end Go.Proofs.YtjlnalfbaojedaaDoor.headEnds

namespace Go.Proofs.YtjlnalfbaojedaaDoor
theorem headEnds_card : Rows.HeadEndsCardSaid :=
  Claim7.holds_tied_plain_at .later [] _ _ _ _ headEnds.said (fun _ h => by cases h) (by kernel_rfl) (fun _ h => by cases h) headEnds_row_tie rfl ⟨rfl, rfl⟩ (by kernel_rfl) rfl headEnds.plain (by kernel_rfl)
#print axioms headEnds_card
end Go.Proofs.YtjlnalfbaojedaaDoor

