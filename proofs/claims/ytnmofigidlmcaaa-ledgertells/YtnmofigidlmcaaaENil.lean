/- What ledger's At, Set and Dirty answer of a block that there is not; At of one that there is. No claim of its own. -/
import Derived.Test.YtnmofigidlmcaaaEChg
namespace Go.Proofs.Ytnmofigidlmcaaa.le
open Go.RowKit Go.Proofs.Ytnmofigidlmcaaa.he
set_option maxRecDepth 20000

theorem at_no (v : Value) (n : Nat) (f : Nat → Bk) (w : World) (b : Int) (h : Lq w v n f) (hb : ¬ (0 ≤ b ∧ b < n)) : Calls Try.prog 14 #[v, .int .i64 b] w fun e w' => e = .returned (.agg b0.cs.toArray) ∧ Below w.heap.size w w' := by
  have S : Hid (∀ w1, Below w.heap.size w w1 → Calls Try.prog 39 #[v, .int .i64 b] w1 fun e w' => e = .returned (.bool false) ∧ w' = w1) := fun w1 hw => has_any v n f w1 b (h.below hw) false (decide_eq_false hb).symm
  clear h hb
  have t0 : (0 : Nat) = 0 := rfl
  go_enter Try.func14, Try.ntmps14
  go_wp2_with (first
    | (have qq := t2; (with_reducible refine at_store ?_); refine store_lawC _ b0.cs w.heap.size 0 rfl rfl V1.out.2 size_lblk b0.one ?_; intro w6 E6 R6 T6 B6; have HR : Hid (w6.rangeAt w.heap.size 0 b0.cs) := R6; have BB : Hid (Below w.heap.size w w6) := B1.trans B6; clear E6 R6 T6 B6 t2)
    | (have qq := t1; go_at_call 39; refine (S.out w1 B1).mono ?_; rintro e9 w9 ⟨rfl, hw⟩; obtain rfl := hw.symm; clear t1; have t2 : (0 : Nat) = 0 := rfl)
    | (have qq := t0; (with_reducible refine at_alloc ?_); refine new_lawC _ b0.cs zero_lblk ?_; intro w1 X1 B1 l1; have V1 : Hid (Vr w1 w.heap.size b0.cs) := X1; clear X1 t0; have t1 : (0 : Nat) = 0 := rfl))
  exact bodyPost_ret (v := .agg b0.cs.toArray) (results_c rfl _ _ w.heap.size _ rowy_lblk rfl HR.out) rfl ⟨rfl, BB.out⟩
theorem at_yes (c d n k : Nat) (f : Nat → Bk) (w : World) (h : Led w c d n f) (hk : k < n) : Calls Try.prog 14 #[pt c, .int .i64 k] w fun e w' => e = .returned (.agg (f k).cs.toArray) ∧ Below w.heap.size w w' := by
  have S : Hid (∀ w1, Below w.heap.size w w1 → Calls Try.prog 39 #[pt c, .int .i64 k] w1 fun e w' => e = .returned (.bool true) ∧ w' = w1) := fun w1 hw => has_any (pt c) n f w1 k (.inr ⟨c, d, rfl, h.below hw⟩) true (decide_eq_true (by omega)).symm
  have HL : Hid (Led w c d n f) := h
  have k0 : (0 : Int) ≤ (k : Int) := by omega
  have k1 : (k : Int) < (n : Int) := by omega
  clear h
  have t0 : (0 : Nat) = 0 := rfl
  go_enter Try.func14, Try.ntmps14
  go_wp2_with (first
    | (have qq := t2; (with_reducible refine at_store ?_); refine store_lawC _ (f k).cs w.heap.size 0 rfl rfl V1.out.2 size_lblk (f k).one ?_; intro w6 E6 R6 T6 B6; have HR : Hid (w6.rangeAt w.heap.size 0 (f k).cs) := R6; have BB : Hid (Below w.heap.size w w6) := B1.trans B6; clear E6 R6 T6 B6 t2)
    | (have qq := t1; go_at_call 39; refine (S.out w1 B1).mono ?_; rintro e9 w9 ⟨rfl, hw⟩; obtain rfl := hw.symm; clear t1; have t2 : (0 : Nat) = 0 := rfl)
    | (have qq := t0; (with_reducible refine at_alloc ?_); refine new_lawC _ b0.cs zero_lblk ?_; intro w1 X1 B1 l1; have V1 : Hid (Vr w1 w.heap.size b0.cs) := X1; have c0 := (HL.out.below B1).cell; have nn := nine ((HL.out.below B1).2.1 k hk).1; clear X1 t0; have t1 : (0 : Nat) = 0 := rfl))
  exact bodyPost_ret (v := .agg (f k).cs.toArray) (results_c rfl _ _ w.heap.size _ rowy_lblk rfl HR.out) rfl ⟨rfl, BB.out⟩

theorem owner_any (s : Int) (w : World) : ∃ q, Calls Try.prog 52 #[.int .i64 s] w fun e w' => e = .returned (.bool q) ∧ w' = w := by
  by_cases hs : 0 ≤ s ∧ s < 4
  · refine ⟨true, ?_⟩
    have S : Hid (Calls Try.prog 57 #[.int .i64 s] w fun e w' => e = .returned (.bool true) ∧ w' = w) := ns_any s w true (decide_eq_true hs).symm
    clear hs
    go_enter Try.func52, Try.ntmps52
    go_wp2_with (go_at_call 57; refine S.out.mono ?_; rintro e9 w9 ⟨rfl, hw⟩; obtain rfl := hw.symm)
    go_ret
    exact ⟨rfl, rfl⟩
  · have S : Hid (Calls Try.prog 57 #[.int .i64 s] w fun e w' => e = .returned (.bool false) ∧ w' = w) := ns_any s w false (decide_eq_false hs).symm
    clear hs
    by_cases h1 : s = -1
    · subst h1
      refine ⟨true, ?_⟩
      go_enter Try.func52, Try.ntmps52
      go_wp2_with (go_at_call 57; refine S.out.mono ?_; rintro e9 w9 ⟨rfl, hw⟩; obtain rfl := hw.symm)
      go_ret
      exact ⟨rfl, rfl⟩
    · have h1' : (s == -1) = false := beq_eq_false_iff_ne.2 h1
      by_cases h2 : s = -2
      · subst h2
        refine ⟨true, ?_⟩
        go_enter Try.func52, Try.ntmps52
        go_wp2_with (go_at_call 57; refine S.out.mono ?_; rintro e9 w9 ⟨rfl, hw⟩; obtain rfl := hw.symm)
        go_ret
        exact ⟨rfl, rfl⟩
      · have h2' : (s == -2) = false := beq_eq_false_iff_ne.2 h2
        refine ⟨false, ?_⟩
        go_enter Try.func52, Try.ntmps52
        go_wp2_with (go_at_call 57; refine S.out.mono ?_; rintro e9 w9 ⟨rfl, hw⟩; obtain rfl := hw.symm)
        go_ret
        exact ⟨rfl, rfl⟩
theorem set_no (v : Value) (n : Nat) (f : Nat → Bk) (w : World) (b : Int) (x : Bk) (h : Lq w v n f) (hb : ¬ (0 ≤ b ∧ b < n)) : Calls Try.prog 30 #[v, .int .i64 b, .agg x.cs.toArray] w fun e w' => e = .returned (.int .i64 2) ∧ Below w.heap.size w w' := by
  have S : Hid (∀ w1 g, Below w.heap.size w w1 → Calls Try.prog 53 #[v, .int .i64 b, g] w1 fun e w' => e = .returned (.int .i64 2) ∧ w' = w1) := fun w1 g hw => change_no v n f w1 b g (h.below hw) hb
  have hmf : ∀ (fn : Fn) (first cap : Array Value) (w : World), (Instr.makeFunc fn first cap).run Try.prog w = .ok (.func fn first cap) w := fun _ _ _ _ => rfl
  have O : Hid (∀ w, ∃ q, Calls Try.prog 52 #[.int .i64 x.o] w fun e w' => e = .returned (.bool q) ∧ w' = w) := owner_any x.o
  clear h hb
  have t0 : (0 : Nat) = 0 := rfl
  go_enter Try.func30, Try.ntmps30
  go_wp2_with (first
    | (have qq := t2; go_at_call 53; refine (S.out w1 _ B1).mono ?_; rintro e9 w9 ⟨rfl, hw⟩; obtain rfl := hw.symm; clear t2)
    | (have qq := t1; go_at_call 52; obtain ⟨q, hq⟩ := O.out w1; refine hq.mono ?_; rintro e9 w9 ⟨rfl, hw⟩; obtain rfl := hw.symm; clear t1; have t2 : (0 : Nat) = 0 := rfl; cases q)
    | (have qq := t0; refine box_lawC _ x.cs rfl ?_; intro w1 X1 B1 l1; have nn := nine0 X1.1; clear X1 t0; have t1 : (0 : Nat) = 0 := rfl))
  all_goals go_ret
  all_goals exact ⟨rfl, B1⟩
theorem dirty_no (v : Value) (n : Nat) (f : Nat → Bk) (w : World) (b : Int) (h : Lq w v n f) (hb : ¬ (0 ≤ b ∧ b < n)) : Calls Try.prog 15 #[v, .int .i64 b] w fun e w' => e = .returned (.bool false) ∧ w' = w := by
  have S : Hid (Calls Try.prog 39 #[v, .int .i64 b] w fun e w' => e = .returned (.bool false) ∧ w' = w) := has_any v n f w b h false (decide_eq_false hb).symm
  clear h hb
  go_enter Try.func15, Try.ntmps15
  go_wp2_with (go_at_call 39; refine S.out.mono ?_; rintro e9 w9 ⟨rfl, hw⟩; obtain rfl := hw.symm)
  go_ret
  exact ⟨rfl, rfl⟩
end Go.Proofs.Ytnmofigidlmcaaa.le
