/- What the law's change answers; the program answers at all. No claim of its own. -/
import Derived.Test.YtnmofigidlmcaaaEChg
namespace Go.Proofs.Ytnmofigidlmcaaa.le
open Go.RowKit Go.Proofs.Ytnmofigidlmcaaa.he
set_option maxRecDepth 20000

/-- a step -/
def stl (kd b s : Int) : List Value := [.int .i64 kd, .int .i64 b, .int .i64 s]
abbrev stp (kd b s : Int) : Value := .agg (stl kd b s).toArray
theorem chg1_yes (c d n k : Nat) (f : Nat → Bk) (s : Int) (w : World) (h : Led w c d n f) (hk : k < n) (h0 : 0 ≤ s) (h1 : s ≤ 3) : Calls Try.prog 11 #[pt c, stp 1 k s] w fun e w' => e = .returned (.int .i64 0) ∧ Led w' c d n (up f k (doB 1 s (f k))) ∧ w.grownBy w' (some d) := by
  have S : Hid (∀ w1, Below w.heap.size w w1 → Calls Try.prog 32 #[pt c, .int .i64 k, .int .i64 s] w1 fun e w' => e = .returned (.int .i64 0) ∧ Led w' c d n (up f k (doB 1 s (f k))) ∧ w1.grownBy w' (some d)) := fun w1 hb => hold_yes c d n k f s w1 (h.below hb) hk h0 h1
  clear h
  have t0 : (0 : Nat) = 0 := rfl
  go_enter Try.func11, Try.ntmps11
  go_wp2_with (first
    | (have qq := t1; go_at_call 32; refine (S.out w1 B1).mono ?_; rintro e w3 ⟨rfl, L3, G3⟩; clear t1)
    | (have qq := t0; refine box_lawC _ (stl 1 k s) rfl ?_; intro w1 X1 B1 l1; have c0 := X1.cell 0 _ rfl; have c1 := X1.cell 1 _ rfl; have c2 := X1.cell 2 _ rfl; clear X1 t0; have t1 : (0 : Nat) = 0 := rfl))
  go_ret
  exact ⟨rfl, L3, grown_trans (grown_below B1) G3⟩
theorem chg1_no (v : Value) (n : Nat) (f : Nat → Bk) (b s : Int) (w : World) (h : Lq w v n f) (hb : ¬ (0 ≤ b ∧ b < n)) : Calls Try.prog 11 #[v, stp 1 b s] w fun e w' => e = .returned (.int .i64 2) ∧ Below w.heap.size w w' := by
  have S : Hid (∀ w1, Below w.heap.size w w1 → Calls Try.prog 32 #[v, .int .i64 b, .int .i64 s] w1 fun e w' => e = .returned (.int .i64 2) ∧ Below w1.heap.size w1 w') := fun w1 hw => hold_no v n f b s w1 (h.below hw) hb
  clear h hb
  have t0 : (0 : Nat) = 0 := rfl
  go_enter Try.func11, Try.ntmps11
  go_wp2_with (first
    | (have qq := t1; go_at_call 32; refine (S.out w1 B1).mono ?_; rintro e w3 ⟨rfl, B3⟩; clear t1)
    | (have qq := t0; refine box_lawC _ (stl 1 b s) rfl ?_; intro w1 X1 B1 l1; have c0 := X1.cell 0 _ rfl; have c1 := X1.cell 1 _ rfl; have c2 := X1.cell 2 _ rfl; clear X1 t0; have t1 : (0 : Nat) = 0 := rfl))
  go_ret
  exact ⟨rfl, B1.trans (B3.mono B1.size)⟩
theorem chg2_yes (c d n k : Nat) (f : Nat → Bk) (s : Int) (w : World) (h : Led w c d n f) (hk : k < n) : Calls Try.prog 11 #[pt c, stp 2 k s] w fun e w' => e = .returned (.int .i64 0) ∧ Led w' c d n (up f k (doB 2 0 (f k))) ∧ w.grownBy w' (some d) := by
  have S : Hid (∀ w1, Below w.heap.size w w1 → Calls Try.prog 33 #[pt c, .int .i64 k] w1 fun e w' => e = .returned (.int .i64 0) ∧ Led w' c d n (up f k (doB 2 0 (f k))) ∧ w1.grownBy w' (some d)) := fun w1 hb => rele_yes c d n k f w1 (h.below hb) hk
  clear h
  have t0 : (0 : Nat) = 0 := rfl
  go_enter Try.func11, Try.ntmps11
  go_wp2_with (first
    | (have qq := t1; go_at_call 33; refine (S.out w1 B1).mono ?_; rintro e w3 ⟨rfl, L3, G3⟩; clear t1)
    | (have qq := t0; refine box_lawC _ (stl 2 k s) rfl ?_; intro w1 X1 B1 l1; have c0 := X1.cell 0 _ rfl; have c1 := X1.cell 1 _ rfl; have c2 := X1.cell 2 _ rfl; clear X1 t0; have t1 : (0 : Nat) = 0 := rfl))
  go_ret
  exact ⟨rfl, L3, grown_trans (grown_below B1) G3⟩
theorem chg2_no (v : Value) (n : Nat) (f : Nat → Bk) (b s : Int) (w : World) (h : Lq w v n f) (hb : ¬ (0 ≤ b ∧ b < n)) : Calls Try.prog 11 #[v, stp 2 b s] w fun e w' => e = .returned (.int .i64 2) ∧ Below w.heap.size w w' := by
  have S : Hid (∀ w1, Below w.heap.size w w1 → Calls Try.prog 33 #[v, .int .i64 b] w1 fun e w' => e = .returned (.int .i64 2) ∧ Below w1.heap.size w1 w') := fun w1 hw => rele_no v n f b w1 (h.below hw) hb
  clear h hb
  have t0 : (0 : Nat) = 0 := rfl
  go_enter Try.func11, Try.ntmps11
  go_wp2_with (first
    | (have qq := t1; go_at_call 33; refine (S.out w1 B1).mono ?_; rintro e w3 ⟨rfl, B3⟩; clear t1)
    | (have qq := t0; refine box_lawC _ (stl 2 b s) rfl ?_; intro w1 X1 B1 l1; have c0 := X1.cell 0 _ rfl; have c1 := X1.cell 1 _ rfl; have c2 := X1.cell 2 _ rfl; clear X1 t0; have t1 : (0 : Nat) = 0 := rfl))
  go_ret
  exact ⟨rfl, B1.trans (B3.mono B1.size)⟩
theorem chg3_yes (c d n k : Nat) (f : Nat → Bk) (s : Int) (w : World) (h : Led w c d n f) (hk : k < n) (hs : Sm (f k)) : Calls Try.prog 11 #[pt c, stp 3 k s] w fun e w' => e = .returned (.int .i64 0) ∧ Led w' c d n (up f k (doB 3 0 (f k))) ∧ w.grownBy w' (some d) := by
  have S : Hid (∀ w1, Below w.heap.size w w1 → Calls Try.prog 31 #[pt c, .int .i64 k] w1 fun e w' => e = .returned (.int .i64 0) ∧ Led w' c d n (up f k (doB 3 0 (f k))) ∧ w1.grownBy w' (some d)) := fun w1 hb => eras_yes c d n k f w1 (h.below hb) hk hs
  clear h hs
  have t0 : (0 : Nat) = 0 := rfl
  go_enter Try.func11, Try.ntmps11
  go_wp2_with (first
    | (have qq := t1; go_at_call 31; refine (S.out w1 B1).mono ?_; rintro e w3 ⟨rfl, L3, G3⟩; clear t1)
    | (have qq := t0; refine box_lawC _ (stl 3 k s) rfl ?_; intro w1 X1 B1 l1; have c0 := X1.cell 0 _ rfl; have c1 := X1.cell 1 _ rfl; have c2 := X1.cell 2 _ rfl; clear X1 t0; have t1 : (0 : Nat) = 0 := rfl))
  go_ret
  exact ⟨rfl, L3, grown_trans (grown_below B1) G3⟩
theorem chg3_no (v : Value) (n : Nat) (f : Nat → Bk) (b s : Int) (w : World) (h : Lq w v n f) (hb : ¬ (0 ≤ b ∧ b < n)) : Calls Try.prog 11 #[v, stp 3 b s] w fun e w' => e = .returned (.int .i64 2) ∧ Below w.heap.size w w' := by
  have S : Hid (∀ w1, Below w.heap.size w w1 → Calls Try.prog 31 #[v, .int .i64 b] w1 fun e w' => e = .returned (.int .i64 2) ∧ Below w1.heap.size w1 w') := fun w1 hw => eras_no v n f b w1 (h.below hw) hb
  clear h hb
  have t0 : (0 : Nat) = 0 := rfl
  go_enter Try.func11, Try.ntmps11
  go_wp2_with (first
    | (have qq := t1; go_at_call 31; refine (S.out w1 B1).mono ?_; rintro e w3 ⟨rfl, B3⟩; clear t1)
    | (have qq := t0; refine box_lawC _ (stl 3 b s) rfl ?_; intro w1 X1 B1 l1; have c0 := X1.cell 0 _ rfl; have c1 := X1.cell 1 _ rfl; have c2 := X1.cell 2 _ rfl; clear X1 t0; have t1 : (0 : Nat) = 0 := rfl))
  go_ret
  exact ⟨rfl, B1.trans (B3.mono B1.size)⟩
theorem chg4_yes (c d n k : Nat) (f : Nat → Bk) (s : Int) (w : World) (h : Led w c d n f) (hk : k < n) : Calls Try.prog 11 #[pt c, stp 4 k s] w fun e w' => e = .returned (.int .i64 0) ∧ Led w' c d n (up f k (doB 4 0 (f k))) ∧ w.grownBy w' (some d) := by
  have S : Hid (∀ w1, Below w.heap.size w w1 → Calls Try.prog 34 #[pt c, .int .i64 k] w1 fun e w' => e = .returned (.int .i64 0) ∧ Led w' c d n (up f k (doB 4 0 (f k))) ∧ w1.grownBy w' (some d)) := fun w1 hb => fail_yes c d n k f w1 (h.below hb) hk
  clear h
  have t0 : (0 : Nat) = 0 := rfl
  go_enter Try.func11, Try.ntmps11
  go_wp2_with (first
    | (have qq := t1; go_at_call 34; refine (S.out w1 B1).mono ?_; rintro e w3 ⟨rfl, L3, G3⟩; clear t1)
    | (have qq := t0; refine box_lawC _ (stl 4 k s) rfl ?_; intro w1 X1 B1 l1; have c0 := X1.cell 0 _ rfl; have c1 := X1.cell 1 _ rfl; have c2 := X1.cell 2 _ rfl; clear X1 t0; have t1 : (0 : Nat) = 0 := rfl))
  go_ret
  exact ⟨rfl, L3, grown_trans (grown_below B1) G3⟩
theorem chg4_no (v : Value) (n : Nat) (f : Nat → Bk) (b s : Int) (w : World) (h : Lq w v n f) (hb : ¬ (0 ≤ b ∧ b < n)) : Calls Try.prog 11 #[v, stp 4 b s] w fun e w' => e = .returned (.int .i64 2) ∧ Below w.heap.size w w' := by
  have S : Hid (∀ w1, Below w.heap.size w w1 → Calls Try.prog 34 #[v, .int .i64 b] w1 fun e w' => e = .returned (.int .i64 2) ∧ Below w1.heap.size w1 w') := fun w1 hw => fail_no v n f b w1 (h.below hw) hb
  clear h hb
  have t0 : (0 : Nat) = 0 := rfl
  go_enter Try.func11, Try.ntmps11
  go_wp2_with (first
    | (have qq := t1; go_at_call 34; refine (S.out w1 B1).mono ?_; rintro e w3 ⟨rfl, B3⟩; clear t1)
    | (have qq := t0; refine box_lawC _ (stl 4 b s) rfl ?_; intro w1 X1 B1 l1; have c0 := X1.cell 0 _ rfl; have c1 := X1.cell 1 _ rfl; have c2 := X1.cell 2 _ rfl; clear X1 t0; have t1 : (0 : Nat) = 0 := rfl))
  go_ret
  exact ⟨rfl, B1.trans (B3.mono B1.size)⟩
theorem chg5_yes (c d n k : Nat) (f : Nat → Bk) (s : Int) (w : World) (h : Led w c d n f) (hk : k < n) : Calls Try.prog 11 #[pt c, stp 5 k s] w fun e w' => e = .returned (.int .i64 0) ∧ Led w' c d n (up f k (doB 5 s (f k))) ∧ w.grownBy w' (some d) := by
  have S : Hid (∀ w1, Below w.heap.size w w1 → Calls Try.prog 35 #[pt c, .int .i64 k, .bool (decide (s = 1))] w1 fun e w' => e = .returned (.int .i64 0) ∧ Led w' c d n (up f k (doB 5 s (f k))) ∧ w1.grownBy w' (some d)) := fun w1 hb => scru_yes c d n k f s (decide (s = 1)) w1 (h.below hb) hk rfl
  clear h
  have t0 : (0 : Nat) = 0 := rfl
  go_enter Try.func11, Try.ntmps11
  go_wp2_with (first
    | (have qq := t1; go_at_call 35; refine (S.out w1 B1).mono ?_; rintro e w3 ⟨rfl, L3, G3⟩; clear t1)
    | (have qq := t0; refine box_lawC _ (stl 5 k s) rfl ?_; intro w1 X1 B1 l1; have c0 := X1.cell 0 _ rfl; have c1 := X1.cell 1 _ rfl; have c2 := X1.cell 2 _ rfl; clear X1 t0; have t1 : (0 : Nat) = 0 := rfl))
  go_ret
  exact ⟨rfl, L3, grown_trans (grown_below B1) G3⟩
theorem chg5_no (v : Value) (n : Nat) (f : Nat → Bk) (b s : Int) (w : World) (h : Lq w v n f) (hb : ¬ (0 ≤ b ∧ b < n)) : Calls Try.prog 11 #[v, stp 5 b s] w fun e w' => e = .returned (.int .i64 2) ∧ Below w.heap.size w w' := by
  have S : Hid (∀ w1, Below w.heap.size w w1 → Calls Try.prog 35 #[v, .int .i64 b, .bool (decide (s = 1))] w1 fun e w' => e = .returned (.int .i64 2) ∧ Below w1.heap.size w1 w') := fun w1 hw => scru_no v n f b (decide (s = 1)) w1 (h.below hw) hb
  clear h hb
  have t0 : (0 : Nat) = 0 := rfl
  go_enter Try.func11, Try.ntmps11
  go_wp2_with (first
    | (have qq := t1; go_at_call 35; refine (S.out w1 B1).mono ?_; rintro e w3 ⟨rfl, B3⟩; clear t1)
    | (have qq := t0; refine box_lawC _ (stl 5 b s) rfl ?_; intro w1 X1 B1 l1; have c0 := X1.cell 0 _ rfl; have c1 := X1.cell 1 _ rfl; have c2 := X1.cell 2 _ rfl; clear X1 t0; have t1 : (0 : Nat) = 0 := rfl))
  go_ret
  exact ⟨rfl, B1.trans (B3.mono B1.size)⟩
theorem chg6_yes (c d n k : Nat) (f : Nat → Bk) (s : Int) (w : World) (h : Led w c d n f) (hk : k < n) (hs : Sm (f k)) : Calls Try.prog 11 #[pt c, stp 6 k s] w fun e w' => e = .returned (.int .i64 0) ∧ Led w' c d n (up f k (doB 6 0 (f k))) ∧ w.grownBy w' (some d) := by
  have S : Hid (∀ w1, Below w.heap.size w w1 → Calls Try.prog 36 #[pt c, .int .i64 k] w1 fun e w' => e = .returned (.int .i64 0) ∧ Led w' c d n (up f k (doB 6 0 (f k))) ∧ w1.grownBy w' (some d)) := fun w1 hb => uses_yes c d n k f w1 (h.below hb) hk hs
  clear h hs
  have t0 : (0 : Nat) = 0 := rfl
  go_enter Try.func11, Try.ntmps11
  go_wp2_with (first
    | (have qq := t1; go_at_call 36; refine (S.out w1 B1).mono ?_; rintro e w3 ⟨rfl, L3, G3⟩; clear t1)
    | (have qq := t0; refine box_lawC _ (stl 6 k s) rfl ?_; intro w1 X1 B1 l1; have c0 := X1.cell 0 _ rfl; have c1 := X1.cell 1 _ rfl; have c2 := X1.cell 2 _ rfl; clear X1 t0; have t1 : (0 : Nat) = 0 := rfl))
  go_ret
  exact ⟨rfl, L3, grown_trans (grown_below B1) G3⟩
theorem chg6_no (v : Value) (n : Nat) (f : Nat → Bk) (b s : Int) (w : World) (h : Lq w v n f) (hb : ¬ (0 ≤ b ∧ b < n)) : Calls Try.prog 11 #[v, stp 6 b s] w fun e w' => e = .returned (.int .i64 2) ∧ Below w.heap.size w w' := by
  have S : Hid (∀ w1, Below w.heap.size w w1 → Calls Try.prog 36 #[v, .int .i64 b] w1 fun e w' => e = .returned (.int .i64 2) ∧ Below w1.heap.size w1 w') := fun w1 hw => uses_no v n f b w1 (h.below hw) hb
  clear h hb
  have t0 : (0 : Nat) = 0 := rfl
  go_enter Try.func11, Try.ntmps11
  go_wp2_with (first
    | (have qq := t1; go_at_call 36; refine (S.out w1 B1).mono ?_; rintro e w3 ⟨rfl, B3⟩; clear t1)
    | (have qq := t0; refine box_lawC _ (stl 6 b s) rfl ?_; intro w1 X1 B1 l1; have c0 := X1.cell 0 _ rfl; have c1 := X1.cell 1 _ rfl; have c2 := X1.cell 2 _ rfl; clear X1 t0; have t1 : (0 : Nat) = 0 := rfl))
  go_ret
  exact ⟨rfl, B1.trans (B3.mono B1.size)⟩
theorem chg7_yes (c d n k : Nat) (f : Nat → Bk) (s : Int) (w : World) (h : Led w c d n f) (hk : k < n) (hs : Sm (f k)) (h0 : -9223372036854775808 ≤ s) (h1 : s ≤ 1000000) : Calls Try.prog 11 #[pt c, stp 7 k s] w fun e w' => e = .returned (.int .i64 0) ∧ Led w' c d n (up f k (doB 7 s (f k))) ∧ w.grownBy w' (some d) := by
  have S : Hid (∀ w1, Below w.heap.size w w1 → Calls Try.prog 37 #[pt c, .int .i64 k, .int .i64 s] w1 fun e w' => e = .returned (.int .i64 0) ∧ Led w' c d n (up f k (doB 7 s (f k))) ∧ w1.grownBy w' (some d)) := fun w1 hb => coun_yes c d n k f s w1 (h.below hb) hk hs h0 h1
  clear h hs
  have t0 : (0 : Nat) = 0 := rfl
  go_enter Try.func11, Try.ntmps11
  go_wp2_with (first
    | (have qq := t1; go_at_call 37; refine (S.out w1 B1).mono ?_; rintro e w3 ⟨rfl, L3, G3⟩; clear t1)
    | (have qq := t0; refine box_lawC _ (stl 7 k s) rfl ?_; intro w1 X1 B1 l1; have c0 := X1.cell 0 _ rfl; have c1 := X1.cell 1 _ rfl; have c2 := X1.cell 2 _ rfl; clear X1 t0; have t1 : (0 : Nat) = 0 := rfl))
  go_ret
  exact ⟨rfl, L3, grown_trans (grown_below B1) G3⟩
theorem chg7_no (v : Value) (n : Nat) (f : Nat → Bk) (b s : Int) (w : World) (h : Lq w v n f) (hb : ¬ (0 ≤ b ∧ b < n)) : Calls Try.prog 11 #[v, stp 7 b s] w fun e w' => e = .returned (.int .i64 2) ∧ Below w.heap.size w w' := by
  have S : Hid (∀ w1, Below w.heap.size w w1 → Calls Try.prog 37 #[v, .int .i64 b, .int .i64 s] w1 fun e w' => e = .returned (.int .i64 2) ∧ Below w1.heap.size w1 w') := fun w1 hw => coun_no v n f b s w1 (h.below hw) hb
  clear h hb
  have t0 : (0 : Nat) = 0 := rfl
  go_enter Try.func11, Try.ntmps11
  go_wp2_with (first
    | (have qq := t1; go_at_call 37; refine (S.out w1 B1).mono ?_; rintro e w3 ⟨rfl, B3⟩; clear t1)
    | (have qq := t0; refine box_lawC _ (stl 7 b s) rfl ?_; intro w1 X1 B1 l1; have c0 := X1.cell 0 _ rfl; have c1 := X1.cell 1 _ rfl; have c2 := X1.cell 2 _ rfl; clear X1 t0; have t1 : (0 : Nat) = 0 := rfl))
  go_ret
  exact ⟨rfl, B1.trans (B3.mono B1.size)⟩
theorem chgx_no (v : Value) (n : Nat) (f : Nat → Bk) (kd b s : Int) (w : World) (h : Lq w v n f) (hb : ¬ (0 ≤ b ∧ b < n)) (hx : ¬ (1 ≤ kd ∧ kd ≤ 6)) : Calls Try.prog 11 #[v, stp kd b s] w fun e w' => e = .returned (.int .i64 2) ∧ Below w.heap.size w w' := by
  have S : Hid (∀ w1, Below w.heap.size w w1 → Calls Try.prog 37 #[v, .int .i64 b, .int .i64 s] w1 fun e w' => e = .returned (.int .i64 2) ∧ Below w1.heap.size w1 w') := fun w1 hw => coun_no v n f b s w1 (h.below hw) hb
  clear h hb
  have k1 : ¬ kd = 1 := by omega
  have k2 : ¬ kd = 2 := by omega
  have k3 : ¬ kd = 3 := by omega
  have k4 : ¬ kd = 4 := by omega
  have k5 : ¬ kd = 5 := by omega
  have k6 : ¬ kd = 6 := by omega
  clear hx
  have t0 : (0 : Nat) = 0 := rfl
  go_enter Try.func11, Try.ntmps11
  go_wp2_with (first
    | (have qq := t1; go_at_call 37; refine (S.out w1 B1).mono ?_; rintro e w3 ⟨rfl, B3⟩; clear t1)
    | (have qq := t0; refine box_lawC _ (stl kd b s) rfl ?_; intro w1 X1 B1 l1; have c0 := X1.cell 0 _ rfl; have c1 := X1.cell 1 _ rfl; have c2 := X1.cell 2 _ rfl; clear X1 t0; have t1 : (0 : Nat) = 0 := rfl))
  go_ret
  exact ⟨rfl, B1.trans (B3.mono B1.size)⟩
theorem chg_ns (v : Value) (b s : Int) (w : World) (hs : ¬ (0 ≤ s ∧ s < 4)) : Calls Try.prog 11 #[v, stp 1 b s] w fun e w' => e = .returned (.int .i64 2) ∧ Below w.heap.size w w' := by
  have S : Hid (∀ w1, Below w.heap.size w w1 → Calls Try.prog 32 #[v, .int .i64 b, .int .i64 s] w1 fun e w' => e = .returned (.int .i64 2) ∧ Below w1.heap.size w1 w') := fun w1 _ => hold_ns v b s w1 hs
  clear hs
  have t0 : (0 : Nat) = 0 := rfl
  go_enter Try.func11, Try.ntmps11
  go_wp2_with (first
    | (have qq := t1; go_at_call 32; refine (S.out w1 B1).mono ?_; rintro e w3 ⟨rfl, B3⟩; clear t1)
    | (have qq := t0; refine box_lawC _ (stl 1 b s) rfl ?_; intro w1 X1 B1 l1; have c0 := X1.cell 0 _ rfl; have c1 := X1.cell 1 _ rfl; have c2 := X1.cell 2 _ rfl; clear X1 t0; have t1 : (0 : Nat) = 0 := rfl))
  go_ret
  exact ⟨rfl, B1.trans (B3.mono B1.size)⟩
theorem chg_no (v : Value) (n : Nat) (f : Nat → Bk) (kd b s : Int) (w : World) (h : Lq w v n f) (hb : ¬ (0 ≤ b ∧ b < n)) : Calls Try.prog 11 #[v, stp kd b s] w fun e w' => e = .returned (.int .i64 2) ∧ Below w.heap.size w w' := by
  by_cases hx : 1 ≤ kd ∧ kd ≤ 6
  · have : kd = 1 ∨ kd = 2 ∨ kd = 3 ∨ kd = 4 ∨ kd = 5 ∨ kd = 6 := by omega
    rcases this with rfl | rfl | rfl | rfl | rfl | rfl
    · exact chg1_no v n f b s w h hb
    · exact chg2_no v n f b s w h hb
    · exact chg3_no v n f b s w h hb
    · exact chg4_no v n f b s w h hb
    · exact chg5_no v n f b s w h hb
    · exact chg6_no v n f b s w h hb
  · exact chgx_no v n f kd b s w h hb hx
theorem chg_yes (c d n k : Nat) (f : Nat → Bk) (kd s : Int) (w : World) (h : Led w c d n f) (hk : k < n) (h1 : 1 ≤ kd) (h7 : kd ≤ 7) (hs : Sm (f k)) (hn : kd = 1 → 0 ≤ s ∧ s ≤ 3) (hl : -9223372036854775808 ≤ s) (hu : kd = 7 → s ≤ 1000000) :
    Calls Try.prog 11 #[pt c, stp kd k s] w fun e w' => e = .returned (.int .i64 0) ∧ Led w' c d n (up f k (doB kd s (f k))) ∧ w.grownBy w' (some d) := by
  have : kd = 1 ∨ kd = 2 ∨ kd = 3 ∨ kd = 4 ∨ kd = 5 ∨ kd = 6 ∨ kd = 7 := by omega
  rcases this with rfl | rfl | rfl | rfl | rfl | rfl | rfl
  · exact chg1_yes c d n k f s w h hk (hn rfl).1 (hn rfl).2
  · exact chg2_yes c d n k f s w h hk
  · exact chg3_yes c d n k f s w h hk hs
  · exact chg4_yes c d n k f s w h hk
  · exact chg5_yes c d n k f s w h hk
  · exact chg6_yes c d n k f s w h hk hs
  · exact chg7_yes c d n k f s w h hk hs hl (hu rfl)

theorem awake_any (w : World) : Calls Try.prog 7 #[] w fun e w' => e = .returned (.bool true) ∧ Below w.heap.size w w' := by
  have N : Hid (Calls Try.prog 6 #[.int .i64 3] w fun e w' => ∃ c d, e = .returned (.tuple #[pt c, .int .i64 0]) ∧ Led w' c d 3 (fun _ => bn) ∧ w.heap.size ≤ c ∧ w.heap.size ≤ d ∧ d < w'.heap.size ∧ Below w.heap.size w w') := new_yes 3 w (by omega)
  have E1 : Hid (∀ w1 c d, Led w1 c d 3 (fun _ => bn) → Calls Try.prog 9 #[pt c] w1 fun e w' => e = .returned (.int .i64 3) ∧ w' = w1) := fun w1 c d h => len_any _ 3 _ w1 (.inr ⟨c, d, rfl, h⟩)
  have E2 : Hid (∀ w1 c d, Led w1 c d 3 (fun _ => bn) → Calls Try.prog 18 #[pt c] w1 fun e w' => e = .returned (.int .i64 0) ∧ Below w1.heap.size w1 w') := fun w1 c d h => pick_any _ 3 _ w1 (.inr ⟨c, d, rfl, h⟩) (by omega)
  have E3 : Hid (∀ w1 c d, Led w1 c d 3 (fun _ => bn) → Calls Try.prog 31 #[pt c, .int .i64 0] w1 fun e w' => e = .returned (.int .i64 0) ∧ Led w' c d 3 (up (fun _ => bn) 0 (doB 3 0 bn)) ∧ w1.grownBy w' (some d)) := fun w1 c d h => eras_yes c d 3 0 _ w1 h (by omega) ⟨by decide, by decide, by decide, by decide, by decide, by decide⟩
  have E4 : Hid (∀ w1 c d, Led w1 c d 3 (up (fun _ => bn) 0 (doB 3 0 bn)) → Calls Try.prog 18 #[pt c] w1 fun e w' => e = .returned (.int .i64 1) ∧ Below w1.heap.size w1 w') := fun w1 c d h => pick_any _ 3 _ w1 (.inr ⟨c, d, rfl, h⟩) (by omega)
  have t0 : (0 : Nat) = 0 := rfl
  go_enter Try.func7, Try.ntmps7
  go_wp2_with (first
    | (have qq := t4; go_at_call 18; refine (E4.out w5 c d L5.out).mono ?_; rintro e9 w6 ⟨rfl, B6⟩; have BB : Hid (Below w.heap.size w w6) := BB.out.trans (B6.mono BB.out.size); clear t4)
    | (have qq := t3; go_at_call 31; refine (E3.out w4 c d L4.out).mono ?_; rintro e9 w5 ⟨rfl, L5_, G5⟩; have L5 : Hid (Led w5 c d 3 (up (fun _ => bn) 0 (doB 3 0 bn))) := L5_; have BB : Hid (Below w.heap.size w w5) := ⟨G5.os.trans BB.out.os, G5.tape.trans BB.out.tape, G5.output.trans BB.out.output, Nat.le_trans BB.out.size G5.size, fun k hk => (G5.block k (Nat.lt_of_lt_of_le hk BB.out.size) (by intro e; have := Option.some.inj e; have := HD.out; omega)).trans (BB.out.block k hk)⟩; clear L5_ G5 t3; have t4 : (0 : Nat) = 0 := rfl)
    | (have qq := t2; go_at_call 18; refine (E2.out w1 c d L1.out).mono ?_; rintro e9 w4 ⟨rfl, B4⟩; have L4 : Hid (Led w4 c d 3 (fun _ => bn)) := L1.out.below B4; have BB : Hid (Below w.heap.size w w4) := BB.out.trans (B4.mono BB.out.size); clear t2; have t3 : (0 : Nat) = 0 := rfl)
    | (have qq := t1; go_at_call 9; refine (E1.out w1 c d L1.out).mono ?_; rintro e9 w9 ⟨rfl, hw⟩; obtain rfl := hw.symm; clear t1; have t2 : (0 : Nat) = 0 := rfl)
    | (have qq := t0; go_at_call 6; refine N.out.mono ?_; rintro e9 w1 ⟨c, d, rfl, l1, -, hd, -, b1⟩; have L1 : Hid (Led w1 c d 3 (fun _ => bn)) := l1; have HD : Hid (w.heap.size ≤ d) := hd; have BB : Hid (Below w.heap.size w w1) := b1; clear l1 hd b1 t0; have t1 : (0 : Nat) = 0 := rfl))
  go_ret
  exact ⟨rfl, BB.out⟩
end Go.Proofs.Ytnmofigidlmcaaa.le
