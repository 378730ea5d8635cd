/- What ledger's Hold, Release, Erased, Failed, Scrubbed, Use and Count answer, and the law's change. No claim of its own. -/
import Derived.Test.YtnmofigidlmcaaaEDo
namespace Go.Proofs.Ytnmofigidlmcaaa.le
open Go.RowKit Go.Proofs.Ytnmofigidlmcaaa.he
set_option maxRecDepth 20000

/-- a block, changed -/
def doB (kd s : Int) (x : Bk) : Bk :=
  if kd = 1 then { x with o := s, h := true, c := false, u := 0, l := 0 }
  else if kd = 2 then { x with h := false, l := 0 }
  else if kd = 3 then ⟨-2, 0, 0, x.e + 1, false, true, x.b, false, false⟩
  else if kd = 4 then { x with b := true }
  else if kd = 5 then { x with b := true, c := false, h := false, g := decide (s = 1), k := !decide (s = 1) }
  else if kd = 6 then { x with u := x.u + 1 }
  else { x with l := if s < -x.l then 0 else x.l + s }
/-- a block's numbers are small -/
def Sm (x : Bk) : Prop := 0 ≤ x.u ∧ x.u ≤ 1000000000 ∧ 0 ≤ x.l ∧ x.l ≤ 1000000000 ∧ 0 ≤ x.e ∧ x.e ≤ 1000000000
theorem Led.dlt {w : World} {c d n k : Nat} {f : Nat → Bk} (h : Led w c d n f) (hk : k < n) : d < w.heap.size := (h.2.1 k hk).lt (Nat.succ_pos _)
theorem rele_yes (c d n k : Nat) (f : Nat → Bk) (w : World) (h : Led w c d n f) (hk : k < n) : Calls Try.prog 33 #[pt c, .int .i64 k] w fun e w' => e = .returned (.int .i64 0) ∧ Led w' c d n (up f k (doB 2 0 (f k))) ∧ w.grownBy w' (some d) := by
  have S : Hid (Calls Try.prog 53 #[pt c, .int .i64 k, .func (.func 59) #[] #[]] w fun e w' => e = .returned (.int .i64 0) ∧ Led w' c d n (up f k (doB 2 0 (f k))) ∧ w.grownBy w' (some d)) :=
    change_yes c d n k f w h hk _ 59 #[] (fun _ _ => rfl) (release1 d (k * 9) (f k) w (h.2.1 k hk))
  clear h
  go_enter Try.func33, Try.ntmps33
  go_wp2_with (go_at_call 53; refine S.out.mono ?_; rintro e w3 ⟨rfl, L3, G3⟩)
  go_ret
  exact ⟨rfl, L3, G3⟩
theorem rele_no (v : Value) (n : Nat) (f : Nat → Bk) (b : Int) (w : World) (h : Lq w v n f) (hb : ¬ (0 ≤ b ∧ b < n)) : Calls Try.prog 33 #[v, .int .i64 b] w fun e w' => e = .returned (.int .i64 2) ∧ Below w.heap.size w w' := by
  have S : Hid (∀ w1 g, Below w.heap.size w w1 → Calls Try.prog 53 #[v, .int .i64 b, g] w1 fun e w' => e = .returned (.int .i64 2) ∧ w' = w1) := fun w1 g hw => change_no v n f w1 b g (h.below hw) hb
  clear h hb
  go_enter Try.func33, Try.ntmps33
  go_wp2_with (go_at_call 53; refine (S.out w _ (Below.refl _ _)).mono ?_; rintro e w3 ⟨rfl, hw⟩; obtain rfl := hw.symm)
  go_ret
  exact ⟨rfl, Below.refl _ _⟩
theorem eras_yes (c d n k : Nat) (f : Nat → Bk) (w : World) (h : Led w c d n f) (hk : k < n) (hs : Sm (f k)) : Calls Try.prog 31 #[pt c, .int .i64 k] w fun e w' => e = .returned (.int .i64 0) ∧ Led w' c d n (up f k (doB 3 0 (f k))) ∧ w.grownBy w' (some d) := by
  have S : Hid (Calls Try.prog 53 #[pt c, .int .i64 k, .func (.func 55) #[] #[]] w fun e w' => e = .returned (.int .i64 0) ∧ Led w' c d n (up f k (doB 3 0 (f k))) ∧ w.grownBy w' (some d)) :=
    change_yes c d n k f w h hk _ 55 #[] (fun _ _ => rfl) (erased1 d (k * 9) (f k) w (h.2.1 k hk) hs.2.2.2.2.1 hs.2.2.2.2.2)
  clear h hs
  go_enter Try.func31, Try.ntmps31
  go_wp2_with (go_at_call 53; refine S.out.mono ?_; rintro e w3 ⟨rfl, L3, G3⟩)
  go_ret
  exact ⟨rfl, L3, G3⟩
theorem eras_no (v : Value) (n : Nat) (f : Nat → Bk) (b : Int) (w : World) (h : Lq w v n f) (hb : ¬ (0 ≤ b ∧ b < n)) : Calls Try.prog 31 #[v, .int .i64 b] w fun e w' => e = .returned (.int .i64 2) ∧ Below w.heap.size w w' := by
  have S : Hid (∀ w1 g, Below w.heap.size w w1 → Calls Try.prog 53 #[v, .int .i64 b, g] w1 fun e w' => e = .returned (.int .i64 2) ∧ w' = w1) := fun w1 g hw => change_no v n f w1 b g (h.below hw) hb
  clear h hb
  go_enter Try.func31, Try.ntmps31
  go_wp2_with (go_at_call 53; refine (S.out w _ (Below.refl _ _)).mono ?_; rintro e w3 ⟨rfl, hw⟩; obtain rfl := hw.symm)
  go_ret
  exact ⟨rfl, Below.refl _ _⟩
theorem fail_yes (c d n k : Nat) (f : Nat → Bk) (w : World) (h : Led w c d n f) (hk : k < n) : Calls Try.prog 34 #[pt c, .int .i64 k] w fun e w' => e = .returned (.int .i64 0) ∧ Led w' c d n (up f k (doB 4 0 (f k))) ∧ w.grownBy w' (some d) := by
  have S : Hid (Calls Try.prog 53 #[pt c, .int .i64 k, .func (.func 60) #[] #[]] w fun e w' => e = .returned (.int .i64 0) ∧ Led w' c d n (up f k (doB 4 0 (f k))) ∧ w.grownBy w' (some d)) :=
    change_yes c d n k f w h hk _ 60 #[] (fun _ _ => rfl) (failed1 d (k * 9) (f k) w (h.2.1 k hk))
  clear h
  go_enter Try.func34, Try.ntmps34
  go_wp2_with (go_at_call 53; refine S.out.mono ?_; rintro e w3 ⟨rfl, L3, G3⟩)
  go_ret
  exact ⟨rfl, L3, G3⟩
theorem fail_no (v : Value) (n : Nat) (f : Nat → Bk) (b : Int) (w : World) (h : Lq w v n f) (hb : ¬ (0 ≤ b ∧ b < n)) : Calls Try.prog 34 #[v, .int .i64 b] w fun e w' => e = .returned (.int .i64 2) ∧ Below w.heap.size w w' := by
  have S : Hid (∀ w1 g, Below w.heap.size w w1 → Calls Try.prog 53 #[v, .int .i64 b, g] w1 fun e w' => e = .returned (.int .i64 2) ∧ w' = w1) := fun w1 g hw => change_no v n f w1 b g (h.below hw) hb
  clear h hb
  go_enter Try.func34, Try.ntmps34
  go_wp2_with (go_at_call 53; refine (S.out w _ (Below.refl _ _)).mono ?_; rintro e w3 ⟨rfl, hw⟩; obtain rfl := hw.symm)
  go_ret
  exact ⟨rfl, Below.refl _ _⟩
theorem uses_yes (c d n k : Nat) (f : Nat → Bk) (w : World) (h : Led w c d n f) (hk : k < n) (hs : Sm (f k)) : Calls Try.prog 36 #[pt c, .int .i64 k] w fun e w' => e = .returned (.int .i64 0) ∧ Led w' c d n (up f k (doB 6 0 (f k))) ∧ w.grownBy w' (some d) := by
  have S : Hid (Calls Try.prog 53 #[pt c, .int .i64 k, .func (.func 62) #[] #[]] w fun e w' => e = .returned (.int .i64 0) ∧ Led w' c d n (up f k (doB 6 0 (f k))) ∧ w.grownBy w' (some d)) :=
    change_yes c d n k f w h hk _ 62 #[] (fun _ _ => rfl) (use1 d (k * 9) (f k) w (h.2.1 k hk) hs.1 hs.2.1)
  clear h hs
  go_enter Try.func36, Try.ntmps36
  go_wp2_with (go_at_call 53; refine S.out.mono ?_; rintro e w3 ⟨rfl, L3, G3⟩)
  go_ret
  exact ⟨rfl, L3, G3⟩
theorem uses_no (v : Value) (n : Nat) (f : Nat → Bk) (b : Int) (w : World) (h : Lq w v n f) (hb : ¬ (0 ≤ b ∧ b < n)) : Calls Try.prog 36 #[v, .int .i64 b] w fun e w' => e = .returned (.int .i64 2) ∧ Below w.heap.size w w' := by
  have S : Hid (∀ w1 g, Below w.heap.size w w1 → Calls Try.prog 53 #[v, .int .i64 b, g] w1 fun e w' => e = .returned (.int .i64 2) ∧ w' = w1) := fun w1 g hw => change_no v n f w1 b g (h.below hw) hb
  clear h hb
  go_enter Try.func36, Try.ntmps36
  go_wp2_with (go_at_call 53; refine (S.out w _ (Below.refl _ _)).mono ?_; rintro e w3 ⟨rfl, hw⟩; obtain rfl := hw.symm)
  go_ret
  exact ⟨rfl, Below.refl _ _⟩
theorem hold_yes (c d n k : Nat) (f : Nat → Bk) (s : Int) (w : World) (h : Led w c d n f) (hk : k < n) (h0 : 0 ≤ s) (h1 : s ≤ 3) : Calls Try.prog 32 #[pt c, .int .i64 k, .int .i64 s] w fun e w' => e = .returned (.int .i64 0) ∧ Led w' c d n (up f k (doB 1 s (f k))) ∧ w.grownBy w' (some d) := by
  have S : Hid (∀ w1, Below w.heap.size w w1 → Vr w1 w.heap.size [.int .i64 s] → Calls Try.prog 53 #[pt c, .int .i64 k, .func (.func 58) #[] #[pt w.heap.size]] w1 fun e w' => e = .returned (.int .i64 0) ∧ Led w' c d n (up f k (doB 1 s (f k))) ∧ w1.grownBy w' (some d)) := fun w1 hb hv =>
    change_yes c d n k f w1 (h.below hb) hk _ 58 #[pt w.heap.size] (fun _ _ => rfl) (hold1 d (k * 9) (f k) w.heap.size s w1 ((h.below hb).2.1 k hk) (hv.cell 0 _ rfl))
  have hmf : ∀ (fn : Fn) (first cap : Array Value) (w : World), (Instr.makeFunc fn first cap).run Try.prog w = .ok (.func fn first cap) w := fun _ _ _ _ => rfl
  have hq : Hid (true = decide (0 ≤ s ∧ s < 4)) := (decide_eq_true (show 0 ≤ s ∧ s < 4 by omega)).symm
  clear h
  have t0 : (0 : Nat) = 0 := rfl
  go_enter Try.func32, Try.ntmps32
  go_wp2_with (first
    | (have qq := t1; go_at_call 53; refine (S.out w1 B1 V1.out).mono ?_; rintro e w3 ⟨rfl, L3, G3⟩; clear t1)
    | (go_at_call 57; refine (ns_any _ _ true hq.out).mono ?_; rintro e w9 ⟨rfl, hw⟩; obtain rfl := hw.symm)
    | (have qq := t0; refine box_law1 _ (.int .i64 s) rfl rfl ?_; intro w1 X1 B1 l1; have c1 := X1.cell 0 _ rfl; have V1 : Hid (Vr w1 w.heap.size [.int .i64 s]) := X1; clear X1 t0; have t1 : (0 : Nat) = 0 := rfl))
  go_ret
  exact ⟨rfl, L3, grown_trans (grown_below B1) G3⟩
theorem hold_ns (v : Value) (b s : Int) (w : World) (hs : ¬ (0 ≤ s ∧ s < 4)) : Calls Try.prog 32 #[v, .int .i64 b, .int .i64 s] w fun e w' => e = .returned (.int .i64 2) ∧ Below w.heap.size w w' := by
  have t0 : (0 : Nat) = 0 := rfl
  have hq : Hid (false = decide (0 ≤ s ∧ s < 4)) := (decide_eq_false hs).symm
  clear hs
  go_enter Try.func32, Try.ntmps32
  go_wp2_with (first
    | (go_at_call 57; refine (ns_any _ _ false hq.out).mono ?_; rintro e w9 ⟨rfl, hw⟩; obtain rfl := hw.symm)
    | (have qq := t0; refine box_law1 _ (.int .i64 s) rfl rfl ?_; intro w1 X1 B1 l1; have c1 := X1.cell 0 _ rfl; clear X1 t0; have t1 : (0 : Nat) = 0 := rfl))
  go_ret
  exact ⟨rfl, B1⟩
theorem hold_no (v : Value) (n : Nat) (f : Nat → Bk) (b : Int) (s : Int) (w : World) (h : Lq w v n f) (hb : ¬ (0 ≤ b ∧ b < n)) : Calls Try.prog 32 #[v, .int .i64 b, .int .i64 s] w fun e w' => e = .returned (.int .i64 2) ∧ Below w.heap.size w w' := by
  by_cases hs : 0 ≤ s ∧ s < 4
  case neg => exact hold_ns v b s w hs
  have hq : Hid (true = decide (0 ≤ s ∧ s < 4)) := (decide_eq_true hs).symm
  clear hs
  have S : Hid (∀ w1 g, Below w.heap.size w w1 → Calls Try.prog 53 #[v, .int .i64 b, g] w1 fun e w' => e = .returned (.int .i64 2) ∧ w' = w1) := fun w1 g hw => change_no v n f w1 b g (h.below hw) hb
  have hmf : ∀ (fn : Fn) (first cap : Array Value) (w : World), (Instr.makeFunc fn first cap).run Try.prog w = .ok (.func fn first cap) w := fun _ _ _ _ => rfl
  clear h hb
  have t0 : (0 : Nat) = 0 := rfl
  go_enter Try.func32, Try.ntmps32
  go_wp2_with (first
    | (have qq := t1; go_at_call 53; refine (S.out w1 _ B1).mono ?_; rintro e w3 ⟨rfl, hw⟩; obtain rfl := hw.symm; clear t1)
    | (go_at_call 57; refine (ns_any _ _ true hq.out).mono ?_; rintro e w9 ⟨rfl, hw⟩; obtain rfl := hw.symm)
    | (have qq := t0; refine box_law1 _ (.int .i64 s) rfl rfl ?_; intro w1 X1 B1 l1; have c1 := X1.cell 0 _ rfl; clear X1 t0; have t1 : (0 : Nat) = 0 := rfl))
  go_ret
  exact ⟨rfl, B1⟩
theorem scru_yes (c d n k : Nat) (f : Nat → Bk) (s : Int) (t : Bool) (w : World) (h : Led w c d n f) (hk : k < n) (ht : t = decide (s = 1)) : Calls Try.prog 35 #[pt c, .int .i64 k, .bool t] w fun e w' => e = .returned (.int .i64 0) ∧ Led w' c d n (up f k (doB 5 s (f k))) ∧ w.grownBy w' (some d) := by
  have S : Hid (∀ w1, Below w.heap.size w w1 → Vr w1 w.heap.size [.bool t] → Calls Try.prog 53 #[pt c, .int .i64 k, .func (.func 61) #[] #[pt w.heap.size]] w1 fun e w' => e = .returned (.int .i64 0) ∧ Led w' c d n (up f k (doB 5 s (f k))) ∧ w1.grownBy w' (some d)) := fun w1 hb hv =>
    change_yes c d n k f w1 (h.below hb) hk _ 61 #[pt w.heap.size] (fun _ _ => rfl) (by subst ht; exact scrub1 d (k * 9) (f k) w.heap.size _ w1 ((h.below hb).2.1 k hk) (hv.cell 0 _ rfl) (Nat.ne_of_gt (h.dlt hk)))
  have hmf : ∀ (fn : Fn) (first cap : Array Value) (w : World), (Instr.makeFunc fn first cap).run Try.prog w = .ok (.func fn first cap) w := fun _ _ _ _ => rfl
  clear h
  have t0 : (0 : Nat) = 0 := rfl
  go_enter Try.func35, Try.ntmps35
  go_wp2_with (first
    | (have qq := t1; go_at_call 53; refine (S.out w1 B1 V1.out).mono ?_; rintro e w3 ⟨rfl, L3, G3⟩; clear t1)
    | (have qq := t0; refine box_law1 _ (.bool t) rfl rfl ?_; intro w1 X1 B1 l1; have c1 := X1.cell 0 _ rfl; have V1 : Hid (Vr w1 w.heap.size [.bool t]) := X1; clear X1 t0; have t1 : (0 : Nat) = 0 := rfl))
  go_ret
  exact ⟨rfl, L3, grown_trans (grown_below B1) G3⟩
theorem scru_no (v : Value) (n : Nat) (f : Nat → Bk) (b : Int) (t : Bool) (w : World) (h : Lq w v n f) (hb : ¬ (0 ≤ b ∧ b < n)) : Calls Try.prog 35 #[v, .int .i64 b, .bool t] w fun e w' => e = .returned (.int .i64 2) ∧ Below w.heap.size w w' := by
  have S : Hid (∀ w1 g, Below w.heap.size w w1 → Calls Try.prog 53 #[v, .int .i64 b, g] w1 fun e w' => e = .returned (.int .i64 2) ∧ w' = w1) := fun w1 g hw => change_no v n f w1 b g (h.below hw) hb
  have hmf : ∀ (fn : Fn) (first cap : Array Value) (w : World), (Instr.makeFunc fn first cap).run Try.prog w = .ok (.func fn first cap) w := fun _ _ _ _ => rfl
  clear h hb
  have t0 : (0 : Nat) = 0 := rfl
  go_enter Try.func35, Try.ntmps35
  go_wp2_with (first
    | (have qq := t1; go_at_call 53; refine (S.out w1 _ B1).mono ?_; rintro e w3 ⟨rfl, hw⟩; obtain rfl := hw.symm; clear t1)
    | (have qq := t0; refine box_law1 _ (.bool t) rfl rfl ?_; intro w1 X1 B1 l1; have c1 := X1.cell 0 _ rfl; clear X1 t0; have t1 : (0 : Nat) = 0 := rfl))
  go_ret
  exact ⟨rfl, B1⟩
theorem coun_yes (c d n k : Nat) (f : Nat → Bk) (s : Int) (w : World) (h : Led w c d n f) (hk : k < n) (hs : Sm (f k)) (h0 : -9223372036854775808 ≤ s) (h1 : s ≤ 1000000) : Calls Try.prog 37 #[pt c, .int .i64 k, .int .i64 s] w fun e w' => e = .returned (.int .i64 0) ∧ Led w' c d n (up f k (doB 7 s (f k))) ∧ w.grownBy w' (some d) := by
  have S : Hid (∀ w1, Below w.heap.size w w1 → Vr w1 w.heap.size [.int .i64 s] → Calls Try.prog 53 #[pt c, .int .i64 k, .func (.func 63) #[] #[pt w.heap.size]] w1 fun e w' => e = .returned (.int .i64 0) ∧ Led w' c d n (up f k (doB 7 s (f k))) ∧ w1.grownBy w' (some d)) := fun w1 hb hv =>
    change_yes c d n k f w1 (h.below hb) hk _ 63 #[pt w.heap.size] (fun _ _ => rfl) (count1 d (k * 9) (f k) w.heap.size s w1 ((h.below hb).2.1 k hk) (hv.cell 0 _ rfl) hs.2.2.1 hs.2.2.2.1 h0 h1)
  have hmf : ∀ (fn : Fn) (first cap : Array Value) (w : World), (Instr.makeFunc fn first cap).run Try.prog w = .ok (.func fn first cap) w := fun _ _ _ _ => rfl
  clear h hs
  have t0 : (0 : Nat) = 0 := rfl
  go_enter Try.func37, Try.ntmps37
  go_wp2_with (first
    | (have qq := t1; go_at_call 53; refine (S.out w1 B1 V1.out).mono ?_; rintro e w3 ⟨rfl, L3, G3⟩; clear t1)
    | (have qq := t0; refine box_law1 _ (.int .i64 s) rfl rfl ?_; intro w1 X1 B1 l1; have c1 := X1.cell 0 _ rfl; have V1 : Hid (Vr w1 w.heap.size [.int .i64 s]) := X1; clear X1 t0; have t1 : (0 : Nat) = 0 := rfl))
  go_ret
  exact ⟨rfl, L3, grown_trans (grown_below B1) G3⟩
theorem coun_no (v : Value) (n : Nat) (f : Nat → Bk) (b : Int) (s : Int) (w : World) (h : Lq w v n f) (hb : ¬ (0 ≤ b ∧ b < n)) : Calls Try.prog 37 #[v, .int .i64 b, .int .i64 s] w fun e w' => e = .returned (.int .i64 2) ∧ Below w.heap.size w w' := by
  have S : Hid (∀ w1 g, Below w.heap.size w w1 → Calls Try.prog 53 #[v, .int .i64 b, g] w1 fun e w' => e = .returned (.int .i64 2) ∧ w' = w1) := fun w1 g hw => change_no v n f w1 b g (h.below hw) hb
  have hmf : ∀ (fn : Fn) (first cap : Array Value) (w : World), (Instr.makeFunc fn first cap).run Try.prog w = .ok (.func fn first cap) w := fun _ _ _ _ => rfl
  clear h hb
  have t0 : (0 : Nat) = 0 := rfl
  go_enter Try.func37, Try.ntmps37
  go_wp2_with (first
    | (have qq := t1; go_at_call 53; refine (S.out w1 _ B1).mono ?_; rintro e w3 ⟨rfl, hw⟩; obtain rfl := hw.symm; clear t1)
    | (have qq := t0; refine box_law1 _ (.int .i64 s) rfl rfl ?_; intro w1 X1 B1 l1; have c1 := X1.cell 0 _ rfl; clear X1 t0; have t1 : (0 : Nat) = 0 := rfl))
  go_ret
  exact ⟨rfl, B1⟩
end Go.Proofs.Ytnmofigidlmcaaa.le
