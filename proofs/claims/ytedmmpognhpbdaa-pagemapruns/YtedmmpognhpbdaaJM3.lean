/- What pagemap's Move answers. No claim of its own. -/
import Derived.Test.YtedmmpognhpbdaaJM2
namespace Go.Proofs.Ytedmmpognhpbdaa.pm
open Go.RowKit Go.Proofs.Ytedmmpognhpbdaa.he
set_option maxRecDepth 20000

theorem lv_mv (p q : PL) (o : Hd) (y : Sp) : lv (mvL p q o y) = lv y := by
  unfold mvL mvS
  cases h : lv y with
  | false => simp [h]
  | true =>
    rw [if_pos rfl]
    by_cases e : y.p = p
    · rw [if_pos e]; exact h
    · rw [if_neg e]; exact h
theorem p_mv (p q : PL) (o : Hd) (y : Sp) (h : lv y = true) : (mvL p q o y).p = if y.p = p then q else y.p := by
  unfold mvL mvS
  rw [if_pos h]
  by_cases e : y.p = p
  · rw [if_pos e, if_pos e]
  · rw [if_neg e, if_neg e]
theorem cn1_more (f : Nat → Sp) (x : PL) (n : Nat) : cn1 f x (n + 1) = cn1 f x n + lc (f n) x := rfl
theorem lc_mv (p q : PL) (o : Hd) (y : Sp) (x : PL) (h : p ≠ q) : lc (mvL p q o y) x = if x = p then 0 else if x = q then lc y q + lc y p else lc y x := by
  unfold lc
  rw [lv_mv]
  cases hv : lv y with
  | false => simp
  | true =>
    rw [p_mv p q o y hv]
    simp only [Bool.true_and, decide_eq_true_eq]
    by_cases e : y.p = p
    · rw [if_pos e]
      by_cases e1 : x = p
      · rw [if_pos e1, if_neg (fun z => h (by rw [z, e1]))]
      · rw [if_neg e1]
        by_cases e2 : x = q
        · rw [if_pos e2, if_pos e2.symm, if_pos e, if_neg (fun z => h (e.symm.trans z))]; rfl
        · rw [if_neg e2, if_neg (Ne.symm e2), if_neg (fun z => e1 (z.symm.trans e))]
    · rw [if_neg e]
      by_cases e1 : x = p
      · rw [if_pos e1, if_neg (fun z => e (z.trans e1))]
      · rw [if_neg e1]
        by_cases e2 : x = q
        · rw [if_pos e2, if_neg e, e2]; simp
        · rw [if_neg e2]
theorem lc_mvs (p : PL) (o : Hd) (y : Sp) (x : PL) : lc (mvL p p o y) x = lc y x := by
  unfold lc
  rw [lv_mv]
  cases hv : lv y with
  | false => simp
  | true =>
    rw [p_mv p p o y hv]
    by_cases e : y.p = p
    · rw [if_pos e, e]
    · rw [if_neg e]
theorem cn1_mv (p q : PL) (o : Hd) (f : Nat → Sp) (N : Nat) (x : PL) (h : p ≠ q) : ∀ n, n ≤ N → cn1 (mvF p q o f N) x n = if x = p then 0 else if x = q then cn1 f q n + cn1 f p n else cn1 f x n
  | 0, _ => by simp [cn1]
  | n + 1, hn => by
    rw [cn1_more, cn1_mv p q o f N x h n (by omega), show mvF p q o f N n = mvL p q o (f n) by unfold mvF; rw [if_pos (by omega)], lc_mv p q o (f n) x h, cn1_more, cn1_more, cn1_more]
    by_cases e1 : x = p
    · simp [e1]
    · by_cases e2 : x = q
      · simp only [if_neg e1, if_pos e2]; omega
      · simp only [if_neg e1, if_neg e2]
theorem cn1_mvs (p : PL) (o : Hd) (f : Nat → Sp) (N : Nat) (x : PL) : ∀ n, n ≤ N → cn1 (mvF p p o f N) x n = cn1 f x n
  | 0, _ => rfl
  | n + 1, hn => by
    rw [cn1_more, cn1_mvs p o f N x n (by omega), show mvF p p o f N n = mvL p p o (f n) by unfold mvF; rw [if_pos (by omega)], lc_mvs, cn1_more]
theorem cnt_FF (p q : PL) (o : Hd) (f : Nat → Nat → Sp) (s : Nat → Nat) (x : PL) : cnt s (FF p q o f s 4) x = cn1 (mvF p q o (f 0) (s 0)) x (s 0) + cn1 (mvF p q o (f 1) (s 1)) x (s 1) + cn1 (mvF p q o (f 2) (s 2)) x (s 2) + cn1 (mvF p q o (f 3) (s 3)) x (s 3) := rfl
theorem cnt_mv (p q : PL) (o : Hd) (f : Nat → Nat → Sp) (s : Nat → Nat) (h : p = q ∨ cnt s f q = 0) : ud (ud (cnt s f) p 0) q (cnt s f p) = cnt s (FF p q o f s 4) := by
  funext x
  rw [cnt_FF]
  by_cases e : p = q
  · subst e
    rw [cn1_mvs _ _ _ _ _ _ (Nat.le_refl _), cn1_mvs _ _ _ _ _ _ (Nat.le_refl _), cn1_mvs _ _ _ _ _ _ (Nat.le_refl _), cn1_mvs _ _ _ _ _ _ (Nat.le_refl _)]
    unfold ud
    by_cases ex : x = p
    · rw [if_pos ex, ex]; rfl
    · rw [if_neg ex, if_neg ex]; rfl
  · have hq : cnt s f q = 0 := h.resolve_left e
    rw [cn1_mv _ _ _ _ _ _ e _ (Nat.le_refl _), cn1_mv _ _ _ _ _ _ e _ (Nat.le_refl _), cn1_mv _ _ _ _ _ _ e _ (Nat.le_refl _), cn1_mv _ _ _ _ _ _ e _ (Nat.le_refl _)]
    unfold ud
    by_cases e1 : x = p
    · rw [if_pos e1, if_pos e1, if_pos e1, if_pos e1, if_neg (fun z => e (e1.symm.trans z)), if_pos e1]; rfl
    · by_cases e2 : x = q
      · simp only [if_neg e1, if_pos e2]
        unfold cnt at hq ⊢
        omega
      · rw [if_neg e1, if_neg e1, if_neg e1, if_neg e1, if_neg e2, if_neg e2, if_neg e2, if_neg e2, if_neg e2, if_neg e1]; rfl
/-- where a Move stands behind each -/
structure Mo (w wr : World) (c b P R : Nat) (d s : Nat → Nat) (F : Nat → Nat → Sp) (g : PL → Int) (p r : PL) : Prop where
  m : Pm wr c d s F (some b) g
  p : wr.rangeAt P 0 (pc p)
  r : wr.rangeAt R 0 (pc r)
  ch : Ch (Own4 c d s (some b)) w wr
  own : b ≠ P ∧ b ≠ R
section
variable {w wr w' : World} {c b P R : Nat} {d s : Nat → Nat} {F : Nat → Nat → Sp} {g g' : PL → Int} {p r : PL}
theorem Mo.mp (h : Mo w wr c b P R d s F g p r) (hg : wr.grownBy w' (some b)) (hM : Mp w' b g') : Mo w w' c b P R d s F g' p r :=
  ⟨h.m.mp hg hM, range_heap h.p (hg.block P (range_lt h.p (Nat.succ_pos _)) (fun e => h.own.1 (Option.some.inj e).symm)), range_heap h.r (hg.block R (range_lt h.r (Nat.succ_pos _)) (fun e => h.own.2 (Option.some.inj e).symm)), h.ch.trans (Ch.of_grown hg (.inr (.inr rfl))), h.own⟩
theorem Mo.below (h : Mo w wr c b P R d s F g p r) (hb : Below wr.heap.size wr w') : Mo w w' c b P R d s F g p r :=
  ⟨h.m.below hb, range_heap h.p (hb.block P (range_lt h.p (Nat.succ_pos _))), range_heap h.r (hb.block R (range_lt h.r (Nat.succ_pos _))), h.ch.trans (Ch.of_below hb), h.own⟩
end
set_option maxHeartbeats 4000000 in
theorem move_busy (c : Nat) (rb : Option Nat) (d s : Nat → Nat) (f : Nat → Nat → Sp) (g : PL → Int) (p q : PL) (o : Hd) (w : World) (hm : Pm w c d s f rb g) (hpq : p ≠ q) (hq : 0 < g q) : Calls Try.prog 24 #[pt c, .agg (pc p).toArray, .agg (pc q).toArray, .agg o.cs.toArray] w fun e w' => e = .returned (.int .i64 2) ∧ Below w.heap.size w w' := by
  have RQ : Hid (∀ W, Below w.heap.size w W → Calls Try.prog 11 #[pt c, .agg (pc q).toArray] W fun e w' => e = .returned (.int .i64 (g q)) ∧ Below W.heap.size W w') := fun W hW => refs_any (pt c) d s f g q W (.inr ⟨c, rb, rfl, hm.below hW⟩)
  have eq : ∀ W : World, (Op.equalIn 10000 31 (.agg (pc q).toArray) (.agg (pc p).toArray)).run Try.prog W = .ok false W := fun W => (run_equal q p W).trans (by rw [decide_eq_false (Ne.symm hpq)])
  have gd : Try.prog.eqGuardType Try.prog.depth 31 = false := by kernel_rfl
  generalize g q = gq at RQ hq
  have d1 : decide (gq > 0) = true := decide_eq_true hq
  clear hm hpq hq
  have t0 : (0 : Nat) = 0 := rfl
  go_enter Try.func24, Try.ntmps24
  go_wp2_with (first
    | (have qq := t6; go_at_call 11; refine (RQ.out _ BB.out).mono ?_; rintro e w4 ⟨rfl, B9⟩; have VP : Hid (Vr w4 w.heap.size (pc p)) := VP.out.below B9 (range_lt VP.out.1 (Nat.succ_pos _)); have VR : Hid (Vr w4 w1.heap.size (pc q)) := VR.out.below B9 (range_lt VR.out.1 (Nat.succ_pos _)); have VH : Hid (Vr w4 w2.heap.size o.cs) := VH.out.below B9 (range_lt VH.out.1 (Nat.succ_pos _)); have BB : Hid (Below w.heap.size w w4) := BB.out.trans (B9.mono BB.out.size); clear B9 t6; have t7 : (0 : Nat) = 0 := rfl)
    | (have qq := t5; refine load_law _ (by rfl) 31 (.tmp 6) rfl w1.heap.size 0 (pc q) rfl rowy_place VR.out.1 ?_; clear t5; have t6 : (0 : Nat) = 0 := rfl)
    | (have qq := t4; refine load_law _ (by rfl) 31 (.tmp 5) rfl w.heap.size 0 (pc p) rfl rowy_place VP.out.1 ?_; clear t4; have t5 : (0 : Nat) = 0 := rfl)
    | (have qq := t3; refine load_law _ (by rfl) 31 (.tmp 6) rfl w1.heap.size 0 (pc q) rfl rowy_place VR.out.1 ?_; clear t3; have t4 : (0 : Nat) = 0 := rfl)
    | (have qq := t2; refine box_lawC _ o.cs rfl ?_; intro w3 X9 B9 _; have VH : Hid (Vr w3 w2.heap.size o.cs) := X9; have VP : Hid (Vr w3 w.heap.size (pc p)) := VP.out.below B9 (range_lt VP.out.1 (Nat.succ_pos _)); have VR : Hid (Vr w3 w1.heap.size (pc q)) := VR.out.below B9 (range_lt VR.out.1 (Nat.succ_pos _)); have BB : Hid (Below w.heap.size w w3) := BB.out.trans (B9.mono BB.out.size); clear X9 B9 t2; have t3 : (0 : Nat) = 0 := rfl)
    | (have qq := t1; refine box_lawC _ (pc q) rfl ?_; intro w2 X9 B9 _; have VR : Hid (Vr w2 w1.heap.size (pc q)) := X9; have VP : Hid (Vr w2 w.heap.size (pc p)) := VP.out.below B9 (range_lt VP.out.1 (Nat.succ_pos _)); have BB : Hid (Below w.heap.size w w2) := BB.out.trans (B9.mono BB.out.size); clear X9 B9 t1; have t2 : (0 : Nat) = 0 := rfl)
    | (have qq := t0; refine box_lawC _ (pc p) rfl ?_; intro w1 X9 B9 _; have VP : Hid (Vr w1 w.heap.size (pc p)) := X9; have BB : Hid (Below w.heap.size w w1) := B9; clear X9 B9 t0; have t1 : (0 : Nat) = 0 := rfl))
  go_ret
  exact ⟨rfl, BB.out⟩
set_option maxHeartbeats 4000000 in
theorem move_zero1 (c : Nat) (rb : Option Nat) (d s : Nat → Nat) (f : Nat → Nat → Sp) (g : PL → Int) (p q : PL) (o : Hd) (w : World) (hm : Pm w c d s f rb g) (hpq : p ≠ q) (hq : ¬ 0 < g q) (hp : g p = 0) : Calls Try.prog 24 #[pt c, .agg (pc p).toArray, .agg (pc q).toArray, .agg o.cs.toArray] w fun e w' => e = .returned (.int .i64 0) ∧ Below w.heap.size w w' := by
  have RQ : Hid (∀ W, Below w.heap.size w W → Calls Try.prog 11 #[pt c, .agg (pc q).toArray] W fun e w' => e = .returned (.int .i64 (g q)) ∧ Below W.heap.size W w') := fun W hW => refs_any (pt c) d s f g q W (.inr ⟨c, rb, rfl, hm.below hW⟩)
  have RP : Hid (∀ W, Below w.heap.size w W → Calls Try.prog 11 #[pt c, .agg (pc p).toArray] W fun e w' => e = .returned (.int .i64 (g p)) ∧ Below W.heap.size W w') := fun W hW => refs_any (pt c) d s f g p W (.inr ⟨c, rb, rfl, hm.below hW⟩)
  have eq : ∀ W : World, (Op.equalIn 10000 31 (.agg (pc q).toArray) (.agg (pc p).toArray)).run Try.prog W = .ok false W := fun W => (run_equal q p W).trans (by rw [decide_eq_false (Ne.symm hpq)])
  have gd : Try.prog.eqGuardType Try.prog.depth 31 = false := by kernel_rfl
  generalize g q = gq at RQ hq
  have d1 : decide (gq > 0) = false := decide_eq_false hq
  rw [hp] at RP
  clear hm hpq hp hq
  have t0 : (0 : Nat) = 0 := rfl
  go_enter Try.func24, Try.ntmps24
  go_wp2_with (first
    | (have qq := t8; go_at_call 11; refine (RP.out _ BB.out).mono ?_; rintro e w5 ⟨rfl, B9⟩; have VP : Hid (Vr w5 w.heap.size (pc p)) := VP.out.below B9 (range_lt VP.out.1 (Nat.succ_pos _)); have VR : Hid (Vr w5 w1.heap.size (pc q)) := VR.out.below B9 (range_lt VR.out.1 (Nat.succ_pos _)); have VH : Hid (Vr w5 w2.heap.size o.cs) := VH.out.below B9 (range_lt VH.out.1 (Nat.succ_pos _)); have BB : Hid (Below w.heap.size w w5) := BB.out.trans (B9.mono BB.out.size); clear B9 t8; have t9 : (0 : Nat) = 0 := rfl)
    | (have qq := t7; refine load_law _ (by rfl) 31 (.tmp 5) rfl w.heap.size 0 (pc p) rfl rowy_place VP.out.1 ?_; clear t7; have t8 : (0 : Nat) = 0 := rfl)
    | (have qq := t6; go_at_call 11; refine (RQ.out _ BB.out).mono ?_; rintro e w4 ⟨rfl, B9⟩; have VP : Hid (Vr w4 w.heap.size (pc p)) := VP.out.below B9 (range_lt VP.out.1 (Nat.succ_pos _)); have VR : Hid (Vr w4 w1.heap.size (pc q)) := VR.out.below B9 (range_lt VR.out.1 (Nat.succ_pos _)); have VH : Hid (Vr w4 w2.heap.size o.cs) := VH.out.below B9 (range_lt VH.out.1 (Nat.succ_pos _)); have BB : Hid (Below w.heap.size w w4) := BB.out.trans (B9.mono BB.out.size); clear B9 t6; have t7 : (0 : Nat) = 0 := rfl)
    | (have qq := t5; refine load_law _ (by rfl) 31 (.tmp 6) rfl w1.heap.size 0 (pc q) rfl rowy_place VR.out.1 ?_; clear t5; have t6 : (0 : Nat) = 0 := rfl)
    | (have qq := t4; refine load_law _ (by rfl) 31 (.tmp 5) rfl w.heap.size 0 (pc p) rfl rowy_place VP.out.1 ?_; clear t4; have t5 : (0 : Nat) = 0 := rfl)
    | (have qq := t3; refine load_law _ (by rfl) 31 (.tmp 6) rfl w1.heap.size 0 (pc q) rfl rowy_place VR.out.1 ?_; clear t3; have t4 : (0 : Nat) = 0 := rfl)
    | (have qq := t2; refine box_lawC _ o.cs rfl ?_; intro w3 X9 B9 _; have VH : Hid (Vr w3 w2.heap.size o.cs) := X9; have VP : Hid (Vr w3 w.heap.size (pc p)) := VP.out.below B9 (range_lt VP.out.1 (Nat.succ_pos _)); have VR : Hid (Vr w3 w1.heap.size (pc q)) := VR.out.below B9 (range_lt VR.out.1 (Nat.succ_pos _)); have BB : Hid (Below w.heap.size w w3) := BB.out.trans (B9.mono BB.out.size); clear X9 B9 t2; have t3 : (0 : Nat) = 0 := rfl)
    | (have qq := t1; refine box_lawC _ (pc q) rfl ?_; intro w2 X9 B9 _; have VR : Hid (Vr w2 w1.heap.size (pc q)) := X9; have VP : Hid (Vr w2 w.heap.size (pc p)) := VP.out.below B9 (range_lt VP.out.1 (Nat.succ_pos _)); have BB : Hid (Below w.heap.size w w2) := BB.out.trans (B9.mono BB.out.size); clear X9 B9 t1; have t2 : (0 : Nat) = 0 := rfl)
    | (have qq := t0; refine box_lawC _ (pc p) rfl ?_; intro w1 X9 B9 _; have VP : Hid (Vr w1 w.heap.size (pc p)) := X9; have BB : Hid (Below w.heap.size w w1) := B9; clear X9 B9 t0; have t1 : (0 : Nat) = 0 := rfl))
  go_ret
  exact ⟨rfl, BB.out⟩
set_option maxHeartbeats 4000000 in
theorem move_zero2 (c : Nat) (rb : Option Nat) (d s : Nat → Nat) (f : Nat → Nat → Sp) (g : PL → Int) (p q : PL) (o : Hd) (w : World) (hm : Pm w c d s f rb g) (hpq : q = p) (hp : g p = 0) : Calls Try.prog 24 #[pt c, .agg (pc p).toArray, .agg (pc q).toArray, .agg o.cs.toArray] w fun e w' => e = .returned (.int .i64 0) ∧ Below w.heap.size w w' := by
  have RP : Hid (∀ W, Below w.heap.size w W → Calls Try.prog 11 #[pt c, .agg (pc p).toArray] W fun e w' => e = .returned (.int .i64 (g p)) ∧ Below W.heap.size W w') := fun W hW => refs_any (pt c) d s f g p W (.inr ⟨c, rb, rfl, hm.below hW⟩)
  have eq : ∀ W : World, (Op.equalIn 10000 31 (.agg (pc q).toArray) (.agg (pc p).toArray)).run Try.prog W = .ok true W := fun W => (run_equal q p W).trans (by rw [decide_eq_true hpq])
  have gd : Try.prog.eqGuardType Try.prog.depth 31 = false := by kernel_rfl
  rw [hp] at RP
  clear hm hpq hp
  have t0 : (0 : Nat) = 0 := rfl
  go_enter Try.func24, Try.ntmps24
  go_wp2_with (first
    | (have qq := t8; go_at_call 11; refine (RP.out _ BB.out).mono ?_; rintro e w5 ⟨rfl, B9⟩; have VP : Hid (Vr w5 w.heap.size (pc p)) := VP.out.below B9 (range_lt VP.out.1 (Nat.succ_pos _)); have VR : Hid (Vr w5 w1.heap.size (pc q)) := VR.out.below B9 (range_lt VR.out.1 (Nat.succ_pos _)); have VH : Hid (Vr w5 w2.heap.size o.cs) := VH.out.below B9 (range_lt VH.out.1 (Nat.succ_pos _)); have BB : Hid (Below w.heap.size w w5) := BB.out.trans (B9.mono BB.out.size); clear B9 t8; have t9 : (0 : Nat) = 0 := rfl)
    | (have qq := t5; refine load_law _ (by rfl) 31 (.tmp 5) rfl w.heap.size 0 (pc p) rfl rowy_place VP.out.1 ?_; clear t5; have t8 : (0 : Nat) = 0 := rfl)
    | (have qq := t4; refine load_law _ (by rfl) 31 (.tmp 5) rfl w.heap.size 0 (pc p) rfl rowy_place VP.out.1 ?_; clear t4; have t5 : (0 : Nat) = 0 := rfl)
    | (have qq := t3; refine load_law _ (by rfl) 31 (.tmp 6) rfl w1.heap.size 0 (pc q) rfl rowy_place VR.out.1 ?_; clear t3; have t4 : (0 : Nat) = 0 := rfl)
    | (have qq := t2; refine box_lawC _ o.cs rfl ?_; intro w3 X9 B9 _; have VH : Hid (Vr w3 w2.heap.size o.cs) := X9; have VP : Hid (Vr w3 w.heap.size (pc p)) := VP.out.below B9 (range_lt VP.out.1 (Nat.succ_pos _)); have VR : Hid (Vr w3 w1.heap.size (pc q)) := VR.out.below B9 (range_lt VR.out.1 (Nat.succ_pos _)); have BB : Hid (Below w.heap.size w w3) := BB.out.trans (B9.mono BB.out.size); clear X9 B9 t2; have t3 : (0 : Nat) = 0 := rfl)
    | (have qq := t1; refine box_lawC _ (pc q) rfl ?_; intro w2 X9 B9 _; have VR : Hid (Vr w2 w1.heap.size (pc q)) := X9; have VP : Hid (Vr w2 w.heap.size (pc p)) := VP.out.below B9 (range_lt VP.out.1 (Nat.succ_pos _)); have BB : Hid (Below w.heap.size w w2) := BB.out.trans (B9.mono BB.out.size); clear X9 B9 t1; have t2 : (0 : Nat) = 0 := rfl)
    | (have qq := t0; refine box_lawC _ (pc p) rfl ?_; intro w1 X9 B9 _; have VP : Hid (Vr w1 w.heap.size (pc p)) := X9; have BB : Hid (Below w.heap.size w w1) := B9; clear X9 B9 t0; have t1 : (0 : Nat) = 0 := rfl))
  go_ret
  exact ⟨rfl, BB.out⟩
set_option maxHeartbeats 8000000 in
theorem move_yes1 (c b : Nat) (d s : Nat → Nat) (f : Nat → Nat → Sp) (p q : PL) (o : Hd) (w : World) (hm : Pm w c d s f (some b) (cnt s f)) (hz : ∀ j, j < 4 → s j ≤ 65535) (hpq : p ≠ q) (hq : ¬ 0 < cnt s f q) (hp : ¬ cnt s f p = 0) : Calls Try.prog 24 #[pt c, .agg (pc p).toArray, .agg (pc q).toArray, .agg o.cs.toArray] w fun e w' => e = .returned (.int .i64 0) ∧ Pm w' c d s (FF p q o f s 4) (some b) (cnt s (FF p q o f s 4)) ∧ Ch (Own4 c d s (some b)) w w' := by
  have RQ : Hid (∀ W, Below w.heap.size w W → Calls Try.prog 11 #[pt c, .agg (pc q).toArray] W fun e w' => e = .returned (.int .i64 (cnt s f q)) ∧ Below W.heap.size W w') := fun W hW => refs_any (pt c) d s f (cnt s f) q W (.inr ⟨c, some b, rfl, hm.below hW⟩)
  have RP : Hid (∀ W, Below w.heap.size w W → Calls Try.prog 11 #[pt c, .agg (pc p).toArray] W fun e w' => e = .returned (.int .i64 (cnt s f p)) ∧ Below W.heap.size W w') := fun W hW => refs_any (pt c) d s f (cnt s f) p W (.inr ⟨c, some b, rfl, hm.below hW⟩)
  have eq : ∀ W : World, (Op.equalIn 10000 31 (.agg (pc q).toArray) (.agg (pc p).toArray)).run Try.prog W = .ok false W := fun W => (run_equal q p W).trans (by rw [decide_eq_false (Ne.symm hpq)])
  have gd : Try.prog.eqGuardType Try.prog.depth 31 = false := by kernel_rfl
  have HM : Hid (Pm w c d s f (some b) (cnt s f)) := hm
  have HZ : Hid (∀ j, j < 4 → s j ≤ 65535) := hz
  have GE : Hid (ud (ud (cnt s f) p 0) q (cnt s f p) = cnt s (FF p q o f s 4)) := cnt_mv p q o f s (.inr (by have := (cnt_le hz f q).1; omega))
  generalize hgq : cnt s f q = gq at RQ hq
  clear hgq
  have d1 : decide (gq > 0) = false := decide_eq_false hq
  generalize hgp : cnt s f p = gp at RP hp GE
  have d2 : decide (gp = 0) = false := decide_eq_false hp
  have d3 : (gp == 0) = false := beq_eq_false_iff_ne.2 hp
  clear hm hz hpq hp hgp hq
  have t0 : (0 : Nat) = 0 := rfl
  go_enter Try.func24, Try.ntmps24
  go_wp2_with (first
    | (have qq := t9; go_at_call 34; refine (each_any c b w.heap.size w1.heap.size w2.heap.size d s f (cnt s f) p q o _ (HM.out.below BB.out) VP.out.1 VR.out.1 VH.out.1 (fun k hk => by have h9 := HM.out.olt hk; have := LO.out; exact ⟨by omega, by omega, by omega⟩) HZ.out).mono ?_; rintro e w6 ⟨rfl, E9⟩; have HE : Hid (Ev w5 w6 c b w.heap.size w1.heap.size w2.heap.size d s (FF p q o f s 4) (cnt s f) p q o) := E9; clear E9 t9)
    | (have qq := t8; go_at_call 11; refine (RP.out _ BB.out).mono ?_; rintro e w5 ⟨rfl, B9⟩; have VP : Hid (Vr w5 w.heap.size (pc p)) := VP.out.below B9 (range_lt VP.out.1 (Nat.succ_pos _)); have VR : Hid (Vr w5 w1.heap.size (pc q)) := VR.out.below B9 (range_lt VR.out.1 (Nat.succ_pos _)); have VH : Hid (Vr w5 w2.heap.size o.cs) := VH.out.below B9 (range_lt VH.out.1 (Nat.succ_pos _)); have BB : Hid (Below w.heap.size w w5) := BB.out.trans (B9.mono BB.out.size); have hmf : ∀ W, (Instr.makeFunc (.func 49) #[] #[pt w.heap.size, pt w1.heap.size, pt w2.heap.size]).run Try.prog W = .ok (.func (.func 49) #[] #[pt w.heap.size, pt w1.heap.size, pt w2.heap.size]) W := (fun _ => rfl); clear B9 t8; have t9 : (0 : Nat) = 0 := rfl)
    | (have qq := t7; refine load_law _ (by rfl) 31 (.tmp 5) rfl w.heap.size 0 (pc p) rfl rowy_place VP.out.1 ?_; clear t7; have t8 : (0 : Nat) = 0 := rfl)
    | (have qq := t6; go_at_call 11; refine (RQ.out _ BB.out).mono ?_; rintro e w4 ⟨rfl, B9⟩; have VP : Hid (Vr w4 w.heap.size (pc p)) := VP.out.below B9 (range_lt VP.out.1 (Nat.succ_pos _)); have VR : Hid (Vr w4 w1.heap.size (pc q)) := VR.out.below B9 (range_lt VR.out.1 (Nat.succ_pos _)); have VH : Hid (Vr w4 w2.heap.size o.cs) := VH.out.below B9 (range_lt VH.out.1 (Nat.succ_pos _)); have BB : Hid (Below w.heap.size w w4) := BB.out.trans (B9.mono BB.out.size); clear B9 t6; have t7 : (0 : Nat) = 0 := rfl)
    | (have qq := t5; refine load_law _ (by rfl) 31 (.tmp 6) rfl w1.heap.size 0 (pc q) rfl rowy_place VR.out.1 ?_; clear t5; have t6 : (0 : Nat) = 0 := rfl)
    | (have qq := t4; refine load_law _ (by rfl) 31 (.tmp 5) rfl w.heap.size 0 (pc p) rfl rowy_place VP.out.1 ?_; clear t4; have t5 : (0 : Nat) = 0 := rfl)
    | (have qq := t3; refine load_law _ (by rfl) 31 (.tmp 6) rfl w1.heap.size 0 (pc q) rfl rowy_place VR.out.1 ?_; clear t3; have t4 : (0 : Nat) = 0 := rfl)
    | (have qq := t2; refine box_lawC _ o.cs rfl ?_; intro w3 X9 B9 _; have VH : Hid (Vr w3 w2.heap.size o.cs) := X9; have LO : Hid (w.heap.size < w2.heap.size ∧ w.heap.size ≤ w1.heap.size) := ⟨range_lt VP.out.1 (Nat.succ_pos _), L1.out⟩; have VP : Hid (Vr w3 w.heap.size (pc p)) := VP.out.below B9 (range_lt VP.out.1 (Nat.succ_pos _)); have VR : Hid (Vr w3 w1.heap.size (pc q)) := VR.out.below B9 (range_lt VR.out.1 (Nat.succ_pos _)); have BB : Hid (Below w.heap.size w w3) := BB.out.trans (B9.mono BB.out.size); clear X9 B9 t2; have t3 : (0 : Nat) = 0 := rfl)
    | (have qq := t1; refine box_lawC _ (pc q) rfl ?_; intro w2 X9 B9 _; have VR : Hid (Vr w2 w1.heap.size (pc q)) := X9; have VP : Hid (Vr w2 w.heap.size (pc p)) := VP.out.below B9 (range_lt VP.out.1 (Nat.succ_pos _)); have BB : Hid (Below w.heap.size w w2) := BB.out.trans (B9.mono BB.out.size); clear X9 B9 t1; have t2 : (0 : Nat) = 0 := rfl)
    | (have qq := t0; refine box_lawC _ (pc p) rfl ?_; intro w1 X9 B9 _; have VP : Hid (Vr w1 w.heap.size (pc p)) := X9; have BB : Hid (Below w.heap.size w w1) := B9; have L1 : Hid (w.heap.size ≤ w1.heap.size) := B9.size; clear X9 B9 t0; have t1 : (0 : Nat) = 0 := rfl))
  have HO : Hid (Mo w w6 c b w.heap.size w1.heap.size d s (FF p q o f s 4) (cnt s f) p q) := ⟨HE.out.m, HE.out.p, HE.out.r, (Ch.of_below BB.out).join HE.out.ch (fun k _ ⟨j, h1, h2, h3⟩ => .inr (.inl ⟨j, h1, h2, h3⟩)), (HE.out.own b (.inr (.inr rfl))).1, (HE.out.own b (.inr (.inr rfl))).2.1⟩
  clear HE VP VR VH BB HM
  go_wp2
  have HO : Hid (Mo w w6.drew c b w.heap.size w1.heap.size d s (FF p q o f s 4) (cnt s f) p q) := HO.out.below (below_dr (Below.refl _ _) 1)
  refine wp_region_held_drew (S := fun w' => w'.cell? ⟨c, 4, none⟩ = some (.map (some b)) ∧ w'.rangeAt w.heap.size 0 (pc p) ∧ w'.rangeAt w1.heap.size 0 (pc q)) (by kernel_rfl) ⟨HO.out.m.v.cell 4 _ rfl, HO.out.p, HO.out.r⟩ (fun hS => ?_)
  obtain ⟨z1, hx0⟩ : ∃ x, x = w6.drew := ⟨_, rfl⟩
  rw [← hx0] at hS HO ⊢
  clear hx0
  refine take_lawH 0 (some 31) (.pointer (some ⟨c, 0, none⟩)) rfl rfl (by kernel_rfl) (by kernel_rfl) (by kernel_rfl) (fun _ _ _ h => h) (Or.inl ⟨by rfl, fun w' hw' => by rfl⟩) hS ?_
  simp only [Act.put, List.setIfInBounds_toArray, List.set_cons_zero, List.set_cons_succ]
  refine take_lawH 1 (some 32) (.pointer (some ⟨c, 0, none⟩)) rfl rfl (by kernel_rfl) (by kernel_rfl) (by kernel_rfl) (fun _ _ _ h => h) (Or.inl ⟨by rfl, fun w' hw' => by go_simp⟩) hS ?_
  simp only [Act.put, List.setIfInBounds_toArray, List.set_cons_zero, List.set_cons_succ]
  refine take_lawH 2 (some 33) (.pointer (some ⟨c, 4, none⟩)) rfl rfl (by kernel_rfl) (by kernel_rfl) (by kernel_rfl) (fun _ _ _ h => h) (Or.inl ⟨by rfl, fun w' hw' => by go_simp⟩) hS ?_
  simp only [Act.put, List.setIfInBounds_toArray, List.set_cons_zero, List.set_cons_succ]
  refine take_lawH 3 (some 34) (.map (some b)) rfl rfl (by kernel_rfl) (by kernel_rfl) (by kernel_rfl) (fun _ _ _ h => h) (Or.inl ⟨by rfl, fun w' hw' => by exact exec_loadN 69 (.tmp 33) rfl _ rfl _ _ (load_map hw'.1)⟩) hS ?_
  simp only [Act.put, List.setIfInBounds_toArray, List.set_cons_zero, List.set_cons_succ]
  refine take_lawH 4 (some 35) (.agg (pc p).toArray) rfl rfl (by kernel_rfl) (by kernel_rfl) (by kernel_rfl) (fun _ _ _ h => h) (Or.inl ⟨by rfl, fun w' hw' => by exact exec_loadN 31 (.tmp 5) rfl _ rfl _ _ (load_cells rowy_place hw'.2.1)⟩) hS ?_
  simp only [Act.put, List.setIfInBounds_toArray, List.set_cons_zero, List.set_cons_succ]
  refine wpAnyH_ready (rs := [5]) (by kernel_rfl) (by simp) ?_
  refine AllReadyH.cons rfl (fun K hK => ?_) AllReadyH.nil
  refine step_delete z1 rfl none rfl (.tmp 34) (.tmp 35) rfl b (cnt s f) p rfl rfl (HO.out.m.m b rfl) ?_
  intro z2 G9 M9
  have HO : Hid (Mo w z2 c b w.heap.size w1.heap.size d s (FF p q o f s 4) (ud (cnt s f) p 0) p q) := HO.out.mp G9 M9
  have hS : z2.cell? ⟨c, 4, none⟩ = some (.map (some b)) ∧ z2.rangeAt w.heap.size 0 (pc p) ∧ z2.rangeAt w1.heap.size 0 (pc q) := ⟨HO.out.m.v.cell 4 _ rfl, HO.out.p, HO.out.r⟩
  clear G9 M9
  refine hK.out _ _ hS (fun _ => ?_)
  simp only [Act.put]
  clear hK K
  refine wpAnyH_done (by kernel_rfl) ?_ _
  go_wp2
  have HO : Hid (Mo w z2.drew c b w.heap.size w1.heap.size d s (FF p q o f s 4) (ud (cnt s f) p 0) p q) := HO.out.below (below_dr (Below.refl _ _) 1)
  refine wp_region_held_drew (S := fun w' => w'.cell? ⟨c, 4, none⟩ = some (.map (some b)) ∧ w'.rangeAt w.heap.size 0 (pc p) ∧ w'.rangeAt w1.heap.size 0 (pc q)) (by kernel_rfl) ⟨HO.out.m.v.cell 4 _ rfl, HO.out.p, HO.out.r⟩ (fun hS => ?_)
  obtain ⟨y1, hx0⟩ : ∃ x, x = z2.drew := ⟨_, rfl⟩
  rw [← hx0] at hS HO ⊢
  clear hx0
  refine take_lawH 0 (some 36) (.pointer (some ⟨c, 0, none⟩)) rfl rfl (by kernel_rfl) (by kernel_rfl) (by kernel_rfl) (fun _ _ _ h => h) (Or.inl ⟨by rfl, fun w' hw' => by rfl⟩) hS ?_
  simp only [Act.put, List.setIfInBounds_toArray, List.set_cons_zero, List.set_cons_succ]
  refine take_lawH 1 (some 37) (.pointer (some ⟨c, 0, none⟩)) rfl rfl (by kernel_rfl) (by kernel_rfl) (by kernel_rfl) (fun _ _ _ h => h) (Or.inl ⟨by rfl, fun w' hw' => by go_simp⟩) hS ?_
  simp only [Act.put, List.setIfInBounds_toArray, List.set_cons_zero, List.set_cons_succ]
  refine take_lawH 2 (some 38) (.pointer (some ⟨c, 4, none⟩)) rfl rfl (by kernel_rfl) (by kernel_rfl) (by kernel_rfl) (fun _ _ _ h => h) (Or.inl ⟨by rfl, fun w' hw' => by go_simp⟩) hS ?_
  simp only [Act.put, List.setIfInBounds_toArray, List.set_cons_zero, List.set_cons_succ]
  refine take_lawH 3 (some 39) (.map (some b)) rfl rfl (by kernel_rfl) (by kernel_rfl) (by kernel_rfl) (fun _ _ _ h => h) (Or.inl ⟨by rfl, fun w' hw' => by exact exec_loadN 69 (.tmp 38) rfl _ rfl _ _ (load_map hw'.1)⟩) hS ?_
  simp only [Act.put, List.setIfInBounds_toArray, List.set_cons_zero, List.set_cons_succ]
  refine take_lawH 4 (some 40) (.agg (pc q).toArray) rfl rfl (by kernel_rfl) (by kernel_rfl) (by kernel_rfl) (fun _ _ _ h => h) (Or.inl ⟨by rfl, fun w' hw' => by exact exec_loadN 31 (.tmp 6) rfl _ rfl _ _ (load_cells rowy_place hw'.2.2)⟩) hS ?_
  simp only [Act.put, List.setIfInBounds_toArray, List.set_cons_zero, List.set_cons_succ]
  refine take_lawH 5 (some 41) (.int .i64 gp) rfl rfl (by kernel_rfl) (by kernel_rfl) (by kernel_rfl) (fun _ _ _ h => h) (Or.inl ⟨by rfl, fun w' hw' => by rfl⟩) hS ?_
  simp only [Act.put, List.setIfInBounds_toArray, List.set_cons_zero, List.set_cons_succ]
  refine wpAnyH_ready (rs := [6]) (by kernel_rfl) (by simp) ?_
  refine AllReadyH.cons rfl (fun K hK => ?_) AllReadyH.nil
  refine step_update y1 rfl none rfl (.tmp 39) (.tmp 40) (.tmp 41) rfl b (ud (cnt s f) p 0) q gp rfl rfl rfl (HO.out.m.m b rfl) ?_
  intro y2 G9 M9
  have HO : Hid (Mo w y2 c b w.heap.size w1.heap.size d s (FF p q o f s 4) (ud (ud (cnt s f) p 0) q gp) p q) := HO.out.mp G9 M9
  have hS : y2.cell? ⟨c, 4, none⟩ = some (.map (some b)) ∧ y2.rangeAt w.heap.size 0 (pc p) ∧ y2.rangeAt w1.heap.size 0 (pc q) := ⟨HO.out.m.v.cell 4 _ rfl, HO.out.p, HO.out.r⟩
  clear G9 M9
  refine hK.out _ _ hS (fun _ => ?_)
  simp only [Act.put]
  clear hK K
  refine wpAnyH_done (by kernel_rfl) ?_ _
  go_wp2
  go_ret
  exact ⟨rfl, by rw [GE.out] at HO; exact HO.out.m, HO.out.ch⟩
set_option maxHeartbeats 8000000 in
theorem move_yes2 (c b : Nat) (d s : Nat → Nat) (f : Nat → Nat → Sp) (p q : PL) (o : Hd) (w : World) (hm : Pm w c d s f (some b) (cnt s f)) (hz : ∀ j, j < 4 → s j ≤ 65535) (hpq : q = p) (hp : ¬ cnt s f p = 0) : Calls Try.prog 24 #[pt c, .agg (pc p).toArray, .agg (pc q).toArray, .agg o.cs.toArray] w fun e w' => e = .returned (.int .i64 0) ∧ Pm w' c d s (FF p q o f s 4) (some b) (cnt s (FF p q o f s 4)) ∧ Ch (Own4 c d s (some b)) w w' := by
  have RP : Hid (∀ W, Below w.heap.size w W → Calls Try.prog 11 #[pt c, .agg (pc p).toArray] W fun e w' => e = .returned (.int .i64 (cnt s f p)) ∧ Below W.heap.size W w') := fun W hW => refs_any (pt c) d s f (cnt s f) p W (.inr ⟨c, some b, rfl, hm.below hW⟩)
  have eq : ∀ W : World, (Op.equalIn 10000 31 (.agg (pc q).toArray) (.agg (pc p).toArray)).run Try.prog W = .ok true W := fun W => (run_equal q p W).trans (by rw [decide_eq_true hpq])
  have gd : Try.prog.eqGuardType Try.prog.depth 31 = false := by kernel_rfl
  have HM : Hid (Pm w c d s f (some b) (cnt s f)) := hm
  have HZ : Hid (∀ j, j < 4 → s j ≤ 65535) := hz
  have GE : Hid (ud (ud (cnt s f) p 0) q (cnt s f p) = cnt s (FF p q o f s 4)) := cnt_mv p q o f s (.inl hpq.symm)
  generalize hgp : cnt s f p = gp at RP hp GE
  have d2 : decide (gp = 0) = false := decide_eq_false hp
  have d3 : (gp == 0) = false := beq_eq_false_iff_ne.2 hp
  clear hm hz hpq hp hgp
  have t0 : (0 : Nat) = 0 := rfl
  go_enter Try.func24, Try.ntmps24
  go_wp2_with (first
    | (have qq := t9; go_at_call 34; refine (each_any c b w.heap.size w1.heap.size w2.heap.size d s f (cnt s f) p q o _ (HM.out.below BB.out) VP.out.1 VR.out.1 VH.out.1 (fun k hk => by have h9 := HM.out.olt hk; have := LO.out; exact ⟨by omega, by omega, by omega⟩) HZ.out).mono ?_; rintro e w6 ⟨rfl, E9⟩; have HE : Hid (Ev w5 w6 c b w.heap.size w1.heap.size w2.heap.size d s (FF p q o f s 4) (cnt s f) p q o) := E9; clear E9 t9)
    | (have qq := t8; go_at_call 11; refine (RP.out _ BB.out).mono ?_; rintro e w5 ⟨rfl, B9⟩; have VP : Hid (Vr w5 w.heap.size (pc p)) := VP.out.below B9 (range_lt VP.out.1 (Nat.succ_pos _)); have VR : Hid (Vr w5 w1.heap.size (pc q)) := VR.out.below B9 (range_lt VR.out.1 (Nat.succ_pos _)); have VH : Hid (Vr w5 w2.heap.size o.cs) := VH.out.below B9 (range_lt VH.out.1 (Nat.succ_pos _)); have BB : Hid (Below w.heap.size w w5) := BB.out.trans (B9.mono BB.out.size); have hmf : ∀ W, (Instr.makeFunc (.func 49) #[] #[pt w.heap.size, pt w1.heap.size, pt w2.heap.size]).run Try.prog W = .ok (.func (.func 49) #[] #[pt w.heap.size, pt w1.heap.size, pt w2.heap.size]) W := (fun _ => rfl); clear B9 t8; have t9 : (0 : Nat) = 0 := rfl)
    | (have qq := t5; refine load_law _ (by rfl) 31 (.tmp 5) rfl w.heap.size 0 (pc p) rfl rowy_place VP.out.1 ?_; clear t5; have t8 : (0 : Nat) = 0 := rfl)
    | (have qq := t4; refine load_law _ (by rfl) 31 (.tmp 5) rfl w.heap.size 0 (pc p) rfl rowy_place VP.out.1 ?_; clear t4; have t5 : (0 : Nat) = 0 := rfl)
    | (have qq := t3; refine load_law _ (by rfl) 31 (.tmp 6) rfl w1.heap.size 0 (pc q) rfl rowy_place VR.out.1 ?_; clear t3; have t4 : (0 : Nat) = 0 := rfl)
    | (have qq := t2; refine box_lawC _ o.cs rfl ?_; intro w3 X9 B9 _; have VH : Hid (Vr w3 w2.heap.size o.cs) := X9; have LO : Hid (w.heap.size < w2.heap.size ∧ w.heap.size ≤ w1.heap.size) := ⟨range_lt VP.out.1 (Nat.succ_pos _), L1.out⟩; have VP : Hid (Vr w3 w.heap.size (pc p)) := VP.out.below B9 (range_lt VP.out.1 (Nat.succ_pos _)); have VR : Hid (Vr w3 w1.heap.size (pc q)) := VR.out.below B9 (range_lt VR.out.1 (Nat.succ_pos _)); have BB : Hid (Below w.heap.size w w3) := BB.out.trans (B9.mono BB.out.size); clear X9 B9 t2; have t3 : (0 : Nat) = 0 := rfl)
    | (have qq := t1; refine box_lawC _ (pc q) rfl ?_; intro w2 X9 B9 _; have VR : Hid (Vr w2 w1.heap.size (pc q)) := X9; have VP : Hid (Vr w2 w.heap.size (pc p)) := VP.out.below B9 (range_lt VP.out.1 (Nat.succ_pos _)); have BB : Hid (Below w.heap.size w w2) := BB.out.trans (B9.mono BB.out.size); clear X9 B9 t1; have t2 : (0 : Nat) = 0 := rfl)
    | (have qq := t0; refine box_lawC _ (pc p) rfl ?_; intro w1 X9 B9 _; have VP : Hid (Vr w1 w.heap.size (pc p)) := X9; have BB : Hid (Below w.heap.size w w1) := B9; have L1 : Hid (w.heap.size ≤ w1.heap.size) := B9.size; clear X9 B9 t0; have t1 : (0 : Nat) = 0 := rfl))
  have HO : Hid (Mo w w6 c b w.heap.size w1.heap.size d s (FF p q o f s 4) (cnt s f) p q) := ⟨HE.out.m, HE.out.p, HE.out.r, (Ch.of_below BB.out).join HE.out.ch (fun k _ ⟨j, h1, h2, h3⟩ => .inr (.inl ⟨j, h1, h2, h3⟩)), (HE.out.own b (.inr (.inr rfl))).1, (HE.out.own b (.inr (.inr rfl))).2.1⟩
  clear HE VP VR VH BB HM
  go_wp2
  have HO : Hid (Mo w w6.drew c b w.heap.size w1.heap.size d s (FF p q o f s 4) (cnt s f) p q) := HO.out.below (below_dr (Below.refl _ _) 1)
  refine wp_region_held_drew (S := fun w' => w'.cell? ⟨c, 4, none⟩ = some (.map (some b)) ∧ w'.rangeAt w.heap.size 0 (pc p) ∧ w'.rangeAt w1.heap.size 0 (pc q)) (by kernel_rfl) ⟨HO.out.m.v.cell 4 _ rfl, HO.out.p, HO.out.r⟩ (fun hS => ?_)
  obtain ⟨z1, hx0⟩ : ∃ x, x = w6.drew := ⟨_, rfl⟩
  rw [← hx0] at hS HO ⊢
  clear hx0
  refine take_lawH 0 (some 31) (.pointer (some ⟨c, 0, none⟩)) rfl rfl (by kernel_rfl) (by kernel_rfl) (by kernel_rfl) (fun _ _ _ h => h) (Or.inl ⟨by rfl, fun w' hw' => by rfl⟩) hS ?_
  simp only [Act.put, List.setIfInBounds_toArray, List.set_cons_zero, List.set_cons_succ]
  refine take_lawH 1 (some 32) (.pointer (some ⟨c, 0, none⟩)) rfl rfl (by kernel_rfl) (by kernel_rfl) (by kernel_rfl) (fun _ _ _ h => h) (Or.inl ⟨by rfl, fun w' hw' => by go_simp⟩) hS ?_
  simp only [Act.put, List.setIfInBounds_toArray, List.set_cons_zero, List.set_cons_succ]
  refine take_lawH 2 (some 33) (.pointer (some ⟨c, 4, none⟩)) rfl rfl (by kernel_rfl) (by kernel_rfl) (by kernel_rfl) (fun _ _ _ h => h) (Or.inl ⟨by rfl, fun w' hw' => by go_simp⟩) hS ?_
  simp only [Act.put, List.setIfInBounds_toArray, List.set_cons_zero, List.set_cons_succ]
  refine take_lawH 3 (some 34) (.map (some b)) rfl rfl (by kernel_rfl) (by kernel_rfl) (by kernel_rfl) (fun _ _ _ h => h) (Or.inl ⟨by rfl, fun w' hw' => by exact exec_loadN 69 (.tmp 33) rfl _ rfl _ _ (load_map hw'.1)⟩) hS ?_
  simp only [Act.put, List.setIfInBounds_toArray, List.set_cons_zero, List.set_cons_succ]
  refine take_lawH 4 (some 35) (.agg (pc p).toArray) rfl rfl (by kernel_rfl) (by kernel_rfl) (by kernel_rfl) (fun _ _ _ h => h) (Or.inl ⟨by rfl, fun w' hw' => by exact exec_loadN 31 (.tmp 5) rfl _ rfl _ _ (load_cells rowy_place hw'.2.1)⟩) hS ?_
  simp only [Act.put, List.setIfInBounds_toArray, List.set_cons_zero, List.set_cons_succ]
  refine wpAnyH_ready (rs := [5]) (by kernel_rfl) (by simp) ?_
  refine AllReadyH.cons rfl (fun K hK => ?_) AllReadyH.nil
  refine step_delete z1 rfl none rfl (.tmp 34) (.tmp 35) rfl b (cnt s f) p rfl rfl (HO.out.m.m b rfl) ?_
  intro z2 G9 M9
  have HO : Hid (Mo w z2 c b w.heap.size w1.heap.size d s (FF p q o f s 4) (ud (cnt s f) p 0) p q) := HO.out.mp G9 M9
  have hS : z2.cell? ⟨c, 4, none⟩ = some (.map (some b)) ∧ z2.rangeAt w.heap.size 0 (pc p) ∧ z2.rangeAt w1.heap.size 0 (pc q) := ⟨HO.out.m.v.cell 4 _ rfl, HO.out.p, HO.out.r⟩
  clear G9 M9
  refine hK.out _ _ hS (fun _ => ?_)
  simp only [Act.put]
  clear hK K
  refine wpAnyH_done (by kernel_rfl) ?_ _
  go_wp2
  have HO : Hid (Mo w z2.drew c b w.heap.size w1.heap.size d s (FF p q o f s 4) (ud (cnt s f) p 0) p q) := HO.out.below (below_dr (Below.refl _ _) 1)
  refine wp_region_held_drew (S := fun w' => w'.cell? ⟨c, 4, none⟩ = some (.map (some b)) ∧ w'.rangeAt w.heap.size 0 (pc p) ∧ w'.rangeAt w1.heap.size 0 (pc q)) (by kernel_rfl) ⟨HO.out.m.v.cell 4 _ rfl, HO.out.p, HO.out.r⟩ (fun hS => ?_)
  obtain ⟨y1, hx0⟩ : ∃ x, x = z2.drew := ⟨_, rfl⟩
  rw [← hx0] at hS HO ⊢
  clear hx0
  refine take_lawH 0 (some 36) (.pointer (some ⟨c, 0, none⟩)) rfl rfl (by kernel_rfl) (by kernel_rfl) (by kernel_rfl) (fun _ _ _ h => h) (Or.inl ⟨by rfl, fun w' hw' => by rfl⟩) hS ?_
  simp only [Act.put, List.setIfInBounds_toArray, List.set_cons_zero, List.set_cons_succ]
  refine take_lawH 1 (some 37) (.pointer (some ⟨c, 0, none⟩)) rfl rfl (by kernel_rfl) (by kernel_rfl) (by kernel_rfl) (fun _ _ _ h => h) (Or.inl ⟨by rfl, fun w' hw' => by go_simp⟩) hS ?_
  simp only [Act.put, List.setIfInBounds_toArray, List.set_cons_zero, List.set_cons_succ]
  refine take_lawH 2 (some 38) (.pointer (some ⟨c, 4, none⟩)) rfl rfl (by kernel_rfl) (by kernel_rfl) (by kernel_rfl) (fun _ _ _ h => h) (Or.inl ⟨by rfl, fun w' hw' => by go_simp⟩) hS ?_
  simp only [Act.put, List.setIfInBounds_toArray, List.set_cons_zero, List.set_cons_succ]
  refine take_lawH 3 (some 39) (.map (some b)) rfl rfl (by kernel_rfl) (by kernel_rfl) (by kernel_rfl) (fun _ _ _ h => h) (Or.inl ⟨by rfl, fun w' hw' => by exact exec_loadN 69 (.tmp 38) rfl _ rfl _ _ (load_map hw'.1)⟩) hS ?_
  simp only [Act.put, List.setIfInBounds_toArray, List.set_cons_zero, List.set_cons_succ]
  refine take_lawH 4 (some 40) (.agg (pc q).toArray) rfl rfl (by kernel_rfl) (by kernel_rfl) (by kernel_rfl) (fun _ _ _ h => h) (Or.inl ⟨by rfl, fun w' hw' => by exact exec_loadN 31 (.tmp 6) rfl _ rfl _ _ (load_cells rowy_place hw'.2.2)⟩) hS ?_
  simp only [Act.put, List.setIfInBounds_toArray, List.set_cons_zero, List.set_cons_succ]
  refine take_lawH 5 (some 41) (.int .i64 gp) rfl rfl (by kernel_rfl) (by kernel_rfl) (by kernel_rfl) (fun _ _ _ h => h) (Or.inl ⟨by rfl, fun w' hw' => by rfl⟩) hS ?_
  simp only [Act.put, List.setIfInBounds_toArray, List.set_cons_zero, List.set_cons_succ]
  refine wpAnyH_ready (rs := [6]) (by kernel_rfl) (by simp) ?_
  refine AllReadyH.cons rfl (fun K hK => ?_) AllReadyH.nil
  refine step_update y1 rfl none rfl (.tmp 39) (.tmp 40) (.tmp 41) rfl b (ud (cnt s f) p 0) q gp rfl rfl rfl (HO.out.m.m b rfl) ?_
  intro y2 G9 M9
  have HO : Hid (Mo w y2 c b w.heap.size w1.heap.size d s (FF p q o f s 4) (ud (ud (cnt s f) p 0) q gp) p q) := HO.out.mp G9 M9
  have hS : y2.cell? ⟨c, 4, none⟩ = some (.map (some b)) ∧ y2.rangeAt w.heap.size 0 (pc p) ∧ y2.rangeAt w1.heap.size 0 (pc q) := ⟨HO.out.m.v.cell 4 _ rfl, HO.out.p, HO.out.r⟩
  clear G9 M9
  refine hK.out _ _ hS (fun _ => ?_)
  simp only [Act.put]
  clear hK K
  refine wpAnyH_done (by kernel_rfl) ?_ _
  go_wp2
  go_ret
  exact ⟨rfl, by rw [GE.out] at HO; exact HO.out.m, HO.out.ch⟩
/-- where nothing is at p nothing changes -/
theorem FF_none {s : Nat → Nat} {f : Nat → Nat → Sp} {p q : PL} {o : Hd} (hp : cnt s f p = 0) : FF p q o f s 4 = f := by
  funext i u
  unfold FF
  by_cases hi : i < 4
  · rw [if_pos hi]
    unfold mvF
    by_cases hu : u < s i
    · rw [if_pos hu]
      unfold mvL mvS
      cases hv : lv (f i u) with
      | false => rfl
      | true =>
        rw [if_pos rfl]
        by_cases e : (f i u).p = p
        · have := cnt_pos f hi hu hv
          rw [e] at this
          omega
        · rw [if_neg e]
    · rw [if_neg hu]
  · rw [if_neg hi]
end Go.Proofs.Ytedmmpognhpbdaa.pm
