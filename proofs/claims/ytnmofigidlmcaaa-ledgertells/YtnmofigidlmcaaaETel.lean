/- The law's right; a step of the program's ledger and the reference's, side by side. No claim of its own. -/
import Derived.Test.YtnmofigidlmcaaaERCnt
namespace Go.Proofs.Ytnmofigidlmcaaa.le
open Go.RowKit Go.Proofs.Ytnmofigidlmcaaa.he
set_option maxRecDepth 20000

theorem fld4 (a b c d : Int) (e f1 f2 f3 f4 : Bool) (w : World) : (Instr.field 39 (.agg #[.int .i64 a, .int .i64 b, .int .i64 c, .int .i64 d, .bool e, .bool f1, .bool f2, .bool f3, .bool f4]) 4).run Try.prog w = .ok (.bool e) w := by kernel_rfl
theorem three {w : World} {b q : Nat} {x y z : Int} (h : w.rangeAt b q (stl x y z)) : w.cell? ⟨b, q, none⟩ = some (.int .i64 x) ∧ w.cell? ⟨b, q + 1, none⟩ = some (.int .i64 y) ∧ w.cell? ⟨b, q + 2, none⟩ = some (.int .i64 z) := ⟨h 0 _ rfl, h 1 _ rfl, h 2 _ rfl⟩
theorem right_any (kd b s : Int) (w : World) (q : Bool) (hq : q = decide (1 ≤ kd ∧ kd ≤ 7 ∧ (kd = 7 → s ≤ 1000000))) : Calls Try.prog 10 #[stp kd b s] w fun e w' => e = .returned (.bool q) ∧ Below w.heap.size w w' := by
  by_cases h1 : 1 ≤ kd
  · by_cases h7 : kd ≤ 7
    · by_cases e7 : kd = 7
      · subst e7
        by_cases hs : s ≤ 1000000
        · have e : q = true := by rw [hq]; exact decide_eq_true ⟨h1, h7, fun _ => hs⟩
          subst e
          clear hq
          have t0 : (0 : Nat) = 0 := rfl
          go_enter Try.func10, Try.ntmps10
          go_wp2_with (have qq := t0; refine box_lawC _ (stl 7 b s) rfl ?_; intro w1 X1 B1 l1; have c0 := X1.cell 0 _ rfl; have c1 := X1.cell 1 _ rfl; have c2 := X1.cell 2 _ rfl; clear X1 t0)
          go_ret
          exact ⟨rfl, B1⟩
        · have e : q = false := by rw [hq]; exact decide_eq_false fun z => hs (z.2.2 rfl)
          subst e
          have hd : decide (s ≤ 1000000) = false := decide_eq_false hs
          clear hq hs
          have t0 : (0 : Nat) = 0 := rfl
          go_enter Try.func10, Try.ntmps10
          go_wp2_with (have qq := t0; refine box_lawC _ (stl 7 b s) rfl ?_; intro w1 X1 B1 l1; have c0 := X1.cell 0 _ rfl; have c1 := X1.cell 1 _ rfl; have c2 := X1.cell 2 _ rfl; clear X1 t0)
          go_ret
          exact ⟨rfl, B1⟩
      · have e : q = true := by rw [hq]; exact decide_eq_true ⟨h1, h7, fun z => absurd z e7⟩
        subst e
        have n7 : (kd != 7) = true := bne_iff_ne.2 e7
        clear hq
        have t0 : (0 : Nat) = 0 := rfl
        go_enter Try.func10, Try.ntmps10
        go_wp2_with (have qq := t0; refine box_lawC _ (stl kd b s) rfl ?_; intro w1 X1 B1 l1; have c0 := X1.cell 0 _ rfl; have c1 := X1.cell 1 _ rfl; have c2 := X1.cell 2 _ rfl; clear X1 t0)
        go_ret
        exact ⟨rfl, B1⟩
    · have e : q = false := by rw [hq]; exact decide_eq_false fun z => h7 z.2.1
      subst e
      clear hq
      have t0 : (0 : Nat) = 0 := rfl
      go_enter Try.func10, Try.ntmps10
      go_wp2_with (have qq := t0; refine box_lawC _ (stl kd b s) rfl ?_; intro w1 X1 B1 l1; have c0 := X1.cell 0 _ rfl; have c1 := X1.cell 1 _ rfl; have c2 := X1.cell 2 _ rfl; clear X1 t0)
      go_ret
      exact ⟨rfl, B1⟩
  · have e : q = false := by rw [hq]; exact decide_eq_false fun z => h1 z.1
    subst e
    clear hq
    have t0 : (0 : Nat) = 0 := rfl
    go_enter Try.func10, Try.ntmps10
    go_wp2_with (have qq := t0; refine box_lawC _ (stl kd b s) rfl ?_; intro w1 X1 B1 l1; have c0 := X1.cell 0 _ rfl; have c1 := X1.cell 1 _ rfl; have c2 := X1.cell 2 _ rfl; clear X1 t0)
    go_ret
    exact ⟨rfl, B1⟩

/-- a block's numbers behind k steps -/
def Sk (k : Nat) (x : Bk) : Prop := 0 ≤ x.u ∧ x.u ≤ k * 1000000 ∧ 0 ≤ x.l ∧ x.l ≤ k * 1000000 ∧ 0 ≤ x.e ∧ x.e ≤ k * 1000000
theorem sk_sm {k : Nat} {x : Bk} (h : Sk k x) (hk : k ≤ 60) : Sm x := by
  obtain ⟨a, b, c, d, e, g⟩ := h
  have : (k : Int) ≤ 60 := by omega
  exact ⟨a, by omega, c, by omega, e, by omega⟩
theorem sk_more {k : Nat} {x : Bk} (h : Sk k x) : Sk (k + 1) x := by
  obtain ⟨a, b, c, d, e, g⟩ := h
  exact ⟨a, by omega, c, by omega, e, by omega⟩
theorem sk_do {k : Nat} {x : Bk} (kd s : Int) (h : Sk k x) (h1 : 1 ≤ kd) (h7 : kd ≤ 7) (hu : kd = 7 → s ≤ 1000000) : Sk (k + 1) (doB kd s x) := by
  obtain ⟨a, b, c, d, e, g⟩ := h
  have : kd = 1 ∨ kd = 2 ∨ kd = 3 ∨ kd = 4 ∨ kd = 5 ∨ kd = 6 ∨ kd = 7 := by omega
  rcases this with rfl | rfl | rfl | rfl | rfl | rfl | rfl
  · exact ⟨Int.le_refl 0, show (0 : Int) ≤ _ by omega, Int.le_refl 0, show (0 : Int) ≤ _ by omega, e, show x.e ≤ _ by omega⟩
  · exact ⟨a, show x.u ≤ _ by omega, Int.le_refl 0, show (0 : Int) ≤ _ by omega, e, show x.e ≤ _ by omega⟩
  · exact ⟨Int.le_refl 0, show (0 : Int) ≤ _ by omega, Int.le_refl 0, show (0 : Int) ≤ _ by omega, show 0 ≤ x.e + 1 by omega, show x.e + 1 ≤ _ by omega⟩
  · exact ⟨a, show x.u ≤ _ by omega, c, show x.l ≤ _ by omega, e, show x.e ≤ _ by omega⟩
  · exact ⟨a, show x.u ≤ _ by omega, c, show x.l ≤ _ by omega, e, show x.e ≤ _ by omega⟩
  · exact ⟨show 0 ≤ x.u + 1 by omega, show x.u + 1 ≤ _ by omega, c, show x.l ≤ _ by omega, e, show x.e ≤ _ by omega⟩
  · have hs := hu rfl
    refine ⟨a, show x.u ≤ _ by omega, ?_, ?_, e, show x.e ≤ _ by omega⟩
    · show 0 ≤ (if s < -x.l then 0 else x.l + s)
      split <;> omega
    · show (if s < -x.l then 0 else x.l + s) ≤ _
      split <;> omega
theorem Led.kept {w w' : World} {c d n r : Nat} {f : Nat → Bk} (h : Led w c d n f) (hb : w.grownBy w' (some r)) (hc : c ≠ r) (hd : d ≠ r) : Led w' c d n f :=
  ⟨h.1.heap (hb.block c h.lt (by intro e; exact hc (Option.some.inj e))), h.2.1.kept hb (by intro e; exact hd (Option.some.inj e)), h.2.2⟩
theorem grown_low {B d : Nat} {a b c : World} (h : Below B a b) (h' : b.grownBy c (some d)) (hd : B ≤ d) (hB : B ≤ b.heap.size) : Below B a c :=
  ⟨h'.os.trans h.os, h'.tape.trans h.tape, h'.output.trans h.output, Nat.le_trans h.size h'.size, fun k hk => (h'.block k (Nat.lt_of_lt_of_le hk hB) (by intro e; have := Option.some.inj e; omega)).trans (h.block k hk)⟩
/-- where the two ledgers lie, behind k steps -/
structure Two (w1 : World) (c d r : Nat) (v : Value) (n : Nat) (k : Nat) (f g : Nat → Bk) (w : World) : Prop where
  led : Led w c d n f
  row : Rr r w v n g
  low : Below w1.heap.size w1 w
  sm : ∀ j, j < n → Sk k (f j)
  ap : w1.heap.size ≤ d ∧ w1.heap.size ≤ r ∧ (0 < n → c ≠ r ∧ d ≠ r)
theorem Two.below {w1 w w' : World} {c d r n k : Nat} {v : Value} {f g : Nat → Bk} (h : Two w1 c d r v n k f g w) (hb : Below w.heap.size w w') : Two w1 c d r v n k f g w' :=
  ⟨h.led.below hb, h.row.below hb, h.low.trans (hb.mono h.low.size), h.sm, h.ap⟩
/-- a step, done by the program and by the reference -/
theorem pair_any (w1 : World) (c d r n k : Nat) (v : Value) (f : Nat → Bk) (kd b s : Int) (w : World) (h : Two w1 c d r v n k f f w) (hk : k < 60) (h1 : 1 ≤ kd) (h7 : kd ≤ 7) (hl : -9223372036854775808 ≤ s) (hu : kd = 7 → s ≤ 1000000) :
    ∃ z g, (Calls Try.prog 11 #[pt c, stp kd b s] w fun e w' => e = .returned (.int .i64 z) ∧ Two w1 c d r v n (k + 1) g f w') ∧
      ∀ w', Two w1 c d r v n (k + 1) g f w' → Calls Try.prog 12 #[v, stp kd b s] w' fun e w'' => e = .returned (.int .i64 z) ∧ Two w1 c d r v n (k + 1) g g w'' := by
  have hm : ∀ j, j < n → Sk (k + 1) (f j) := fun j hj => sk_more (h.sm j hj)
  by_cases hx : 0 ≤ b ∧ b < n ∧ (kd = 1 → 0 ≤ s ∧ s ≤ 3)
  · obtain ⟨hb0, hb1, hn⟩ := hx
    obtain ⟨t, rfl⟩ : ∃ t : Nat, b = t := ⟨b.toNat, by omega⟩
    have ht : t < n := by omega
    obtain ⟨a1, a2, a3⟩ := h.ap
    obtain ⟨a3, a4⟩ := a3 (by omega)
    refine ⟨0, up f t (doB kd s (f t)), (chg_yes c d n t f kd s w h.led ht h1 h7 (sk_sm (h.sm t ht) (by omega)) hn hl hu).mono ?_, fun w' h' => (app_yes r n t v f kd s w' h'.row ht h1 h7 (sk_sm (h.sm t ht) (by omega)) hn hu).mono ?_⟩
    · rintro _ w' ⟨rfl, l', g'⟩
      refine ⟨rfl, l', h.row.kept g' (Ne.symm a4), grown_low h.low g' a1 h.low.size, fun j hj => ?_, h.ap⟩
      by_cases e : j = t
      · subst e; rw [show up f j (doB kd s (f j)) j = doB kd s (f j) by simp [up]]; exact sk_do kd s (h.sm j hj) h1 h7 hu
      · rw [show up f t (doB kd s (f t)) j = f j by simp [up, e]]; exact hm j hj
    · rintro _ w'' ⟨rfl, l', g'⟩
      exact ⟨rfl, h'.led.kept g' a3 a4, l', grown_low h'.low g' a2 h'.low.size, h'.sm, h'.ap⟩
  · refine ⟨2, f, ?_, fun w' h' => (app_no r v n f kd b s w' h'.row hx).mono fun _ _ z => ⟨z.1, h'.below z.2⟩⟩
    have keep : ∀ w', Below w.heap.size w w' → Two w1 c d r v n (k + 1) f f w' := fun w' hb => by
      have := h.below hb
      exact ⟨this.led, this.row, this.low, hm, this.ap⟩
    by_cases hb : 0 ≤ b ∧ b < n
    · have e1 : kd = 1 := Classical.byContradiction fun e => hx ⟨hb.1, hb.2, fun z => absurd z e⟩
      subst e1
      exact (chg_ns (pt c) b s w fun z => hx ⟨hb.1, hb.2, fun _ => ⟨z.1, by omega⟩⟩).mono fun _ _ z => ⟨z.1, keep _ z.2⟩
    · exact (chg_no (pt c) n f kd b s w (.inr ⟨c, d, rfl, h.led⟩) hb).mono fun _ _ z => ⟨z.1, keep _ z.2⟩
end Go.Proofs.Ytnmofigidlmcaaa.le
