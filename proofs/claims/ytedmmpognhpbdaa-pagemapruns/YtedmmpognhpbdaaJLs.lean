/- The law's step: a change, by the program and by the reference. No claim of its own. -/
import Derived.Test.YtedmmpognhpbdaaJLw
namespace Go.Proofs.Ytedmmpognhpbdaa.pm
open Go.RowKit Go.Proofs.Ytedmmpognhpbdaa.he
set_option maxRecDepth 20000

theorem rowy_step : Rowy 39 19 := ⟨⟨_, Try.underlying39, rfl⟩, by kernel_rfl⟩
theorem stp_spot {w : World} {b : Nat} {x : Stp} (h : w.rangeAt b 0 x.cs) : w.rangeAt b 3 x.s.cs := fun j v hv => by
  have hj : j < 14 := (List.getElem?_eq_some_iff.1 hv).1
  have := h (3 + j) v (by
    rw [← hv]
    rcases (show j = 0 ∨ j = 1 ∨ j = 2 ∨ j = 3 ∨ j = 4 ∨ j = 5 ∨ j = 6 ∨ j = 7 ∨ j = 8 ∨ j = 9 ∨ j = 10 ∨ j = 11 ∨ j = 12 ∨ j = 13 by omega) with rfl | rfl | rfl | rfl | rfl | rfl | rfl | rfl | rfl | rfl | rfl | rfl | rfl | rfl <;> rfl)
  rwa [Nat.zero_add] at this
theorem stp_to {w : World} {b : Nat} {x : Stp} (h : w.rangeAt b 0 x.cs) : w.rangeAt b 17 (pc x.t) := fun j v hv => by
  have hj : j < 2 := (List.getElem?_eq_some_iff.1 hv).1
  have := h (17 + j) v (by
    rw [← hv]
    rcases (show j = 0 ∨ j = 1 by omega) with rfl | rfl <;> rfl)
  rwa [Nat.zero_add] at this
/-- both have changed -/
theorem wk_new {w wr w4 w5 : World} {c : Nat} {d s s' : Nat → Nat} {f f' : Nat → Nat → Sp} {rb : Option Nat} {v v' : Value} {L L' : List Ce} (h : Wk w wr c d s f rb v L) (p : Pm w4 c d s' f' rb (cnt s' f')) (hc : Ch (Own4 c d s rb) wr w4) (ho : ∀ k, Own4 c d s' rb k → Own4 c d s rb k) (hb : Below w4.heap.size w4 w5) (r : Rel s' f' L') (l : Cl w5 v' L') (hv : ∀ k, Blk v' k → w4.heap.size ≤ k ∧ k < w5.heap.size) (hz : ∀ j, j < 4 → s' j ≤ s j) : Wk w w5 c d s' f' rb v' L' ∧ Nx wr w5 c d s rb v d s' rb v' := by
  have hs := hc.size
  have hh := h.h.size
  refine ⟨⟨p.below hb, r, l, (h.h.trans (hc.below hh h.own)).trans (hb.mono (by omega)), fun k hk => h.own k (ho k hk), fun k hk e => ?_, fun k hk => ⟨by have := (hv k hk).1; omega, (hv k hk).2⟩, fun j hj => Nat.le_trans (hz j hj) (h.z j hj)⟩, hc.trans (Ch.of_below hb), fun k hk => .inl (ho k hk), fun k hk => .inr (by have := (hv k hk).1; omega)⟩
  have h1 := (hv k hk).1
  have h2 := h.olt (ho k e)
  omega
/-- Move where it may be done -/
theorem move_ok (c : Nat) (rb : Option Nat) (d s : Nat → Nat) (f : Nat → Nat → Sp) (p q : PL) (o : Hd) (w : World) (hm : Pm w c d s f rb (cnt s f)) (hz : ∀ j, j < 4 → s j ≤ 65535) (h : ¬ (p ≠ q ∧ 0 < cnt s f q)) : Calls Try.prog 24 #[pt c, .agg (pc p).toArray, .agg (pc q).toArray, .agg o.cs.toArray] w fun e w' => e = .returned (.int .i64 0) ∧ Pm w' c d s (FF p q o f s 4) rb (cnt s (FF p q o f s 4)) ∧ Ch (Own4 c d s rb) w w' := by
  by_cases hp : cnt s f p = 0
  · have e : FF p q o f s 4 = f := FF_none hp
    by_cases hq : p = q
    · exact (move_zero2 c rb d s f (cnt s f) p q o w hm hq.symm hp).mono fun _ w' ⟨h1, h2⟩ => ⟨h1, by rw [e]; exact hm.below h2, Ch.of_below h2⟩
    · exact (move_zero1 c rb d s f (cnt s f) p q o w hm hq (fun z => h ⟨hq, z⟩) hp).mono fun _ w' ⟨h1, h2⟩ => ⟨h1, by rw [e]; exact hm.below h2, Ch.of_below h2⟩
  · cases rb with
    | none => exact absurd ((hm.z rfl).1 p) hp
    | some b =>
      by_cases hq : p = q
      · exact move_yes2 c b d s f p q o w hm hz hq.symm hp
      · exact move_yes1 c b d s f p q o w hm hz hq (fun z => h ⟨hq, z⟩) hp
theorem gn_short (L2 L : List Ce) : (gn L2 L).length ≤ L.length := by
  have := gn_len L2 L L.length
  rwa [List.take_length] at this
set_option maxHeartbeats 8000000 in
theorem step1 (w wr : World) (c : Nat) (d s : Nat → Nat) (f : Nat → Nat → Sp) (rb : Option Nat) (v : Value) (L : List Ce) (x : Stp) (hk : Wk w wr c d s f rb v L) (hx : x.k = 1) (hz : x.z ≤ 40 ∨ 65535 < x.z) : Calls Try.prog 10 #[pt c, .agg (rmc s v).toArray, .agg x.cs.toArray] wr (Ans w wr c d s rb v) := by
  have HK : Hid (Wk w wr c d s f rb v L) := hk
  have KX : Hid (x.k = 1) := hx
  have ZX : Hid (x.z ≤ 40 ∨ 65535 < x.z) := hz
  clear hk hx hz
  have t0 : (0 : Nat) = 0 := rfl
  go_enter Try.func10, Try.ntmps10
  go_wp2_with (first
    | (have qq := t6; (with_reducible refine at_store ?_); refine store_lawC _ (rmc s' v') w2.heap.size 0 rfl rfl VZ.out.2 size_rmap (rmc_all KW.out.l) ?_; intro w9 e9 r9 _ _; have R9 : Hid (w9.rangeAt w2.heap.size 0 (rmc s' v')) := r9; have G9 : Hid (w4.grownBy w9 (some w2.heap.size)) := (by rw [e9.out]; exact (wrt_cells w4 w2.heap.size 0 5 _ rfl).1); clear e9 r9 t6)
    | (have qq := t5; go_at_call 26; refine (ladd_any w w3 c d s f rb v L x (HK.out.below BB.out) ZX.out).mono ?_; rintro e w4 ⟨d', s', f', rb', v', L', rfl, k9, n9⟩; have KW : Hid (Wk w w4 c d' s' f' rb' v' L') := k9; have NX : Hid (Nx w3 w4 c d s rb v d' s' rb' v') := n9; have FZ : Hid (¬ Own4 c d s rb w2.heap.size ∧ ¬ Blk v w2.heap.size) := HK.out.fresh B2.out.1; have FM : Hid (¬ Own4 c d s rb wr.heap.size ∧ ¬ Blk v wr.heap.size) := HK.out.fresh (Nat.le_refl _); have FX : Hid (¬ Own4 c d s rb w1.heap.size ∧ ¬ Blk v w1.heap.size) := HK.out.fresh B2.out.2.2.2; have LZ : Hid (w2.heap.size < w3.heap.size) := range_lt VZ.out.1 (Nat.succ_pos _); have VZ : Hid (Vr w4 w2.heap.size (rmc (fun _ => 0) (.slice none 0 0))) := NX.out.keep VZ.out (Nat.succ_pos _) FZ.out.1; clear k9 n9 nk t5; have t6 : (0 : Nat) = 0 := rfl)
    | (have qq := t4; refine load_law _ (by rfl) 39 (.tmp 5) rfl w1.heap.size 0 x.cs rfl rowy_step VX.out.1 ?_; clear t4; have t5 : (0 : Nat) = 0 := rfl)
    | (have qq := t3; refine load_law _ (by rfl) 28 (.tmp 4) rfl wr.heap.size 0 (rmc s v) rfl rowy_rmap VM.out.1 ?_; clear t3; have t4 : (0 : Nat) = 0 := rfl)
    | (have qq := t2; (with_reducible refine at_alloc ?_); refine new_lawC _ _ zero_rmap ?_; intro w3 X9 B9 _; have VZ : Hid (Vr w3 w2.heap.size (rmc (fun _ => 0) (.slice none 0 0))) := X9; have VM : Hid (Vr w3 wr.heap.size (rmc s v)) := VM.out.below B9 (range_lt VM.out.1 (Nat.succ_pos _)); have VX : Hid (Vr w3 w1.heap.size x.cs) := VX.out.below B9 (range_lt VX.out.1 (Nat.succ_pos _)); have B2 : Hid (wr.heap.size ≤ w2.heap.size ∧ wr.heap.size < w2.heap.size ∧ w1.heap.size < w2.heap.size ∧ wr.heap.size ≤ w1.heap.size) := ⟨BB.out.size, LM.out, LX.out, L1.out⟩; have BB : Hid (Below wr.heap.size wr w3) := BB.out.trans (B9.mono BB.out.size); have nk : w3.cell? ⟨w1.heap.size, 0, none⟩ = some (.int .i64 1) := (by rw [← KX.out]; exact VX.out.cell 0 _ rfl); clear X9 B9 LM LX L1 t2; have t3 : (0 : Nat) = 0 := rfl)
    | (have qq := t1; refine box_lawC _ x.cs rfl ?_; intro w2 X9 B9 l9; have VX : Hid (Vr w2 w1.heap.size x.cs) := X9; have VM : Hid (Vr w2 wr.heap.size (rmc s v)) := VM.out.below B9 (range_lt VM.out.1 (Nat.succ_pos _)); have L1 : Hid (wr.heap.size ≤ w1.heap.size) := BB.out.size; have BB : Hid (Below wr.heap.size wr w2) := BB.out.trans (B9.mono BB.out.size); have LM : Hid (wr.heap.size < w2.heap.size) := range_lt VM.out.1 (Nat.succ_pos _); have LX : Hid (w1.heap.size < w2.heap.size) := l9; clear X9 B9 l9 t1; have t2 : (0 : Nat) = 0 := rfl)
    | (have qq := t0; refine box_lawC _ (rmc s v) rfl ?_; intro w1 X9 B9 _; have VM : Hid (Vr w1 wr.heap.size (rmc s v)) := X9; have BB : Hid (Below wr.heap.size wr w1) := B9; clear X9 B9 t0; have t1 : (0 : Nat) = 0 := rfl))
  have FR := NX.out.free LZ.out FZ.out.1 FZ.out.2
  exact bodyPost_ret (v := .tuple #[.agg (rmc s' v').toArray, .bool true]) (results_cv rfl _ _ w2.heap.size _ (.bool true) rowy_rmap rfl rfl R9.out) rfl ⟨d', s', f', rb', v', L', rfl, KW.out.var G9.out (Nat.le_trans HK.out.h.size B2.out.1) FR.1 FR.2, ((Nx.of_below BB.out).trans NX.out).var G9.out B2.out.1⟩
set_option maxHeartbeats 8000000 in
theorem step2a (w wr : World) (c : Nat) (d s : Nat → Nat) (f : Nat → Nat → Sp) (rb : Option Nat) (v : Value) (L : List Ce) (x : Stp) (hk : Wk w wr c d s f rb v L) (hx : x.k = 2) (hn : x.n < 0) : Calls Try.prog 10 #[pt c, .agg (rmc s v).toArray, .agg x.cs.toArray] wr (Ans w wr c d s rb v) := by
  have HK : Hid (Wk w wr c d s f rb v L) := hk
  have KX : Hid (x.k = 2) := hx
  have SD : Hid (∀ W, Below wr.heap.size wr W → Calls Try.prog 22 #[pt c, .int .i64 x.n] W fun e w' => e = .returned (.tuple #[.slice none 0 0, .int .i64 2]) ∧ w' = W) := fun W hW => nodrop (pt c) d s f (cnt s f) x.n W (.inr ⟨c, rb, rfl, hk.m.below hW⟩) (by unfold szn; rw [if_neg (by omega)])
  have d1 : decide (x.n < 0) = true := decide_eq_true (by omega)
  clear hk hx hn
  have t0 : (0 : Nat) = 0 := rfl
  go_enter Try.func10, Try.ntmps10
  go_wp2_with (first
    | (have qq := tx; (with_reducible refine at_store ?_); refine store_lawC _ (rmc s v) w2.heap.size 0 rfl rfl VZ.out.2 size_rmap (rmc_all HK.out.l) ?_; intro w9 e9 r9 _ _; have R9 : Hid (w9.rangeAt w2.heap.size 0 (rmc s v)) := r9; have G9 : Hid (w3.grownBy w9 (some w2.heap.size)) := (by rw [e9.out]; exact (wrt_cells w3 w2.heap.size 0 5 _ rfl).1); clear e9 r9 tx)
    | (have qq := t4; refine load_law _ (by rfl) 28 (.tmp 4) rfl wr.heap.size 0 (rmc s v) rfl rowy_rmap VM.out.1 ?_; clear t4; have tx : (0 : Nat) = 0 := rfl)
    | (have qq := t3; go_at_call 22; refine (SD.out _ BB.out).mono ?_; rintro e w4 ⟨rfl, hw⟩; obtain rfl := hw.symm; clear t3; have t4 : (0 : Nat) = 0 := rfl)
    | (have qq := t2; (with_reducible refine at_alloc ?_); refine new_lawC _ _ zero_rmap ?_; intro w3 X9 B9 _; have VZ : Hid (Vr w3 w2.heap.size (rmc (fun _ => 0) (.slice none 0 0))) := X9; have VM : Hid (Vr w3 wr.heap.size (rmc s v)) := VM.out.below B9 (range_lt VM.out.1 (Nat.succ_pos _)); have VX : Hid (Vr w3 w1.heap.size x.cs) := VX.out.below B9 (range_lt VX.out.1 (Nat.succ_pos _)); have B2 : Hid (wr.heap.size ≤ w2.heap.size ∧ wr.heap.size < w2.heap.size ∧ w1.heap.size < w2.heap.size ∧ wr.heap.size ≤ w1.heap.size) := ⟨BB.out.size, LM.out, LX.out, L1.out⟩; have BB : Hid (Below wr.heap.size wr w3) := BB.out.trans (B9.mono BB.out.size); have nk : w3.cell? ⟨w1.heap.size, 0, none⟩ = some (.int .i64 2) := (by rw [← KX.out]; exact VX.out.cell 0 _ rfl); have nx := VX.out.cell 1 _ rfl; clear X9 B9 LM LX L1 t2; have t3 : (0 : Nat) = 0 := rfl)
    | (have qq := t1; refine box_lawC _ x.cs rfl ?_; intro w2 X9 B9 l9; have VX : Hid (Vr w2 w1.heap.size x.cs) := X9; have VM : Hid (Vr w2 wr.heap.size (rmc s v)) := VM.out.below B9 (range_lt VM.out.1 (Nat.succ_pos _)); have L1 : Hid (wr.heap.size ≤ w1.heap.size) := BB.out.size; have BB : Hid (Below wr.heap.size wr w2) := BB.out.trans (B9.mono BB.out.size); have LM : Hid (wr.heap.size < w2.heap.size) := range_lt VM.out.1 (Nat.succ_pos _); have LX : Hid (w1.heap.size < w2.heap.size) := l9; clear X9 B9 l9 t1; have t2 : (0 : Nat) = 0 := rfl)
    | (have qq := t0; refine box_lawC _ (rmc s v) rfl ?_; intro w1 X9 B9 _; have VM : Hid (Vr w1 wr.heap.size (rmc s v)) := X9; have BB : Hid (Below wr.heap.size wr w1) := B9; clear X9 B9 t0; have t1 : (0 : Nat) = 0 := rfl))
  have FR := HK.out.fresh B2.out.1
  exact bodyPost_ret (v := .tuple #[.agg (rmc s v).toArray, .bool true]) (results_cv rfl _ _ w2.heap.size _ (.bool true) rowy_rmap rfl rfl R9.out) rfl ⟨d, s, f, rb, v, L, rfl, (HK.out.below BB.out).var G9.out (Nat.le_trans HK.out.h.size B2.out.1) FR.1 FR.2, (Nx.of_below BB.out).var G9.out B2.out.1⟩
set_option maxHeartbeats 8000000 in
theorem step2b (w wr : World) (c : Nat) (d s : Nat → Nat) (f : Nat → Nat → Sp) (rb : Option Nat) (v : Value) (L : List Ce) (x : Stp) (hk : Wk w wr c d s f rb v L) (hx : x.k = 2) (hn : x.n > 3) : Calls Try.prog 10 #[pt c, .agg (rmc s v).toArray, .agg x.cs.toArray] wr (Ans w wr c d s rb v) := by
  have HK : Hid (Wk w wr c d s f rb v L) := hk
  have KX : Hid (x.k = 2) := hx
  have SD : Hid (∀ W, Below wr.heap.size wr W → Calls Try.prog 22 #[pt c, .int .i64 x.n] W fun e w' => e = .returned (.tuple #[.slice none 0 0, .int .i64 2]) ∧ w' = W) := fun W hW => nodrop (pt c) d s f (cnt s f) x.n W (.inr ⟨c, rb, rfl, hk.m.below hW⟩) (by unfold szn; rw [if_neg (by omega)])
  have d1 : decide (x.n < 0) = false := decide_eq_false (by omega)
  have d2 : decide (x.n > 3) = true := decide_eq_true (by omega)
  clear hk hx hn
  have t0 : (0 : Nat) = 0 := rfl
  go_enter Try.func10, Try.ntmps10
  go_wp2_with (first
    | (have qq := tx; (with_reducible refine at_store ?_); refine store_lawC _ (rmc s v) w2.heap.size 0 rfl rfl VZ.out.2 size_rmap (rmc_all HK.out.l) ?_; intro w9 e9 r9 _ _; have R9 : Hid (w9.rangeAt w2.heap.size 0 (rmc s v)) := r9; have G9 : Hid (w3.grownBy w9 (some w2.heap.size)) := (by rw [e9.out]; exact (wrt_cells w3 w2.heap.size 0 5 _ rfl).1); clear e9 r9 tx)
    | (have qq := t4; refine load_law _ (by rfl) 28 (.tmp 4) rfl wr.heap.size 0 (rmc s v) rfl rowy_rmap VM.out.1 ?_; clear t4; have tx : (0 : Nat) = 0 := rfl)
    | (have qq := t3; go_at_call 22; refine (SD.out _ BB.out).mono ?_; rintro e w4 ⟨rfl, hw⟩; obtain rfl := hw.symm; clear t3; have t4 : (0 : Nat) = 0 := rfl)
    | (have qq := t2; (with_reducible refine at_alloc ?_); refine new_lawC _ _ zero_rmap ?_; intro w3 X9 B9 _; have VZ : Hid (Vr w3 w2.heap.size (rmc (fun _ => 0) (.slice none 0 0))) := X9; have VM : Hid (Vr w3 wr.heap.size (rmc s v)) := VM.out.below B9 (range_lt VM.out.1 (Nat.succ_pos _)); have VX : Hid (Vr w3 w1.heap.size x.cs) := VX.out.below B9 (range_lt VX.out.1 (Nat.succ_pos _)); have B2 : Hid (wr.heap.size ≤ w2.heap.size ∧ wr.heap.size < w2.heap.size ∧ w1.heap.size < w2.heap.size ∧ wr.heap.size ≤ w1.heap.size) := ⟨BB.out.size, LM.out, LX.out, L1.out⟩; have BB : Hid (Below wr.heap.size wr w3) := BB.out.trans (B9.mono BB.out.size); have nk : w3.cell? ⟨w1.heap.size, 0, none⟩ = some (.int .i64 2) := (by rw [← KX.out]; exact VX.out.cell 0 _ rfl); have nx := VX.out.cell 1 _ rfl; clear X9 B9 LM LX L1 t2; have t3 : (0 : Nat) = 0 := rfl)
    | (have qq := t1; refine box_lawC _ x.cs rfl ?_; intro w2 X9 B9 l9; have VX : Hid (Vr w2 w1.heap.size x.cs) := X9; have VM : Hid (Vr w2 wr.heap.size (rmc s v)) := VM.out.below B9 (range_lt VM.out.1 (Nat.succ_pos _)); have L1 : Hid (wr.heap.size ≤ w1.heap.size) := BB.out.size; have BB : Hid (Below wr.heap.size wr w2) := BB.out.trans (B9.mono BB.out.size); have LM : Hid (wr.heap.size < w2.heap.size) := range_lt VM.out.1 (Nat.succ_pos _); have LX : Hid (w1.heap.size < w2.heap.size) := l9; clear X9 B9 l9 t1; have t2 : (0 : Nat) = 0 := rfl)
    | (have qq := t0; refine box_lawC _ (rmc s v) rfl ?_; intro w1 X9 B9 _; have VM : Hid (Vr w1 wr.heap.size (rmc s v)) := X9; have BB : Hid (Below wr.heap.size wr w1) := B9; clear X9 B9 t0; have t1 : (0 : Nat) = 0 := rfl))
  have FR := HK.out.fresh B2.out.1
  exact bodyPost_ret (v := .tuple #[.agg (rmc s v).toArray, .bool true]) (results_cv rfl _ _ w2.heap.size _ (.bool true) rowy_rmap rfl rfl R9.out) rfl ⟨d, s, f, rb, v, L, rfl, (HK.out.below BB.out).var G9.out (Nat.le_trans HK.out.h.size B2.out.1) FR.1 FR.2, (Nx.of_below BB.out).var G9.out B2.out.1⟩
set_option maxHeartbeats 8000000 in
theorem step2c (w wr : World) (c : Nat) (d s : Nat → Nat) (f : Nat → Nat → Sp) (rb : Option Nat) (v : Value) (L : List Ce) (x : Stp) (hk : Wk w wr c d s f rb v L) (hx : x.k = 2) (i : Nat) (hn : x.n = (i : Int)) (hi : i < 4) (hs : s i = 0) : Calls Try.prog 10 #[pt c, .agg (rmc s v).toArray, .agg x.cs.toArray] wr (Ans w wr c d s rb v) := by
  have HK : Hid (Wk w wr c d s f rb v L) := hk
  have KX : Hid (x.k = 2) := hx
  have SD : Hid (∀ W, Below wr.heap.size wr W → Calls Try.prog 22 #[pt c, .int .i64 (i : Int)] W fun e w' => e = .returned (.tuple #[.slice none 0 0, .int .i64 2]) ∧ w' = W) := fun W hW => nodrop (pt c) d s f (cnt s f) (i : Int) W (.inr ⟨c, rb, rfl, hk.m.below hW⟩) (by unfold szn; rw [if_pos (by omega), Int.toNat_natCast]; exact hs)
  have i0 : (0 : Int) ≤ (i : Int) := by omega
  have i4 : (i : Int) < 4 := by omega
  have d1 : decide ((i : Int) < 0) = false := decide_eq_false (by omega)
  have d2 : decide ((i : Int) > 3) = false := decide_eq_false (by omega)
  have EN : Hid (x.n = (i : Int)) := hn
  have I4 : Hid (i < 4) := hi
  have d3 : ((s i : Int) == 0) = true := beq_iff_eq.2 (by omega)
  have d4 : decide ((s i : Int) = 0) = true := decide_eq_true (by omega)
  have d5 : decide (s i = 0) = true := decide_eq_true hs
  clear hk hx hn hi hs
  have t0 : (0 : Nat) = 0 := rfl
  go_enter Try.func10, Try.ntmps10
  go_wp2_with (first
    | (have qq := tx; (with_reducible refine at_store ?_); refine store_lawC _ (rmc s v) w2.heap.size 0 rfl rfl VZ.out.2 size_rmap (rmc_all HK.out.l) ?_; intro w9 e9 r9 _ _; have R9 : Hid (w9.rangeAt w2.heap.size 0 (rmc s v)) := r9; have G9 : Hid (w3.grownBy w9 (some w2.heap.size)) := (by rw [e9.out]; exact (wrt_cells w3 w2.heap.size 0 5 _ rfl).1); clear e9 r9 tx)
    | (have qq := t4; refine load_law _ (by rfl) 28 (.tmp 4) rfl wr.heap.size 0 (rmc s v) rfl rowy_rmap VM.out.1 ?_; clear t4; have tx : (0 : Nat) = 0 := rfl)
    | (have qq := t3; go_at_call 22; refine (SD.out _ BB.out).mono ?_; rintro e w4 ⟨rfl, hw⟩; obtain rfl := hw.symm; clear t3; have t4 : (0 : Nat) = 0 := rfl)
    | (have qq := t2; (with_reducible refine at_alloc ?_); refine new_lawC _ _ zero_rmap ?_; intro w3 X9 B9 _; have VZ : Hid (Vr w3 w2.heap.size (rmc (fun _ => 0) (.slice none 0 0))) := X9; have VM : Hid (Vr w3 wr.heap.size (rmc s v)) := VM.out.below B9 (range_lt VM.out.1 (Nat.succ_pos _)); have VX : Hid (Vr w3 w1.heap.size x.cs) := VX.out.below B9 (range_lt VX.out.1 (Nat.succ_pos _)); have B2 : Hid (wr.heap.size ≤ w2.heap.size ∧ wr.heap.size < w2.heap.size ∧ w1.heap.size < w2.heap.size ∧ wr.heap.size ≤ w1.heap.size) := ⟨BB.out.size, LM.out, LX.out, L1.out⟩; have BB : Hid (Below wr.heap.size wr w3) := BB.out.trans (B9.mono BB.out.size); have nk : w3.cell? ⟨w1.heap.size, 0, none⟩ = some (.int .i64 2) := (by rw [← KX.out]; exact VX.out.cell 0 _ rfl); have nx : w3.cell? ⟨w1.heap.size, 1, none⟩ = some (.int .i64 (i : Int)) := (by rw [← EN.out]; exact VX.out.cell 1 _ rfl); have ns := sz_cell VM.out I4.out; clear X9 B9 LM LX L1 t2; have t3 : (0 : Nat) = 0 := rfl)
    | (have qq := t1; refine box_lawC _ x.cs rfl ?_; intro w2 X9 B9 l9; have VX : Hid (Vr w2 w1.heap.size x.cs) := X9; have VM : Hid (Vr w2 wr.heap.size (rmc s v)) := VM.out.below B9 (range_lt VM.out.1 (Nat.succ_pos _)); have L1 : Hid (wr.heap.size ≤ w1.heap.size) := BB.out.size; have BB : Hid (Below wr.heap.size wr w2) := BB.out.trans (B9.mono BB.out.size); have LM : Hid (wr.heap.size < w2.heap.size) := range_lt VM.out.1 (Nat.succ_pos _); have LX : Hid (w1.heap.size < w2.heap.size) := l9; clear X9 B9 l9 t1; have t2 : (0 : Nat) = 0 := rfl)
    | (have qq := t0; refine box_lawC _ (rmc s v) rfl ?_; intro w1 X9 B9 _; have VM : Hid (Vr w1 wr.heap.size (rmc s v)) := X9; have BB : Hid (Below wr.heap.size wr w1) := B9; clear X9 B9 t0; have t1 : (0 : Nat) = 0 := rfl))
  have FR := HK.out.fresh B2.out.1
  exact bodyPost_ret (v := .tuple #[.agg (rmc s v).toArray, .bool true]) (results_cv rfl _ _ w2.heap.size _ (.bool true) rowy_rmap rfl rfl R9.out) rfl ⟨d, s, f, rb, v, L, rfl, (HK.out.below BB.out).var G9.out (Nat.le_trans HK.out.h.size B2.out.1) FR.1 FR.2, (Nx.of_below BB.out).var G9.out B2.out.1⟩
theorem up_le (s : Nat → Nat) (i : Nat) : ∀ j, j < 4 → up s i 0 j ≤ s j := fun j _ => by
  by_cases e : j = i
  · subst e; rw [up_eq]; exact Nat.zero_le _
  · rw [up_ne _ _ e]; exact Nat.le_refl _
set_option maxHeartbeats 8000000 in
theorem step2d (w wr : World) (c : Nat) (d s : Nat → Nat) (f : Nat → Nat → Sp) (b : Nat) (v : Value) (L : List Ce) (x : Stp) (hk : Wk w wr c d s f (some b) v L) (i : Nat) (hx : x.k = 2) (hn : x.n = (i : Int)) (hi : i < 4) (hs : 0 < s i) : Calls Try.prog 10 #[pt c, .agg (rmc s v).toArray, .agg x.cs.toArray] wr (Ans w wr c d s (some b) v) := by
  have HK : Hid (Wk w wr c d s f (some b) v L) := hk
  have KX : Hid (x.k = 2) := hx
  have i0 : (0 : Int) ≤ (i : Int) := by omega
  have i4 : (i : Int) < 4 := by omega
  have d1 : decide ((i : Int) < 0) = false := decide_eq_false (by omega)
  have d2 : decide ((i : Int) > 3) = false := decide_eq_false (by omega)
  have EN : Hid (x.n = (i : Int)) := hn
  have I4 : Hid (i < 4) := hi
  have HS : Hid (0 < s i) := hs
  have d3 : ((s i : Int) == 0) = false := beq_eq_false_iff_ne.2 (by omega)
  have d4 : decide ((s i : Int) = 0) = false := decide_eq_false (by omega)
  have d5 : decide (s i = 0) = false := decide_eq_false (by omega)
  clear hk hx hn hi hs
  have t0 : (0 : Nat) = 0 := rfl
  go_enter Try.func10, Try.ntmps10
  go_wp2_with (first
    | (have qq := t7; (with_reducible refine at_store ?_); refine store_lawC _ (rmc (up s i 0) v') w5.heap.size 0 rfl rfl VQ.out.2 size_rmap (rmc_all KW.out.l) ?_; intro w7 _ r9 h9 B9; have VN : Hid (Vr w7 w5.heap.size (rmc (up s i 0) v')) := ⟨r9, h9⟩; have B7 : Hid (Below w5.heap.size w5 w7) := B6.out.trans B9; have KW : Hid (Wk w w7 c d (up s i 0) f (some b) v' (L.filter (nin i))) := KW.out.below B7.out; have NX : Hid (Nx w3 w7 c d s (some b) v d (up s i 0) (some b) v') := NX.out.trans (Nx.of_below B7.out); have PL1 : Hid (Pls w7 vl RL) := PL1.out.below B7.out; have PL2 : Hid (Pls w7 vg RL) := PL2.out.below B7.out; have VZ : Hid (Vr w7 w2.heap.size (rmc (fun _ => 0) (.slice none 0 0))) := VZ.out.below B7.out BX.out; clear r9 h9 B9 B6 B7 VQ t7)
    | (have qq := t6; (with_reducible refine at_alloc ?_); refine new_lawC _ _ zero_rmap ?_; intro w6 X9 B9 _; have VQ : Hid (Vr w6 w5.heap.size (rmc (fun _ => 0) (.slice none 0 0))) := X9; have B6 : Hid (Below w5.heap.size w5 w6) := B9; clear X9 B9 t6; have t7 : (0 : Nat) = 0 := rfl)
    | (have qq := t5; go_at_call 27; refine (rdrop_any s v L i I4.out _ CL.out (by have := HK.out.len; omega)).mono ?_; rintro e w5 ⟨v', vg, rfl, l9, b9, g9, _, B9⟩; have KW : Hid (Wk w w5 c d (up s i 0) f (some b) v' (L.filter (nin i))) := (wk_new (HK.out.below BB.out) PM.out CH.out (fun k hk => own_cut hk) B9 (HK.out.r.drop i) l9 b9 (up_le s i)).1; have NX : Hid (Nx w3 w5 c d s (some b) v d (up s i 0) (some b) v') := (wk_new (HK.out.below BB.out) PM.out CH.out (fun k hk => own_cut hk) B9 (HK.out.r.drop i) l9 b9 (up_le s i)).2; have PL1 : Hid (Pls w5 vl RL) := PL1.out.below B9; have PL2 : Hid (Pls w5 vg RL) := (by rw [RG.out]; exact g9); have LN : Hid (RL.length ≤ 100000) := (by have := gn_short (L.filter (nin i)) L; have := HK.out.len; rw [RG.out]; show _ ≤ _; omega); have VZ : Hid (Vr w5 w2.heap.size (rmc (fun _ => 0) (.slice none 0 0))) := VZ.out.below B9 (range_lt VZ.out.1 (Nat.succ_pos _)); have BX : Hid (w2.heap.size < w5.heap.size) := range_lt VZ.out.1 (Nat.succ_pos _); clear nx ns l9 b9 g9 B9 PM CH CL VM VX t5; have t6 : (0 : Nat) = 0 := rfl)
    | (have qq := t4; refine load_law _ (by rfl) 28 (.tmp 4) rfl wr.heap.size 0 (rmc s v) rfl rowy_rmap VM.out.1 ?_; clear t4; have t5 : (0 : Nat) = 0 := rfl)
    | (have qq := t3; go_at_call 22; refine (drop_yes c b d s f i _ (HK.out.below BB.out).m I4.out HS.out HK.out.z9).mono ?_; rintro e w4 ⟨vl, RL, rfl, P9, S9, p9, c9⟩; have FZ : Hid (¬ Own4 c d s (some b) w2.heap.size ∧ ¬ Blk v w2.heap.size) := HK.out.fresh B2.out.1; have FM : Hid (¬ Own4 c d s (some b) wr.heap.size ∧ ¬ Blk v wr.heap.size) := HK.out.fresh (Nat.le_refl _); have FX : Hid (¬ Own4 c d s (some b) w1.heap.size ∧ ¬ Blk v w1.heap.size) := HK.out.fresh B2.out.2.2.2; have LZ : Hid (w2.heap.size < w3.heap.size) := range_lt VZ.out.1 (Nat.succ_pos _); have PM : Hid (Pm w4 c d (up s i 0) f (some b) (cnt (up s i 0) f)) := p9; have CH : Hid (Ch (Own4 c d s (some b)) w3 w4) := (c9.weak fun k _ e => by rcases e with e | e; exact .inl e; exact .inr (.inr (by rw [e]))); have PL1 : Hid (Pls w4 vl RL) := P9; have RG : Hid (RL = gn (L.filter (nin i)) L) := drop_gn HK.out.r I4.out S9; have CL : Hid (Cl w4 v L) := (HK.out.below BB.out).l.ch CH.out HK.out.dis; have VZ : Hid (Vr w4 w2.heap.size (rmc (fun _ => 0) (.slice none 0 0))) := VZ.out.heap (CH.out.block _ (range_lt VZ.out.1 (Nat.succ_pos _)) FZ.out.1); have VM : Hid (Vr w4 wr.heap.size (rmc s v)) := VM.out.heap (CH.out.block _ (range_lt VM.out.1 (Nat.succ_pos _)) FM.out.1); have VX : Hid (Vr w4 w1.heap.size x.cs) := VX.out.heap (CH.out.block _ (range_lt VX.out.1 (Nat.succ_pos _)) FX.out.1); clear nk nx ns; have nx : w4.cell? ⟨w1.heap.size, 1, none⟩ = some (.int .i64 (i : Int)) := (by rw [← EN.out]; exact VX.out.cell 1 _ rfl); have ns := sz_cell VM.out I4.out; clear P9 S9 p9 c9 t3; have t4 : (0 : Nat) = 0 := rfl)
    | (have qq := t2; (with_reducible refine at_alloc ?_); refine new_lawC _ _ zero_rmap ?_; intro w3 X9 B9 _; have VZ : Hid (Vr w3 w2.heap.size (rmc (fun _ => 0) (.slice none 0 0))) := X9; have VM : Hid (Vr w3 wr.heap.size (rmc s v)) := VM.out.below B9 (range_lt VM.out.1 (Nat.succ_pos _)); have VX : Hid (Vr w3 w1.heap.size x.cs) := VX.out.below B9 (range_lt VX.out.1 (Nat.succ_pos _)); have B2 : Hid (wr.heap.size ≤ w2.heap.size ∧ wr.heap.size < w2.heap.size ∧ w1.heap.size < w2.heap.size ∧ wr.heap.size ≤ w1.heap.size) := ⟨BB.out.size, LM.out, LX.out, L1.out⟩; have BB : Hid (Below wr.heap.size wr w3) := BB.out.trans (B9.mono BB.out.size); have nk : w3.cell? ⟨w1.heap.size, 0, none⟩ = some (.int .i64 2) := (by rw [← KX.out]; exact VX.out.cell 0 _ rfl); have nx : w3.cell? ⟨w1.heap.size, 1, none⟩ = some (.int .i64 (i : Int)) := (by rw [← EN.out]; exact VX.out.cell 1 _ rfl); have ns := sz_cell VM.out I4.out; clear X9 B9 LM LX L1 t2; have t3 : (0 : Nat) = 0 := rfl)
    | (have qq := t1; refine box_lawC _ x.cs rfl ?_; intro w2 X9 B9 l9; have VX : Hid (Vr w2 w1.heap.size x.cs) := X9; have VM : Hid (Vr w2 wr.heap.size (rmc s v)) := VM.out.below B9 (range_lt VM.out.1 (Nat.succ_pos _)); have L1 : Hid (wr.heap.size ≤ w1.heap.size) := BB.out.size; have BB : Hid (Below wr.heap.size wr w2) := BB.out.trans (B9.mono BB.out.size); have LM : Hid (wr.heap.size < w2.heap.size) := range_lt VM.out.1 (Nat.succ_pos _); have LX : Hid (w1.heap.size < w2.heap.size) := l9; clear X9 B9 l9 t1; have t2 : (0 : Nat) = 0 := rfl)
    | (have qq := t0; refine box_lawC _ (rmc s v) rfl ?_; intro w1 X9 B9 _; have VM : Hid (Vr w1 wr.heap.size (rmc s v)) := X9; have BB : Hid (Below wr.heap.size wr w1) := B9; clear X9 B9 t0; have t1 : (0 : Nat) = 0 := rfl))
  have KW : Hid (Wk w w7.drew c d (up s i 0) f (some b) v' (L.filter (nin i))) := KW.out.below (below_dr (Below.refl _ _) 1)
  have NX : Hid (Nx w3 w7.drew c d s (some b) v d (up s i 0) (some b) v') := NX.out.trans (Nx.of_below (below_dr (Below.refl _ _) 1))
  have VN : Hid (Vr w7.drew w5.heap.size (rmc (up s i 0) v')) := VN.out.drewN 1
  have VZ : Hid (Vr w7.drew w2.heap.size (rmc (fun _ => 0) (.slice none 0 0))) := VZ.out.drewN 1
  have PL1 : Hid (Pls w7.drew vl RL) := PL1.out.below (below_dr (Below.refl _ _) 1)
  have PL2 : Hid (Pls w7.drew vg RL) := PL2.out.below (below_dr (Below.refl _ _) 1)
  refine wp_region_held_drew (S := fun w' => w'.rangeAt w5.heap.size 0 (rmc (up s i 0) v')) (by kernel_rfl) VN.out.1 (fun hS => ?_)
  obtain ⟨y9_1, hx0⟩ : ∃ x, x = w7.drew := ⟨_, rfl⟩
  rw [← hx0] at hS KW NX VN VZ PL1 PL2 ⊢
  clear hx0
  refine take_lawH 0 (some 67) (.agg (rmc (up s i 0) v').toArray) rfl rfl (by kernel_rfl) (by kernel_rfl) (by kernel_rfl) (fun _ _ _ h => h) (Or.inl ⟨by rfl, fun w' hw' => by exact exec_loadN 28 (.tmp 10) rfl _ rfl _ _ (load_cells rowy_rmap hw')⟩) hS ?_
  simp only [Act.put, List.setIfInBounds_toArray, List.set_cons_zero, List.set_cons_succ]
  refine take_lawH 1 (some 68) (.int .i64 0) rfl rfl (by kernel_rfl) (by kernel_rfl) (by kernel_rfl) (fun _ _ _ h => h) (Or.inl ⟨by rfl, fun w' hw' => by rfl⟩) hS ?_
  simp only [Act.put, List.setIfInBounds_toArray, List.set_cons_zero, List.set_cons_succ]
  refine take_lawH 2 (some 69) (.bool true) rfl rfl (by kernel_rfl) (by kernel_rfl) (by kernel_rfl) (fun _ _ _ h => h) (Or.inl ⟨by rfl, fun w' hw' => by go_simp⟩) hS ?_
  simp only [Act.put, List.setIfInBounds_toArray, List.set_cons_zero, List.set_cons_succ]
  refine take_lawH 3 (some 70) (.bool true) rfl rfl (by kernel_rfl) (by kernel_rfl) (by kernel_rfl) (fun _ _ _ h => h) (Or.inl ⟨by rfl, fun w' hw' => by rfl⟩) hS ?_
  simp only [Act.put, List.setIfInBounds_toArray, List.set_cons_zero, List.set_cons_succ]
  refine take_lawH 4 (some 71) (vl) rfl rfl (by kernel_rfl) (by kernel_rfl) (by kernel_rfl) (fun _ _ _ h => h) (Or.inl ⟨by rfl, fun w' hw' => by rfl⟩) hS ?_
  simp only [Act.put, List.setIfInBounds_toArray, List.set_cons_zero, List.set_cons_succ]
  refine take_lawH 5 (some 72) (vg) rfl rfl (by kernel_rfl) (by kernel_rfl) (by kernel_rfl) (fun _ _ _ h => h) (Or.inl ⟨by rfl, fun w' hw' => by rfl⟩) hS ?_
  simp only [Act.put, List.setIfInBounds_toArray, List.set_cons_zero, List.set_cons_succ]
  refine wpAnyH_ready (rs := [6]) (by kernel_rfl) (by simp) ?_
  refine AllReadyH.cons rfl (fun K hK => ?_) AllReadyH.nil
  refine step_callW y9_1 (by rfl) (some 73) rfl 28 #[.tmp 71, .tmp 72] _ rfl (fun _ _ => rfl) #[vl, vg] (by simp only [List.map_toArray, List.map_cons, List.map_nil]; rfl) (fun v9 w' => v9 = .bool true ∧ Below y9_1.heap.size y9_1 w') ((places_any vl vg RL y9_1 PL1.out PL2.out LN.out).mono fun e w' ⟨h1, h2⟩ => ⟨_, h1, rfl, h2⟩) ?_
  rintro v9 y9_2 ⟨rfl, B9⟩
  have KW : Hid (Wk w y9_2 c d (up s i 0) f (some b) v' (L.filter (nin i))) := KW.out.below B9
  have NX : Hid (Nx w3 y9_2 c d s (some b) v d (up s i 0) (some b) v') := NX.out.trans (Nx.of_below B9)
  have VN : Hid (Vr y9_2 w5.heap.size (rmc (up s i 0) v')) := VN.out.below B9 (range_lt VN.out.1 (Nat.succ_pos _))
  have VZ : Hid (Vr y9_2 w2.heap.size (rmc (fun _ => 0) (.slice none 0 0))) := VZ.out.below B9 (range_lt VZ.out.1 (Nat.succ_pos _))
  have hS : y9_2.rangeAt w5.heap.size 0 (rmc (up s i 0) v') := VN.out.1
  clear B9
  refine hK.out _ _ hS (fun _ => ?_)
  simp only [Act.put, List.setIfInBounds_toArray, List.set_cons_zero, List.set_cons_succ]
  clear hK K
  refine take_lawH 7 (some 74) (.bool true) rfl rfl (by kernel_rfl) (by kernel_rfl) (by kernel_rfl) (fun _ _ _ h => h) (Or.inl ⟨by rfl, fun w' hw' => by rfl⟩) hS ?_
  simp only [Act.put, List.setIfInBounds_toArray, List.set_cons_zero, List.set_cons_succ]
  refine wpAnyH_ready (rs := [8]) (by kernel_rfl) (by simp) ?_
  refine AllReadyH.cons rfl (fun K hK => ?_) AllReadyH.nil
  refine step_storeG y9_2 rfl none rfl (.tmp 6) (.tmp 67) 28 rfl w2.heap.size (rmc (fun _ => 0) (.slice none 0 0)) (rmc (up s i 0) v') rfl rfl VZ.out rfl size_rmap (rmc_all KW.out.l) ?_
  intro y9_3 X9 G9
  have R9 : Hid (y9_3.rangeAt w2.heap.size 0 (rmc (up s i 0) v')) := X9.1
  have G8 : Hid (y9_2.grownBy y9_3 (some w2.heap.size)) := G9
  have VN : Hid (Vr y9_3 w5.heap.size (rmc (up s i 0) v')) := VN.out.heap (G9.block _ (range_lt VN.out.1 (Nat.succ_pos _)) (fun e => by have := BX.out; have := Option.some.inj e; omega))
  have hS : y9_3.rangeAt w5.heap.size 0 (rmc (up s i 0) v') := VN.out.1
  clear X9 G9
  refine hK.out _ _ hS (fun _ => ?_)
  simp only [Act.put]
  clear hK K
  refine take_lawH 9 (some 7) (.bool true) rfl rfl (by kernel_rfl) (by kernel_rfl) (by kernel_rfl) (fun _ _ _ h => h) (Or.inl ⟨by rfl, fun w' hw' => by rfl⟩) hS ?_
  simp only [Act.put, List.setIfInBounds_toArray, List.set_cons_zero, List.set_cons_succ]
  refine wpAnyH_done (by kernel_rfl) ?_ _
  go_wp2
  have FR := NX.out.free LZ.out FZ.out.1 FZ.out.2
  exact bodyPost_ret (v := .tuple #[.agg (rmc (up s i 0) v').toArray, .bool true]) (results_cv rfl _ _ w2.heap.size _ (.bool true) rowy_rmap rfl rfl R9.out) rfl ⟨_, _, _, _, v', _, rfl, KW.out.var G8.out (Nat.le_trans HK.out.h.size B2.out.1) FR.1 FR.2, ((Nx.of_below BB.out).trans NX.out).var G8.out B2.out.1⟩
set_option maxHeartbeats 8000000 in
theorem step3a (w wr : World) (c : Nat) (d s : Nat → Nat) (f : Nat → Nat → Sp) (rb : Option Nat) (v : Value) (L : List Ce) (x : Stp) (hk : Wk w wr c d s f rb v L) (hx : x.k = 3) (ho : Hok x.s.h) (hr : ¬ Rgt s x.s.h) : Calls Try.prog 10 #[pt c, .agg (rmc s v).toArray, .agg x.cs.toArray] wr (Ans w wr c d s rb v) := by
  have HK : Hid (Wk w wr c d s f rb v L) := hk
  have KX : Hid (x.k = 3) := hx
  have SP : Hid (∀ W, Below wr.heap.size wr W → Calls Try.prog 20 #[pt c, .agg x.s.cs.toArray] W fun e w' => e = .returned (.tuple #[.slice none 0 0, .int .i64 2]) ∧ Below W.heap.size W w') := fun W hW => put_no (pt c) d s f (cnt s f) x.s W (.inr ⟨c, rb, rfl, hk.m.below hW⟩) ho hk.z9 hr
  have SR : Hid (∀ W, Calls Try.prog 29 #[.agg (rmc s v).toArray, .agg x.s.cs.toArray] W fun e w' => e = .returned (.bool false) ∧ Below W.heap.size W w') := fun W => by rw [← decide_eq_false hr]; exact rright_any s v x.s W hk.z9 ho
  clear hk hx ho hr
  have t0 : (0 : Nat) = 0 := rfl
  go_enter Try.func10, Try.ntmps10
  go_wp2_with (first
    | (have qq := t4; go_at_call 20; refine (SP.out _ BB.out).mono ?_; rintro e w4 ⟨rfl, B9⟩; have VZ : Hid (Vr w4 w2.heap.size (rmc (fun _ => 0) (.slice none 0 0))) := VZ.out.below B9 (range_lt VZ.out.1 (Nat.succ_pos _)); have VM : Hid (Vr w4 wr.heap.size (rmc s v)) := VM.out.below B9 (range_lt VM.out.1 (Nat.succ_pos _)); have VX : Hid (Vr w4 w1.heap.size x.cs) := VX.out.below B9 (range_lt VX.out.1 (Nat.succ_pos _)); have BB : Hid (Below wr.heap.size wr w4) := BB.out.trans (B9.mono BB.out.size); clear B9 nk t4)
    | (have qq := t3; refine load_law _ (by rfl) 37 (.tmp 79) rfl w1.heap.size 3 x.s.cs rfl rowy_spot (stp_spot VX.out.1) ?_; clear t3; have t4 : (0 : Nat) = 0 := rfl)
    | (have qq := t2; (with_reducible refine at_alloc ?_); refine new_lawC _ _ zero_rmap ?_; intro w3 X9 B9 _; have VZ : Hid (Vr w3 w2.heap.size (rmc (fun _ => 0) (.slice none 0 0))) := X9; have VM : Hid (Vr w3 wr.heap.size (rmc s v)) := VM.out.below B9 (range_lt VM.out.1 (Nat.succ_pos _)); have VX : Hid (Vr w3 w1.heap.size x.cs) := VX.out.below B9 (range_lt VX.out.1 (Nat.succ_pos _)); have B2 : Hid (wr.heap.size ≤ w2.heap.size ∧ wr.heap.size < w2.heap.size ∧ w1.heap.size < w2.heap.size ∧ wr.heap.size ≤ w1.heap.size) := ⟨BB.out.size, LM.out, LX.out, L1.out⟩; have BB : Hid (Below wr.heap.size wr w3) := BB.out.trans (B9.mono BB.out.size); have nk : w3.cell? ⟨w1.heap.size, 0, none⟩ = some (.int .i64 3) := (by rw [← KX.out]; exact VX.out.cell 0 _ rfl); clear X9 B9 LM LX L1 t2; have t3 : (0 : Nat) = 0 := rfl)
    | (have qq := t1; refine box_lawC _ x.cs rfl ?_; intro w2 X9 B9 l9; have VX : Hid (Vr w2 w1.heap.size x.cs) := X9; have VM : Hid (Vr w2 wr.heap.size (rmc s v)) := VM.out.below B9 (range_lt VM.out.1 (Nat.succ_pos _)); have L1 : Hid (wr.heap.size ≤ w1.heap.size) := BB.out.size; have BB : Hid (Below wr.heap.size wr w2) := BB.out.trans (B9.mono BB.out.size); have LM : Hid (wr.heap.size < w2.heap.size) := range_lt VM.out.1 (Nat.succ_pos _); have LX : Hid (w1.heap.size < w2.heap.size) := l9; clear X9 B9 l9 t1; have t2 : (0 : Nat) = 0 := rfl)
    | (have qq := t0; refine box_lawC _ (rmc s v) rfl ?_; intro w1 X9 B9 _; have VM : Hid (Vr w1 wr.heap.size (rmc s v)) := X9; have BB : Hid (Below wr.heap.size wr w1) := B9; clear X9 B9 t0; have t1 : (0 : Nat) = 0 := rfl))
  have BL : Hid (Below w4.heap.size w4 w4.drew) := below_dr (Below.refl _ _) 1
  have VM : Hid (Vr w4.drew wr.heap.size (rmc s v)) := VM.out.drewN 1
  have VX : Hid (Vr w4.drew w1.heap.size x.cs) := VX.out.drewN 1
  refine wp_region_held_drew (S := fun w' => w'.rangeAt wr.heap.size 0 (rmc s v) ∧ w'.rangeAt w1.heap.size 3 x.s.cs) (by kernel_rfl) ⟨VM.out.1, stp_spot VX.out.1⟩ (fun hS => ?_)
  obtain ⟨u1, hx0⟩ : ∃ x, x = w4.drew := ⟨_, rfl⟩
  rw [← hx0] at hS BL VM VX ⊢
  clear hx0
  refine take_lawH 0 (some 84) (.agg (rmc s v).toArray) rfl rfl (by kernel_rfl) (by kernel_rfl) (by kernel_rfl) (fun _ _ _ h => h) (Or.inl ⟨by rfl, fun w' hw' => by exact exec_loadN 28 (.tmp 4) rfl _ rfl _ _ (load_cells rowy_rmap hw'.1)⟩) hS ?_
  simp only [Act.put, List.setIfInBounds_toArray, List.set_cons_zero, List.set_cons_succ]
  refine take_lawH 1 (some 85) (.pointer (some ⟨w1.heap.size, 3, none⟩)) rfl rfl (by kernel_rfl) (by kernel_rfl) (by kernel_rfl) (fun _ _ _ h => h) (Or.inl ⟨by rfl, fun w' hw' => by go_simp⟩) hS ?_
  simp only [Act.put, List.setIfInBounds_toArray, List.set_cons_zero, List.set_cons_succ]
  refine take_lawH 2 (some 86) (.agg x.s.cs.toArray) rfl rfl (by kernel_rfl) (by kernel_rfl) (by kernel_rfl) (fun _ _ _ h => h) (Or.inl ⟨by rfl, fun w' hw' => by exact exec_loadN 37 (.tmp 85) rfl _ rfl _ _ (load_cells rowy_spot hw'.2)⟩) hS ?_
  simp only [Act.put, List.setIfInBounds_toArray, List.set_cons_zero, List.set_cons_succ]
  refine wpAnyH_ready (rs := [3]) (by kernel_rfl) (by simp) ?_
  refine AllReadyH.cons rfl (fun K hK => ?_) AllReadyH.nil
  refine step_callG u1 rfl (some 87) rfl 18 #[.tmp 86] _ rfl (fun _ _ => rfl) #[.agg x.s.cs.toArray] (by simp only [List.map_toArray, List.map_cons, List.map_nil]; rfl) (fun v9 w' => v9 = .agg x.s.cs.toArray ∧ Below u1.heap.size u1 w') ((of_any x.s u1).mono fun e w' ⟨h1, h2⟩ => ⟨_, h1, rfl, h2⟩) ?_
  rintro v9 u2 ⟨rfl, B9⟩
  have BL : Hid (Below w4.heap.size w4 u2) := BL.out.trans (B9.mono BL.out.size)
  have VM : Hid (Vr u2 wr.heap.size (rmc s v)) := VM.out.below B9 (range_lt VM.out.1 (Nat.succ_pos _))
  have VX : Hid (Vr u2 w1.heap.size x.cs) := VX.out.below B9 (range_lt VX.out.1 (Nat.succ_pos _))
  have hS : u2.rangeAt wr.heap.size 0 (rmc s v) ∧ u2.rangeAt w1.heap.size 3 x.s.cs := ⟨VM.out.1, stp_spot VX.out.1⟩
  clear B9
  refine hK.out _ _ hS (fun _ => ?_)
  simp only [Act.put, List.setIfInBounds_toArray, List.set_cons_zero, List.set_cons_succ]
  clear hK K
  refine wpAnyH_ready (rs := [4]) (by kernel_rfl) (by simp) ?_
  refine AllReadyH.cons rfl (fun K hK => ?_) AllReadyH.nil
  refine step_callG u2 rfl (some 88) rfl 29 #[.tmp 84, .tmp 87] _ rfl (fun _ _ => rfl) #[.agg (rmc s v).toArray, .agg x.s.cs.toArray] (by simp only [List.map_toArray, List.map_cons, List.map_nil]; rfl) (fun v9 w' => v9 = .bool false ∧ Below u2.heap.size u2 w') ((SR.out u2).mono fun e w' ⟨h1, h2⟩ => ⟨_, h1, rfl, h2⟩) ?_
  rintro v9 u3 ⟨rfl, B9⟩
  have BL : Hid (Below w4.heap.size w4 u3) := BL.out.trans (B9.mono BL.out.size)
  have VM : Hid (Vr u3 wr.heap.size (rmc s v)) := VM.out.below B9 (range_lt VM.out.1 (Nat.succ_pos _))
  have VX : Hid (Vr u3 w1.heap.size x.cs) := VX.out.below B9 (range_lt VX.out.1 (Nat.succ_pos _))
  have hS : u3.rangeAt wr.heap.size 0 (rmc s v) ∧ u3.rangeAt w1.heap.size 3 x.s.cs := ⟨VM.out.1, stp_spot VX.out.1⟩
  clear B9
  refine hK.out _ _ hS (fun _ => ?_)
  simp only [Act.put, List.setIfInBounds_toArray, List.set_cons_zero, List.set_cons_succ]
  clear hK K
  refine take_lawH 5 (some 89) (.bool true) rfl rfl (by kernel_rfl) (by kernel_rfl) (by kernel_rfl) (fun _ _ _ h => h) (Or.inl ⟨by rfl, fun w' hw' => by go_simp⟩) hS ?_
  simp only [Act.put, List.setIfInBounds_toArray, List.set_cons_zero, List.set_cons_succ]
  refine wpAnyH_done (by kernel_rfl) ?_ _
  have t7 : (0 : Nat) = 0 := rfl
  have VZ : Hid (Vr u3 w2.heap.size (rmc (fun _ => 0) (.slice none 0 0))) := VZ.out.below BL.out (range_lt VZ.out.1 (Nat.succ_pos _))
  have BB : Hid (Below wr.heap.size wr u3) := BB.out.trans (BL.out.mono BB.out.size)
  go_wp2_with (first
    | (have qq := tx; (with_reducible refine at_store ?_); refine store_lawC _ (rmc s v) w2.heap.size 0 rfl rfl VZ.out.2 size_rmap (rmc_all HK.out.l) ?_; intro w9 e9 r9 _ _; have R9 : Hid (w9.rangeAt w2.heap.size 0 (rmc s v)) := r9; have G9 : Hid (u3.grownBy w9 (some w2.heap.size)) := (by rw [e9.out]; exact (wrt_cells u3 w2.heap.size 0 5 _ rfl).1); clear e9 r9 tx)
    | (have qq := t7; refine load_law _ (by rfl) 28 (.tmp 4) rfl wr.heap.size 0 (rmc s v) rfl rowy_rmap VM.out.1 ?_; clear t7; have tx : (0 : Nat) = 0 := rfl))
  have FR := HK.out.fresh B2.out.1
  exact bodyPost_ret (v := .tuple #[.agg (rmc s v).toArray, .bool true]) (results_cv rfl _ _ w2.heap.size _ (.bool true) rowy_rmap rfl rfl R9.out) rfl ⟨d, s, f, rb, v, L, rfl, (HK.out.below BB.out).var G9.out (Nat.le_trans HK.out.h.size B2.out.1) FR.1 FR.2, (Nx.of_below BB.out).var G9.out B2.out.1⟩
end Go.Proofs.Ytedmmpognhpbdaa.pm
