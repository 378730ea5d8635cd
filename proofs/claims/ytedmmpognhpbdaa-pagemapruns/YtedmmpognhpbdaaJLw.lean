/- What the law PagemapRuns has in memory; its places and its add. No claim of its own. -/
import Derived.Test.YtedmmpognhpbdaaJMu
namespace Go.Proofs.Ytedmmpognhpbdaa.pm
open Go.RowKit Go.Proofs.Ytedmmpognhpbdaa.he
set_option maxRecDepth 20000

/-- the program's map and the reference's, side by side -/
structure Wk (w wr : World) (c : Nat) (d s : Nat → Nat) (f : Nat → Nat → Sp) (rb : Option Nat) (v : Value) (L : List Ce) : Prop where
  m : Pm wr c d s f rb (cnt s f)
  r : Rel s f L
  l : Cl wr v L
  h : Below w.heap.size w wr
  own : ∀ k, Own4 c d s rb k → w.heap.size ≤ k
  dis : ∀ k, Blk v k → ¬ Own4 c d s rb k
  lv : ∀ k, Blk v k → w.heap.size ≤ k ∧ k < wr.heap.size
  z : ∀ j, j < 4 → s j ≤ 40
/-- what a change of both leaves of all else -/
structure Nx (wr w' : World) (c : Nat) (d s : Nat → Nat) (rb : Option Nat) (v : Value) (d' s' : Nat → Nat) (rb' : Option Nat) (v' : Value) : Prop where
  ch : Ch (Own4 c d s rb) wr w'
  no : ∀ k, Own4 c d' s' rb' k → Own4 c d s rb k ∨ wr.heap.size ≤ k
  nv : ∀ k, Blk v' k → Blk v k ∨ wr.heap.size ≤ k
section
variable {w wr w1 w' : World} {c b : Nat} {d s d' s' d2 s2 : Nat → Nat} {f f' : Nat → Nat → Sp} {rb rb' rb2 : Option Nat} {v v' v2 : Value} {L L' : List Ce} {cs : List Value}
theorem Wk.z9 (h : Wk w wr c d s f rb v L) : ∀ j, j < 4 → s j ≤ 65535 := fun j hj => Nat.le_trans (h.z j hj) (by omega)
theorem Wk.len (h : Wk w wr c d s f rb v L) : L.length ≤ 160 := by
  have := h.r.len
  have := h.z 0 (by omega)
  have := h.z 1 (by omega)
  have := h.z 2 (by omega)
  have := h.z 3 (by omega)
  omega
theorem Wk.below (h : Wk w wr c d s f rb v L) (hb : Below wr.heap.size wr w') : Wk w w' c d s f rb v L :=
  ⟨h.m.below hb, h.r, h.l.below hb, h.h.trans (hb.mono h.h.size), h.own, h.dis, fun k hk => ⟨(h.lv k hk).1, Nat.lt_of_lt_of_le (h.lv k hk).2 hb.size⟩, h.z⟩
theorem Wk.olt (h : Wk w wr c d s f rb v L) {k : Nat} (hk : Own4 c d s rb k) : k < wr.heap.size := h.m.olt hk
/-- a variable of the call's own is written -/
theorem Wk.var (h : Wk w wr c d s f rb v L) (hg : wr.grownBy w' (some b)) (hw : w.heap.size ≤ b) (ho : ¬ Own4 c d s rb b) (hv : ¬ Blk v b) : Wk w w' c d s f rb v L :=
  ⟨h.m.ch (Ch.of_grown (P := fun k => k = b) hg rfl) (fun k hk e => ho (by rw [← e]; exact hk)), h.r, h.l.ch (Ch.of_grown (P := fun k => k = b) hg rfl) (fun k hk e => hv (by rw [← e]; exact hk)), h.h.grown hg h.h.size (fun k hk => by cases hk; exact hw), h.own, h.dis, fun k hk => ⟨(h.lv k hk).1, Nat.lt_of_lt_of_le (h.lv k hk).2 hg.size⟩, h.z⟩
theorem Nx.refl (wr : World) (c : Nat) (d s : Nat → Nat) (rb : Option Nat) (v : Value) : Nx wr wr c d s rb v d s rb v := ⟨Ch.refl _ _, fun _ h => .inl h, fun _ h => .inl h⟩
theorem Nx.of_below (hb : Below wr.heap.size wr w') : Nx wr w' c d s rb v d s rb v := ⟨Ch.of_below hb, fun _ h => .inl h, fun _ h => .inl h⟩
theorem Nx.trans (h : Nx wr w1 c d s rb v d' s' rb' v') (h' : Nx w1 w' c d' s' rb' v' d2 s2 rb2 v2) : Nx wr w' c d s rb v d2 s2 rb2 v2 := by
  have hs := h.ch.size
  refine ⟨h.ch.join h'.ch fun k hk ho => ?_, fun k hk => ?_, fun k hk => ?_⟩
  · rcases h.no k ho with e | e
    · exact e
    · omega
  · rcases h'.no k hk with e | e
    · exact h.no k e
    · exact .inr (by omega)
  · rcases h'.nv k hk with e | e
    · exact h.nv k e
    · exact .inr (by omega)
theorem Nx.var (h : Nx wr w1 c d s rb v d' s' rb' v') (hg : w1.grownBy w' (some b)) (hb : wr.heap.size ≤ b) : Nx wr w' c d s rb v d' s' rb' v' :=
  ⟨h.ch.join (Ch.of_grown (P := fun k => k = b) hg rfl) (fun k hk e => by omega), h.no, h.nv⟩
/-- what stays: a variable of the call's own behind a change -/
theorem Nx.keep (h : Nx wr w' c d s rb v d' s' rb' v') (hV : Vr wr b cs) (hl : 0 < cs.length) (hb : ¬ Own4 c d s rb b) : Vr w' b cs := hV.heap (h.ch.block b (range_lt hV.1 hl) hb)
theorem Nx.free (h : Nx wr w' c d s rb v d' s' rb' v') (hb : b < wr.heap.size) (ho : ¬ Own4 c d s rb b) (hv : ¬ Blk v b) : ¬ Own4 c d' s' rb' b ∧ ¬ Blk v' b :=
  ⟨fun e => (h.no b e).elim ho (fun z => by omega), fun e => (h.nv b e).elim hv (fun z => by omega)⟩
theorem Wk.fresh (h : Wk w wr c d s f rb v L) (hb : wr.heap.size ≤ b) : ¬ Own4 c d s rb b ∧ ¬ Blk v b :=
  ⟨fun e => by have := h.olt e; omega, fun e => by have := (h.lv b e).2; omega⟩
end
set_option maxHeartbeats 2000000 in
/-- two lists of the same places -/
theorem places_any (v1 v2 : Value) (l : List PL) (w : World) (h1 : Pls w v1 l) (h2 : Pls w v2 l) (hn : l.length ≤ 100000) : Calls Try.prog 28 #[v1, v2] w fun e w' => e = .returned (.bool true) ∧ Below w.heap.size w w' := by
  obtain ⟨ao, c1, rfl, _, _, h1⟩ := h1
  obtain ⟨bo, c2, rfl, _, _, h2⟩ := h2
  obtain ⟨n, hN⟩ : ∃ n, n = l.length := ⟨_, rfl⟩
  have H1 : Hid (0 < n → ∃ g, ao = some ⟨g, 0, none⟩ ∧ Rl w g l) := by rw [hN]; exact h1
  have H2 : Hid (0 < n → ∃ g, bo = some ⟨g, 0, none⟩ ∧ Rl w g l) := by rw [hN]; exact h2
  have NN : Hid (n = l.length) := hN
  rw [← hN]
  have n9 : (n : Int) ≤ 100000 := by omega
  clear h1 h2 hN hn
  go_enter Try.func28, Try.ntmps28
  go_wp2
  go_loopw [5] (fun iv wr => ∃ k : Nat, k ≤ n ∧ iv = .int .i64 k ∧ Hid (Below w.heap.size w wr)) (fun iv _ => n - (intOf iv).toNat)
  case atStart => exact ⟨0, Nat.zero_le _, rfl, Below.refl _ _⟩
  case round =>
    obtain ⟨k, hk, rfl, HB⟩ := hrel
    have k0 : (0 : Int) ≤ (k : Int) := by omega
    have kw : IntKind.i64.wrap ((k : Int) + 1) = ((k + 1 : Nat) : Int) := by rw [IntKind.wrap_i64]; omega
    by_cases hlt : k < n
    · have k1 : (k : Int) < (n : Int) := by omega
      obtain ⟨g, rfl, r1⟩ := H1.out (by omega)
      obtain ⟨g', rfl, r2⟩ := H2.out (by omega)
      obtain ⟨x, hx⟩ : ∃ x, l[k]? = some x := ⟨_, List.getElem?_eq_getElem (by have := NN.out; omega)⟩
      have nx := two ((r1.below HB.out) k x hx)
      have ny := two ((r2.below HB.out) k x hx)
      have eq : ∀ W : World, (Op.equalIn 10000 31 (.agg #[.int .i64 x.1, .int .i64 x.2]) (.agg #[.int .i64 x.1, .int .i64 x.2])).run Try.prog W = .ok true W := fun W => (run_equal x x W).trans (by rw [decide_eq_true rfl])
      have gd : Try.prog.eqGuardType Try.prog.depth 31 = false := by kernel_rfl
      clear hx r1 r2
      go_wp2
      go_quiet (fail)
      clear eq nx ny
      go_wp2
      go_roundw
      case rel => exact ⟨k + 1, by omega, by go_num, below_dr HB.out _⟩
      case measure => simp [intOf]; omega
    · have k1 : ¬ (k : Int) < (n : Int) := by omega
      go_wp2
      go_ret
      exact ⟨rfl, HB.out⟩
/-- what a change answers, of both -/
def Ans (w wr : World) (c : Nat) (d s : Nat → Nat) (rb : Option Nat) (v : Value) (e : Ending) (w' : World) : Prop := ∃ d' s' f' rb' v' L', e = .returned (.tuple #[.agg (rmc s' v').toArray, .bool true]) ∧ Wk w w' c d' s' f' rb' v' L' ∧ Nx wr w' c d s rb v d' s' rb' v'
theorem cl_one {w : World} {v : Value} {L : List Ce} (h : Cl w v L) : v.oneCell' = true := by
  obtain ⟨ao, cap, rfl, _⟩ := h
  cases ao <;> rfl
theorem rmc_all {w : World} {s : Nat → Nat} {v : Value} {L : List Ce} (h : Cl w v L) : ∀ u ∈ rmc s v, u.oneCell' = true := fun u hu => by
  simp only [rmc, List.mem_cons, List.not_mem_nil, or_false] at hu
  rcases hu with rfl | rfl | rfl | rfl | rfl
  · rfl
  · rfl
  · rfl
  · rfl
  · exact cl_one h
set_option maxHeartbeats 4000000 in
theorem add1 (w wr : World) (c : Nat) (d s : Nat → Nat) (f : Nat → Nat → Sp) (rb : Option Nat) (v : Value) (L : List Ce) (x : Stp) (hk : Wk w wr c d s f rb v L) (hn : x.n < 0) : Calls Try.prog 26 #[pt c, .agg (rmc s v).toArray, .agg x.cs.toArray] wr (Ans w wr c d s rb v) := by
  have HK : Hid (Wk w wr c d s f rb v L) := hk
  have SA : Hid (∀ W, Below wr.heap.size wr W → Calls Try.prog 19 #[pt c, .int .i64 x.n, .int .i64 x.z] W fun e w' => e = .returned (.int .i64 2) ∧ w' = W) := fun W hW => add_no (pt c) d s f (cnt s f) x.n x.z W (.inr ⟨c, rb, rfl, hk.m.below hW⟩) (.inr (.inl (by omega)))
  have d1 : decide (x.n < 0) = true := decide_eq_true (by omega)
  clear hk hn
  have t0 : (0 : Nat) = 0 := rfl
  go_enter Try.func26, Try.ntmps26
  go_wp2_with (first
    | (have qq := t6; (with_reducible refine at_store ?_); refine store_lawC _ (rmc s v) w2.heap.size 0 rfl rfl VZ.out.2 size_rmap (rmc_all HK.out.l) ?_; intro w5 e9 r9 _ _; have R9 : Hid (w5.rangeAt w2.heap.size 0 (rmc s v)) := r9; have G9 : Hid (w3.grownBy w5 (some w2.heap.size)) := (by rw [e9.out]; exact (wrt_cells w3 w2.heap.size 0 5 _ rfl).1); clear e9 r9 t6)
    | (have qq := t5; refine load_law _ (by rfl) 28 (.tmp 4) rfl wr.heap.size 0 (rmc s v) rfl rowy_rmap VM.out.1 ?_; clear t5; have t6 : (0 : Nat) = 0 := rfl)
    | (have qq := t3; go_at_call 19; refine (SA.out _ BB.out).mono ?_; rintro e w4 ⟨rfl, hw⟩; obtain rfl := hw.symm; clear t3; have t5 : (0 : Nat) = 0 := rfl)
    | (have qq := t2; (with_reducible refine at_alloc ?_); refine new_lawC _ _ zero_rmap ?_; intro w3 X9 B9 _; have VZ : Hid (Vr w3 w2.heap.size (rmc (fun _ => 0) (.slice none 0 0))) := X9; have VM : Hid (Vr w3 wr.heap.size (rmc s v)) := VM.out.below B9 (range_lt VM.out.1 (Nat.succ_pos _)); have VX : Hid (Vr w3 w1.heap.size x.cs) := VX.out.below B9 (range_lt VX.out.1 (Nat.succ_pos _)); have B2 : Hid (wr.heap.size ≤ w2.heap.size ∧ wr.heap.size < w2.heap.size ∧ w1.heap.size < w2.heap.size ∧ wr.heap.size ≤ w1.heap.size) := ⟨BB.out.size, LM.out, LX.out, L1.out⟩; have BB : Hid (Below wr.heap.size wr w3) := BB.out.trans (B9.mono BB.out.size); have nx := VX.out.cell 1 _ rfl; have nz := VX.out.cell 2 _ rfl; clear X9 B9 LM LX L1 t2; have t3 : (0 : Nat) = 0 := rfl)
    | (have qq := t1; refine box_lawC _ x.cs rfl ?_; intro w2 X9 B9 l9; have VX : Hid (Vr w2 w1.heap.size x.cs) := X9; have VM : Hid (Vr w2 wr.heap.size (rmc s v)) := VM.out.below B9 (range_lt VM.out.1 (Nat.succ_pos _)); have L1 : Hid (wr.heap.size ≤ w1.heap.size) := BB.out.size; have BB : Hid (Below wr.heap.size wr w2) := BB.out.trans (B9.mono BB.out.size); have LM : Hid (wr.heap.size < w2.heap.size) := range_lt VM.out.1 (Nat.succ_pos _); have LX : Hid (w1.heap.size < w2.heap.size) := l9; clear X9 B9 l9 t1; have t2 : (0 : Nat) = 0 := rfl)
    | (have qq := t0; refine box_lawC _ (rmc s v) rfl ?_; intro w1 X9 B9 _; have VM : Hid (Vr w1 wr.heap.size (rmc s v)) := X9; have BB : Hid (Below wr.heap.size wr w1) := B9; clear X9 B9 t0; have t1 : (0 : Nat) = 0 := rfl))
  have FR := HK.out.fresh B2.out.1
  exact bodyPost_ret (v := .tuple #[.agg (rmc s v).toArray, .bool true]) (results_cv rfl _ _ w2.heap.size _ (.bool true) rowy_rmap rfl rfl R9.out) rfl ⟨d, s, f, rb, v, L, rfl, (HK.out.below BB.out).var G9.out (Nat.le_trans HK.out.h.size B2.out.1) FR.1 FR.2, (Nx.of_below BB.out).var G9.out B2.out.1⟩
set_option maxHeartbeats 4000000 in
theorem add2 (w wr : World) (c : Nat) (d s : Nat → Nat) (f : Nat → Nat → Sp) (rb : Option Nat) (v : Value) (L : List Ce) (x : Stp) (hk : Wk w wr c d s f rb v L) (hn : x.n > 3) : Calls Try.prog 26 #[pt c, .agg (rmc s v).toArray, .agg x.cs.toArray] wr (Ans w wr c d s rb v) := by
  have HK : Hid (Wk w wr c d s f rb v L) := hk
  have SA : Hid (∀ W, Below wr.heap.size wr W → Calls Try.prog 19 #[pt c, .int .i64 x.n, .int .i64 x.z] W fun e w' => e = .returned (.int .i64 2) ∧ w' = W) := fun W hW => add_no (pt c) d s f (cnt s f) x.n x.z W (.inr ⟨c, rb, rfl, hk.m.below hW⟩) (.inr (.inl (by omega)))
  have d1 : decide (x.n < 0) = false := decide_eq_false (by omega)
  have d2 : decide (x.n > 3) = true := decide_eq_true (by omega)
  clear hk hn
  have t0 : (0 : Nat) = 0 := rfl
  go_enter Try.func26, Try.ntmps26
  go_wp2_with (first
    | (have qq := t6; (with_reducible refine at_store ?_); refine store_lawC _ (rmc s v) w2.heap.size 0 rfl rfl VZ.out.2 size_rmap (rmc_all HK.out.l) ?_; intro w5 e9 r9 _ _; have R9 : Hid (w5.rangeAt w2.heap.size 0 (rmc s v)) := r9; have G9 : Hid (w3.grownBy w5 (some w2.heap.size)) := (by rw [e9.out]; exact (wrt_cells w3 w2.heap.size 0 5 _ rfl).1); clear e9 r9 t6)
    | (have qq := t5; refine load_law _ (by rfl) 28 (.tmp 4) rfl wr.heap.size 0 (rmc s v) rfl rowy_rmap VM.out.1 ?_; clear t5; have t6 : (0 : Nat) = 0 := rfl)
    | (have qq := t3; go_at_call 19; refine (SA.out _ BB.out).mono ?_; rintro e w4 ⟨rfl, hw⟩; obtain rfl := hw.symm; clear t3; have t5 : (0 : Nat) = 0 := rfl)
    | (have qq := t2; (with_reducible refine at_alloc ?_); refine new_lawC _ _ zero_rmap ?_; intro w3 X9 B9 _; have VZ : Hid (Vr w3 w2.heap.size (rmc (fun _ => 0) (.slice none 0 0))) := X9; have VM : Hid (Vr w3 wr.heap.size (rmc s v)) := VM.out.below B9 (range_lt VM.out.1 (Nat.succ_pos _)); have VX : Hid (Vr w3 w1.heap.size x.cs) := VX.out.below B9 (range_lt VX.out.1 (Nat.succ_pos _)); have B2 : Hid (wr.heap.size ≤ w2.heap.size ∧ wr.heap.size < w2.heap.size ∧ w1.heap.size < w2.heap.size ∧ wr.heap.size ≤ w1.heap.size) := ⟨BB.out.size, LM.out, LX.out, L1.out⟩; have BB : Hid (Below wr.heap.size wr w3) := BB.out.trans (B9.mono BB.out.size); have nx := VX.out.cell 1 _ rfl; have nz := VX.out.cell 2 _ rfl; clear X9 B9 LM LX L1 t2; have t3 : (0 : Nat) = 0 := rfl)
    | (have qq := t1; refine box_lawC _ x.cs rfl ?_; intro w2 X9 B9 l9; have VX : Hid (Vr w2 w1.heap.size x.cs) := X9; have VM : Hid (Vr w2 wr.heap.size (rmc s v)) := VM.out.below B9 (range_lt VM.out.1 (Nat.succ_pos _)); have L1 : Hid (wr.heap.size ≤ w1.heap.size) := BB.out.size; have BB : Hid (Below wr.heap.size wr w2) := BB.out.trans (B9.mono BB.out.size); have LM : Hid (wr.heap.size < w2.heap.size) := range_lt VM.out.1 (Nat.succ_pos _); have LX : Hid (w1.heap.size < w2.heap.size) := l9; clear X9 B9 l9 t1; have t2 : (0 : Nat) = 0 := rfl)
    | (have qq := t0; refine box_lawC _ (rmc s v) rfl ?_; intro w1 X9 B9 _; have VM : Hid (Vr w1 wr.heap.size (rmc s v)) := X9; have BB : Hid (Below wr.heap.size wr w1) := B9; clear X9 B9 t0; have t1 : (0 : Nat) = 0 := rfl))
  have FR := HK.out.fresh B2.out.1
  exact bodyPost_ret (v := .tuple #[.agg (rmc s v).toArray, .bool true]) (results_cv rfl _ _ w2.heap.size _ (.bool true) rowy_rmap rfl rfl R9.out) rfl ⟨d, s, f, rb, v, L, rfl, (HK.out.below BB.out).var G9.out (Nat.le_trans HK.out.h.size B2.out.1) FR.1 FR.2, (Nx.of_below BB.out).var G9.out B2.out.1⟩
set_option maxHeartbeats 4000000 in
theorem add3 (w wr : World) (c : Nat) (d s : Nat → Nat) (f : Nat → Nat → Sp) (rb : Option Nat) (v : Value) (L : List Ce) (x : Stp) (hk : Wk w wr c d s f rb v L) (hn : ¬ x.n < 0) (hn2 : ¬ x.n > 3) (hz : x.z < 1) : Calls Try.prog 26 #[pt c, .agg (rmc s v).toArray, .agg x.cs.toArray] wr (Ans w wr c d s rb v) := by
  have HK : Hid (Wk w wr c d s f rb v L) := hk
  have SA : Hid (∀ W, Below wr.heap.size wr W → Calls Try.prog 19 #[pt c, .int .i64 x.n, .int .i64 x.z] W fun e w' => e = .returned (.int .i64 2) ∧ w' = W) := fun W hW => add_no (pt c) d s f (cnt s f) x.n x.z W (.inr ⟨c, rb, rfl, hk.m.below hW⟩) (.inr (.inr (.inl hz)))
  have d1 : decide (x.n < 0) = false := decide_eq_false (by omega)
  have d2 : decide (x.n > 3) = false := decide_eq_false (by omega)
  have d3 : decide (x.z < 1) = true := decide_eq_true (by omega)
  clear hk hn hn2 hz
  have t0 : (0 : Nat) = 0 := rfl
  go_enter Try.func26, Try.ntmps26
  go_wp2_with (first
    | (have qq := t6; (with_reducible refine at_store ?_); refine store_lawC _ (rmc s v) w2.heap.size 0 rfl rfl VZ.out.2 size_rmap (rmc_all HK.out.l) ?_; intro w5 e9 r9 _ _; have R9 : Hid (w5.rangeAt w2.heap.size 0 (rmc s v)) := r9; have G9 : Hid (w3.grownBy w5 (some w2.heap.size)) := (by rw [e9.out]; exact (wrt_cells w3 w2.heap.size 0 5 _ rfl).1); clear e9 r9 t6)
    | (have qq := t5; refine load_law _ (by rfl) 28 (.tmp 4) rfl wr.heap.size 0 (rmc s v) rfl rowy_rmap VM.out.1 ?_; clear t5; have t6 : (0 : Nat) = 0 := rfl)
    | (have qq := t3; go_at_call 19; refine (SA.out _ BB.out).mono ?_; rintro e w4 ⟨rfl, hw⟩; obtain rfl := hw.symm; clear t3; have t5 : (0 : Nat) = 0 := rfl)
    | (have qq := t2; (with_reducible refine at_alloc ?_); refine new_lawC _ _ zero_rmap ?_; intro w3 X9 B9 _; have VZ : Hid (Vr w3 w2.heap.size (rmc (fun _ => 0) (.slice none 0 0))) := X9; have VM : Hid (Vr w3 wr.heap.size (rmc s v)) := VM.out.below B9 (range_lt VM.out.1 (Nat.succ_pos _)); have VX : Hid (Vr w3 w1.heap.size x.cs) := VX.out.below B9 (range_lt VX.out.1 (Nat.succ_pos _)); have B2 : Hid (wr.heap.size ≤ w2.heap.size ∧ wr.heap.size < w2.heap.size ∧ w1.heap.size < w2.heap.size ∧ wr.heap.size ≤ w1.heap.size) := ⟨BB.out.size, LM.out, LX.out, L1.out⟩; have BB : Hid (Below wr.heap.size wr w3) := BB.out.trans (B9.mono BB.out.size); have nx := VX.out.cell 1 _ rfl; have nz := VX.out.cell 2 _ rfl; clear X9 B9 LM LX L1 t2; have t3 : (0 : Nat) = 0 := rfl)
    | (have qq := t1; refine box_lawC _ x.cs rfl ?_; intro w2 X9 B9 l9; have VX : Hid (Vr w2 w1.heap.size x.cs) := X9; have VM : Hid (Vr w2 wr.heap.size (rmc s v)) := VM.out.below B9 (range_lt VM.out.1 (Nat.succ_pos _)); have L1 : Hid (wr.heap.size ≤ w1.heap.size) := BB.out.size; have BB : Hid (Below wr.heap.size wr w2) := BB.out.trans (B9.mono BB.out.size); have LM : Hid (wr.heap.size < w2.heap.size) := range_lt VM.out.1 (Nat.succ_pos _); have LX : Hid (w1.heap.size < w2.heap.size) := l9; clear X9 B9 l9 t1; have t2 : (0 : Nat) = 0 := rfl)
    | (have qq := t0; refine box_lawC _ (rmc s v) rfl ?_; intro w1 X9 B9 _; have VM : Hid (Vr w1 wr.heap.size (rmc s v)) := X9; have BB : Hid (Below wr.heap.size wr w1) := B9; clear X9 B9 t0; have t1 : (0 : Nat) = 0 := rfl))
  have FR := HK.out.fresh B2.out.1
  exact bodyPost_ret (v := .tuple #[.agg (rmc s v).toArray, .bool true]) (results_cv rfl _ _ w2.heap.size _ (.bool true) rowy_rmap rfl rfl R9.out) rfl ⟨d, s, f, rb, v, L, rfl, (HK.out.below BB.out).var G9.out (Nat.le_trans HK.out.h.size B2.out.1) FR.1 FR.2, (Nx.of_below BB.out).var G9.out B2.out.1⟩
set_option maxHeartbeats 4000000 in
theorem add4 (w wr : World) (c : Nat) (d s : Nat → Nat) (f : Nat → Nat → Sp) (rb : Option Nat) (v : Value) (L : List Ce) (x : Stp) (hk : Wk w wr c d s f rb v L) (hn : ¬ x.n < 0) (hn2 : ¬ x.n > 3) (hz : ¬ x.z < 1) (hz2 : x.z > 65535) : Calls Try.prog 26 #[pt c, .agg (rmc s v).toArray, .agg x.cs.toArray] wr (Ans w wr c d s rb v) := by
  have HK : Hid (Wk w wr c d s f rb v L) := hk
  have SA : Hid (∀ W, Below wr.heap.size wr W → Calls Try.prog 19 #[pt c, .int .i64 x.n, .int .i64 x.z] W fun e w' => e = .returned (.int .i64 2) ∧ w' = W) := fun W hW => add_no (pt c) d s f (cnt s f) x.n x.z W (.inr ⟨c, rb, rfl, hk.m.below hW⟩) (.inr (.inr (.inr hz2)))
  have d1 : decide (x.n < 0) = false := decide_eq_false (by omega)
  have d2 : decide (x.n > 3) = false := decide_eq_false (by omega)
  have d3 : decide (x.z < 1) = false := decide_eq_false (by omega)
  have d4 : decide (x.z > 65535) = true := decide_eq_true (by omega)
  clear hk hn hn2 hz hz2
  have t0 : (0 : Nat) = 0 := rfl
  go_enter Try.func26, Try.ntmps26
  go_wp2_with (first
    | (have qq := t6; (with_reducible refine at_store ?_); refine store_lawC _ (rmc s v) w2.heap.size 0 rfl rfl VZ.out.2 size_rmap (rmc_all HK.out.l) ?_; intro w5 e9 r9 _ _; have R9 : Hid (w5.rangeAt w2.heap.size 0 (rmc s v)) := r9; have G9 : Hid (w3.grownBy w5 (some w2.heap.size)) := (by rw [e9.out]; exact (wrt_cells w3 w2.heap.size 0 5 _ rfl).1); clear e9 r9 t6)
    | (have qq := t5; refine load_law _ (by rfl) 28 (.tmp 4) rfl wr.heap.size 0 (rmc s v) rfl rowy_rmap VM.out.1 ?_; clear t5; have t6 : (0 : Nat) = 0 := rfl)
    | (have qq := t3; go_at_call 19; refine (SA.out _ BB.out).mono ?_; rintro e w4 ⟨rfl, hw⟩; obtain rfl := hw.symm; clear t3; have t5 : (0 : Nat) = 0 := rfl)
    | (have qq := t2; (with_reducible refine at_alloc ?_); refine new_lawC _ _ zero_rmap ?_; intro w3 X9 B9 _; have VZ : Hid (Vr w3 w2.heap.size (rmc (fun _ => 0) (.slice none 0 0))) := X9; have VM : Hid (Vr w3 wr.heap.size (rmc s v)) := VM.out.below B9 (range_lt VM.out.1 (Nat.succ_pos _)); have VX : Hid (Vr w3 w1.heap.size x.cs) := VX.out.below B9 (range_lt VX.out.1 (Nat.succ_pos _)); have B2 : Hid (wr.heap.size ≤ w2.heap.size ∧ wr.heap.size < w2.heap.size ∧ w1.heap.size < w2.heap.size ∧ wr.heap.size ≤ w1.heap.size) := ⟨BB.out.size, LM.out, LX.out, L1.out⟩; have BB : Hid (Below wr.heap.size wr w3) := BB.out.trans (B9.mono BB.out.size); have nx := VX.out.cell 1 _ rfl; have nz := VX.out.cell 2 _ rfl; clear X9 B9 LM LX L1 t2; have t3 : (0 : Nat) = 0 := rfl)
    | (have qq := t1; refine box_lawC _ x.cs rfl ?_; intro w2 X9 B9 l9; have VX : Hid (Vr w2 w1.heap.size x.cs) := X9; have VM : Hid (Vr w2 wr.heap.size (rmc s v)) := VM.out.below B9 (range_lt VM.out.1 (Nat.succ_pos _)); have L1 : Hid (wr.heap.size ≤ w1.heap.size) := BB.out.size; have BB : Hid (Below wr.heap.size wr w2) := BB.out.trans (B9.mono BB.out.size); have LM : Hid (wr.heap.size < w2.heap.size) := range_lt VM.out.1 (Nat.succ_pos _); have LX : Hid (w1.heap.size < w2.heap.size) := l9; clear X9 B9 l9 t1; have t2 : (0 : Nat) = 0 := rfl)
    | (have qq := t0; refine box_lawC _ (rmc s v) rfl ?_; intro w1 X9 B9 _; have VM : Hid (Vr w1 wr.heap.size (rmc s v)) := X9; have BB : Hid (Below wr.heap.size wr w1) := B9; clear X9 B9 t0; have t1 : (0 : Nat) = 0 := rfl))
  have FR := HK.out.fresh B2.out.1
  exact bodyPost_ret (v := .tuple #[.agg (rmc s v).toArray, .bool true]) (results_cv rfl _ _ w2.heap.size _ (.bool true) rowy_rmap rfl rfl R9.out) rfl ⟨d, s, f, rb, v, L, rfl, (HK.out.below BB.out).var G9.out (Nat.le_trans HK.out.h.size B2.out.1) FR.1 FR.2, (Nx.of_below BB.out).var G9.out B2.out.1⟩
set_option maxHeartbeats 4000000 in
theorem add5 (w wr : World) (c : Nat) (d s : Nat → Nat) (f : Nat → Nat → Sp) (rb : Option Nat) (v : Value) (L : List Ce) (x : Stp) (hk : Wk w wr c d s f rb v L) (i n : Nat) (hn : x.n = (i : Int)) (hi : i < 4) (hz : x.z = (n : Int)) (h1 : 1 ≤ n) (h2 : n ≤ 40) (hs : 0 < s i) : Calls Try.prog 26 #[pt c, .agg (rmc s v).toArray, .agg x.cs.toArray] wr (Ans w wr c d s rb v) := by
  have HK : Hid (Wk w wr c d s f rb v L) := hk
  have SA : Hid (∀ W, Below wr.heap.size wr W → Calls Try.prog 19 #[pt c, .int .i64 x.n, .int .i64 x.z] W fun e w' => e = .returned (.int .i64 11) ∧ w' = W) := fun W hW => by rw [hn, hz]; exact add_there c i n rb d s f (cnt s f) W (hk.m.below hW) hi h1 (by omega) hs
  rw [hn, hz] at SA
  have d1 : decide ((i : Int) < 0) = false := decide_eq_false (by omega)
  have d2 : decide ((i : Int) > 3) = false := decide_eq_false (by omega)
  have d3 : decide ((n : Int) < 1) = false := decide_eq_false (by omega)
  have d4 : decide ((n : Int) > 65535) = false := decide_eq_false (by omega)
  have d5 : decide ((s i : Int) > 0) = true := decide_eq_true (by omega)
  have d6 : decide (0 < s i) = true := decide_eq_true hs
  have i0 : (0 : Int) ≤ (i : Int) := by omega
  have i4 : (i : Int) < 4 := by omega
  have EN : Hid (x.n = (i : Int)) := hn
  have EZ : Hid (x.z = (n : Int)) := hz
  have I4 : Hid (i < 4) := hi
  clear hk hn hz h1 h2 hs hi
  have t0 : (0 : Nat) = 0 := rfl
  go_enter Try.func26, Try.ntmps26
  go_wp2_with (first
    | (have qq := t6; (with_reducible refine at_store ?_); refine store_lawC _ (rmc s v) w2.heap.size 0 rfl rfl VZ.out.2 size_rmap (rmc_all HK.out.l) ?_; intro w5 e9 r9 _ _; have R9 : Hid (w5.rangeAt w2.heap.size 0 (rmc s v)) := r9; have G9 : Hid (w3.grownBy w5 (some w2.heap.size)) := (by rw [e9.out]; exact (wrt_cells w3 w2.heap.size 0 5 _ rfl).1); clear e9 r9 t6)
    | (have qq := t5; refine load_law _ (by rfl) 28 (.tmp 4) rfl wr.heap.size 0 (rmc s v) rfl rowy_rmap VM.out.1 ?_; clear t5; have t6 : (0 : Nat) = 0 := rfl)
    | (have qq := t3; go_at_call 19; refine (SA.out _ BB.out).mono ?_; rintro e w4 ⟨rfl, hw⟩; obtain rfl := hw.symm; clear t3; have t5 : (0 : Nat) = 0 := rfl)
    | (have qq := t2; (with_reducible refine at_alloc ?_); refine new_lawC _ _ zero_rmap ?_; intro w3 X9 B9 _; have VZ : Hid (Vr w3 w2.heap.size (rmc (fun _ => 0) (.slice none 0 0))) := X9; have VM : Hid (Vr w3 wr.heap.size (rmc s v)) := VM.out.below B9 (range_lt VM.out.1 (Nat.succ_pos _)); have VX : Hid (Vr w3 w1.heap.size x.cs) := VX.out.below B9 (range_lt VX.out.1 (Nat.succ_pos _)); have B2 : Hid (wr.heap.size ≤ w2.heap.size ∧ wr.heap.size < w2.heap.size ∧ w1.heap.size < w2.heap.size ∧ wr.heap.size ≤ w1.heap.size) := ⟨BB.out.size, LM.out, LX.out, L1.out⟩; have BB : Hid (Below wr.heap.size wr w3) := BB.out.trans (B9.mono BB.out.size); have nx : w3.cell? ⟨w1.heap.size, 1, none⟩ = some (.int .i64 (i : Int)) := (by rw [← EN.out]; exact VX.out.cell 1 _ rfl); have nz : w3.cell? ⟨w1.heap.size, 2, none⟩ = some (.int .i64 (n : Int)) := (by rw [← EZ.out]; exact VX.out.cell 2 _ rfl); have ns := sz_cell VM.out I4.out; clear X9 B9 LM LX L1 t2; have t3 : (0 : Nat) = 0 := rfl)
    | (have qq := t1; refine box_lawC _ x.cs rfl ?_; intro w2 X9 B9 l9; have VX : Hid (Vr w2 w1.heap.size x.cs) := X9; have VM : Hid (Vr w2 wr.heap.size (rmc s v)) := VM.out.below B9 (range_lt VM.out.1 (Nat.succ_pos _)); have L1 : Hid (wr.heap.size ≤ w1.heap.size) := BB.out.size; have BB : Hid (Below wr.heap.size wr w2) := BB.out.trans (B9.mono BB.out.size); have LM : Hid (wr.heap.size < w2.heap.size) := range_lt VM.out.1 (Nat.succ_pos _); have LX : Hid (w1.heap.size < w2.heap.size) := l9; clear X9 B9 l9 t1; have t2 : (0 : Nat) = 0 := rfl)
    | (have qq := t0; refine box_lawC _ (rmc s v) rfl ?_; intro w1 X9 B9 _; have VM : Hid (Vr w1 wr.heap.size (rmc s v)) := X9; have BB : Hid (Below wr.heap.size wr w1) := B9; clear X9 B9 t0; have t1 : (0 : Nat) = 0 := rfl))
  have FR := HK.out.fresh B2.out.1
  exact bodyPost_ret (v := .tuple #[.agg (rmc s v).toArray, .bool true]) (results_cv rfl _ _ w2.heap.size _ (.bool true) rowy_rmap rfl rfl R9.out) rfl ⟨d, s, f, rb, v, L, rfl, (HK.out.below BB.out).var G9.out (Nat.le_trans HK.out.h.size B2.out.1) FR.1 FR.2, (Nx.of_below BB.out).var G9.out B2.out.1⟩
theorem nx_add {wr w' : World} {c i n D b' : Nat} {d s : Nat → Nat} {rb : Option Nat} {v : Value} (hc : Ch (fun k => k = c) wr w') (hD : wr.heap.size ≤ D) (hb : rb = some b' ∨ wr.heap.size ≤ b') (hs : s i = 0) : Nx wr w' c d s rb v (up d i D) (up s i n) (some b') v := by
  refine ⟨hc.weak fun k _ e => .inl e, fun k hk => ?_, fun k hk => .inl hk⟩
  rcases hk with e | ⟨j, hj, h1, h2⟩ | e
  · exact .inl (.inl e)
  · by_cases ej : j = i
    · subst ej
      rw [up_eq] at h2
      exact .inr (by omega)
    · rw [up_ne _ _ ej] at h1 h2
      exact .inl (.inr (.inl ⟨j, hj, h1, h2⟩))
  · rcases hb with hb | hb
    · exact .inl (.inr (.inr (hb.trans e)))
    · have := Option.some.inj e
      exact .inr (by omega)
theorem wk_add {w wr w' : World} {c i n D b' : Nat} {d s : Nat → Nat} {f : Nat → Nat → Sp} {rb : Option Nat} {v : Value} {L : List Ce} (h : Wk w wr c d s f rb v L) (p : Pm w' c (up d i D) (up s i n) (up f i (fun _ => sp0)) (some b') (cnt s f)) (x : Nx wr w' c d s rb v (up d i D) (up s i n) (some b') v) (hi : i < 4) (hs : s i = 0) (hn : 1 ≤ n ∧ n ≤ 40) : Wk w w' c (up d i D) (up s i n) (up f i (fun _ => sp0)) (some b') v L := by
  have hh := h.h.size
  refine ⟨by rw [cnt_add s f hi hs]; exact p, h.r.add hs, h.l.ch x.ch h.dis, h.h.trans (x.ch.below hh h.own), fun k hk => ?_, fun k hk ho => ?_, fun k hk => ⟨(h.lv k hk).1, Nat.lt_of_lt_of_le (h.lv k hk).2 x.ch.size⟩, fun j hj => ?_⟩
  · rcases x.no k hk with e | e
    · exact h.own k e
    · omega
  · rcases x.no k ho with e | e
    · exact h.dis k hk e
    · have := (h.lv k hk).2; omega
  · by_cases e : j = i
    · subst e; rw [up_eq]; exact hn.2
    · rw [up_ne _ _ e]; exact h.z j hj
set_option maxHeartbeats 4000000 in
theorem add6 (w wr : World) (c : Nat) (d s : Nat → Nat) (f : Nat → Nat → Sp) (rb : Option Nat) (v : Value) (L : List Ce) (x : Stp) (hk : Wk w wr c d s f rb v L) (i n : Nat) (hn : x.n = (i : Int)) (hi : i < 4) (hz : x.z = (n : Int)) (h1 : 1 ≤ n) (h2 : n ≤ 40) (hs : s i = 0) : Calls Try.prog 26 #[pt c, .agg (rmc s v).toArray, .agg x.cs.toArray] wr (Ans w wr c d s rb v) := by
  have HK : Hid (Wk w wr c d s f rb v L) := hk
  have SA : Hid (∀ W, Below wr.heap.size wr W → Calls Try.prog 19 #[pt c, .int .i64 (i : Int), .int .i64 (n : Int)] W fun e w' => ∃ D b', e = .returned (.int .i64 0) ∧ Pm w' c (up d i D) (up s i n) (up f i (fun _ => sp0)) (some b') (cnt s f) ∧ Ch (fun k => k = c) W w' ∧ W.heap.size ≤ D ∧ (rb = some b' ∨ W.heap.size ≤ b')) := fun W hW => add_yes c i n rb d s f (cnt s f) W (hk.m.below hW) hi h1 (by omega) hs
  have d1 : decide ((i : Int) < 0) = false := decide_eq_false (by omega)
  have d2 : decide ((i : Int) > 3) = false := decide_eq_false (by omega)
  have d3 : decide ((n : Int) < 1) = false := decide_eq_false (by omega)
  have d4 : decide ((n : Int) > 65535) = false := decide_eq_false (by omega)
  have d5 : decide ((s i : Int) > 0) = false := decide_eq_false (by omega)
  have d6 : decide (0 < s i) = false := decide_eq_false (by omega)
  have i0 : (0 : Int) ≤ (i : Int) := by omega
  have i4 : (i : Int) < 4 := by omega
  have EN : Hid (x.n = (i : Int)) := hn
  have EZ : Hid (x.z = (n : Int)) := hz
  have I4 : Hid (i < 4) := hi
  have HS : Hid (s i = 0) := hs
  have N1 : Hid (1 ≤ n ∧ n ≤ 40) := ⟨h1, h2⟩
  clear hk hn hz h1 h2 hs hi
  have t0 : (0 : Nat) = 0 := rfl
  go_enter Try.func26, Try.ntmps26
  go_wp2_with (first
    | (have qq := t7; (with_reducible refine at_store ?_); refine store_lawC _ (rmc (up s i n) v) w2.heap.size 0 rfl rfl VZ.out.2 size_rmap (rmc_all HK.out.l) ?_; intro w6 e9 r9 _ _; have R9 : Hid (w6.rangeAt w2.heap.size 0 (rmc (up s i n) v)) := r9; have G9 : Hid (w5.grownBy w6 (some w2.heap.size)) := (by rw [e9.out]; exact (wrt_cells w5 w2.heap.size 0 5 _ rfl).1); clear e9 r9 t7)
    | (have qq := t6; refine load_law _ (by rfl) 28 (.tmp 4) rfl wr.heap.size 0 (rmc (up s i n) v) rfl rowy_rmap VM.out.1 ?_; clear t6; have t7 : (0 : Nat) = 0 := rfl)
    | (have qq := t5; (with_reducible refine at_store ?_); refine set_law1 _ rfl (.tmp 50) (.tmp 48) 3 rfl (rmc s v) wr.heap.size i (.int .i64 (n : Int)) rfl rfl VM.out (by have := I4.out; show i < 5; omega) rfl rfl sz_int ?_; intro w5 X9 G9; have VM : Hid (Vr w5 wr.heap.size (rmc (up s i n) v)) := (by have e9 := rmc_sz s v i I4.out n; rw [← e9]; exact X9); have VZ : Hid (Vr w5 w2.heap.size (rmc (fun _ => 0) (.slice none 0 0))) := VZ.out.heap (G9.block _ (range_lt VZ.out.1 (Nat.succ_pos _)) (fun e => by have := B2.out; have := Option.some.inj e; omega)); have GM : Hid (w4.grownBy w5 (some wr.heap.size)) := G9; clear X9 G9 nx nz ns t5; have t6 : (0 : Nat) = 0 := rfl)
    | (have qq := t3; go_at_call 19; refine (SA.out _ BB.out).mono ?_; rintro e w4 ⟨D, b', rfl, p4, c4, hD, hb⟩; have NX : Hid (Nx w3 w4 c d s rb v (up d i D) (up s i n) (some b') v) := nx_add c4 hD hb HS.out; have KW : Hid (Wk w w4 c (up d i D) (up s i n) (up f i (fun _ => sp0)) (some b') v L) := wk_add (HK.out.below BB.out) p4 NX.out I4.out HS.out N1.out; have FZ : Hid (¬ Own4 c d s rb w2.heap.size ∧ ¬ Blk v w2.heap.size) := HK.out.fresh B2.out.1; have FM : Hid (¬ Own4 c d s rb wr.heap.size ∧ ¬ Blk v wr.heap.size) := HK.out.fresh (Nat.le_refl _); have FX : Hid (¬ Own4 c d s rb w1.heap.size ∧ ¬ Blk v w1.heap.size) := HK.out.fresh B2.out.2.2.2; have LZ : Hid (w2.heap.size < w3.heap.size ∧ wr.heap.size < w3.heap.size) := ⟨range_lt VZ.out.1 (Nat.succ_pos _), range_lt VM.out.1 (Nat.succ_pos _)⟩; have VZ : Hid (Vr w4 w2.heap.size (rmc (fun _ => 0) (.slice none 0 0))) := NX.out.keep VZ.out (Nat.succ_pos _) FZ.out.1; have VM : Hid (Vr w4 wr.heap.size (rmc s v)) := NX.out.keep VM.out (Nat.succ_pos _) FM.out.1; have VX : Hid (Vr w4 w1.heap.size x.cs) := NX.out.keep VX.out (Nat.succ_pos _) FX.out.1; clear nx nz; have nx : w4.cell? ⟨w1.heap.size, 1, none⟩ = some (.int .i64 (i : Int)) := (by rw [← EN.out]; exact VX.out.cell 1 _ rfl); have nz : w4.cell? ⟨w1.heap.size, 2, none⟩ = some (.int .i64 (n : Int)) := (by rw [← EZ.out]; exact VX.out.cell 2 _ rfl); have ns := sz_cell VM.out I4.out; clear p4 c4 hD hb t3; have t5 : (0 : Nat) = 0 := rfl)
    | (have qq := t2; (with_reducible refine at_alloc ?_); refine new_lawC _ _ zero_rmap ?_; intro w3 X9 B9 _; have VZ : Hid (Vr w3 w2.heap.size (rmc (fun _ => 0) (.slice none 0 0))) := X9; have VM : Hid (Vr w3 wr.heap.size (rmc s v)) := VM.out.below B9 (range_lt VM.out.1 (Nat.succ_pos _)); have VX : Hid (Vr w3 w1.heap.size x.cs) := VX.out.below B9 (range_lt VX.out.1 (Nat.succ_pos _)); have B2 : Hid (wr.heap.size ≤ w2.heap.size ∧ wr.heap.size < w2.heap.size ∧ w1.heap.size < w2.heap.size ∧ wr.heap.size ≤ w1.heap.size) := ⟨BB.out.size, LM.out, LX.out, L1.out⟩; have BB : Hid (Below wr.heap.size wr w3) := BB.out.trans (B9.mono BB.out.size); have nx : w3.cell? ⟨w1.heap.size, 1, none⟩ = some (.int .i64 (i : Int)) := (by rw [← EN.out]; exact VX.out.cell 1 _ rfl); have nz : w3.cell? ⟨w1.heap.size, 2, none⟩ = some (.int .i64 (n : Int)) := (by rw [← EZ.out]; exact VX.out.cell 2 _ rfl); clear X9 B9 LM LX L1 t2; have t3 : (0 : Nat) = 0 := rfl)
    | (have qq := t1; refine box_lawC _ x.cs rfl ?_; intro w2 X9 B9 l9; have VX : Hid (Vr w2 w1.heap.size x.cs) := X9; have VM : Hid (Vr w2 wr.heap.size (rmc s v)) := VM.out.below B9 (range_lt VM.out.1 (Nat.succ_pos _)); have L1 : Hid (wr.heap.size ≤ w1.heap.size) := BB.out.size; have BB : Hid (Below wr.heap.size wr w2) := BB.out.trans (B9.mono BB.out.size); have LM : Hid (wr.heap.size < w2.heap.size) := range_lt VM.out.1 (Nat.succ_pos _); have LX : Hid (w1.heap.size < w2.heap.size) := l9; clear X9 B9 l9 t1; have t2 : (0 : Nat) = 0 := rfl)
    | (have qq := t0; refine box_lawC _ (rmc s v) rfl ?_; intro w1 X9 B9 _; have VM : Hid (Vr w1 wr.heap.size (rmc s v)) := X9; have BB : Hid (Below wr.heap.size wr w1) := B9; clear X9 B9 t0; have t1 : (0 : Nat) = 0 := rfl))
  have FR := NX.out.free LZ.out.1 FZ.out.1 FZ.out.2
  have FS := NX.out.free LZ.out.2 FM.out.1 FM.out.2
  exact bodyPost_ret (v := .tuple #[.agg (rmc (up s i n) v).toArray, .bool true]) (results_cv rfl _ _ w2.heap.size _ (.bool true) rowy_rmap rfl rfl R9.out) rfl ⟨_, _, _, _, v, L, rfl, (KW.out.var GM.out (HK.out.h.size) FS.1 FS.2).var G9.out (Nat.le_trans HK.out.h.size B2.out.1) FR.1 FR.2, (((Nx.of_below BB.out).trans NX.out).var GM.out (Nat.le_refl _)).var G9.out B2.out.1⟩
theorem ladd_any (w wr : World) (c : Nat) (d s : Nat → Nat) (f : Nat → Nat → Sp) (rb : Option Nat) (v : Value) (L : List Ce) (x : Stp) (hk : Wk w wr c d s f rb v L) (hx : x.z ≤ 40 ∨ 65535 < x.z) : Calls Try.prog 26 #[pt c, .agg (rmc s v).toArray, .agg x.cs.toArray] wr (Ans w wr c d s rb v) := by
  by_cases h1 : x.n < 0
  · exact add1 w wr c d s f rb v L x hk h1
  by_cases h2 : x.n > 3
  · exact add2 w wr c d s f rb v L x hk h2
  by_cases h3 : x.z < 1
  · exact add3 w wr c d s f rb v L x hk h1 h2 h3
  by_cases h4 : x.z > 65535
  · exact add4 w wr c d s f rb v L x hk h1 h2 h3 h4
  obtain ⟨i, hi⟩ : ∃ i : Nat, x.n = (i : Int) := ⟨x.n.toNat, by omega⟩
  obtain ⟨n, hn⟩ : ∃ n : Nat, x.z = (n : Int) := ⟨x.z.toNat, by omega⟩
  by_cases h5 : 0 < s i
  · exact add5 w wr c d s f rb v L x hk i n hi (by omega) hn (by omega) (by omega) h5
  · exact add6 w wr c d s f rb v L x hk i n hi (by omega) hn (by omega) (by omega) (by omega)
end Go.Proofs.Ytedmmpognhpbdaa.pm
