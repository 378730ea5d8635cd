/- Any changes of a map answer as the document says, and behind each of them the map tells what the document says. Conditions: the first 30 changes, of namespaces of at most 40 sectors or of sizes that may not be, at places near nought. -/
import Derived.Test.YtedmmpognhpbdaaJSm
import Derived.Test.YtedmmpognhpbdaaJLi
namespace Go.Proofs.Ytedmmpognhpbdaa.pagemapRuns
open Go.ChangeShapes Go.WideShapes Go.ChangeAt Go.RowKit
set_option maxRecDepth 20000

open Go.Proofs.Ytedmmpognhpbdaa.pm Go.Proofs.Ytedmmpognhpbdaa.he

theorem size_st (w : World) : (sizeOf 39).run Try.prog w = .ok 19 w := Try.sizeOf39 w
theorem run_idxT (w : World) (d q n c i : Nat) (hi : i < n) : (Instr.indexAt 22 (.slice (some ⟨d, q, none⟩) n c) (.int .i64 (i : Int))).run Try.prog w = .ok (pq d (q + i * 19)) w := by
  rw [run_indexAt_slice _ _ _ _ _ _ _ Try.underlying22, if_pos (by omega), show Try.prog.elem 22 = 39 by kernel_rfl, size_st]
  simp only [Result.andThen_ok, Int.toNat_natCast]
  rw [Addr.add_lit]
theorem exec_idxT {ev : Operand → Value} {o : Oper} (x y : Operand) (hop : o.op = Op.indexAddr 22 x y) (d q n c i : Nat) (hx : ev x = .slice (some ⟨d, q, none⟩) n c) (hy : ev y = .int .i64 (i : Int)) (hi : i < n) (w : World) : (execOp ev o).run Try.prog w = .ok (.value (pq d (q + i * 19))) w := by
  unfold execOp
  simp only [hop, hx, hy, Sem.run_bind, Result.andThen_ok, run_idxT w d q n c i hi]
  rfl
theorem cells19q {w : World} {b q : Nat} {x : Stp} (h : w.rangeAt b q x.cs) : w.cell? ⟨b, q, none⟩ = some (.int .i64 x.k) ∧ w.cell? ⟨b, q + 1, none⟩ = some (.int .i64 x.n) ∧ w.cell? ⟨b, q + 2, none⟩ = some (.int .i64 x.z) ∧ w.cell? ⟨b, q + 3, none⟩ = some (.int .i64 x.s.p.1) ∧ w.cell? ⟨b, q + 4, none⟩ = some (.int .i64 x.s.p.2) ∧ w.cell? ⟨b, q + 5, none⟩ = some (.int .i64 x.s.h.k) ∧ w.cell? ⟨b, q + 6, none⟩ = some (.int .i64 x.s.h.n) ∧ w.cell? ⟨b, q + 7, none⟩ = some (.int .i64 x.s.h.c) ∧ w.cell? ⟨b, q + 8, none⟩ = some (.int .u32 x.s.h.l) ∧ w.cell? ⟨b, q + 9, none⟩ = some (.int .u64 x.s.h.e) ∧ w.cell? ⟨b, q + 10, none⟩ = some (.int .u64 x.s.h.t) ∧ w.cell? ⟨b, q + 11, none⟩ = some (.int .i64 x.s.o.k) ∧ w.cell? ⟨b, q + 12, none⟩ = some (.int .i64 x.s.o.n) ∧ w.cell? ⟨b, q + 13, none⟩ = some (.int .i64 x.s.o.c) ∧ w.cell? ⟨b, q + 14, none⟩ = some (.int .u32 x.s.o.l) ∧ w.cell? ⟨b, q + 15, none⟩ = some (.int .u64 x.s.o.e) ∧ w.cell? ⟨b, q + 16, none⟩ = some (.int .u64 x.s.o.t) ∧ w.cell? ⟨b, q + 17, none⟩ = some (.int .i64 x.t.1) ∧ w.cell? ⟨b, q + 18, none⟩ = some (.int .i64 x.t.2) :=
  ⟨h 0 _ rfl, h 1 _ rfl, h 2 _ rfl, h 3 _ rfl, h 4 _ rfl, h 5 _ rfl, h 6 _ rfl, h 7 _ rfl, h 8 _ rfl, h 9 _ rfl, h 10 _ rfl, h 11 _ rfl, h 12 _ rfl, h 13 _ rfl, h 14 _ rfl, h 15 _ rfl, h 16 _ rfl, h 17 _ rfl, h 18 _ rfl⟩
/-- where the loop stands -/
structure Rn (w wr : World) (c b : Nat) (d s : Nat → Nat) (f : Nat → Nat → Sp) (rb : Option Nat) (v : Value) (L : List Ce) : Prop where
  k : Wk w wr c d s f rb v L
  m : Vr wr b (rmc s v)
  n : ¬ Own4 c d s rb b ∧ ¬ Blk v b
  l : w.heap.size ≤ b
theorem Rn.below {w wr w' : World} {c b : Nat} {d s : Nat → Nat} {f : Nat → Nat → Sp} {rb : Option Nat} {v : Value} {L : List Ce} (h : Rn w wr c b d s f rb v L) (hb : Below wr.heap.size wr w') : Rn w w' c b d s f rb v L :=
  ⟨h.k.below hb, h.m.below hb (range_lt h.m.1 (Nat.succ_pos _)), h.n, h.l⟩
theorem Rn.refs {w wr : World} {c b : Nat} {d s : Nat → Nat} {f : Nat → Nat → Sp} {rb : Option Nat} {v : Value} {L : List Ce} (h : Rn w wr c b d s f rb v L) (p : PL) : Calls Try.prog 12 #[.agg (rmc s v).toArray, .agg (pc p).toArray] wr fun e w' => e = .returned (.int .i64 (cnt s f p)) ∧ Below wr.heap.size wr w' := by
  have z := rrefs_any s v L p wr h.k.l (by have := h.k.len; omega)
  rw [h.k.r.refs p] at z
  exact z
theorem stp_from {w : World} {b q : Nat} {x : Stp} (h : w.rangeAt b q x.cs) : w.rangeAt b (q + 3) (pc x.s.p) := fun j v hv => by
  have hj : j < 2 := (List.getElem?_eq_some_iff.1 hv).1
  have := h (3 + j) v (by
    rw [← hv]
    rcases (show j = 0 ∨ j = 1 by omega) with rfl | rfl <;> rfl)
  rwa [← Nat.add_assoc] at this
theorem stp_t {w : World} {b q : Nat} {x : Stp} (h : w.rangeAt b q x.cs) : w.rangeAt b (q + 17) (pc x.t) := fun j v hv => by
  have hj : j < 2 := (List.getElem?_eq_some_iff.1 hv).1
  have := h (17 + j) v (by
    rw [← hv]
    rcases (show j = 0 ∨ j = 1 by omega) with rfl | rfl <;> rfl)
  rwa [← Nat.add_assoc] at this
set_option maxHeartbeats 32000000 in
theorem walk (v1 : Value) (m : Nat) (q : Nat → Stp) (w : World) (h1 : Sls 19 Stp.cs Tw w v1 m q) : Calls Try.prog 3 #[v1] w fun e w' => e = .returned (.bool true) ∧ Below w.heap.size w w' := by
  obtain ⟨ao, cap, rfl, _, hm, hP, hc0⟩ := h1
  have HP : Hid (∀ t, t < m → Tw (q t)) := hP
  have HC : Hid (0 < m → ∃ b off, ao = some ⟨b, off, none⟩ ∧ ∀ t, t < m → w.rangeAt b (off + t * 19) (q t).cs) := hc0
  clear hP hc0
  have t0 : (0 : Nat) = 0 := rfl
  go_enter Try.func3, Try.ntmps3
  go_wp2_with (first
    | (have qq := t3; (with_reducible refine at_store ?_); refine store_lawC _ (rmc (fun _ => 0) (.slice none 0 0)) w1.heap.size 0 rfl rfl VZ.out.2 size_rmap (rmc_one (Og.nil 0 w)) ?_; intro w3 _ r9 h9 B9; have VM : Hid (Vr w3 w1.heap.size (rmc (fun _ => 0) (.slice none 0 0))) := ⟨r9, h9⟩; have B1 : Hid (Below w1.heap.size w1 w3) := BZ.out.trans B9; clear r9 h9 B9 VZ BZ t3)
    | (have qq := t2; (with_reducible refine at_alloc ?_); refine new_lawC _ _ zero_rmap ?_; intro w2 X9 B9 _; have VZ : Hid (Vr w2 w1.heap.size (rmc (fun _ => 0) (.slice none 0 0))) := X9; have BZ : Hid (Below w1.heap.size w1 w2) := B9; clear X9 B9 t2; have t3 : (0 : Nat) = 0 := rfl)
    | (have qq := t1; refine build_law _ rfl 28 _ rfl (.agg (rmc (fun _ => 0) (.slice none 0 0)).toArray) (by kernel_rfl) ?_; clear t1; have t2 : (0 : Nat) = 0 := rfl)
    | (have qq := t0; go_at_call 8; refine (new_any _).mono ?_; rintro e w1 ⟨c, rfl, p1, hc, b1⟩; have P1 : Hid (Pm w1 c (fun _ => 0) (fun _ => 0) (fun _ _ => sp0) none (fun _ => 0)) := p1; have HCC : Hid (w.heap.size ≤ c) := hc; have BB : Hid (Below w.heap.size w w1) := b1; clear p1 hc b1 t0; have t1 : (0 : Nat) = 0 := rfl))
  have HR : Hid (Rn w w3 c w1.heap.size (fun _ => 0) (fun _ => 0) (fun _ _ => sp0) none (.slice none 0 0) []) := by
    have hcl := P1.out.lt
    refine ⟨⟨by rw [cnt_none]; exact P1.out.below B1.out, Rel.nil _ _ (fun _ _ => rfl), Cl.nil _, BB.out.trans (B1.out.mono BB.out.size), fun k hk => ?_, (fun k hk => by cases hk), (fun k hk => by cases hk), fun j _ => Nat.zero_le _⟩, VM.out, ⟨fun e => ?_, (fun e => by cases e)⟩, BB.out.size⟩
    · have h9 := HCC.out
      rcases hk with hk | ⟨i, _, hs, _⟩ | hk
      · omega
      · exact absurd hs (Nat.lt_irrefl 0)
      · cases hk
    · rcases e with e | ⟨i, _, hs, _⟩ | e
      · omega
      · exact absurd hs (Nat.lt_irrefl 0)
      · cases e
  obtain ⟨b4, hb4⟩ : ∃ b4, b4 = w1.heap.size := ⟨_, rfl⟩
  rw [← hb4] at HR ⊢
  clear P1 HCC BB VM B1 hb4
  go_loopw [5, 6, 7] (fun iv _ _ wr => ∃ (k : Nat) (d s : Nat → Nat) (f : Nat → Nat → Sp) (rb : Option Nat) (v : Value) (L : List Ce), k ≤ m ∧ k ≤ 30 ∧ iv = .int .i64 k ∧ Hid (Rn w wr c b4 d s f rb v L)) (fun iv _ _ _ => m - (intOf iv).toNat)
  case atStart => exact ⟨0, _, _, _, _, _, _, Nat.zero_le _, Nat.zero_le _, rfl, HR⟩
  case round =>
    clear HR
    obtain ⟨k, d, s, f, rb, v, L, hk, hk3, rfl, HR⟩ := hrel
    have k0 : (0 : Int) ≤ (k : Int) := by omega
    have kw : IntKind.i64.wrap ((k : Int) + 1) = ((k + 1 : Nat) : Int) := by rw [IntKind.wrap_i64]; omega
    by_cases hlt : k < m ∧ k < 30
    · obtain ⟨hl1, hl2⟩ := hlt
      have k1 : (k : Int) < (m : Int) := by omega
      have k2 : (k : Int) < 30 := by omega
      have k3 : decide ((k : Int) < 30) = true := decide_eq_true k2
      have k4 : decide ((k : Int) < (m : Int)) = true := decide_eq_true k1
      have KM : Hid (k < m ∧ k < 30) := ⟨hl1, hl2⟩
      obtain ⟨sb, off, rfl, hst⟩ := HC.out (by omega)
      obtain ⟨x, hx⟩ : ∃ x, x = q k := ⟨_, rfl⟩
      have SX : Hid (w.rangeAt sb (off + k * 19) x.cs) := by rw [hx]; exact hst k hl1
      have CX : Hid (∀ W, Below w.heap.size w W → W.rangeAt sb (off + k * 19) x.cs) := fun W hW => range_heap SX.out (hW.block sb (range_lt SX.out (Nat.succ_pos _)))
      have TX : Hid (Hok x.s.h) := by
        have z := HP.out k hl1
        rw [← hx] at z
        exact ⟨z.2.2.2.1.2.1.2.2.2.1, z.2.2.2.1.2.1.2.2.2.2⟩
      clear hst hx SX hl1 hl2
      have LG : Hid (∀ W, Calls Try.prog 9 #[.agg x.cs.toArray] W fun e w' => e = .returned (.bool (lgt x)) ∧ Below W.heap.size W w') := fun W => light_any x W
      have t0 : (0 : Nat) = 0 := rfl
      cases hl : lgt x with
      | false =>
        rw [hl] at LG
        clear hl
        go_wp2_with (first
          | (have qq := t1; go_at_call 9; refine (LG.out _).mono ?_; rintro e w4 ⟨rfl, B9⟩; have HR : Hid (Rn w w4 c b4 d s f rb v L) := HR.out.below B9; clear B9 t1)
          | (have qq := t0; refine pm.load_law _ (by rfl) 39 (.tmp 23) rfl sb (off + k * 19) x.cs rfl rowy_step (CX.out _ HR.out.k.h) ?_; clear t0; have t1 : (0 : Nat) = 0 := rfl))
        go_roundw
        case rel => exact ⟨k + 1, d, s, f, rb, v, L, by have := KM.out; omega, by have := KM.out; omega, by go_num, HR⟩
        case measure => simp [intOf]; have := KM.out; omega
      | true =>
        rw [hl] at LG
        have XZ : Hid (x.z ≤ 40 ∨ 65535 < x.z) := lgt_z hl
        clear hl
        go_upto_region 7 with (first
          | (have qq := t1; go_at_call 9; refine (LG.out _).mono ?_; rintro e w4 ⟨rfl, B9⟩; have HR : Hid (Rn w w4 c b4 d s f rb v L) := HR.out.below B9; clear B9 t1)
          | (have qq := t0; refine pm.load_law _ (by rfl) 39 (.tmp 23) rfl sb (off + k * 19) x.cs rfl rowy_step (CX.out _ HR.out.k.h) ?_; clear t0; have t1 : (0 : Nat) = 0 := rfl))
        clear LG
        have HR : Hid (Rn w w4.drew c b4 d s f rb v L) := HR.out.below (below_dr (Below.refl _ _) 1)
        refine wp_region_held_drew (S := fun w' => w'.rangeAt b4 0 (rmc s v) ∧ w'.rangeAt sb (off + k * 19) x.cs) (by kernel_rfl) ⟨HR.out.m.1, CX.out _ HR.out.k.h⟩ (fun hS => ?_)
        obtain ⟨z1, hx0⟩ : ∃ x, x = w4.drew := ⟨_, rfl⟩
        rw [← hx0] at hS HR ⊢
        clear hx0
        refine take_lawH 0 (some 28) (pt c) rfl rfl (by kernel_rfl) (by kernel_rfl) (by kernel_rfl) (fun _ _ _ h => h) (Or.inl ⟨by rfl, fun w' hw' => by rfl⟩) hS ?_
        simp only [Act.put, List.setIfInBounds_toArray, List.set_cons_zero, List.set_cons_succ]
        refine take_lawH 1 (some 29) (.agg (rmc s v).toArray) rfl rfl (by kernel_rfl) (by kernel_rfl) (by kernel_rfl) (fun _ _ _ h => h) (Or.inl ⟨by rfl, fun w' hw' => by exact exec_loadN 28 (.tmp 4) rfl _ rfl _ _ (load_cells rowy_rmap hw'.1)⟩) hS ?_
        simp only [Act.put, List.setIfInBounds_toArray, List.set_cons_zero, List.set_cons_succ]
        refine take_lawH 2 (some 30) (.slice (some ⟨sb, off, none⟩) m cap) rfl rfl (by kernel_rfl) (by kernel_rfl) (by kernel_rfl) (fun _ _ _ h => h) (Or.inl ⟨by rfl, fun w' hw' => by rfl⟩) hS ?_
        simp only [Act.put, List.setIfInBounds_toArray, List.set_cons_zero, List.set_cons_succ]
        refine take_lawH 3 (some 31) (.int .i64 (k : Int)) rfl rfl (by kernel_rfl) (by kernel_rfl) (by kernel_rfl) (fun _ _ _ h => h) (Or.inl ⟨by rfl, fun w' hw' => by rfl⟩) hS ?_
        simp only [Act.put, List.setIfInBounds_toArray, List.set_cons_zero, List.set_cons_succ]
        refine take_lawH 4 (some 32) (.pointer (some ⟨sb, off + k * 19, none⟩)) rfl rfl (by kernel_rfl) (by kernel_rfl) (by kernel_rfl) (fun _ _ _ h => h) (Or.inl ⟨by rfl, fun w' hw' => by exact exec_idxT (.tmp 30) (.tmp 31) rfl sb off m cap k rfl rfl KM.out.1 _⟩) hS ?_
        simp only [Act.put, List.setIfInBounds_toArray, List.set_cons_zero, List.set_cons_succ]
        refine take_lawH 5 (some 33) (.agg x.cs.toArray) rfl rfl (by kernel_rfl) (by kernel_rfl) (by kernel_rfl) (fun _ _ _ h => h) (Or.inl ⟨by rfl, fun w' hw' => by exact exec_loadN 39 (.tmp 32) rfl _ rfl _ _ (load_cells rowy_step hw'.2)⟩) hS ?_
        simp only [Act.put, List.setIfInBounds_toArray, List.set_cons_zero, List.set_cons_succ]
        refine wpAnyH_ready (rs := [6, 10]) (by kernel_rfl) (by simp) ?_
        refine AllReadyH.cons rfl (fun K hK => ?_) (AllReadyH.cons rfl (fun K hK => ?_) AllReadyH.nil)
        · refine step_callG z1 rfl (some 34) rfl 10 #[.tmp 28, .tmp 29, .tmp 33] _ rfl (fun _ _ => rfl) #[pt c, .agg (rmc s v).toArray, .agg x.cs.toArray] (by simp only [List.map_toArray, List.map_cons, List.map_nil]; rfl) (fun v9 w' => ∃ d' s' f' rb' v' L', v9 = .tuple #[.agg (rmc s' v').toArray, .bool true] ∧ Wk w w' c d' s' f' rb' v' L' ∧ Nx z1 w' c d s rb v d' s' rb' v') ((step_any w z1 c d s f rb v L x HR.out.k XZ.out TX.out).mono fun e w' ⟨d', s', f', rb', v', L', h1, h2, h3⟩ => ⟨_, h1, d', s', f', rb', v', L', rfl, h2, h3⟩) ?_
          rintro v9 z2 ⟨d', s', f', rb', v', L', rfl, k9, n9⟩
          have LB : Hid (b4 < z1.heap.size) := range_lt HR.out.m.1 (Nat.succ_pos _)
          have VM : Hid (Vr z2 b4 (rmc s v)) := n9.keep HR.out.m (Nat.succ_pos _) HR.out.n.1
          have KW : Hid (Wk w z2 c d' s' f' rb' v' L') := k9
          have FB : Hid (¬ Own4 c d' s' rb' b4 ∧ ¬ Blk v' b4) := n9.free LB.out HR.out.n.1 HR.out.n.2
          have LO : Hid (w.heap.size ≤ b4) := HR.out.l
          have SZ9 : Hid (z1.heap.size ≤ z2.heap.size) := n9.ch.size
          have hS : z2.rangeAt b4 0 (rmc s v) ∧ z2.rangeAt sb (off + k * 19) x.cs := ⟨VM.out.1, CX.out _ KW.out.h⟩
          clear k9 n9
          refine hK.out _ _ hS (fun _ => ?_)
          simp only [Act.put, List.setIfInBounds_toArray, List.set_cons_zero, List.set_cons_succ]
          clear hK K
          refine take_lawH 7 (some 27) (.tuple #[.agg (rmc s' v').toArray, .bool true]) rfl rfl (by kernel_rfl) (by kernel_rfl) (by kernel_rfl) (fun _ _ _ h => h) (Or.inl ⟨by rfl, fun w' hw' => by rfl⟩) hS ?_
          simp only [Act.put, List.setIfInBounds_toArray, List.set_cons_zero, List.set_cons_succ]
          refine take_lawH 8 (some 35) (.agg (rmc s' v').toArray) rfl rfl (by kernel_rfl) (by kernel_rfl) (by kernel_rfl) (fun _ _ _ h => h) (Or.inl ⟨by rfl, fun w' hw' => by go_simp⟩) hS ?_
          simp only [Act.put, List.setIfInBounds_toArray, List.set_cons_zero, List.set_cons_succ]
          refine take_lawH 9 (some 36) (.bool true) rfl rfl (by kernel_rfl) (by kernel_rfl) (by kernel_rfl) (fun _ _ _ h => h) (Or.inl ⟨by rfl, fun w' hw' => by go_simp⟩) hS ?_
          simp only [Act.put, List.setIfInBounds_toArray, List.set_cons_zero, List.set_cons_succ]
          refine wpAnyH_ready (rs := [10]) (by kernel_rfl) (by simp) ?_
          refine AllReadyH.cons rfl (fun K hK => ?_) AllReadyH.nil
          refine step_newC z2 rfl (some 6) rfl 28 rfl _ zero_rmap ?_
          intro z3 X9 B9 l9
          have VQ : Hid (Vr z3 z2.heap.size (rmc (fun _ => 0) (.slice none 0 0))) := X9
          have NQ : Hid (¬ Own4 c d' s' rb' z2.heap.size ∧ ¬ Blk v' z2.heap.size) := KW.out.fresh (Nat.le_refl _)
          have BQ : Hid (b4 < z2.heap.size ∧ w.heap.size ≤ z2.heap.size) := ⟨range_lt VM.out.1 (Nat.succ_pos _), KW.out.h.size⟩
          have KW : Hid (Wk w z3 c d' s' f' rb' v' L') := KW.out.below B9
          have VM : Hid (Vr z3 b4 (rmc s v)) := VM.out.below B9 (range_lt VM.out.1 (Nat.succ_pos _))
          have hS : z3.rangeAt b4 0 (rmc s v) ∧ z3.rangeAt sb (off + k * 19) x.cs := ⟨VM.out.1, CX.out _ KW.out.h⟩
          clear X9 B9 l9
          refine hK.out _ _ hS (fun _ => ?_)
          simp only [Act.put, List.setIfInBounds_toArray, List.set_cons_zero, List.set_cons_succ]
          clear hK K
          refine wpAnyH_ready (rs := [11]) (by kernel_rfl) (by simp) ?_
          refine AllReadyH.cons rfl (fun K hK => ?_) AllReadyH.nil
          refine pm.step_storeG z3 rfl none rfl (.tmp 6) (.tmp 35) 28 rfl z2.heap.size (rmc (fun _ => 0) (.slice none 0 0)) (rmc s' v') rfl rfl VQ.out rfl size_rmap (rmc_all KW.out.l) ?_
          intro z4 X9 G9
          have VN : Hid (Vr z4 z2.heap.size (rmc s' v')) := X9
          have KW : Hid (Wk w z4 c d' s' f' rb' v' L') := KW.out.var G9 BQ.out.2 NQ.out.1 NQ.out.2
          have VM : Hid (Vr z4 b4 (rmc s v)) := VM.out.heap (G9.block _ (range_lt VM.out.1 (Nat.succ_pos _)) (fun e => by have := BQ.out; have := Option.some.inj e; omega))
          have hS : z4.rangeAt b4 0 (rmc s v) ∧ z4.rangeAt sb (off + k * 19) x.cs := ⟨VM.out.1, CX.out _ KW.out.h⟩
          clear X9 G9
          refine hK.out _ _ hS (fun _ => ?_)
          simp only [Act.put]
          clear hK K
          refine take_lawH 12 (some 7) (.bool true) rfl rfl (by kernel_rfl) (by kernel_rfl) (by kernel_rfl) (fun _ _ _ h => h) (Or.inl ⟨by rfl, fun w' hw' => by rfl⟩) hS ?_
          simp only [Act.put, List.setIfInBounds_toArray, List.set_cons_zero, List.set_cons_succ]
          refine wpAnyH_done (by kernel_rfl) ?_ _
          obtain ⟨b6, hb6⟩ : ∃ b6, b6 = z2.heap.size := ⟨_, rfl⟩
          rw [← hb6] at VN ⊢
          clear hb6 VQ NQ BQ hS
          have t0 : (0 : Nat) = 0 := rfl
          go_upto_region 9 with (first
            | (have qq := t1; (with_reducible refine at_store ?_); refine store_lawC _ (rmc s' v') b4 0 rfl rfl VM.out.2 size_rmap (rmc_all KW.out.l) ?_; intro w9 e9 r9 h9 _; have HR : Hid (Rn w w9 c b4 d' s' f' rb' v' L') := ⟨KW.out.var (b := b4) (by rw [e9.out]; exact (wrt_cells _ b4 0 5 _ rfl).1) LO.out FB.out.1 FB.out.2, ⟨r9, h9⟩, FB.out, LO.out⟩; clear e9 r9 h9 t1)
            | (have qq := t0; refine pm.load_law _ (by rfl) 28 (.tmp 6) rfl b6 0 (rmc s' v') rfl rowy_rmap VN.out.1 ?_; clear t0; have t1 : (0 : Nat) = 0 := rfl))
          clear VN KW VM FB LO
          have HR : Hid (Rn w w9.drew c b4 d' s' f' rb' v' L') := HR.out.below (below_dr (Below.refl _ _) 1)
          refine wp_region_held_drew (S := fun w' => w'.rangeAt b4 0 (rmc s' v') ∧ w'.rangeAt sb (off + k * 19 + 3) (pc x.s.p) ∧ w'.rangeAt sb (off + k * 19 + 17) (pc x.t)) (by kernel_rfl) ⟨HR.out.m.1, stp_from (CX.out _ HR.out.k.h), stp_t (CX.out _ HR.out.k.h)⟩ (fun hS => ?_)
          obtain ⟨r1, hx0⟩ : ∃ x, x = w9.drew := ⟨_, rfl⟩
          rw [← hx0] at hS HR ⊢
          clear hx0
          refine take_lawH 0 (some 38) (.bool true) rfl rfl (by kernel_rfl) (by kernel_rfl) (by kernel_rfl) (fun _ _ _ h => h) (Or.inl ⟨by rfl, fun w' hw' => by rfl⟩) hS ?_
          simp only [Act.put, List.setIfInBounds_toArray, List.set_cons_zero, List.set_cons_succ]
          refine take_lawH 1 (some 39) (.bool false) rfl rfl (by kernel_rfl) (by kernel_rfl) (by kernel_rfl) (fun _ _ _ h => h) (Or.inl ⟨by rfl, fun w' hw' => by go_simp⟩) hS ?_
          simp only [Act.put, List.setIfInBounds_toArray, List.set_cons_zero, List.set_cons_succ]
          refine take_lawH 2 (some 40) (.bool false) rfl rfl (by kernel_rfl) (by kernel_rfl) (by kernel_rfl) (fun _ _ _ h => h) (Or.inl ⟨by rfl, fun w' hw' => by rfl⟩) hS ?_
          simp only [Act.put, List.setIfInBounds_toArray, List.set_cons_zero, List.set_cons_succ]
          refine take_lawH 3 (some 41) (pt c) rfl rfl (by kernel_rfl) (by kernel_rfl) (by kernel_rfl) (fun _ _ _ h => h) (Or.inl ⟨by rfl, fun w' hw' => by rfl⟩) hS ?_
          simp only [Act.put, List.setIfInBounds_toArray, List.set_cons_zero, List.set_cons_succ]
          refine take_lawH 4 (some 42) (.slice (some ⟨sb, off, none⟩) m cap) rfl rfl (by kernel_rfl) (by kernel_rfl) (by kernel_rfl) (fun _ _ _ h => h) (Or.inl ⟨by rfl, fun w' hw' => by rfl⟩) hS ?_
          simp only [Act.put, List.setIfInBounds_toArray, List.set_cons_zero, List.set_cons_succ]
          refine take_lawH 5 (some 43) (.int .i64 (k : Int)) rfl rfl (by kernel_rfl) (by kernel_rfl) (by kernel_rfl) (fun _ _ _ h => h) (Or.inl ⟨by rfl, fun w' hw' => by rfl⟩) hS ?_
          simp only [Act.put, List.setIfInBounds_toArray, List.set_cons_zero, List.set_cons_succ]
          refine take_lawH 6 (some 44) (.pointer (some ⟨sb, off + k * 19, none⟩)) rfl rfl (by kernel_rfl) (by kernel_rfl) (by kernel_rfl) (fun _ _ _ h => h) (Or.inl ⟨by rfl, fun w' hw' => by exact exec_idxT (.tmp 42) (.tmp 43) rfl sb off m cap k rfl rfl KM.out.1 _⟩) hS ?_
          simp only [Act.put, List.setIfInBounds_toArray, List.set_cons_zero, List.set_cons_succ]
          refine take_lawH 7 (some 45) (.pointer (some ⟨sb, off + k * 19 + 3, none⟩)) rfl rfl (by kernel_rfl) (by kernel_rfl) (by kernel_rfl) (fun _ _ _ h => h) (Or.inl ⟨by rfl, fun w' hw' => by go_simp⟩) hS ?_
          simp only [Act.put, List.setIfInBounds_toArray, List.set_cons_zero, List.set_cons_succ]
          refine take_lawH 8 (some 46) (.pointer (some ⟨sb, off + k * 19 + 3, none⟩)) rfl rfl (by kernel_rfl) (by kernel_rfl) (by kernel_rfl) (fun _ _ _ h => h) (Or.inl ⟨by rfl, fun w' hw' => by go_simp⟩) hS ?_
          simp only [Act.put, List.setIfInBounds_toArray, List.set_cons_zero, List.set_cons_succ]
          refine take_lawH 9 (some 47) (.agg (pc x.s.p).toArray) rfl rfl (by kernel_rfl) (by kernel_rfl) (by kernel_rfl) (fun _ _ _ h => h) (Or.inl ⟨by rfl, fun w' hw' => by exact exec_loadN 31 (.tmp 46) rfl _ rfl _ _ (load_cells rowy_place hw'.2.1)⟩) hS ?_
          simp only [Act.put, List.setIfInBounds_toArray, List.set_cons_zero, List.set_cons_succ]
          refine take_lawH 11 (some 49) ((.agg (rmc s' v').toArray)) rfl rfl (by kernel_rfl) (by kernel_rfl) (by kernel_rfl) (fun _ _ _ h => h) (Or.inl ⟨by rfl, fun w' hw' => by exact exec_loadN 28 (.tmp 4) rfl _ rfl _ _ (load_cells rowy_rmap hw'.1)⟩) hS ?_
          simp only [Act.put, List.setIfInBounds_toArray, List.set_cons_zero, List.set_cons_succ]
          refine take_lawH 12 (some 50) (.slice (some ⟨sb, off, none⟩) m cap) rfl rfl (by kernel_rfl) (by kernel_rfl) (by kernel_rfl) (fun _ _ _ h => h) (Or.inl ⟨by rfl, fun w' hw' => by rfl⟩) hS ?_
          simp only [Act.put, List.setIfInBounds_toArray, List.set_cons_zero, List.set_cons_succ]
          refine take_lawH 13 (some 51) (.int .i64 (k : Int)) rfl rfl (by kernel_rfl) (by kernel_rfl) (by kernel_rfl) (fun _ _ _ h => h) (Or.inl ⟨by rfl, fun w' hw' => by rfl⟩) hS ?_
          simp only [Act.put, List.setIfInBounds_toArray, List.set_cons_zero, List.set_cons_succ]
          refine take_lawH 14 (some 52) (.pointer (some ⟨sb, off + k * 19, none⟩)) rfl rfl (by kernel_rfl) (by kernel_rfl) (by kernel_rfl) (fun _ _ _ h => h) (Or.inl ⟨by rfl, fun w' hw' => by exact exec_idxT (.tmp 50) (.tmp 51) rfl sb off m cap k rfl rfl KM.out.1 _⟩) hS ?_
          simp only [Act.put, List.setIfInBounds_toArray, List.set_cons_zero, List.set_cons_succ]
          refine take_lawH 15 (some 53) (.pointer (some ⟨sb, off + k * 19 + 3, none⟩)) rfl rfl (by kernel_rfl) (by kernel_rfl) (by kernel_rfl) (fun _ _ _ h => h) (Or.inl ⟨by rfl, fun w' hw' => by go_simp⟩) hS ?_
          simp only [Act.put, List.setIfInBounds_toArray, List.set_cons_zero, List.set_cons_succ]
          refine take_lawH 16 (some 54) (.pointer (some ⟨sb, off + k * 19 + 3, none⟩)) rfl rfl (by kernel_rfl) (by kernel_rfl) (by kernel_rfl) (fun _ _ _ h => h) (Or.inl ⟨by rfl, fun w' hw' => by go_simp⟩) hS ?_
          simp only [Act.put, List.setIfInBounds_toArray, List.set_cons_zero, List.set_cons_succ]
          refine take_lawH 17 (some 55) (.agg (pc x.s.p).toArray) rfl rfl (by kernel_rfl) (by kernel_rfl) (by kernel_rfl) (fun _ _ _ h => h) (Or.inl ⟨by rfl, fun w' hw' => by exact exec_loadN 31 (.tmp 54) rfl _ rfl _ _ (load_cells rowy_place hw'.2.1)⟩) hS ?_
          simp only [Act.put, List.setIfInBounds_toArray, List.set_cons_zero, List.set_cons_succ]
          refine wpAnyH_ready (rs := [10]) (by kernel_rfl) (by simp) ?_
          refine AllReadyH.cons rfl (fun K hK => ?_) AllReadyH.nil
          refine step_callW r1 (by rfl) (some 48) rfl 11 #[.tmp 41, .tmp 47] _ rfl (fun _ _ => rfl) #[pt c, .agg (pc x.s.p).toArray] (by simp only [List.map_toArray, List.map_cons, List.map_nil]; rfl) (fun v9 w' => v9 = (.int .i64 (cnt s' f' x.s.p)) ∧ Below r1.heap.size r1 w') ((refs_any (pt c) d' s' f' (cnt s' f') x.s.p r1 (.inr ⟨c, rb', rfl, HR.out.k.m⟩)).mono fun e w' ⟨h1, h2⟩ => ⟨_, h1, rfl, h2⟩) ?_
          rintro v9 r2 ⟨rfl, B9⟩
          have HR : Hid (Rn w r2 c b4 d' s' f' rb' v' L') := HR.out.below B9
          have hS : r2.rangeAt b4 0 (rmc s' v') ∧ r2.rangeAt sb (off + k * 19 + 3) (pc x.s.p) ∧ r2.rangeAt sb (off + k * 19 + 17) (pc x.t) := ⟨HR.out.m.1, stp_from (CX.out _ HR.out.k.h), stp_t (CX.out _ HR.out.k.h)⟩
          clear B9
          refine hK.out _ _ hS (fun _ => ?_)
          simp only [Act.put, List.setIfInBounds_toArray, List.set_cons_zero, List.set_cons_succ]
          clear hK K
          refine wpAnyH_ready (rs := [18]) (by kernel_rfl) (by simp) ?_
          refine AllReadyH.cons rfl (fun K hK => ?_) AllReadyH.nil
          refine step_callW r2 (by rfl) (some 56) rfl 12 #[.tmp 49, .tmp 55] _ rfl (fun _ _ => rfl) #[.agg (rmc s' v').toArray, .agg (pc x.s.p).toArray] (by simp only [List.map_toArray, List.map_cons, List.map_nil]; rfl) (fun v9 w' => v9 = (.int .i64 (cnt s' f' x.s.p)) ∧ Below r2.heap.size r2 w') ((HR.out.refs x.s.p).mono fun e w' ⟨h1, h2⟩ => ⟨_, h1, rfl, h2⟩) ?_
          rintro v9 r3 ⟨rfl, B9⟩
          have HR : Hid (Rn w r3 c b4 d' s' f' rb' v' L') := HR.out.below B9
          have hS : r3.rangeAt b4 0 (rmc s' v') ∧ r3.rangeAt sb (off + k * 19 + 3) (pc x.s.p) ∧ r3.rangeAt sb (off + k * 19 + 17) (pc x.t) := ⟨HR.out.m.1, stp_from (CX.out _ HR.out.k.h), stp_t (CX.out _ HR.out.k.h)⟩
          clear B9
          refine hK.out _ _ hS (fun _ => ?_)
          simp only [Act.put, List.setIfInBounds_toArray, List.set_cons_zero, List.set_cons_succ]
          clear hK K
          refine take_lawH 19 (some 57) (.bool false) rfl rfl (by kernel_rfl) (by kernel_rfl) (by kernel_rfl) (fun _ _ _ h => h) (Or.inl ⟨by rfl, fun w' hw' => by go_simp⟩) hS ?_
          simp only [Act.put, List.setIfInBounds_toArray, List.set_cons_zero, List.set_cons_succ]
          refine take_lawH 20 (some 58) (.bool false) rfl rfl (by kernel_rfl) (by kernel_rfl) (by kernel_rfl) (fun _ _ _ h => h) (Or.inl ⟨by rfl, fun w' hw' => by rfl⟩) hS ?_
          simp only [Act.put, List.setIfInBounds_toArray, List.set_cons_zero, List.set_cons_succ]
          refine take_lawH 21 (some 59) (.bool false) rfl rfl (by kernel_rfl) (by kernel_rfl) (by kernel_rfl) (fun _ _ _ h => h) (Or.inl ⟨by rfl, fun w' hw' => by rfl⟩) hS ?_
          simp only [Act.put, List.setIfInBounds_toArray, List.set_cons_zero, List.set_cons_succ]
          refine take_lawH 22 (some 60) (pt c) rfl rfl (by kernel_rfl) (by kernel_rfl) (by kernel_rfl) (fun _ _ _ h => h) (Or.inl ⟨by rfl, fun w' hw' => by rfl⟩) hS ?_
          simp only [Act.put, List.setIfInBounds_toArray, List.set_cons_zero, List.set_cons_succ]
          refine take_lawH 23 (some 61) (.slice (some ⟨sb, off, none⟩) m cap) rfl rfl (by kernel_rfl) (by kernel_rfl) (by kernel_rfl) (fun _ _ _ h => h) (Or.inl ⟨by rfl, fun w' hw' => by rfl⟩) hS ?_
          simp only [Act.put, List.setIfInBounds_toArray, List.set_cons_zero, List.set_cons_succ]
          refine take_lawH 24 (some 62) (.int .i64 (k : Int)) rfl rfl (by kernel_rfl) (by kernel_rfl) (by kernel_rfl) (fun _ _ _ h => h) (Or.inl ⟨by rfl, fun w' hw' => by rfl⟩) hS ?_
          simp only [Act.put, List.setIfInBounds_toArray, List.set_cons_zero, List.set_cons_succ]
          refine take_lawH 25 (some 63) (.pointer (some ⟨sb, off + k * 19, none⟩)) rfl rfl (by kernel_rfl) (by kernel_rfl) (by kernel_rfl) (fun _ _ _ h => h) (Or.inl ⟨by rfl, fun w' hw' => by exact exec_idxT (.tmp 61) (.tmp 62) rfl sb off m cap k rfl rfl KM.out.1 _⟩) hS ?_
          simp only [Act.put, List.setIfInBounds_toArray, List.set_cons_zero, List.set_cons_succ]
          refine take_lawH 26 (some 64) (.pointer (some ⟨sb, off + k * 19 + 17, none⟩)) rfl rfl (by kernel_rfl) (by kernel_rfl) (by kernel_rfl) (fun _ _ _ h => h) (Or.inl ⟨by rfl, fun w' hw' => by go_simp⟩) hS ?_
          simp only [Act.put, List.setIfInBounds_toArray, List.set_cons_zero, List.set_cons_succ]
          refine take_lawH 27 (some 65) (.agg (pc x.t).toArray) rfl rfl (by kernel_rfl) (by kernel_rfl) (by kernel_rfl) (fun _ _ _ h => h) (Or.inl ⟨by rfl, fun w' hw' => by exact exec_loadN 31 (.tmp 64) rfl _ rfl _ _ (load_cells rowy_place hw'.2.2)⟩) hS ?_
          simp only [Act.put, List.setIfInBounds_toArray, List.set_cons_zero, List.set_cons_succ]
          refine take_lawH 29 (some 67) ((.agg (rmc s' v').toArray)) rfl rfl (by kernel_rfl) (by kernel_rfl) (by kernel_rfl) (fun _ _ _ h => h) (Or.inl ⟨by rfl, fun w' hw' => by exact exec_loadN 28 (.tmp 4) rfl _ rfl _ _ (load_cells rowy_rmap hw'.1)⟩) hS ?_
          simp only [Act.put, List.setIfInBounds_toArray, List.set_cons_zero, List.set_cons_succ]
          refine take_lawH 30 (some 68) (.slice (some ⟨sb, off, none⟩) m cap) rfl rfl (by kernel_rfl) (by kernel_rfl) (by kernel_rfl) (fun _ _ _ h => h) (Or.inl ⟨by rfl, fun w' hw' => by rfl⟩) hS ?_
          simp only [Act.put, List.setIfInBounds_toArray, List.set_cons_zero, List.set_cons_succ]
          refine take_lawH 31 (some 69) (.int .i64 (k : Int)) rfl rfl (by kernel_rfl) (by kernel_rfl) (by kernel_rfl) (fun _ _ _ h => h) (Or.inl ⟨by rfl, fun w' hw' => by rfl⟩) hS ?_
          simp only [Act.put, List.setIfInBounds_toArray, List.set_cons_zero, List.set_cons_succ]
          refine take_lawH 32 (some 70) (.pointer (some ⟨sb, off + k * 19, none⟩)) rfl rfl (by kernel_rfl) (by kernel_rfl) (by kernel_rfl) (fun _ _ _ h => h) (Or.inl ⟨by rfl, fun w' hw' => by exact exec_idxT (.tmp 68) (.tmp 69) rfl sb off m cap k rfl rfl KM.out.1 _⟩) hS ?_
          simp only [Act.put, List.setIfInBounds_toArray, List.set_cons_zero, List.set_cons_succ]
          refine take_lawH 33 (some 71) (.pointer (some ⟨sb, off + k * 19 + 17, none⟩)) rfl rfl (by kernel_rfl) (by kernel_rfl) (by kernel_rfl) (fun _ _ _ h => h) (Or.inl ⟨by rfl, fun w' hw' => by go_simp⟩) hS ?_
          simp only [Act.put, List.setIfInBounds_toArray, List.set_cons_zero, List.set_cons_succ]
          refine take_lawH 34 (some 72) (.agg (pc x.t).toArray) rfl rfl (by kernel_rfl) (by kernel_rfl) (by kernel_rfl) (fun _ _ _ h => h) (Or.inl ⟨by rfl, fun w' hw' => by exact exec_loadN 31 (.tmp 71) rfl _ rfl _ _ (load_cells rowy_place hw'.2.2)⟩) hS ?_
          simp only [Act.put, List.setIfInBounds_toArray, List.set_cons_zero, List.set_cons_succ]
          refine wpAnyH_ready (rs := [28]) (by kernel_rfl) (by simp) ?_
          refine AllReadyH.cons rfl (fun K hK => ?_) AllReadyH.nil
          refine step_callW r3 (by rfl) (some 66) rfl 11 #[.tmp 60, .tmp 65] _ rfl (fun _ _ => rfl) #[pt c, .agg (pc x.t).toArray] (by simp only [List.map_toArray, List.map_cons, List.map_nil]; rfl) (fun v9 w' => v9 = (.int .i64 (cnt s' f' x.t)) ∧ Below r3.heap.size r3 w') ((refs_any (pt c) d' s' f' (cnt s' f') x.t r3 (.inr ⟨c, rb', rfl, HR.out.k.m⟩)).mono fun e w' ⟨h1, h2⟩ => ⟨_, h1, rfl, h2⟩) ?_
          rintro v9 r4 ⟨rfl, B9⟩
          have HR : Hid (Rn w r4 c b4 d' s' f' rb' v' L') := HR.out.below B9
          have hS : r4.rangeAt b4 0 (rmc s' v') ∧ r4.rangeAt sb (off + k * 19 + 3) (pc x.s.p) ∧ r4.rangeAt sb (off + k * 19 + 17) (pc x.t) := ⟨HR.out.m.1, stp_from (CX.out _ HR.out.k.h), stp_t (CX.out _ HR.out.k.h)⟩
          clear B9
          refine hK.out _ _ hS (fun _ => ?_)
          simp only [Act.put, List.setIfInBounds_toArray, List.set_cons_zero, List.set_cons_succ]
          clear hK K
          refine wpAnyH_ready (rs := [35]) (by kernel_rfl) (by simp) ?_
          refine AllReadyH.cons rfl (fun K hK => ?_) AllReadyH.nil
          refine step_callW r4 (by rfl) (some 73) rfl 12 #[.tmp 67, .tmp 72] _ rfl (fun _ _ => rfl) #[.agg (rmc s' v').toArray, .agg (pc x.t).toArray] (by simp only [List.map_toArray, List.map_cons, List.map_nil]; rfl) (fun v9 w' => v9 = (.int .i64 (cnt s' f' x.t)) ∧ Below r4.heap.size r4 w') ((HR.out.refs x.t).mono fun e w' ⟨h1, h2⟩ => ⟨_, h1, rfl, h2⟩) ?_
          rintro v9 r5 ⟨rfl, B9⟩
          have HR : Hid (Rn w r5 c b4 d' s' f' rb' v' L') := HR.out.below B9
          have hS : r5.rangeAt b4 0 (rmc s' v') ∧ r5.rangeAt sb (off + k * 19 + 3) (pc x.s.p) ∧ r5.rangeAt sb (off + k * 19 + 17) (pc x.t) := ⟨HR.out.m.1, stp_from (CX.out _ HR.out.k.h), stp_t (CX.out _ HR.out.k.h)⟩
          clear B9
          refine hK.out _ _ hS (fun _ => ?_)
          simp only [Act.put, List.setIfInBounds_toArray, List.set_cons_zero, List.set_cons_succ]
          clear hK K
          refine take_lawH 36 (some 74) (.bool false) rfl rfl (by kernel_rfl) (by kernel_rfl) (by kernel_rfl) (fun _ _ _ h => h) (Or.inl ⟨by rfl, fun w' hw' => by go_simp⟩) hS ?_
          simp only [Act.put, List.setIfInBounds_toArray, List.set_cons_zero, List.set_cons_succ]
          refine take_lawH 37 (some 75) (.bool false) rfl rfl (by kernel_rfl) (by kernel_rfl) (by kernel_rfl) (fun _ _ _ h => h) (Or.inl ⟨by rfl, fun w' hw' => by rfl⟩) hS ?_
          simp only [Act.put, List.setIfInBounds_toArray, List.set_cons_zero, List.set_cons_succ]
          refine wpAnyH_done (by kernel_rfl) ?_ _
          go_wp2
          go_roundw
          case rel => exact ⟨k + 1, d', s', f', rb', v', L', by have := KM.out; omega, by have := KM.out; omega, by go_num, HR⟩
          case measure => simp [intOf]; have := KM.out; omega
        · refine step_newC z1 rfl (some 6) rfl 28 rfl _ zero_rmap ?_
          intro z5 X9 B9 l9
          have VQ : Hid (Vr z5 z1.heap.size (rmc (fun _ => 0) (.slice none 0 0))) := X9
          have NQ : Hid (¬ Own4 c d s rb z1.heap.size ∧ ¬ Blk v z1.heap.size) := HR.out.k.fresh (Nat.le_refl _)
          have LQ : Hid (z1.heap.size < z5.heap.size) := l9
          have BQ : Hid (b4 < z1.heap.size ∧ w.heap.size ≤ z1.heap.size) := ⟨range_lt HR.out.m.1 (Nat.succ_pos _), HR.out.k.h.size⟩
          have HR : Hid (Rn w z5 c b4 d s f rb v L) := HR.out.below B9
          have hS : z5.rangeAt b4 0 (rmc s v) ∧ z5.rangeAt sb (off + k * 19) x.cs := ⟨HR.out.m.1, CX.out _ HR.out.k.h⟩
          clear X9 B9 l9
          refine hK.out _ _ hS (fun _ => ?_)
          simp only [Act.put, List.setIfInBounds_toArray, List.set_cons_zero, List.set_cons_succ]
          clear hK K
          refine wpAnyH_ready (rs := [6]) (by kernel_rfl) (by simp) ?_
          refine AllReadyH.cons rfl (fun K hK => ?_) AllReadyH.nil
          refine step_callG z5 rfl (some 34) rfl 10 #[.tmp 28, .tmp 29, .tmp 33] _ rfl (fun _ _ => rfl) #[pt c, .agg (rmc s v).toArray, .agg x.cs.toArray] (by simp only [List.map_toArray, List.map_cons, List.map_nil]; rfl) (fun v9 w' => ∃ d' s' f' rb' v' L', v9 = .tuple #[.agg (rmc s' v').toArray, .bool true] ∧ Wk w w' c d' s' f' rb' v' L' ∧ Nx z5 w' c d s rb v d' s' rb' v') ((step_any w z5 c d s f rb v L x HR.out.k XZ.out TX.out).mono fun e w' ⟨d', s', f', rb', v', L', h1, h2, h3⟩ => ⟨_, h1, d', s', f', rb', v', L', rfl, h2, h3⟩) ?_
          rintro v9 z6 ⟨d', s', f', rb', v', L', rfl, k9, n9⟩
          have LB : Hid (b4 < z5.heap.size) := range_lt HR.out.m.1 (Nat.succ_pos _)
          have VM : Hid (Vr z6 b4 (rmc s v)) := n9.keep HR.out.m (Nat.succ_pos _) HR.out.n.1
          have KW : Hid (Wk w z6 c d' s' f' rb' v' L') := k9
          have FB : Hid (¬ Own4 c d' s' rb' b4 ∧ ¬ Blk v' b4) := n9.free LB.out HR.out.n.1 HR.out.n.2
          have LO : Hid (w.heap.size ≤ b4) := HR.out.l
          have SZ9 : Hid (z5.heap.size ≤ z6.heap.size) := n9.ch.size
          have VQ : Hid (Vr z6 z1.heap.size (rmc (fun _ => 0) (.slice none 0 0))) := n9.keep VQ.out (Nat.succ_pos _) NQ.out.1
          have NQ : Hid (¬ Own4 c d' s' rb' z1.heap.size ∧ ¬ Blk v' z1.heap.size) := n9.free LQ.out NQ.out.1 NQ.out.2
          have hS : z6.rangeAt b4 0 (rmc s v) ∧ z6.rangeAt sb (off + k * 19) x.cs := ⟨VM.out.1, CX.out _ KW.out.h⟩
          clear k9 n9
          refine hK.out _ _ hS (fun _ => ?_)
          simp only [Act.put, List.setIfInBounds_toArray, List.set_cons_zero, List.set_cons_succ]
          clear hK K
          refine take_lawH 7 (some 27) (.tuple #[.agg (rmc s' v').toArray, .bool true]) rfl rfl (by kernel_rfl) (by kernel_rfl) (by kernel_rfl) (fun _ _ _ h => h) (Or.inl ⟨by rfl, fun w' hw' => by rfl⟩) hS ?_
          simp only [Act.put, List.setIfInBounds_toArray, List.set_cons_zero, List.set_cons_succ]
          refine take_lawH 8 (some 35) (.agg (rmc s' v').toArray) rfl rfl (by kernel_rfl) (by kernel_rfl) (by kernel_rfl) (fun _ _ _ h => h) (Or.inl ⟨by rfl, fun w' hw' => by go_simp⟩) hS ?_
          simp only [Act.put, List.setIfInBounds_toArray, List.set_cons_zero, List.set_cons_succ]
          refine take_lawH 9 (some 36) (.bool true) rfl rfl (by kernel_rfl) (by kernel_rfl) (by kernel_rfl) (fun _ _ _ h => h) (Or.inl ⟨by rfl, fun w' hw' => by go_simp⟩) hS ?_
          simp only [Act.put, List.setIfInBounds_toArray, List.set_cons_zero, List.set_cons_succ]
          refine wpAnyH_ready (rs := [11]) (by kernel_rfl) (by simp) ?_
          refine AllReadyH.cons rfl (fun K hK => ?_) AllReadyH.nil
          refine pm.step_storeG z6 rfl none rfl (.tmp 6) (.tmp 35) 28 rfl z1.heap.size (rmc (fun _ => 0) (.slice none 0 0)) (rmc s' v') rfl rfl VQ.out rfl size_rmap (rmc_all KW.out.l) ?_
          intro z7 X9 G9
          have VN : Hid (Vr z7 z1.heap.size (rmc s' v')) := X9
          have KW : Hid (Wk w z7 c d' s' f' rb' v' L') := KW.out.var G9 BQ.out.2 NQ.out.1 NQ.out.2
          have VM : Hid (Vr z7 b4 (rmc s v)) := VM.out.heap (G9.block _ (range_lt VM.out.1 (Nat.succ_pos _)) (fun e => by have := BQ.out; have := Option.some.inj e; omega))
          have hS : z7.rangeAt b4 0 (rmc s v) ∧ z7.rangeAt sb (off + k * 19) x.cs := ⟨VM.out.1, CX.out _ KW.out.h⟩
          clear X9 G9
          refine hK.out _ _ hS (fun _ => ?_)
          simp only [Act.put]
          clear hK K
          refine take_lawH 12 (some 7) (.bool true) rfl rfl (by kernel_rfl) (by kernel_rfl) (by kernel_rfl) (fun _ _ _ h => h) (Or.inl ⟨by rfl, fun w' hw' => by rfl⟩) hS ?_
          simp only [Act.put, List.setIfInBounds_toArray, List.set_cons_zero, List.set_cons_succ]
          refine wpAnyH_done (by kernel_rfl) ?_ _
          obtain ⟨b6, hb6⟩ : ∃ b6, b6 = z1.heap.size := ⟨_, rfl⟩
          rw [← hb6] at VN ⊢
          clear hb6 VQ NQ BQ hS
          have t0 : (0 : Nat) = 0 := rfl
          go_upto_region 9 with (first
            | (have qq := t1; (with_reducible refine at_store ?_); refine store_lawC _ (rmc s' v') b4 0 rfl rfl VM.out.2 size_rmap (rmc_all KW.out.l) ?_; intro w9 e9 r9 h9 _; have HR : Hid (Rn w w9 c b4 d' s' f' rb' v' L') := ⟨KW.out.var (b := b4) (by rw [e9.out]; exact (wrt_cells _ b4 0 5 _ rfl).1) LO.out FB.out.1 FB.out.2, ⟨r9, h9⟩, FB.out, LO.out⟩; clear e9 r9 h9 t1)
            | (have qq := t0; refine pm.load_law _ (by rfl) 28 (.tmp 6) rfl b6 0 (rmc s' v') rfl rowy_rmap VN.out.1 ?_; clear t0; have t1 : (0 : Nat) = 0 := rfl))
          clear VN KW VM FB LO
          have HR : Hid (Rn w w9.drew c b4 d' s' f' rb' v' L') := HR.out.below (below_dr (Below.refl _ _) 1)
          refine wp_region_held_drew (S := fun w' => w'.rangeAt b4 0 (rmc s' v') ∧ w'.rangeAt sb (off + k * 19 + 3) (pc x.s.p) ∧ w'.rangeAt sb (off + k * 19 + 17) (pc x.t)) (by kernel_rfl) ⟨HR.out.m.1, stp_from (CX.out _ HR.out.k.h), stp_t (CX.out _ HR.out.k.h)⟩ (fun hS => ?_)
          obtain ⟨r1, hx0⟩ : ∃ x, x = w9.drew := ⟨_, rfl⟩
          rw [← hx0] at hS HR ⊢
          clear hx0
          refine take_lawH 0 (some 38) (.bool true) rfl rfl (by kernel_rfl) (by kernel_rfl) (by kernel_rfl) (fun _ _ _ h => h) (Or.inl ⟨by rfl, fun w' hw' => by rfl⟩) hS ?_
          simp only [Act.put, List.setIfInBounds_toArray, List.set_cons_zero, List.set_cons_succ]
          refine take_lawH 1 (some 39) (.bool false) rfl rfl (by kernel_rfl) (by kernel_rfl) (by kernel_rfl) (fun _ _ _ h => h) (Or.inl ⟨by rfl, fun w' hw' => by go_simp⟩) hS ?_
          simp only [Act.put, List.setIfInBounds_toArray, List.set_cons_zero, List.set_cons_succ]
          refine take_lawH 2 (some 40) (.bool false) rfl rfl (by kernel_rfl) (by kernel_rfl) (by kernel_rfl) (fun _ _ _ h => h) (Or.inl ⟨by rfl, fun w' hw' => by rfl⟩) hS ?_
          simp only [Act.put, List.setIfInBounds_toArray, List.set_cons_zero, List.set_cons_succ]
          refine take_lawH 3 (some 41) (pt c) rfl rfl (by kernel_rfl) (by kernel_rfl) (by kernel_rfl) (fun _ _ _ h => h) (Or.inl ⟨by rfl, fun w' hw' => by rfl⟩) hS ?_
          simp only [Act.put, List.setIfInBounds_toArray, List.set_cons_zero, List.set_cons_succ]
          refine take_lawH 4 (some 42) (.slice (some ⟨sb, off, none⟩) m cap) rfl rfl (by kernel_rfl) (by kernel_rfl) (by kernel_rfl) (fun _ _ _ h => h) (Or.inl ⟨by rfl, fun w' hw' => by rfl⟩) hS ?_
          simp only [Act.put, List.setIfInBounds_toArray, List.set_cons_zero, List.set_cons_succ]
          refine take_lawH 5 (some 43) (.int .i64 (k : Int)) rfl rfl (by kernel_rfl) (by kernel_rfl) (by kernel_rfl) (fun _ _ _ h => h) (Or.inl ⟨by rfl, fun w' hw' => by rfl⟩) hS ?_
          simp only [Act.put, List.setIfInBounds_toArray, List.set_cons_zero, List.set_cons_succ]
          refine take_lawH 6 (some 44) (.pointer (some ⟨sb, off + k * 19, none⟩)) rfl rfl (by kernel_rfl) (by kernel_rfl) (by kernel_rfl) (fun _ _ _ h => h) (Or.inl ⟨by rfl, fun w' hw' => by exact exec_idxT (.tmp 42) (.tmp 43) rfl sb off m cap k rfl rfl KM.out.1 _⟩) hS ?_
          simp only [Act.put, List.setIfInBounds_toArray, List.set_cons_zero, List.set_cons_succ]
          refine take_lawH 7 (some 45) (.pointer (some ⟨sb, off + k * 19 + 3, none⟩)) rfl rfl (by kernel_rfl) (by kernel_rfl) (by kernel_rfl) (fun _ _ _ h => h) (Or.inl ⟨by rfl, fun w' hw' => by go_simp⟩) hS ?_
          simp only [Act.put, List.setIfInBounds_toArray, List.set_cons_zero, List.set_cons_succ]
          refine take_lawH 8 (some 46) (.pointer (some ⟨sb, off + k * 19 + 3, none⟩)) rfl rfl (by kernel_rfl) (by kernel_rfl) (by kernel_rfl) (fun _ _ _ h => h) (Or.inl ⟨by rfl, fun w' hw' => by go_simp⟩) hS ?_
          simp only [Act.put, List.setIfInBounds_toArray, List.set_cons_zero, List.set_cons_succ]
          refine take_lawH 9 (some 47) (.agg (pc x.s.p).toArray) rfl rfl (by kernel_rfl) (by kernel_rfl) (by kernel_rfl) (fun _ _ _ h => h) (Or.inl ⟨by rfl, fun w' hw' => by exact exec_loadN 31 (.tmp 46) rfl _ rfl _ _ (load_cells rowy_place hw'.2.1)⟩) hS ?_
          simp only [Act.put, List.setIfInBounds_toArray, List.set_cons_zero, List.set_cons_succ]
          refine take_lawH 11 (some 49) ((.agg (rmc s' v').toArray)) rfl rfl (by kernel_rfl) (by kernel_rfl) (by kernel_rfl) (fun _ _ _ h => h) (Or.inl ⟨by rfl, fun w' hw' => by exact exec_loadN 28 (.tmp 4) rfl _ rfl _ _ (load_cells rowy_rmap hw'.1)⟩) hS ?_
          simp only [Act.put, List.setIfInBounds_toArray, List.set_cons_zero, List.set_cons_succ]
          refine take_lawH 12 (some 50) (.slice (some ⟨sb, off, none⟩) m cap) rfl rfl (by kernel_rfl) (by kernel_rfl) (by kernel_rfl) (fun _ _ _ h => h) (Or.inl ⟨by rfl, fun w' hw' => by rfl⟩) hS ?_
          simp only [Act.put, List.setIfInBounds_toArray, List.set_cons_zero, List.set_cons_succ]
          refine take_lawH 13 (some 51) (.int .i64 (k : Int)) rfl rfl (by kernel_rfl) (by kernel_rfl) (by kernel_rfl) (fun _ _ _ h => h) (Or.inl ⟨by rfl, fun w' hw' => by rfl⟩) hS ?_
          simp only [Act.put, List.setIfInBounds_toArray, List.set_cons_zero, List.set_cons_succ]
          refine take_lawH 14 (some 52) (.pointer (some ⟨sb, off + k * 19, none⟩)) rfl rfl (by kernel_rfl) (by kernel_rfl) (by kernel_rfl) (fun _ _ _ h => h) (Or.inl ⟨by rfl, fun w' hw' => by exact exec_idxT (.tmp 50) (.tmp 51) rfl sb off m cap k rfl rfl KM.out.1 _⟩) hS ?_
          simp only [Act.put, List.setIfInBounds_toArray, List.set_cons_zero, List.set_cons_succ]
          refine take_lawH 15 (some 53) (.pointer (some ⟨sb, off + k * 19 + 3, none⟩)) rfl rfl (by kernel_rfl) (by kernel_rfl) (by kernel_rfl) (fun _ _ _ h => h) (Or.inl ⟨by rfl, fun w' hw' => by go_simp⟩) hS ?_
          simp only [Act.put, List.setIfInBounds_toArray, List.set_cons_zero, List.set_cons_succ]
          refine take_lawH 16 (some 54) (.pointer (some ⟨sb, off + k * 19 + 3, none⟩)) rfl rfl (by kernel_rfl) (by kernel_rfl) (by kernel_rfl) (fun _ _ _ h => h) (Or.inl ⟨by rfl, fun w' hw' => by go_simp⟩) hS ?_
          simp only [Act.put, List.setIfInBounds_toArray, List.set_cons_zero, List.set_cons_succ]
          refine take_lawH 17 (some 55) (.agg (pc x.s.p).toArray) rfl rfl (by kernel_rfl) (by kernel_rfl) (by kernel_rfl) (fun _ _ _ h => h) (Or.inl ⟨by rfl, fun w' hw' => by exact exec_loadN 31 (.tmp 54) rfl _ rfl _ _ (load_cells rowy_place hw'.2.1)⟩) hS ?_
          simp only [Act.put, List.setIfInBounds_toArray, List.set_cons_zero, List.set_cons_succ]
          refine wpAnyH_ready (rs := [10]) (by kernel_rfl) (by simp) ?_
          refine AllReadyH.cons rfl (fun K hK => ?_) AllReadyH.nil
          refine step_callW r1 (by rfl) (some 48) rfl 11 #[.tmp 41, .tmp 47] _ rfl (fun _ _ => rfl) #[pt c, .agg (pc x.s.p).toArray] (by simp only [List.map_toArray, List.map_cons, List.map_nil]; rfl) (fun v9 w' => v9 = (.int .i64 (cnt s' f' x.s.p)) ∧ Below r1.heap.size r1 w') ((refs_any (pt c) d' s' f' (cnt s' f') x.s.p r1 (.inr ⟨c, rb', rfl, HR.out.k.m⟩)).mono fun e w' ⟨h1, h2⟩ => ⟨_, h1, rfl, h2⟩) ?_
          rintro v9 r2 ⟨rfl, B9⟩
          have HR : Hid (Rn w r2 c b4 d' s' f' rb' v' L') := HR.out.below B9
          have hS : r2.rangeAt b4 0 (rmc s' v') ∧ r2.rangeAt sb (off + k * 19 + 3) (pc x.s.p) ∧ r2.rangeAt sb (off + k * 19 + 17) (pc x.t) := ⟨HR.out.m.1, stp_from (CX.out _ HR.out.k.h), stp_t (CX.out _ HR.out.k.h)⟩
          clear B9
          refine hK.out _ _ hS (fun _ => ?_)
          simp only [Act.put, List.setIfInBounds_toArray, List.set_cons_zero, List.set_cons_succ]
          clear hK K
          refine wpAnyH_ready (rs := [18]) (by kernel_rfl) (by simp) ?_
          refine AllReadyH.cons rfl (fun K hK => ?_) AllReadyH.nil
          refine step_callW r2 (by rfl) (some 56) rfl 12 #[.tmp 49, .tmp 55] _ rfl (fun _ _ => rfl) #[.agg (rmc s' v').toArray, .agg (pc x.s.p).toArray] (by simp only [List.map_toArray, List.map_cons, List.map_nil]; rfl) (fun v9 w' => v9 = (.int .i64 (cnt s' f' x.s.p)) ∧ Below r2.heap.size r2 w') ((HR.out.refs x.s.p).mono fun e w' ⟨h1, h2⟩ => ⟨_, h1, rfl, h2⟩) ?_
          rintro v9 r3 ⟨rfl, B9⟩
          have HR : Hid (Rn w r3 c b4 d' s' f' rb' v' L') := HR.out.below B9
          have hS : r3.rangeAt b4 0 (rmc s' v') ∧ r3.rangeAt sb (off + k * 19 + 3) (pc x.s.p) ∧ r3.rangeAt sb (off + k * 19 + 17) (pc x.t) := ⟨HR.out.m.1, stp_from (CX.out _ HR.out.k.h), stp_t (CX.out _ HR.out.k.h)⟩
          clear B9
          refine hK.out _ _ hS (fun _ => ?_)
          simp only [Act.put, List.setIfInBounds_toArray, List.set_cons_zero, List.set_cons_succ]
          clear hK K
          refine take_lawH 19 (some 57) (.bool false) rfl rfl (by kernel_rfl) (by kernel_rfl) (by kernel_rfl) (fun _ _ _ h => h) (Or.inl ⟨by rfl, fun w' hw' => by go_simp⟩) hS ?_
          simp only [Act.put, List.setIfInBounds_toArray, List.set_cons_zero, List.set_cons_succ]
          refine take_lawH 20 (some 58) (.bool false) rfl rfl (by kernel_rfl) (by kernel_rfl) (by kernel_rfl) (fun _ _ _ h => h) (Or.inl ⟨by rfl, fun w' hw' => by rfl⟩) hS ?_
          simp only [Act.put, List.setIfInBounds_toArray, List.set_cons_zero, List.set_cons_succ]
          refine take_lawH 21 (some 59) (.bool false) rfl rfl (by kernel_rfl) (by kernel_rfl) (by kernel_rfl) (fun _ _ _ h => h) (Or.inl ⟨by rfl, fun w' hw' => by rfl⟩) hS ?_
          simp only [Act.put, List.setIfInBounds_toArray, List.set_cons_zero, List.set_cons_succ]
          refine take_lawH 22 (some 60) (pt c) rfl rfl (by kernel_rfl) (by kernel_rfl) (by kernel_rfl) (fun _ _ _ h => h) (Or.inl ⟨by rfl, fun w' hw' => by rfl⟩) hS ?_
          simp only [Act.put, List.setIfInBounds_toArray, List.set_cons_zero, List.set_cons_succ]
          refine take_lawH 23 (some 61) (.slice (some ⟨sb, off, none⟩) m cap) rfl rfl (by kernel_rfl) (by kernel_rfl) (by kernel_rfl) (fun _ _ _ h => h) (Or.inl ⟨by rfl, fun w' hw' => by rfl⟩) hS ?_
          simp only [Act.put, List.setIfInBounds_toArray, List.set_cons_zero, List.set_cons_succ]
          refine take_lawH 24 (some 62) (.int .i64 (k : Int)) rfl rfl (by kernel_rfl) (by kernel_rfl) (by kernel_rfl) (fun _ _ _ h => h) (Or.inl ⟨by rfl, fun w' hw' => by rfl⟩) hS ?_
          simp only [Act.put, List.setIfInBounds_toArray, List.set_cons_zero, List.set_cons_succ]
          refine take_lawH 25 (some 63) (.pointer (some ⟨sb, off + k * 19, none⟩)) rfl rfl (by kernel_rfl) (by kernel_rfl) (by kernel_rfl) (fun _ _ _ h => h) (Or.inl ⟨by rfl, fun w' hw' => by exact exec_idxT (.tmp 61) (.tmp 62) rfl sb off m cap k rfl rfl KM.out.1 _⟩) hS ?_
          simp only [Act.put, List.setIfInBounds_toArray, List.set_cons_zero, List.set_cons_succ]
          refine take_lawH 26 (some 64) (.pointer (some ⟨sb, off + k * 19 + 17, none⟩)) rfl rfl (by kernel_rfl) (by kernel_rfl) (by kernel_rfl) (fun _ _ _ h => h) (Or.inl ⟨by rfl, fun w' hw' => by go_simp⟩) hS ?_
          simp only [Act.put, List.setIfInBounds_toArray, List.set_cons_zero, List.set_cons_succ]
          refine take_lawH 27 (some 65) (.agg (pc x.t).toArray) rfl rfl (by kernel_rfl) (by kernel_rfl) (by kernel_rfl) (fun _ _ _ h => h) (Or.inl ⟨by rfl, fun w' hw' => by exact exec_loadN 31 (.tmp 64) rfl _ rfl _ _ (load_cells rowy_place hw'.2.2)⟩) hS ?_
          simp only [Act.put, List.setIfInBounds_toArray, List.set_cons_zero, List.set_cons_succ]
          refine take_lawH 29 (some 67) ((.agg (rmc s' v').toArray)) rfl rfl (by kernel_rfl) (by kernel_rfl) (by kernel_rfl) (fun _ _ _ h => h) (Or.inl ⟨by rfl, fun w' hw' => by exact exec_loadN 28 (.tmp 4) rfl _ rfl _ _ (load_cells rowy_rmap hw'.1)⟩) hS ?_
          simp only [Act.put, List.setIfInBounds_toArray, List.set_cons_zero, List.set_cons_succ]
          refine take_lawH 30 (some 68) (.slice (some ⟨sb, off, none⟩) m cap) rfl rfl (by kernel_rfl) (by kernel_rfl) (by kernel_rfl) (fun _ _ _ h => h) (Or.inl ⟨by rfl, fun w' hw' => by rfl⟩) hS ?_
          simp only [Act.put, List.setIfInBounds_toArray, List.set_cons_zero, List.set_cons_succ]
          refine take_lawH 31 (some 69) (.int .i64 (k : Int)) rfl rfl (by kernel_rfl) (by kernel_rfl) (by kernel_rfl) (fun _ _ _ h => h) (Or.inl ⟨by rfl, fun w' hw' => by rfl⟩) hS ?_
          simp only [Act.put, List.setIfInBounds_toArray, List.set_cons_zero, List.set_cons_succ]
          refine take_lawH 32 (some 70) (.pointer (some ⟨sb, off + k * 19, none⟩)) rfl rfl (by kernel_rfl) (by kernel_rfl) (by kernel_rfl) (fun _ _ _ h => h) (Or.inl ⟨by rfl, fun w' hw' => by exact exec_idxT (.tmp 68) (.tmp 69) rfl sb off m cap k rfl rfl KM.out.1 _⟩) hS ?_
          simp only [Act.put, List.setIfInBounds_toArray, List.set_cons_zero, List.set_cons_succ]
          refine take_lawH 33 (some 71) (.pointer (some ⟨sb, off + k * 19 + 17, none⟩)) rfl rfl (by kernel_rfl) (by kernel_rfl) (by kernel_rfl) (fun _ _ _ h => h) (Or.inl ⟨by rfl, fun w' hw' => by go_simp⟩) hS ?_
          simp only [Act.put, List.setIfInBounds_toArray, List.set_cons_zero, List.set_cons_succ]
          refine take_lawH 34 (some 72) (.agg (pc x.t).toArray) rfl rfl (by kernel_rfl) (by kernel_rfl) (by kernel_rfl) (fun _ _ _ h => h) (Or.inl ⟨by rfl, fun w' hw' => by exact exec_loadN 31 (.tmp 71) rfl _ rfl _ _ (load_cells rowy_place hw'.2.2)⟩) hS ?_
          simp only [Act.put, List.setIfInBounds_toArray, List.set_cons_zero, List.set_cons_succ]
          refine wpAnyH_ready (rs := [28]) (by kernel_rfl) (by simp) ?_
          refine AllReadyH.cons rfl (fun K hK => ?_) AllReadyH.nil
          refine step_callW r3 (by rfl) (some 66) rfl 11 #[.tmp 60, .tmp 65] _ rfl (fun _ _ => rfl) #[pt c, .agg (pc x.t).toArray] (by simp only [List.map_toArray, List.map_cons, List.map_nil]; rfl) (fun v9 w' => v9 = (.int .i64 (cnt s' f' x.t)) ∧ Below r3.heap.size r3 w') ((refs_any (pt c) d' s' f' (cnt s' f') x.t r3 (.inr ⟨c, rb', rfl, HR.out.k.m⟩)).mono fun e w' ⟨h1, h2⟩ => ⟨_, h1, rfl, h2⟩) ?_
          rintro v9 r4 ⟨rfl, B9⟩
          have HR : Hid (Rn w r4 c b4 d' s' f' rb' v' L') := HR.out.below B9
          have hS : r4.rangeAt b4 0 (rmc s' v') ∧ r4.rangeAt sb (off + k * 19 + 3) (pc x.s.p) ∧ r4.rangeAt sb (off + k * 19 + 17) (pc x.t) := ⟨HR.out.m.1, stp_from (CX.out _ HR.out.k.h), stp_t (CX.out _ HR.out.k.h)⟩
          clear B9
          refine hK.out _ _ hS (fun _ => ?_)
          simp only [Act.put, List.setIfInBounds_toArray, List.set_cons_zero, List.set_cons_succ]
          clear hK K
          refine wpAnyH_ready (rs := [35]) (by kernel_rfl) (by simp) ?_
          refine AllReadyH.cons rfl (fun K hK => ?_) AllReadyH.nil
          refine step_callW r4 (by rfl) (some 73) rfl 12 #[.tmp 67, .tmp 72] _ rfl (fun _ _ => rfl) #[.agg (rmc s' v').toArray, .agg (pc x.t).toArray] (by simp only [List.map_toArray, List.map_cons, List.map_nil]; rfl) (fun v9 w' => v9 = (.int .i64 (cnt s' f' x.t)) ∧ Below r4.heap.size r4 w') ((HR.out.refs x.t).mono fun e w' ⟨h1, h2⟩ => ⟨_, h1, rfl, h2⟩) ?_
          rintro v9 r5 ⟨rfl, B9⟩
          have HR : Hid (Rn w r5 c b4 d' s' f' rb' v' L') := HR.out.below B9
          have hS : r5.rangeAt b4 0 (rmc s' v') ∧ r5.rangeAt sb (off + k * 19 + 3) (pc x.s.p) ∧ r5.rangeAt sb (off + k * 19 + 17) (pc x.t) := ⟨HR.out.m.1, stp_from (CX.out _ HR.out.k.h), stp_t (CX.out _ HR.out.k.h)⟩
          clear B9
          refine hK.out _ _ hS (fun _ => ?_)
          simp only [Act.put, List.setIfInBounds_toArray, List.set_cons_zero, List.set_cons_succ]
          clear hK K
          refine take_lawH 36 (some 74) (.bool false) rfl rfl (by kernel_rfl) (by kernel_rfl) (by kernel_rfl) (fun _ _ _ h => h) (Or.inl ⟨by rfl, fun w' hw' => by go_simp⟩) hS ?_
          simp only [Act.put, List.setIfInBounds_toArray, List.set_cons_zero, List.set_cons_succ]
          refine take_lawH 37 (some 75) (.bool false) rfl rfl (by kernel_rfl) (by kernel_rfl) (by kernel_rfl) (fun _ _ _ h => h) (Or.inl ⟨by rfl, fun w' hw' => by rfl⟩) hS ?_
          simp only [Act.put, List.setIfInBounds_toArray, List.set_cons_zero, List.set_cons_succ]
          refine wpAnyH_done (by kernel_rfl) ?_ _
          go_wp2
          go_roundw
          case rel => exact ⟨k + 1, d', s', f', rb', v', L', by have := KM.out; omega, by have := KM.out; omega, by go_num, HR⟩
          case measure => simp [intOf]; have := KM.out; omega
    · have HX : Hid (k = m ∨ k = 30) := by show _ ∨ _; omega
      have hx : ¬ (k : Int) < (m : Int) ∨ ((k : Int) < (m : Int) ∧ ¬ (k : Int) < 30) := by omega
      clear hlt
      rcases hx with hx | ⟨hx1, hx2⟩
      · have e1 : decide ((k : Int) < (m : Int)) = false := decide_eq_false hx
        go_wp2
        go_loopw [8] (fun iv wq => ∃ j : Int, -1 ≤ j ∧ j ≤ 5 ∧ iv = .int .i64 j ∧ Hid (Rn w wq c b4 d s f rb v L)) (fun iv _ => (5 - intOf iv).toNat)
        case atStart => exact ⟨-1, by omega, by omega, rfl, HR⟩
        case round =>
          clear HR
          obtain ⟨j, hj1, hj2, rfl, HR⟩ := hrel
          have jw : IntKind.i64.wrap (j + 1) = j + 1 := by rw [IntKind.wrap_i64]; omega
          by_cases hl : j < 5
          · have l1 : decide (j < 5) = true := decide_eq_true hl
            have t0 : (0 : Nat) = 0 := rfl
            go_wp2_with (first
              | (have qq := t1; go_at_call 13; refine (same_any w _ c d s f rb v L HR.out.k j).mono ?_; rintro e w4 ⟨rfl, B9⟩; have HR : Hid (Rn w w4 c b4 d s f rb v L) := HR.out.below B9; clear B9 t1)
              | (have qq := t0; refine pm.load_law _ (by rfl) 28 (.tmp 4) rfl b4 0 (rmc s v) rfl rowy_rmap HR.out.m.1 ?_; clear t0; have t1 : (0 : Nat) = 0 := rfl))
            go_roundw
            case rel => exact ⟨j + 1, by omega, by omega, by go_num, HR⟩
            case measure => simp [intOf]; omega
          · have l1 : decide (j < 5) = false := decide_eq_false hl
            have t0 : (0 : Nat) = 0 := rfl
            go_wp2_with (have qq := t0; go_at_call 14; refine (awake_any _).mono ?_; rintro e9 w9 ⟨rfl, B9⟩; have BF : Hid (Below w.heap.size w w9) := HR.out.k.h.trans (B9.mono HR.out.k.h.size); clear B9 t0)
            go_ret
            exact ⟨rfl, BF.out⟩
      · have e1 : decide ((k : Int) < (m : Int)) = true := decide_eq_true hx1
        have e2 : decide ((k : Int) < 30) = false := decide_eq_false hx2
        go_wp2
        go_loopw [8] (fun iv wq => ∃ j : Int, -1 ≤ j ∧ j ≤ 5 ∧ iv = .int .i64 j ∧ Hid (Rn w wq c b4 d s f rb v L)) (fun iv _ => (5 - intOf iv).toNat)
        case atStart => exact ⟨-1, by omega, by omega, rfl, HR⟩
        case round =>
          clear HR
          obtain ⟨j, hj1, hj2, rfl, HR⟩ := hrel
          have jw : IntKind.i64.wrap (j + 1) = j + 1 := by rw [IntKind.wrap_i64]; omega
          by_cases hl : j < 5
          · have l1 : decide (j < 5) = true := decide_eq_true hl
            have t0 : (0 : Nat) = 0 := rfl
            go_wp2_with (first
              | (have qq := t1; go_at_call 13; refine (same_any w _ c d s f rb v L HR.out.k j).mono ?_; rintro e w4 ⟨rfl, B9⟩; have HR : Hid (Rn w w4 c b4 d s f rb v L) := HR.out.below B9; clear B9 t1)
              | (have qq := t0; refine pm.load_law _ (by rfl) 28 (.tmp 4) rfl b4 0 (rmc s v) rfl rowy_rmap HR.out.m.1 ?_; clear t0; have t1 : (0 : Nat) = 0 := rfl))
            go_roundw
            case rel => exact ⟨j + 1, by omega, by omega, by go_num, HR⟩
            case measure => simp [intOf]; omega
          · have l1 : decide (j < 5) = false := decide_eq_false hl
            have t0 : (0 : Nat) = 0 := rfl
            go_wp2_with (have qq := t0; go_at_call 14; refine (awake_any _).mono ?_; rintro e9 w9 ⟨rfl, B9⟩; have BF : Hid (Below w.heap.size w w9) := HR.out.k.h.trans (B9.mono HR.out.k.h.size); clear B9 t0)
            go_ret
            exact ⟨rfl, BF.out⟩

theorem params : ∀ t ∈ Try.f3.params.toList, Try.prog.readableRec t = true ∧ t < Try.prog.types.size := by
  rw [Try.params3]
  intro t ht
  simp at ht
  subst ht
  exact ⟨by kernel_rfl, of_decide_eq_true (by kernel_rfl)⟩

theorem contract (H : Type) (enc : TypeId × Value → H) (W : World) (base : Nat) (args : Array Value) (ds gs : List (DataW H)) (before : List MemPlace)
    (hval : ∀ (j : Nat) t v, Try.f3.params[j]? = some t → args[j]? = some v → Value.okWide Try.prog W .any base t v)
    (hW : DataW.Whole enc Try.prog Try.f3.params.toList Rows.pagemapRunsSpec.vars false W args.toList ds gs before) :
    Calls Try.prog 3 args W fun e W' => ∃ v, e = .returned v ∧ Rows.pagemapRunsSpec.post enc Try.prog Try.f3 false true false false W args v W' := by
  have hW' := hW
  obtain ⟨p, q, hA0, hV, rfl, hfz, hnd⟩ := hW
  have hA : DataW.TrodAll enc Try.prog W 0 (fun _ => true) true Try.f3.params.toList args.toList ds p := hA0
  rw [Try.params3] at hA hval
  obtain ⟨v0, d0, rfl, rfl, h0⟩ := trodAll_one hA
  obtain ⟨rfl, rfl⟩ := trodVars_none hV
  obtain ⟨sm0, sq0, b0⟩ := pm.steps_open (hval 0 22 v0 rfl rfl) h0
  clear hA0
  refine (walk v0 sm0 sq0 W b0).mono fun e W' ⟨he, hg⟩ => ?_
  subst he
  exact ⟨_, rfl, post_law rfl (by kernel_rfl) params rfl rfl rfl hW' hg⟩

theorem laid_met (os : Os) : laidMet Try.prog Rows.pagemapRunsRow.laid ((World.holding Try.prog os ⟨#[], #[], []⟩).forCall (fun _ _ => 0) ⟨#[], #[.slice none 0 0], []⟩).memory :=
  laidMet_of_run' 8 (by kernel_rfl) (by kernel_rfl)
theorem reads (os : Os) {H : Type} (enc : TypeId × Value → H) : ∃ places, DataW.whole enc Try.prog ((World.holding Try.prog os ⟨#[], #[], []⟩).forCall (fun _ _ => 0) ⟨#[], #[.slice none 0 0], []⟩).memory Try.f3.params.toList Rows.pagemapRunsSpec.vars false #[Value.slice none 0 0].toList 8 = some ([.nil], [], places) :=
  ⟨[], by kernel_rfl⟩

set_option maxRecDepth 100000 in
theorem lifted (os : Os) (started : os.Started) (H : Type) (enc : TypeId × Value → H) (F : Stop.Interp) :
    ReturnsInHanded {} Try.checked os 3 .any ((OpenSpec.ofChange Rows.pagemapRunsSpec).preRow enc Try.prog Try.f3 Rows.pagemapRunsRow.domain false Rows.pagemapRunsRow.laid) (((OpenSpec.ofChange Rows.pagemapRunsSpec).at F).post enc Try.prog Try.f3 false true false false) := by
  obtain ⟨places, hx⟩ := reads os enc
  refine returnsInHanded_of_row (C := Try.checked) (s := OpenSpec.ofChange Rows.pagemapRunsSpec) own started (by kernel_rfl) Try.func3
    (witness_row_at (enc := enc) (C := Try.checked) false (World.holding Try.prog os ⟨#[], #[], []⟩) #[.slice none 0 0] rfl (by kernel_rfl) (by kernel_rfl) (by kernel_rfl)
      (OpenSpec.preRow_of_cond 8 hx (by kernel_rfl) (fun k hk => by cases hk) (by kernel_rfl) (laid_met os))) ?_
  intro W base args ds gs before hval hW _ _ _ _ _ _
  exact contract H enc W base args ds gs before hval hW

theorem said : Rows.PagemapRunsSaid :=
  OpenClaim.holds_of_cond 3 Try.f3 rfl rfl rfl rfl rfl rfl rfl ⟨rfl, rfl, rfl, rfl, rfl⟩ rfl rfl rfl rfl rfl (by kernel_rfl) Try.func3 (by kernel_rfl)
    (of_decide_eq_true (by kernel_rfl)) (by unfold Func.isWrapper; first | (rw [if_pos (by decide +kernel)]; kernel_rfl) | (rw [if_neg (by decide +kernel)]; exact ⟨rfl, rfl⟩))
    (fun os started H enc _ F => by rw [OpenClaim.pre_eq_preRow]; exact lifted os started H enc F)
end Go.Proofs.Ytedmmpognhpbdaa.pagemapRuns

namespace Go.Proofs.Ytedmmpognhpbdaa
theorem pagemapRuns_said : Rows.PagemapRunsSaid := pagemapRuns.said
#print axioms pagemapRuns_said
end Go.Proofs.Ytedmmpognhpbdaa
