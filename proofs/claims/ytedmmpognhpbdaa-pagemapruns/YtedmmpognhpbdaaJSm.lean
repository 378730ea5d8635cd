/- The law's same: does a map tell what the document's does, of a namespace? No claim of its own. -/
import Derived.Test.YtedmmpognhpbdaaJLt
namespace Go.Proofs.Ytedmmpognhpbdaa.pm
open Go.RowKit Go.Proofs.Ytedmmpognhpbdaa.he
set_option maxRecDepth 20000

theorem exec_bsp {ev : Operand → Value} {o : Oper} (hop : o.op = Op.build 37 #[]) (w : World) : (execOp ev o).run Try.prog w = .ok (.value (.agg sp0.cs.toArray)) w := by
  unfold execOp
  simp only [hop, List.map_toArray, List.map_nil, Sem.run_bind, Sem.run_pure, Result.andThen_ok, build_sp]
theorem eql_rspot (x : Sp) (w : World) : (Op.equalIn 10000 49 (.agg x.cs.toArray) (.agg x.cs.toArray)).run Try.prog w = .ok true w := by
  unfold Sp.cs
  go_simp
set_option maxHeartbeats 8000000 in
theorem same_in (w wb : World) (c : Nat) (d s : Nat → Nat) (f : Nat → Nat → Sp) (rb : Option Nat) (v : Value) (L : List Ce) (hk : Wk w wb c d s f rb v L) (i : Nat) (hi : i < 4) : Calls Try.prog 13 #[pt c, .agg (rmc s v).toArray, .int .i64 (i : Int)] wb fun e w' => e = .returned (.bool true) ∧ Below wb.heap.size wb w' := by
  have HK : Hid (Wk w wb c d s f rb v L) := hk
  obtain ⟨z, hz⟩ : ∃ z, z = szn s (i : Int) := ⟨_, rfl⟩
  have ZZ : Hid (z = szn s (i : Int)) := hz
  have z9 : (z : Int) ≤ 40 := by
    rw [hz]
    unfold szn
    split
    · have := hk.z ((i : Int) : Int).toNat (by omega); omega
    · omega
  have SZ : Hid (∀ W, Below wb.heap.size wb W → Calls Try.prog 23 #[pt c, .int .i64 (i : Int)] W fun e w' => e = .returned (.int .i64 (z : Int)) ∧ Below W.heap.size W w') := fun W hW => (size_any (pt c) d s f (cnt s f) (i : Int) W (.inr ⟨c, rb, rfl, hk.m.below hW⟩)).mono fun _ _ ⟨p, q⟩ => ⟨by rw [hz]; exact p, by rw [q]; exact Below.refl _ _⟩
  obtain ⟨kd, hkd⟩ : ∃ kd, kd = dc1 (f ((i : Int) : Int).toNat) (szn s (i : Int)) := ⟨_, rfl⟩
  have DT : Hid (∀ W, Below wb.heap.size wb W → Calls Try.prog 25 #[pt c, .int .i64 (i : Int)] W fun e w' => e = .returned (.int .i64 (kd : Int)) ∧ Below W.heap.size W w') := fun W hW => by rw [hkd]; exact data_any c rb d s f (cnt s f) (i : Int) W (hk.m.below hW) hk.z9
  have RD : Hid (∀ W, Below wb.heap.size wb W → Calls Try.prog 32 #[.agg (rmc s v).toArray, .int .i64 (i : Int)] W fun e w' => e = .returned (.int .i64 (kd : Int)) ∧ Below W.heap.size W w') := fun W hW => by rw [hkd, ← hk.r.data (i : Int)]; exact rdata_any s v L (i : Int) W (hk.l.below hW) (by have := hk.len; omega)
  have GT : Hid (∀ W k, Below wb.heap.size wb W → Calls Try.prog 21 #[pt c, .int .i64 (i : Int), .int .i64 k] W fun e w' => e = .returned (.tuple #[.agg (gs s f (i : Int) k).cs.toArray, .bool (lv (gs s f (i : Int) k))]) ∧ Below W.heap.size W w') := fun W k hW => get_any c rb d s f (cnt s f) (i : Int) k W (hk.m.below hW)
  have PC : Hid (∀ W k, Below wb.heap.size wb W → Calls Try.prog 33 #[.agg (rmc s v).toArray, .int .i64 (i : Int), .int .i64 k] W fun e w' => e = .returned (.int .i64 (plc (i : Int) k L 0)) ∧ Below W.heap.size W w') := fun W k hW => rplace_any s v L (i : Int) k W (hk.l.below hW) (by have := hk.len; omega)
  have ZI : Hid (z = s i) := by show _ = _; rw [hz]; unfold szn; rw [if_pos (by omega), Int.toNat_natCast]
  have I4 : Hid (i < 4) := hi
  have i0 : (0 : Int) ≤ (i : Int) := by omega
  have i4 : (i : Int) < 4 := by omega
  clear hi
  clear hz hkd hk
  have t0 : (0 : Nat) = 0 := rfl
  go_enter Try.func13, Try.ntmps13
  go_wp2_with (have qq := t0; refine box_lawC _ (rmc s v) rfl ?_; intro w1 X9 B9 _; have VM : Hid (Vr w1 wb.heap.size (rmc s v)) := X9; have BB : Hid (Below wb.heap.size wb w1) := B9; have nz : w1.cell? ⟨wb.heap.size, i, none⟩ = some (.int .i64 (z : Int)) := (by rw [ZI.out]; exact sz_cell VM.out I4.out); clear X9 B9 t0)
  have VM : Hid (Vr w1.drew wb.heap.size (rmc s v)) := VM.out.drewN 1
  have BB : Hid (Below wb.heap.size wb w1.drew) := below_dr BB.out 1
  refine wp_region_held_drew (S := fun w' => w'.rangeAt wb.heap.size 0 (rmc s v)) (by kernel_rfl) VM.out.1 (fun hS => ?_)
  obtain ⟨z1, hx0⟩ : ∃ x, x = w1.drew := ⟨_, rfl⟩
  rw [← hx0] at hS VM BB ⊢
  clear hx0
  refine take_lawH 0 (some 22) (pt c) rfl rfl (by kernel_rfl) (by kernel_rfl) (by kernel_rfl) (fun _ _ _ h => h) (Or.inl ⟨by rfl, fun w' hw' => by rfl⟩) hS ?_
  simp only [Act.put, List.setIfInBounds_toArray, List.set_cons_zero, List.set_cons_succ]
  refine take_lawH 1 (some 23) (.int .i64 (i : Int)) rfl rfl (by kernel_rfl) (by kernel_rfl) (by kernel_rfl) (fun _ _ _ h => h) (Or.inl ⟨by rfl, fun w' hw' => by rfl⟩) hS ?_
  simp only [Act.put, List.setIfInBounds_toArray, List.set_cons_zero, List.set_cons_succ]
  refine take_lawH 3 (some 25) (.int .i64 (z : Int)) rfl rfl (by kernel_rfl) (by kernel_rfl) (by kernel_rfl) (fun _ _ _ h => h) (Or.inl ⟨by rfl, fun w' hw' => by rfl⟩) hS ?_
  simp only [Act.put, List.setIfInBounds_toArray, List.set_cons_zero, List.set_cons_succ]
  refine wpAnyH_ready (rs := [2]) (by kernel_rfl) (by simp) ?_
  refine AllReadyH.cons rfl (fun K hK => ?_) AllReadyH.nil
  refine step_callW z1 (by rfl) (some 24) rfl 23 #[.tmp 22, .tmp 23] _ rfl (fun _ _ => rfl) #[pt c, .int .i64 (i : Int)] (by simp only [List.map_toArray, List.map_cons, List.map_nil]; rfl) (fun v9 w' => v9 = .int .i64 (z : Int) ∧ Below z1.heap.size z1 w') ((SZ.out z1 BB.out).mono fun e w' ⟨h1, h2⟩ => ⟨_, h1, rfl, h2⟩) ?_
  rintro v9 z2 ⟨rfl, B9⟩
  have VM : Hid (Vr z2 wb.heap.size (rmc s v)) := VM.out.below B9 (range_lt VM.out.1 (Nat.succ_pos _))
  have BB : Hid (Below wb.heap.size wb z2) := BB.out.trans (B9.mono BB.out.size)
  have hS : z2.rangeAt wb.heap.size 0 (rmc s v) := VM.out.1
  clear B9
  refine hK.out _ _ hS (fun _ => ?_)
  simp only [Act.put, List.setIfInBounds_toArray, List.set_cons_zero, List.set_cons_succ]
  clear hK K
  refine take_lawH 4 (some 26) (.bool false) rfl rfl (by kernel_rfl) (by kernel_rfl) (by kernel_rfl) (fun _ _ _ h => h) (Or.inl ⟨by rfl, fun w' hw' => by go_simp⟩) hS ?_
  simp only [Act.put, List.setIfInBounds_toArray, List.set_cons_zero, List.set_cons_succ]
  refine take_lawH 5 (some 27) (.bool false) rfl rfl (by kernel_rfl) (by kernel_rfl) (by kernel_rfl) (fun _ _ _ h => h) (Or.inl ⟨by rfl, fun w' hw' => by rfl⟩) hS ?_
  simp only [Act.put, List.setIfInBounds_toArray, List.set_cons_zero, List.set_cons_succ]
  refine take_lawH 6 (some 28) (pt c) rfl rfl (by kernel_rfl) (by kernel_rfl) (by kernel_rfl) (fun _ _ _ h => h) (Or.inl ⟨by rfl, fun w' hw' => by rfl⟩) hS ?_
  simp only [Act.put, List.setIfInBounds_toArray, List.set_cons_zero, List.set_cons_succ]
  refine take_lawH 7 (some 29) (.int .i64 (i : Int)) rfl rfl (by kernel_rfl) (by kernel_rfl) (by kernel_rfl) (fun _ _ _ h => h) (Or.inl ⟨by rfl, fun w' hw' => by rfl⟩) hS ?_
  simp only [Act.put, List.setIfInBounds_toArray, List.set_cons_zero, List.set_cons_succ]
  refine take_lawH 9 (some 31) (.agg (rmc s v).toArray) rfl rfl (by kernel_rfl) (by kernel_rfl) (by kernel_rfl) (fun _ _ _ h => h) (Or.inl ⟨by rfl, fun w' hw' => by exact exec_loadN 28 (.tmp 4) rfl _ rfl _ _ (load_cells rowy_rmap hw')⟩) hS ?_
  simp only [Act.put, List.setIfInBounds_toArray, List.set_cons_zero, List.set_cons_succ]
  refine take_lawH 10 (some 32) (.int .i64 (i : Int)) rfl rfl (by kernel_rfl) (by kernel_rfl) (by kernel_rfl) (fun _ _ _ h => h) (Or.inl ⟨by rfl, fun w' hw' => by rfl⟩) hS ?_
  simp only [Act.put, List.setIfInBounds_toArray, List.set_cons_zero, List.set_cons_succ]
  refine wpAnyH_ready (rs := [8]) (by kernel_rfl) (by simp) ?_
  refine AllReadyH.cons rfl (fun K hK => ?_) AllReadyH.nil
  refine step_callW z2 (by rfl) (some 30) rfl 25 #[.tmp 28, .tmp 29] _ rfl (fun _ _ => rfl) #[pt c, .int .i64 (i : Int)] (by simp only [List.map_toArray, List.map_cons, List.map_nil]; rfl) (fun v9 w' => v9 = .int .i64 (kd : Int) ∧ Below z2.heap.size z2 w') ((DT.out z2 BB.out).mono fun e w' ⟨h1, h2⟩ => ⟨_, h1, rfl, h2⟩) ?_
  rintro v9 z3 ⟨rfl, B9⟩
  have VM : Hid (Vr z3 wb.heap.size (rmc s v)) := VM.out.below B9 (range_lt VM.out.1 (Nat.succ_pos _))
  have BB : Hid (Below wb.heap.size wb z3) := BB.out.trans (B9.mono BB.out.size)
  have hS : z3.rangeAt wb.heap.size 0 (rmc s v) := VM.out.1
  clear B9
  refine hK.out _ _ hS (fun _ => ?_)
  simp only [Act.put, List.setIfInBounds_toArray, List.set_cons_zero, List.set_cons_succ]
  clear hK K
  refine wpAnyH_ready (rs := [11]) (by kernel_rfl) (by simp) ?_
  refine AllReadyH.cons rfl (fun K hK => ?_) AllReadyH.nil
  refine step_callW z3 (by rfl) (some 33) rfl 32 #[.tmp 31, .tmp 32] _ rfl (fun _ _ => rfl) #[.agg (rmc s v).toArray, .int .i64 (i : Int)] (by simp only [List.map_toArray, List.map_cons, List.map_nil]; rfl) (fun v9 w' => v9 = .int .i64 (kd : Int) ∧ Below z3.heap.size z3 w') ((RD.out z3 BB.out).mono fun e w' ⟨h1, h2⟩ => ⟨_, h1, rfl, h2⟩) ?_
  rintro v9 z4 ⟨rfl, B9⟩
  have VM : Hid (Vr z4 wb.heap.size (rmc s v)) := VM.out.below B9 (range_lt VM.out.1 (Nat.succ_pos _))
  have BB : Hid (Below wb.heap.size wb z4) := BB.out.trans (B9.mono BB.out.size)
  have hS : z4.rangeAt wb.heap.size 0 (rmc s v) := VM.out.1
  clear B9
  refine hK.out _ _ hS (fun _ => ?_)
  simp only [Act.put, List.setIfInBounds_toArray, List.set_cons_zero, List.set_cons_succ]
  clear hK K
  refine take_lawH 12 (some 34) (.bool false) rfl rfl (by kernel_rfl) (by kernel_rfl) (by kernel_rfl) (fun _ _ _ h => h) (Or.inl ⟨by rfl, fun w' hw' => by go_simp⟩) hS ?_
  simp only [Act.put, List.setIfInBounds_toArray, List.set_cons_zero, List.set_cons_succ]
  refine take_lawH 13 (some 35) (.bool false) rfl rfl (by kernel_rfl) (by kernel_rfl) (by kernel_rfl) (fun _ _ _ h => h) (Or.inl ⟨by rfl, fun w' hw' => by rfl⟩) hS ?_
  simp only [Act.put, List.setIfInBounds_toArray, List.set_cons_zero, List.set_cons_succ]
  refine wpAnyH_done (by kernel_rfl) ?_ _
  clear SZ DT RD
  go_wp2
  go_loopw [8] (fun iv wq => ∃ j : Int, -1 ≤ j ∧ j ≤ (z : Int) + 1 ∧ iv = .int .i64 j ∧ Hid (Vr wq wb.heap.size (rmc s v)) ∧ Hid (Below wb.heap.size wb wq)) (fun iv _ => ((z : Int) + 1 - intOf iv).toNat)
  case atStart => exact ⟨-1, by omega, by omega, rfl, VM, BB⟩
  case round =>
    clear VM BB
    obtain ⟨j, hj1, hj2, rfl, VM, BB⟩ := hrel
    have jw : IntKind.i64.wrap (j + 1) = j + 1 := by rw [IntKind.wrap_i64]; omega
    by_cases hlt : j ≤ (z : Int)
    · have l1 : decide (j ≤ (z : Int)) = true := decide_eq_true hlt
      rcases HK.out.r.cell (i : Int) j with ⟨q1, q2, q3⟩ | ⟨k, c9, q1, q2, q3, q4⟩
      · have G1 : Hid (∀ W, Below wb.heap.size wb W → Calls Try.prog 21 #[pt c, .int .i64 (i : Int), .int .i64 j] W fun e w' => e = .returned (.tuple #[.agg sp0.cs.toArray, .bool false]) ∧ Below W.heap.size W w') := fun W hW => by have g9 := GT.out W j hW; rw [q1, q2] at g9; exact g9
        have P1 : Hid (∀ W, Below wb.heap.size wb W → Calls Try.prog 33 #[.agg (rmc s v).toArray, .int .i64 (i : Int), .int .i64 j] W fun e w' => e = .returned (.int .i64 (plc (i : Int) j L 0)) ∧ Below W.heap.size W w') := fun W hW => PC.out W j hW
        generalize plc (i : Int) j L 0 = pz at P1 q3
        have p1 : decide (pz ≥ 0) = false := decide_eq_false (by omega)
        have p2 : ¬ pz ≥ 0 := by omega
        have eq9 : ∀ W : World, (Op.equalIn 10000 37 (.agg sp0.cs.toArray) (.agg sp0.cs.toArray)).run Try.prog W = .ok true W := fun W => eql_spot sp0 W
        have gd9 : Try.prog.eqGuardType Try.prog.depth 37 = false := by kernel_rfl
        clear q1 q2 q3 GT PC
        have t0 : (0 : Nat) = 0 := rfl
        go_upto_region 11 with (first
          | (have qq := t4; go_at_call 33; refine (P1.out _ BB.out).mono ?_; rintro e wf ⟨rfl, B9⟩; have VW : Hid (Vr wf wc.heap.size sp0.cs) := VW.out.below B9 (range_lt VW.out.1 (Nat.succ_pos _)); have VM : Hid (Vr wf wb.heap.size (rmc s v)) := VM.out.below B9 (range_lt VM.out.1 (Nat.succ_pos _)); have BB : Hid (Below wb.heap.size wb wf) := BB.out.trans (B9.mono BB.out.size); clear B9 t4)
          | (have qq := t3; refine load_law _ (by rfl) 28 (.tmp 4) rfl wb.heap.size 0 (rmc s v) rfl rowy_rmap VM.out.1 ?_; clear t3; have t4 : (0 : Nat) = 0 := rfl)
          | (have qq := t2; (with_reducible refine at_store ?_); refine store_lawC _ sp0.cs wc.heap.size 0 rfl rfl VZ.out.2 size_spot (sp0).one ?_; intro we e9 r9 h9 B8; have VW : Hid (Vr we wc.heap.size sp0.cs) := ⟨r9, h9⟩; have LW : Hid (wc.heap.size < wd.heap.size) := range_lt VZ.out.1 (Nat.succ_pos _); have VM : Hid (Vr we wb.heap.size (rmc s v)) := (by have g9 : wd.grownBy we (some wc.heap.size) := (by rw [e9.out]; exact (wrt_cells wd wc.heap.size 0 14 _ rfl).1); exact VM.out.heap (g9.block _ (range_lt VM.out.1 (Nat.succ_pos _)) (fun e => by have := WC.out; have := Option.some.inj e; omega))); have BB : Hid (Below wb.heap.size wb we) := (by have g9 : wd.grownBy we (some wc.heap.size) := (by rw [e9.out]; exact (wrt_cells wd wc.heap.size 0 14 _ rfl).1); exact BB.out.grown g9 BB.out.size (fun k9 hk9 => by have := WC.out; cases hk9; omega)); clear e9 r9 h9 B8 VZ B5 t2; have t3 : (0 : Nat) = 0 := rfl)
          | (have qq := t1; (with_reducible refine at_alloc ?_); refine new_lawC _ sp0.cs zero_spot ?_; intro wd X9 B9 _; have VZ : Hid (Vr wd wc.heap.size sp0.cs) := X9; have B5 : Hid (Below wc.heap.size wc wd) := B9; have VM : Hid (Vr wd wb.heap.size (rmc s v)) := VM.out.below B9 (range_lt VM.out.1 (Nat.succ_pos _)); have BB : Hid (Below wb.heap.size wb wd) := BB.out.trans (B9.mono BB.out.size); clear X9 B9 t1; have t2 : (0 : Nat) = 0 := rfl)
          | (have qq := t0; go_at_call 21; refine (G1.out _ BB.out).mono ?_; rintro e wc ⟨rfl, B9⟩; have VM : Hid (Vr wc wb.heap.size (rmc s v)) := VM.out.below B9 (range_lt VM.out.1 (Nat.succ_pos _)); have BB : Hid (Below wb.heap.size wb wc) := BB.out.trans (B9.mono BB.out.size); have WC : Hid (wb.heap.size < wc.heap.size) := range_lt VM.out.1 (Nat.succ_pos _); clear B9 t0; have t1 : (0 : Nat) = 0 := rfl))
        obtain ⟨QX, hQX⟩ : ∃ q, q = wc.heap.size := ⟨_, rfl⟩
        have VQ : Hid (Vr wf QX sp0.cs) := by rw [hQX]; exact VW.out
        rw [← hQX]
        clear hQX VW WC G1 P1
        have VM : Hid (Vr wf.drew wb.heap.size (rmc s v)) := VM.out.drewN 1
        have VQ : Hid (Vr wf.drew QX sp0.cs) := VQ.out.drewN 1
        have BB : Hid (Below wb.heap.size wb wf.drew) := below_dr BB.out 1
        refine wp_region_held_drew (S := fun w' => w'.rangeAt QX 0 sp0.cs) (by kernel_rfl) VQ.out.1 (fun hS => ?_)
        obtain ⟨q1, hx0⟩ : ∃ x, x = wf.drew := ⟨_, rfl⟩
        rw [← hx0] at hS VM VQ BB ⊢
        clear hx0
        refine take_lawH 0 (some 52) (.bool false) rfl rfl (by kernel_rfl) (by kernel_rfl) (by kernel_rfl) (fun _ _ _ h => h) (Or.inl ⟨by rfl, fun w' hw' => by rfl⟩) hS ?_
        simp only [Act.put, List.setIfInBounds_toArray, List.set_cons_zero, List.set_cons_succ]
        refine take_lawH 1 (some 53) (.int .i64 pz) rfl rfl (by kernel_rfl) (by kernel_rfl) (by kernel_rfl) (fun _ _ _ h => h) (Or.inl ⟨by rfl, fun w' hw' => by rfl⟩) hS ?_
        simp only [Act.put, List.setIfInBounds_toArray, List.set_cons_zero, List.set_cons_succ]
        refine take_lawH 2 (some 54) (.bool false) rfl rfl (by kernel_rfl) (by kernel_rfl) (by kernel_rfl) (fun _ _ _ h => h) (Or.inl ⟨by rfl, fun w' hw' => by go_simp⟩) hS ?_
        simp only [Act.put, List.setIfInBounds_toArray, List.set_cons_zero, List.set_cons_succ]
        refine take_lawH 3 (some 55) (.bool false) rfl rfl (by kernel_rfl) (by kernel_rfl) (by kernel_rfl) (fun _ _ _ h => h) (Or.inl ⟨by rfl, fun w' hw' => by go_simp⟩) hS ?_
        simp only [Act.put, List.setIfInBounds_toArray, List.set_cons_zero, List.set_cons_succ]
        refine take_lawH 4 (some 56) (.bool false) rfl rfl (by kernel_rfl) (by kernel_rfl) (by kernel_rfl) (fun _ _ _ h => h) (Or.inl ⟨by rfl, fun w' hw' => by rfl⟩) hS ?_
        simp only [Act.put, List.setIfInBounds_toArray, List.set_cons_zero, List.set_cons_succ]
        refine take_lawH 5 (some 57) (.bool false) rfl rfl (by kernel_rfl) (by kernel_rfl) (by kernel_rfl) (fun _ _ _ h => h) (Or.inl ⟨by rfl, fun w' hw' => by rfl⟩) hS ?_
        simp only [Act.put, List.setIfInBounds_toArray, List.set_cons_zero, List.set_cons_succ]
        refine take_lawH 6 (some 58) (.bool false) rfl rfl (by kernel_rfl) (by kernel_rfl) (by kernel_rfl) (fun _ _ _ h => h) (Or.inl ⟨by rfl, fun w' hw' => by rfl⟩) hS ?_
        simp only [Act.put, List.setIfInBounds_toArray, List.set_cons_zero, List.set_cons_succ]
        refine take_lawH 7 (some 59) (undef) rfl rfl (by kernel_rfl) (by kernel_rfl) (by kernel_rfl) (fun _ _ _ h => h) (Or.inr ⟨by rfl, rfl⟩) hS ?_
        simp only [Act.put, List.setIfInBounds_toArray, List.set_cons_zero, List.set_cons_succ]
        refine take_lawH 8 (some 60) (undef) rfl rfl (by kernel_rfl) (by kernel_rfl) (by kernel_rfl) (fun _ _ _ h => h) (Or.inr ⟨by rfl, rfl⟩) hS ?_
        simp only [Act.put, List.setIfInBounds_toArray, List.set_cons_zero, List.set_cons_succ]
        refine take_lawH 9 (some 61) (undef) rfl rfl (by kernel_rfl) (by kernel_rfl) (by kernel_rfl) (fun _ _ _ h => h) (Or.inr ⟨by rfl, rfl⟩) hS ?_
        simp only [Act.put, List.setIfInBounds_toArray, List.set_cons_zero, List.set_cons_succ]
        refine take_lawH 10 (some 62) (undef) rfl rfl (by kernel_rfl) (by kernel_rfl) (by kernel_rfl) (fun _ _ _ h => h) (Or.inr ⟨by rfl, rfl⟩) hS ?_
        simp only [Act.put, List.setIfInBounds_toArray, List.set_cons_zero, List.set_cons_succ]
        refine take_lawH 11 (some 63) (undef) rfl rfl (by kernel_rfl) (by kernel_rfl) (by kernel_rfl) (fun _ _ _ h => h) (Or.inr ⟨by rfl, rfl⟩) hS ?_
        simp only [Act.put, List.setIfInBounds_toArray, List.set_cons_zero, List.set_cons_succ]
        refine take_lawH 12 (some 64) (undef) rfl rfl (by kernel_rfl) (by kernel_rfl) (by kernel_rfl) (fun _ _ _ h => h) (Or.inr ⟨by rfl, rfl⟩) hS ?_
        simp only [Act.put, List.setIfInBounds_toArray, List.set_cons_zero, List.set_cons_succ]
        refine take_lawH 13 (some 65) (undef) rfl rfl (by kernel_rfl) (by kernel_rfl) (by kernel_rfl) (fun _ _ _ h => h) (Or.inr ⟨by rfl, rfl⟩) hS ?_
        simp only [Act.put, List.setIfInBounds_toArray, List.set_cons_zero, List.set_cons_succ]
        refine take_lawH 14 (some 66) (undef) rfl rfl (by kernel_rfl) (by kernel_rfl) (by kernel_rfl) (fun _ _ _ h => h) (Or.inr ⟨by rfl, rfl⟩) hS ?_
        simp only [Act.put, List.setIfInBounds_toArray, List.set_cons_zero, List.set_cons_succ]
        refine take_lawH 15 (some 67) (undef) rfl rfl (by kernel_rfl) (by kernel_rfl) (by kernel_rfl) (fun _ _ _ h => h) (Or.inr ⟨by rfl, rfl⟩) hS ?_
        simp only [Act.put, List.setIfInBounds_toArray, List.set_cons_zero, List.set_cons_succ]
        refine take_lawH 16 (some 68) (.bool false) rfl rfl (by kernel_rfl) (by kernel_rfl) (by kernel_rfl) (fun _ _ _ h => h) (Or.inl ⟨by rfl, fun w' hw' => by rfl⟩) hS ?_
        simp only [Act.put, List.setIfInBounds_toArray, List.set_cons_zero, List.set_cons_succ]
        refine take_lawH 17 (some 69) (.bool false) rfl rfl (by kernel_rfl) (by kernel_rfl) (by kernel_rfl) (fun _ _ _ h => h) (Or.inl ⟨by rfl, fun w' hw' => by rfl⟩) hS ?_
        simp only [Act.put, List.setIfInBounds_toArray, List.set_cons_zero, List.set_cons_succ]
        refine take_lawH 18 (some 70) (.bool false) rfl rfl (by kernel_rfl) (by kernel_rfl) (by kernel_rfl) (fun _ _ _ h => h) (Or.inl ⟨by rfl, fun w' hw' => by rfl⟩) hS ?_
        simp only [Act.put, List.setIfInBounds_toArray, List.set_cons_zero, List.set_cons_succ]
        refine take_lawH 19 (some 71) (.bool false) rfl rfl (by kernel_rfl) (by kernel_rfl) (by kernel_rfl) (fun _ _ _ h => h) (Or.inl ⟨by rfl, fun w' hw' => by rfl⟩) hS ?_
        simp only [Act.put, List.setIfInBounds_toArray, List.set_cons_zero, List.set_cons_succ]
        refine take_lawH 20 (some 72) (.bool true) rfl rfl (by kernel_rfl) (by kernel_rfl) (by kernel_rfl) (fun _ _ _ h => h) (Or.inl ⟨by rfl, fun w' hw' => by go_simp⟩) hS ?_
        simp only [Act.put, List.setIfInBounds_toArray, List.set_cons_zero, List.set_cons_succ]
        refine take_lawH 21 (some 73) (.bool true) rfl rfl (by kernel_rfl) (by kernel_rfl) (by kernel_rfl) (fun _ _ _ h => h) (Or.inl ⟨by rfl, fun w' hw' => by rfl⟩) hS ?_
        simp only [Act.put, List.setIfInBounds_toArray, List.set_cons_zero, List.set_cons_succ]
        refine take_lawH 22 (some 74) (.agg sp0.cs.toArray) rfl rfl (by kernel_rfl) (by kernel_rfl) (by kernel_rfl) (fun _ _ _ h => h) (Or.inl ⟨by rfl, fun w' hw' => by exact exec_loadN 37 (.tmp 9) rfl _ rfl _ _ (load_cells rowy_spot hw')⟩) hS ?_
        simp only [Act.put, List.setIfInBounds_toArray, List.set_cons_zero, List.set_cons_succ]
        refine take_lawH 23 (some 75) (.agg sp0.cs.toArray) rfl rfl (by kernel_rfl) (by kernel_rfl) (by kernel_rfl) (fun _ _ _ h => h) (Or.inl ⟨by rfl, fun w' hw' => by exact exec_bsp rfl _⟩) hS ?_
        simp only [Act.put, List.setIfInBounds_toArray, List.set_cons_zero, List.set_cons_succ]
        refine take_lawH 24 (some 76) (.bool false) rfl rfl (by kernel_rfl) (by kernel_rfl) (by kernel_rfl) (fun _ _ _ h => h) (Or.inl ⟨by rfl, fun w' hw' => by go_simp⟩) hS ?_
        simp only [Act.put, List.setIfInBounds_toArray, List.set_cons_zero, List.set_cons_succ]
        refine take_lawH 25 (some 77) (.bool false) rfl rfl (by kernel_rfl) (by kernel_rfl) (by kernel_rfl) (fun _ _ _ h => h) (Or.inl ⟨by rfl, fun w' hw' => by rfl⟩) hS ?_
        simp only [Act.put, List.setIfInBounds_toArray, List.set_cons_zero, List.set_cons_succ]
        refine take_lawH 26 (some 78) (.bool false) rfl rfl (by kernel_rfl) (by kernel_rfl) (by kernel_rfl) (fun _ _ _ h => h) (Or.inl ⟨by rfl, fun w' hw' => by rfl⟩) hS ?_
        simp only [Act.put, List.setIfInBounds_toArray, List.set_cons_zero, List.set_cons_succ]
        refine wpAnyH_done (by kernel_rfl) ?_ _
        go_wp2
        go_roundw
        case rel => exact ⟨j + 1, by omega, by omega, by go_num, VM, BB⟩
        case measure => simp [intOf]; omega
      · obtain ⟨ao, cap, hv, hg⟩ := HK.out.l
        obtain ⟨g, rfl, hr⟩ := hg (Nat.lt_of_le_of_lt (Nat.zero_le _) (List.getElem?_eq_some_iff.1 q2).1)
        obtain ⟨n, hn⟩ : ∃ n, n = L.length := ⟨_, rfl⟩
        rw [← hn] at hv
        subst hv
        have KN : Hid (k < n) := by have := (List.getElem?_eq_some_iff.1 q2).1; show _ < _; omega
        have k0 : (0 : Int) ≤ (k : Int) := by omega
        obtain ⟨y, hy⟩ : ∃ y, y = gs s f (i : Int) j := ⟨_, rfl⟩
        have RX : Hid (∀ W, Below wb.heap.size wb W → W.rangeAt g (k * 16 + 2) y.cs) := fun W hW => by have r9 := spot_in ((hr.below hW) k c9 q2).1; rw [q3, ← hy] at r9; exact r9
        have G1 : Hid (∀ W, Below wb.heap.size wb W → Calls Try.prog 21 #[pt c, .int .i64 (i : Int), .int .i64 j] W fun e w' => e = .returned (.tuple #[.agg y.cs.toArray, .bool true]) ∧ Below W.heap.size W w') := fun W hW => by have g9 := GT.out W j hW; rw [q1, ← hy] at g9; exact g9
        have P1 : Hid (∀ W, Below wb.heap.size wb W → Calls Try.prog 33 #[.agg (rmc s (.slice (some ⟨g, 0, none⟩) n cap)).toArray, .int .i64 (i : Int), .int .i64 j] W fun e w' => e = .returned (.int .i64 (k : Int)) ∧ Below W.heap.size W w') := fun W hW => by have g9 := PC.out W j hW; rw [q4] at g9; exact g9
        have eq9 : ∀ W : World, (Op.equalIn 10000 49 (.agg y.cs.toArray) (.agg y.cs.toArray)).run Try.prog W = .ok true W := fun W => eql_rspot y W
        have gd9 : Try.prog.eqGuardType Try.prog.depth 49 = false := by kernel_rfl
        clear q1 q2 q3 q4 hr hg hn hy GT PC
        have t0 : (0 : Nat) = 0 := rfl
        go_upto_region 11 with (first
          | (have qq := t4; go_at_call 33; refine (P1.out _ BB.out).mono ?_; rintro e wf ⟨rfl, B9⟩; have VW : Hid (Vr wf wc.heap.size y.cs) := VW.out.below B9 (range_lt VW.out.1 (Nat.succ_pos _)); have VM : Hid (Vr wf wb.heap.size (rmc s (.slice (some ⟨g, 0, none⟩) n cap))) := VM.out.below B9 (range_lt VM.out.1 (Nat.succ_pos _)); have BB : Hid (Below wb.heap.size wb wf) := BB.out.trans (B9.mono BB.out.size); clear B9 t4)
          | (have qq := t3; refine load_law _ (by rfl) 28 (.tmp 4) rfl wb.heap.size 0 (rmc s (.slice (some ⟨g, 0, none⟩) n cap)) rfl rowy_rmap VM.out.1 ?_; clear t3; have t4 : (0 : Nat) = 0 := rfl)
          | (have qq := t2; (with_reducible refine at_store ?_); refine store_lawC _ y.cs wc.heap.size 0 rfl rfl VZ.out.2 size_spot (y).one ?_; intro we e9 r9 h9 B8; have VW : Hid (Vr we wc.heap.size y.cs) := ⟨r9, h9⟩; have LW : Hid (wc.heap.size < wd.heap.size) := range_lt VZ.out.1 (Nat.succ_pos _); have VM : Hid (Vr we wb.heap.size (rmc s (.slice (some ⟨g, 0, none⟩) n cap))) := (by have g9 : wd.grownBy we (some wc.heap.size) := (by rw [e9.out]; exact (wrt_cells wd wc.heap.size 0 14 _ rfl).1); exact VM.out.heap (g9.block _ (range_lt VM.out.1 (Nat.succ_pos _)) (fun e => by have := WC.out; have := Option.some.inj e; omega))); have BB : Hid (Below wb.heap.size wb we) := (by have g9 : wd.grownBy we (some wc.heap.size) := (by rw [e9.out]; exact (wrt_cells wd wc.heap.size 0 14 _ rfl).1); exact BB.out.grown g9 BB.out.size (fun k9 hk9 => by have := WC.out; cases hk9; omega)); clear e9 r9 h9 B8 VZ B5 t2; have t3 : (0 : Nat) = 0 := rfl)
          | (have qq := t1; (with_reducible refine at_alloc ?_); refine new_lawC _ sp0.cs zero_spot ?_; intro wd X9 B9 _; have VZ : Hid (Vr wd wc.heap.size sp0.cs) := X9; have B5 : Hid (Below wc.heap.size wc wd) := B9; have VM : Hid (Vr wd wb.heap.size (rmc s (.slice (some ⟨g, 0, none⟩) n cap))) := VM.out.below B9 (range_lt VM.out.1 (Nat.succ_pos _)); have BB : Hid (Below wb.heap.size wb wd) := BB.out.trans (B9.mono BB.out.size); clear X9 B9 t1; have t2 : (0 : Nat) = 0 := rfl)
          | (have qq := t0; go_at_call 21; refine (G1.out _ BB.out).mono ?_; rintro e wc ⟨rfl, B9⟩; have VM : Hid (Vr wc wb.heap.size (rmc s (.slice (some ⟨g, 0, none⟩) n cap))) := VM.out.below B9 (range_lt VM.out.1 (Nat.succ_pos _)); have BB : Hid (Below wb.heap.size wb wc) := BB.out.trans (B9.mono BB.out.size); have WC : Hid (wb.heap.size < wc.heap.size) := range_lt VM.out.1 (Nat.succ_pos _); clear B9 t0; have t1 : (0 : Nat) = 0 := rfl))
        obtain ⟨QX, hQX⟩ : ∃ q, q = wc.heap.size := ⟨_, rfl⟩
        have VQ : Hid (Vr wf QX y.cs) := by rw [hQX]; exact VW.out
        rw [← hQX]
        clear hQX VW WC G1 P1
        have VM : Hid (Vr wf.drew wb.heap.size (rmc s (.slice (some ⟨g, 0, none⟩) n cap))) := VM.out.drewN 1
        have VQ : Hid (Vr wf.drew QX y.cs) := VQ.out.drewN 1
        have BB : Hid (Below wb.heap.size wb wf.drew) := below_dr BB.out 1
        refine wp_region_held_drew (S := fun w' => w'.rangeAt QX 0 y.cs ∧ w'.cell? ⟨wb.heap.size, 4, none⟩ = some (.slice (some ⟨g, 0, none⟩) n cap) ∧ w'.rangeAt g (k * 16 + 2) y.cs) (by kernel_rfl) ⟨VQ.out.1, VM.out.cell 4 _ rfl, RX.out _ BB.out⟩ (fun hS => ?_)
        obtain ⟨q1, hx0⟩ : ∃ x, x = wf.drew := ⟨_, rfl⟩
        rw [← hx0] at hS VM VQ BB ⊢
        clear hx0
        refine take_lawH 0 (some 52) (.bool true) rfl rfl (by kernel_rfl) (by kernel_rfl) (by kernel_rfl) (fun _ _ _ h => h) (Or.inl ⟨by rfl, fun w' hw' => by rfl⟩) hS ?_
        simp only [Act.put, List.setIfInBounds_toArray, List.set_cons_zero, List.set_cons_succ]
        refine take_lawH 1 (some 53) (.int .i64 (k : Int)) rfl rfl (by kernel_rfl) (by kernel_rfl) (by kernel_rfl) (fun _ _ _ h => h) (Or.inl ⟨by rfl, fun w' hw' => by rfl⟩) hS ?_
        simp only [Act.put, List.setIfInBounds_toArray, List.set_cons_zero, List.set_cons_succ]
        refine take_lawH 2 (some 54) (.bool true) rfl rfl (by kernel_rfl) (by kernel_rfl) (by kernel_rfl) (fun _ _ _ h => h) (Or.inl ⟨by rfl, fun w' hw' => by go_simp⟩) hS ?_
        simp only [Act.put, List.setIfInBounds_toArray, List.set_cons_zero, List.set_cons_succ]
        refine take_lawH 3 (some 55) (.bool false) rfl rfl (by kernel_rfl) (by kernel_rfl) (by kernel_rfl) (fun _ _ _ h => h) (Or.inl ⟨by rfl, fun w' hw' => by go_simp⟩) hS ?_
        simp only [Act.put, List.setIfInBounds_toArray, List.set_cons_zero, List.set_cons_succ]
        refine take_lawH 4 (some 56) (.bool false) rfl rfl (by kernel_rfl) (by kernel_rfl) (by kernel_rfl) (fun _ _ _ h => h) (Or.inl ⟨by rfl, fun w' hw' => by rfl⟩) hS ?_
        simp only [Act.put, List.setIfInBounds_toArray, List.set_cons_zero, List.set_cons_succ]
        refine take_lawH 5 (some 57) (.bool true) rfl rfl (by kernel_rfl) (by kernel_rfl) (by kernel_rfl) (fun _ _ _ h => h) (Or.inl ⟨by rfl, fun w' hw' => by rfl⟩) hS ?_
        simp only [Act.put, List.setIfInBounds_toArray, List.set_cons_zero, List.set_cons_succ]
        refine take_lawH 6 (some 58) (.bool true) rfl rfl (by kernel_rfl) (by kernel_rfl) (by kernel_rfl) (fun _ _ _ h => h) (Or.inl ⟨by rfl, fun w' hw' => by rfl⟩) hS ?_
        simp only [Act.put, List.setIfInBounds_toArray, List.set_cons_zero, List.set_cons_succ]
        refine take_lawH 7 (some 59) (.agg y.cs.toArray) rfl rfl (by kernel_rfl) (by kernel_rfl) (by kernel_rfl) (fun _ _ _ h => h) (Or.inl ⟨by rfl, fun w' hw' => by exact exec_loadN 37 (.tmp 9) rfl _ rfl _ _ (load_cells rowy_spot hw'.1)⟩) hS ?_
        simp only [Act.put, List.setIfInBounds_toArray, List.set_cons_zero, List.set_cons_succ]
        refine take_lawH 9 (some 61) (.pointer (some ⟨wb.heap.size, 4, none⟩)) rfl rfl (by kernel_rfl) (by kernel_rfl) (by kernel_rfl) (fun _ _ _ h => h) (Or.inl ⟨by rfl, fun w' hw' => by go_simp⟩) hS ?_
        simp only [Act.put, List.setIfInBounds_toArray, List.set_cons_zero, List.set_cons_succ]
        refine take_lawH 10 (some 62) (.slice (some ⟨g, 0, none⟩) n cap) rfl rfl (by kernel_rfl) (by kernel_rfl) (by kernel_rfl) (fun _ _ _ h => h) (Or.inl ⟨by rfl, fun w' hw' => by exact exec_loadN 26 (.tmp 61) rfl _ rfl _ _ (load_cl hw'.2.1)⟩) hS ?_
        simp only [Act.put, List.setIfInBounds_toArray, List.set_cons_zero, List.set_cons_succ]
        refine take_lawH 11 (some 63) (.int .i64 (k : Int)) rfl rfl (by kernel_rfl) (by kernel_rfl) (by kernel_rfl) (fun _ _ _ h => h) (Or.inl ⟨by rfl, fun w' hw' => by rfl⟩) hS ?_
        simp only [Act.put, List.setIfInBounds_toArray, List.set_cons_zero, List.set_cons_succ]
        refine take_lawH 12 (some 64) (.pointer (some ⟨g, k * 16, none⟩)) rfl rfl (by kernel_rfl) (by kernel_rfl) (by kernel_rfl) (fun _ _ _ h => h) (Or.inl ⟨by rfl, fun w' hw' => by exact exec_idxC (.tmp 62) (.tmp 63) rfl g n cap k rfl rfl KN.out _⟩) hS ?_
        simp only [Act.put, List.setIfInBounds_toArray, List.set_cons_zero, List.set_cons_succ]
        refine take_lawH 13 (some 65) (.pointer (some ⟨g, k * 16 + 2, none⟩)) rfl rfl (by kernel_rfl) (by kernel_rfl) (by kernel_rfl) (fun _ _ _ h => h) (Or.inl ⟨by rfl, fun w' hw' => by go_simp⟩) hS ?_
        simp only [Act.put, List.setIfInBounds_toArray, List.set_cons_zero, List.set_cons_succ]
        refine take_lawH 14 (some 66) (.agg y.cs.toArray) rfl rfl (by kernel_rfl) (by kernel_rfl) (by kernel_rfl) (fun _ _ _ h => h) (Or.inl ⟨by rfl, fun w' hw' => by exact exec_loadN 49 (.tmp 65) rfl _ rfl _ _ (load_cells rowy_rspot hw'.2.2)⟩) hS ?_
        simp only [Act.put, List.setIfInBounds_toArray, List.set_cons_zero, List.set_cons_succ]
        refine wpAnyH_ready (rs := [8]) (by kernel_rfl) (by simp) ?_
        refine AllReadyH.cons rfl (fun K hK => ?_) AllReadyH.nil
        refine step_callW q1 (by rfl) (some 60) rfl 18 #[.tmp 59] _ rfl (fun _ _ => rfl) #[.agg y.cs.toArray] (by simp only [List.map_toArray, List.map_cons, List.map_nil]; rfl) (fun v9 w' => v9 = .agg y.cs.toArray ∧ Below q1.heap.size q1 w') ((of_any y q1).mono fun e w' ⟨h1, h2⟩ => ⟨_, h1, rfl, h2⟩) ?_
        rintro v9 q2 ⟨rfl, B9⟩
        have VM : Hid (Vr q2 wb.heap.size (rmc s (.slice (some ⟨g, 0, none⟩) n cap))) := VM.out.below B9 (range_lt VM.out.1 (Nat.succ_pos _))
        have VQ : Hid (Vr q2 QX y.cs) := VQ.out.below B9 (range_lt VQ.out.1 (Nat.succ_pos _))
        have BB : Hid (Below wb.heap.size wb q2) := BB.out.trans (B9.mono BB.out.size)
        have hS : q2.rangeAt QX 0 y.cs ∧ q2.cell? ⟨wb.heap.size, 4, none⟩ = some (.slice (some ⟨g, 0, none⟩) n cap) ∧ q2.rangeAt g (k * 16 + 2) y.cs := ⟨VQ.out.1, VM.out.cell 4 _ rfl, RX.out _ BB.out⟩
        clear B9
        refine hK.out _ _ hS (fun _ => ?_)
        simp only [Act.put, List.setIfInBounds_toArray, List.set_cons_zero, List.set_cons_succ]
        clear hK K
        refine take_lawH 15 (some 67) (.bool false) rfl rfl (by kernel_rfl) (by kernel_rfl) (by kernel_rfl) (fun _ _ _ h => h) (Or.inl ⟨by rfl, fun w' hw' => by go_simp⟩) hS ?_
        simp only [Act.put, List.setIfInBounds_toArray, List.set_cons_zero, List.set_cons_succ]
        refine take_lawH 16 (some 68) (.bool false) rfl rfl (by kernel_rfl) (by kernel_rfl) (by kernel_rfl) (fun _ _ _ h => h) (Or.inl ⟨by rfl, fun w' hw' => by rfl⟩) hS ?_
        simp only [Act.put, List.setIfInBounds_toArray, List.set_cons_zero, List.set_cons_succ]
        refine take_lawH 17 (some 69) (.bool false) rfl rfl (by kernel_rfl) (by kernel_rfl) (by kernel_rfl) (fun _ _ _ h => h) (Or.inl ⟨by rfl, fun w' hw' => by rfl⟩) hS ?_
        simp only [Act.put, List.setIfInBounds_toArray, List.set_cons_zero, List.set_cons_succ]
        refine take_lawH 18 (some 70) (.bool false) rfl rfl (by kernel_rfl) (by kernel_rfl) (by kernel_rfl) (fun _ _ _ h => h) (Or.inl ⟨by rfl, fun w' hw' => by rfl⟩) hS ?_
        simp only [Act.put, List.setIfInBounds_toArray, List.set_cons_zero, List.set_cons_succ]
        refine take_lawH 19 (some 71) (.bool true) rfl rfl (by kernel_rfl) (by kernel_rfl) (by kernel_rfl) (fun _ _ _ h => h) (Or.inl ⟨by rfl, fun w' hw' => by rfl⟩) hS ?_
        simp only [Act.put, List.setIfInBounds_toArray, List.set_cons_zero, List.set_cons_succ]
        refine take_lawH 20 (some 72) (.bool false) rfl rfl (by kernel_rfl) (by kernel_rfl) (by kernel_rfl) (fun _ _ _ h => h) (Or.inl ⟨by rfl, fun w' hw' => by go_simp⟩) hS ?_
        simp only [Act.put, List.setIfInBounds_toArray, List.set_cons_zero, List.set_cons_succ]
        refine take_lawH 21 (some 73) (.bool false) rfl rfl (by kernel_rfl) (by kernel_rfl) (by kernel_rfl) (fun _ _ _ h => h) (Or.inl ⟨by rfl, fun w' hw' => by rfl⟩) hS ?_
        simp only [Act.put, List.setIfInBounds_toArray, List.set_cons_zero, List.set_cons_succ]
        refine take_lawH 22 (some 74) (undef) rfl rfl (by kernel_rfl) (by kernel_rfl) (by kernel_rfl) (fun _ _ _ h => h) (Or.inr ⟨by rfl, rfl⟩) hS ?_
        simp only [Act.put, List.setIfInBounds_toArray, List.set_cons_zero, List.set_cons_succ]
        refine take_lawH 23 (some 75) (undef) rfl rfl (by kernel_rfl) (by kernel_rfl) (by kernel_rfl) (fun _ _ _ h => h) (Or.inr ⟨by rfl, rfl⟩) hS ?_
        simp only [Act.put, List.setIfInBounds_toArray, List.set_cons_zero, List.set_cons_succ]
        refine take_lawH 24 (some 76) (undef) rfl rfl (by kernel_rfl) (by kernel_rfl) (by kernel_rfl) (fun _ _ _ h => h) (Or.inr ⟨by rfl, rfl⟩) hS ?_
        simp only [Act.put, List.setIfInBounds_toArray, List.set_cons_zero, List.set_cons_succ]
        refine take_lawH 25 (some 77) (.bool false) rfl rfl (by kernel_rfl) (by kernel_rfl) (by kernel_rfl) (fun _ _ _ h => h) (Or.inl ⟨by rfl, fun w' hw' => by rfl⟩) hS ?_
        simp only [Act.put, List.setIfInBounds_toArray, List.set_cons_zero, List.set_cons_succ]
        refine take_lawH 26 (some 78) (.bool false) rfl rfl (by kernel_rfl) (by kernel_rfl) (by kernel_rfl) (fun _ _ _ h => h) (Or.inl ⟨by rfl, fun w' hw' => by rfl⟩) hS ?_
        simp only [Act.put, List.setIfInBounds_toArray, List.set_cons_zero, List.set_cons_succ]
        refine wpAnyH_done (by kernel_rfl) ?_ _
        go_wp2
        go_roundw
        case rel => exact ⟨j + 1, by omega, by omega, by go_num, VM, BB⟩
        case measure => simp [intOf]; omega
    · have l1 : decide (j ≤ (z : Int)) = false := decide_eq_false hlt
      have l2 : ¬ j ≤ (z : Int) := hlt
      go_wp2
      go_ret
      exact ⟨rfl, BB.out⟩
set_option maxHeartbeats 8000000 in
theorem same_neg (w wb : World) (c : Nat) (d s : Nat → Nat) (f : Nat → Nat → Sp) (rb : Option Nat) (v : Value) (L : List Ce) (hk : Wk w wb c d s f rb v L) (ns : Int) (hn : ns < 0) : Calls Try.prog 13 #[pt c, .agg (rmc s v).toArray, .int .i64 ns] wb fun e w' => e = .returned (.bool true) ∧ Below wb.heap.size wb w' := by
  have HK : Hid (Wk w wb c d s f rb v L) := hk
  obtain ⟨z, hz⟩ : ∃ z, z = szn s ns := ⟨_, rfl⟩
  have ZZ : Hid (z = szn s ns) := hz
  have z9 : (z : Int) ≤ 40 := by
    rw [hz]
    unfold szn
    split
    · have := hk.z (ns : Int).toNat (by omega); omega
    · omega
  have z0 : (z : Int) = 0 := by rw [hz]; unfold szn; rw [if_neg (by omega)]; rfl
  have SZ : Hid (∀ W, Below wb.heap.size wb W → Calls Try.prog 23 #[pt c, .int .i64 ns] W fun e w' => e = .returned (.int .i64 (0 : Int)) ∧ Below W.heap.size W w') := fun W hW => (size_any (pt c) d s f (cnt s f) ns W (.inr ⟨c, rb, rfl, hk.m.below hW⟩)).mono fun _ _ ⟨p, q⟩ => ⟨by rw [p, ← hz, z0], by rw [q]; exact Below.refl _ _⟩
  obtain ⟨kd, hkd⟩ : ∃ kd, kd = dc1 (f (ns : Int).toNat) (szn s ns) := ⟨_, rfl⟩
  have DT : Hid (∀ W, Below wb.heap.size wb W → Calls Try.prog 25 #[pt c, .int .i64 ns] W fun e w' => e = .returned (.int .i64 (kd : Int)) ∧ Below W.heap.size W w') := fun W hW => by rw [hkd]; exact data_any c rb d s f (cnt s f) ns W (hk.m.below hW) hk.z9
  have RD : Hid (∀ W, Below wb.heap.size wb W → Calls Try.prog 32 #[.agg (rmc s v).toArray, .int .i64 ns] W fun e w' => e = .returned (.int .i64 (kd : Int)) ∧ Below W.heap.size W w') := fun W hW => by rw [hkd, ← hk.r.data ns]; exact rdata_any s v L ns W (hk.l.below hW) (by have := hk.len; omega)
  have GT : Hid (∀ W k, Below wb.heap.size wb W → Calls Try.prog 21 #[pt c, .int .i64 ns, .int .i64 k] W fun e w' => e = .returned (.tuple #[.agg (gs s f ns k).cs.toArray, .bool (lv (gs s f ns k))]) ∧ Below W.heap.size W w') := fun W k hW => get_any c rb d s f (cnt s f) ns k W (hk.m.below hW)
  have PC : Hid (∀ W k, Below wb.heap.size wb W → Calls Try.prog 33 #[.agg (rmc s v).toArray, .int .i64 ns, .int .i64 k] W fun e w' => e = .returned (.int .i64 (plc ns k L 0)) ∧ Below W.heap.size W w') := fun W k hW => rplace_any s v L ns k W (hk.l.below hW) (by have := hk.len; omega)
  have e1 : decide (ns ≥ 0) = false := decide_eq_false (by omega)
  clear hn
  clear hz hkd hk
  have t0 : (0 : Nat) = 0 := rfl
  go_enter Try.func13, Try.ntmps13
  go_wp2_with (have qq := t0; refine box_lawC _ (rmc s v) rfl ?_; intro w1 X9 B9 _; have VM : Hid (Vr w1 wb.heap.size (rmc s v)) := X9; have BB : Hid (Below wb.heap.size wb w1) := B9;  clear X9 B9 t0)
  have VM : Hid (Vr w1.drew wb.heap.size (rmc s v)) := VM.out.drewN 1
  have BB : Hid (Below wb.heap.size wb w1.drew) := below_dr BB.out 1
  refine wp_region_held_drew (S := fun w' => w'.rangeAt wb.heap.size 0 (rmc s v)) (by kernel_rfl) VM.out.1 (fun hS => ?_)
  obtain ⟨z1, hx0⟩ : ∃ x, x = w1.drew := ⟨_, rfl⟩
  rw [← hx0] at hS VM BB ⊢
  clear hx0
  refine take_lawH 0 (some 22) (pt c) rfl rfl (by kernel_rfl) (by kernel_rfl) (by kernel_rfl) (fun _ _ _ h => h) (Or.inl ⟨by rfl, fun w' hw' => by rfl⟩) hS ?_
  simp only [Act.put, List.setIfInBounds_toArray, List.set_cons_zero, List.set_cons_succ]
  refine take_lawH 1 (some 23) (.int .i64 ns) rfl rfl (by kernel_rfl) (by kernel_rfl) (by kernel_rfl) (fun _ _ _ h => h) (Or.inl ⟨by rfl, fun w' hw' => by rfl⟩) hS ?_
  simp only [Act.put, List.setIfInBounds_toArray, List.set_cons_zero, List.set_cons_succ]
  refine take_lawH 3 (some 25) (.int .i64 (0 : Int)) rfl rfl (by kernel_rfl) (by kernel_rfl) (by kernel_rfl) (fun _ _ _ h => h) (Or.inl ⟨by rfl, fun w' hw' => by rfl⟩) hS ?_
  simp only [Act.put, List.setIfInBounds_toArray, List.set_cons_zero, List.set_cons_succ]
  refine wpAnyH_ready (rs := [2]) (by kernel_rfl) (by simp) ?_
  refine AllReadyH.cons rfl (fun K hK => ?_) AllReadyH.nil
  refine step_callW z1 (by rfl) (some 24) rfl 23 #[.tmp 22, .tmp 23] _ rfl (fun _ _ => rfl) #[pt c, .int .i64 ns] (by simp only [List.map_toArray, List.map_cons, List.map_nil]; rfl) (fun v9 w' => v9 = .int .i64 (0 : Int) ∧ Below z1.heap.size z1 w') ((SZ.out z1 BB.out).mono fun e w' ⟨h1, h2⟩ => ⟨_, h1, rfl, h2⟩) ?_
  rintro v9 z2 ⟨rfl, B9⟩
  have VM : Hid (Vr z2 wb.heap.size (rmc s v)) := VM.out.below B9 (range_lt VM.out.1 (Nat.succ_pos _))
  have BB : Hid (Below wb.heap.size wb z2) := BB.out.trans (B9.mono BB.out.size)
  have hS : z2.rangeAt wb.heap.size 0 (rmc s v) := VM.out.1
  clear B9
  refine hK.out _ _ hS (fun _ => ?_)
  simp only [Act.put, List.setIfInBounds_toArray, List.set_cons_zero, List.set_cons_succ]
  clear hK K
  refine take_lawH 4 (some 26) (.bool false) rfl rfl (by kernel_rfl) (by kernel_rfl) (by kernel_rfl) (fun _ _ _ h => h) (Or.inl ⟨by rfl, fun w' hw' => by go_simp⟩) hS ?_
  simp only [Act.put, List.setIfInBounds_toArray, List.set_cons_zero, List.set_cons_succ]
  refine take_lawH 5 (some 27) (.bool false) rfl rfl (by kernel_rfl) (by kernel_rfl) (by kernel_rfl) (fun _ _ _ h => h) (Or.inl ⟨by rfl, fun w' hw' => by rfl⟩) hS ?_
  simp only [Act.put, List.setIfInBounds_toArray, List.set_cons_zero, List.set_cons_succ]
  refine take_lawH 6 (some 28) (pt c) rfl rfl (by kernel_rfl) (by kernel_rfl) (by kernel_rfl) (fun _ _ _ h => h) (Or.inl ⟨by rfl, fun w' hw' => by rfl⟩) hS ?_
  simp only [Act.put, List.setIfInBounds_toArray, List.set_cons_zero, List.set_cons_succ]
  refine take_lawH 7 (some 29) (.int .i64 ns) rfl rfl (by kernel_rfl) (by kernel_rfl) (by kernel_rfl) (fun _ _ _ h => h) (Or.inl ⟨by rfl, fun w' hw' => by rfl⟩) hS ?_
  simp only [Act.put, List.setIfInBounds_toArray, List.set_cons_zero, List.set_cons_succ]
  refine take_lawH 9 (some 31) (.agg (rmc s v).toArray) rfl rfl (by kernel_rfl) (by kernel_rfl) (by kernel_rfl) (fun _ _ _ h => h) (Or.inl ⟨by rfl, fun w' hw' => by exact exec_loadN 28 (.tmp 4) rfl _ rfl _ _ (load_cells rowy_rmap hw')⟩) hS ?_
  simp only [Act.put, List.setIfInBounds_toArray, List.set_cons_zero, List.set_cons_succ]
  refine take_lawH 10 (some 32) (.int .i64 ns) rfl rfl (by kernel_rfl) (by kernel_rfl) (by kernel_rfl) (fun _ _ _ h => h) (Or.inl ⟨by rfl, fun w' hw' => by rfl⟩) hS ?_
  simp only [Act.put, List.setIfInBounds_toArray, List.set_cons_zero, List.set_cons_succ]
  refine wpAnyH_ready (rs := [8]) (by kernel_rfl) (by simp) ?_
  refine AllReadyH.cons rfl (fun K hK => ?_) AllReadyH.nil
  refine step_callW z2 (by rfl) (some 30) rfl 25 #[.tmp 28, .tmp 29] _ rfl (fun _ _ => rfl) #[pt c, .int .i64 ns] (by simp only [List.map_toArray, List.map_cons, List.map_nil]; rfl) (fun v9 w' => v9 = .int .i64 (kd : Int) ∧ Below z2.heap.size z2 w') ((DT.out z2 BB.out).mono fun e w' ⟨h1, h2⟩ => ⟨_, h1, rfl, h2⟩) ?_
  rintro v9 z3 ⟨rfl, B9⟩
  have VM : Hid (Vr z3 wb.heap.size (rmc s v)) := VM.out.below B9 (range_lt VM.out.1 (Nat.succ_pos _))
  have BB : Hid (Below wb.heap.size wb z3) := BB.out.trans (B9.mono BB.out.size)
  have hS : z3.rangeAt wb.heap.size 0 (rmc s v) := VM.out.1
  clear B9
  refine hK.out _ _ hS (fun _ => ?_)
  simp only [Act.put, List.setIfInBounds_toArray, List.set_cons_zero, List.set_cons_succ]
  clear hK K
  refine wpAnyH_ready (rs := [11]) (by kernel_rfl) (by simp) ?_
  refine AllReadyH.cons rfl (fun K hK => ?_) AllReadyH.nil
  refine step_callW z3 (by rfl) (some 33) rfl 32 #[.tmp 31, .tmp 32] _ rfl (fun _ _ => rfl) #[.agg (rmc s v).toArray, .int .i64 ns] (by simp only [List.map_toArray, List.map_cons, List.map_nil]; rfl) (fun v9 w' => v9 = .int .i64 (kd : Int) ∧ Below z3.heap.size z3 w') ((RD.out z3 BB.out).mono fun e w' ⟨h1, h2⟩ => ⟨_, h1, rfl, h2⟩) ?_
  rintro v9 z4 ⟨rfl, B9⟩
  have VM : Hid (Vr z4 wb.heap.size (rmc s v)) := VM.out.below B9 (range_lt VM.out.1 (Nat.succ_pos _))
  have BB : Hid (Below wb.heap.size wb z4) := BB.out.trans (B9.mono BB.out.size)
  have hS : z4.rangeAt wb.heap.size 0 (rmc s v) := VM.out.1
  clear B9
  refine hK.out _ _ hS (fun _ => ?_)
  simp only [Act.put, List.setIfInBounds_toArray, List.set_cons_zero, List.set_cons_succ]
  clear hK K
  refine take_lawH 12 (some 34) (.bool false) rfl rfl (by kernel_rfl) (by kernel_rfl) (by kernel_rfl) (fun _ _ _ h => h) (Or.inl ⟨by rfl, fun w' hw' => by go_simp⟩) hS ?_
  simp only [Act.put, List.setIfInBounds_toArray, List.set_cons_zero, List.set_cons_succ]
  refine take_lawH 13 (some 35) (.bool false) rfl rfl (by kernel_rfl) (by kernel_rfl) (by kernel_rfl) (fun _ _ _ h => h) (Or.inl ⟨by rfl, fun w' hw' => by rfl⟩) hS ?_
  simp only [Act.put, List.setIfInBounds_toArray, List.set_cons_zero, List.set_cons_succ]
  refine wpAnyH_done (by kernel_rfl) ?_ _
  clear SZ DT RD
  go_wp2
  go_loopw [8] (fun iv wq => ∃ j : Int, -1 ≤ j ∧ j ≤ (0 : Int) + 1 ∧ iv = .int .i64 j ∧ Hid (Vr wq wb.heap.size (rmc s v)) ∧ Hid (Below wb.heap.size wb wq)) (fun iv _ => ((0 : Int) + 1 - intOf iv).toNat)
  case atStart => exact ⟨-1, by omega, by omega, rfl, VM, BB⟩
  case round =>
    clear VM BB
    obtain ⟨j, hj1, hj2, rfl, VM, BB⟩ := hrel
    have jw : IntKind.i64.wrap (j + 1) = j + 1 := by rw [IntKind.wrap_i64]; omega
    by_cases hlt : j ≤ (0 : Int)
    · have l1 : decide (j ≤ (0 : Int)) = true := decide_eq_true hlt
      rcases HK.out.r.cell ns j with ⟨q1, q2, q3⟩ | ⟨k, c9, q1, q2, q3, q4⟩
      · have G1 : Hid (∀ W, Below wb.heap.size wb W → Calls Try.prog 21 #[pt c, .int .i64 ns, .int .i64 j] W fun e w' => e = .returned (.tuple #[.agg sp0.cs.toArray, .bool false]) ∧ Below W.heap.size W w') := fun W hW => by have g9 := GT.out W j hW; rw [q1, q2] at g9; exact g9
        have P1 : Hid (∀ W, Below wb.heap.size wb W → Calls Try.prog 33 #[.agg (rmc s v).toArray, .int .i64 ns, .int .i64 j] W fun e w' => e = .returned (.int .i64 (plc ns j L 0)) ∧ Below W.heap.size W w') := fun W hW => PC.out W j hW
        generalize plc ns j L 0 = pz at P1 q3
        have p1 : decide (pz ≥ 0) = false := decide_eq_false (by omega)
        have p2 : ¬ pz ≥ 0 := by omega
        have eq9 : ∀ W : World, (Op.equalIn 10000 37 (.agg sp0.cs.toArray) (.agg sp0.cs.toArray)).run Try.prog W = .ok true W := fun W => eql_spot sp0 W
        have gd9 : Try.prog.eqGuardType Try.prog.depth 37 = false := by kernel_rfl
        clear q1 q2 q3 GT PC
        have t0 : (0 : Nat) = 0 := rfl
        go_upto_region 11 with (first
          | (have qq := t4; go_at_call 33; refine (P1.out _ BB.out).mono ?_; rintro e wf ⟨rfl, B9⟩; have VW : Hid (Vr wf wc.heap.size sp0.cs) := VW.out.below B9 (range_lt VW.out.1 (Nat.succ_pos _)); have VM : Hid (Vr wf wb.heap.size (rmc s v)) := VM.out.below B9 (range_lt VM.out.1 (Nat.succ_pos _)); have BB : Hid (Below wb.heap.size wb wf) := BB.out.trans (B9.mono BB.out.size); clear B9 t4)
          | (have qq := t3; refine load_law _ (by rfl) 28 (.tmp 4) rfl wb.heap.size 0 (rmc s v) rfl rowy_rmap VM.out.1 ?_; clear t3; have t4 : (0 : Nat) = 0 := rfl)
          | (have qq := t2; (with_reducible refine at_store ?_); refine store_lawC _ sp0.cs wc.heap.size 0 rfl rfl VZ.out.2 size_spot (sp0).one ?_; intro we e9 r9 h9 B8; have VW : Hid (Vr we wc.heap.size sp0.cs) := ⟨r9, h9⟩; have LW : Hid (wc.heap.size < wd.heap.size) := range_lt VZ.out.1 (Nat.succ_pos _); have VM : Hid (Vr we wb.heap.size (rmc s v)) := (by have g9 : wd.grownBy we (some wc.heap.size) := (by rw [e9.out]; exact (wrt_cells wd wc.heap.size 0 14 _ rfl).1); exact VM.out.heap (g9.block _ (range_lt VM.out.1 (Nat.succ_pos _)) (fun e => by have := WC.out; have := Option.some.inj e; omega))); have BB : Hid (Below wb.heap.size wb we) := (by have g9 : wd.grownBy we (some wc.heap.size) := (by rw [e9.out]; exact (wrt_cells wd wc.heap.size 0 14 _ rfl).1); exact BB.out.grown g9 BB.out.size (fun k9 hk9 => by have := WC.out; cases hk9; omega)); clear e9 r9 h9 B8 VZ B5 t2; have t3 : (0 : Nat) = 0 := rfl)
          | (have qq := t1; (with_reducible refine at_alloc ?_); refine new_lawC _ sp0.cs zero_spot ?_; intro wd X9 B9 _; have VZ : Hid (Vr wd wc.heap.size sp0.cs) := X9; have B5 : Hid (Below wc.heap.size wc wd) := B9; have VM : Hid (Vr wd wb.heap.size (rmc s v)) := VM.out.below B9 (range_lt VM.out.1 (Nat.succ_pos _)); have BB : Hid (Below wb.heap.size wb wd) := BB.out.trans (B9.mono BB.out.size); clear X9 B9 t1; have t2 : (0 : Nat) = 0 := rfl)
          | (have qq := t0; go_at_call 21; refine (G1.out _ BB.out).mono ?_; rintro e wc ⟨rfl, B9⟩; have VM : Hid (Vr wc wb.heap.size (rmc s v)) := VM.out.below B9 (range_lt VM.out.1 (Nat.succ_pos _)); have BB : Hid (Below wb.heap.size wb wc) := BB.out.trans (B9.mono BB.out.size); have WC : Hid (wb.heap.size < wc.heap.size) := range_lt VM.out.1 (Nat.succ_pos _); clear B9 t0; have t1 : (0 : Nat) = 0 := rfl))
        obtain ⟨QX, hQX⟩ : ∃ q, q = wc.heap.size := ⟨_, rfl⟩
        have VQ : Hid (Vr wf QX sp0.cs) := by rw [hQX]; exact VW.out
        rw [← hQX]
        clear hQX VW WC G1 P1
        have VM : Hid (Vr wf.drew wb.heap.size (rmc s v)) := VM.out.drewN 1
        have VQ : Hid (Vr wf.drew QX sp0.cs) := VQ.out.drewN 1
        have BB : Hid (Below wb.heap.size wb wf.drew) := below_dr BB.out 1
        refine wp_region_held_drew (S := fun w' => w'.rangeAt QX 0 sp0.cs) (by kernel_rfl) VQ.out.1 (fun hS => ?_)
        obtain ⟨q1, hx0⟩ : ∃ x, x = wf.drew := ⟨_, rfl⟩
        rw [← hx0] at hS VM VQ BB ⊢
        clear hx0
        refine take_lawH 0 (some 52) (.bool false) rfl rfl (by kernel_rfl) (by kernel_rfl) (by kernel_rfl) (fun _ _ _ h => h) (Or.inl ⟨by rfl, fun w' hw' => by rfl⟩) hS ?_
        simp only [Act.put, List.setIfInBounds_toArray, List.set_cons_zero, List.set_cons_succ]
        refine take_lawH 1 (some 53) (.int .i64 pz) rfl rfl (by kernel_rfl) (by kernel_rfl) (by kernel_rfl) (fun _ _ _ h => h) (Or.inl ⟨by rfl, fun w' hw' => by rfl⟩) hS ?_
        simp only [Act.put, List.setIfInBounds_toArray, List.set_cons_zero, List.set_cons_succ]
        refine take_lawH 2 (some 54) (.bool false) rfl rfl (by kernel_rfl) (by kernel_rfl) (by kernel_rfl) (fun _ _ _ h => h) (Or.inl ⟨by rfl, fun w' hw' => by go_simp⟩) hS ?_
        simp only [Act.put, List.setIfInBounds_toArray, List.set_cons_zero, List.set_cons_succ]
        refine take_lawH 3 (some 55) (.bool false) rfl rfl (by kernel_rfl) (by kernel_rfl) (by kernel_rfl) (fun _ _ _ h => h) (Or.inl ⟨by rfl, fun w' hw' => by go_simp⟩) hS ?_
        simp only [Act.put, List.setIfInBounds_toArray, List.set_cons_zero, List.set_cons_succ]
        refine take_lawH 4 (some 56) (.bool false) rfl rfl (by kernel_rfl) (by kernel_rfl) (by kernel_rfl) (fun _ _ _ h => h) (Or.inl ⟨by rfl, fun w' hw' => by rfl⟩) hS ?_
        simp only [Act.put, List.setIfInBounds_toArray, List.set_cons_zero, List.set_cons_succ]
        refine take_lawH 5 (some 57) (.bool false) rfl rfl (by kernel_rfl) (by kernel_rfl) (by kernel_rfl) (fun _ _ _ h => h) (Or.inl ⟨by rfl, fun w' hw' => by rfl⟩) hS ?_
        simp only [Act.put, List.setIfInBounds_toArray, List.set_cons_zero, List.set_cons_succ]
        refine take_lawH 6 (some 58) (.bool false) rfl rfl (by kernel_rfl) (by kernel_rfl) (by kernel_rfl) (fun _ _ _ h => h) (Or.inl ⟨by rfl, fun w' hw' => by rfl⟩) hS ?_
        simp only [Act.put, List.setIfInBounds_toArray, List.set_cons_zero, List.set_cons_succ]
        refine take_lawH 7 (some 59) (undef) rfl rfl (by kernel_rfl) (by kernel_rfl) (by kernel_rfl) (fun _ _ _ h => h) (Or.inr ⟨by rfl, rfl⟩) hS ?_
        simp only [Act.put, List.setIfInBounds_toArray, List.set_cons_zero, List.set_cons_succ]
        refine take_lawH 8 (some 60) (undef) rfl rfl (by kernel_rfl) (by kernel_rfl) (by kernel_rfl) (fun _ _ _ h => h) (Or.inr ⟨by rfl, rfl⟩) hS ?_
        simp only [Act.put, List.setIfInBounds_toArray, List.set_cons_zero, List.set_cons_succ]
        refine take_lawH 9 (some 61) (undef) rfl rfl (by kernel_rfl) (by kernel_rfl) (by kernel_rfl) (fun _ _ _ h => h) (Or.inr ⟨by rfl, rfl⟩) hS ?_
        simp only [Act.put, List.setIfInBounds_toArray, List.set_cons_zero, List.set_cons_succ]
        refine take_lawH 10 (some 62) (undef) rfl rfl (by kernel_rfl) (by kernel_rfl) (by kernel_rfl) (fun _ _ _ h => h) (Or.inr ⟨by rfl, rfl⟩) hS ?_
        simp only [Act.put, List.setIfInBounds_toArray, List.set_cons_zero, List.set_cons_succ]
        refine take_lawH 11 (some 63) (undef) rfl rfl (by kernel_rfl) (by kernel_rfl) (by kernel_rfl) (fun _ _ _ h => h) (Or.inr ⟨by rfl, rfl⟩) hS ?_
        simp only [Act.put, List.setIfInBounds_toArray, List.set_cons_zero, List.set_cons_succ]
        refine take_lawH 12 (some 64) (undef) rfl rfl (by kernel_rfl) (by kernel_rfl) (by kernel_rfl) (fun _ _ _ h => h) (Or.inr ⟨by rfl, rfl⟩) hS ?_
        simp only [Act.put, List.setIfInBounds_toArray, List.set_cons_zero, List.set_cons_succ]
        refine take_lawH 13 (some 65) (undef) rfl rfl (by kernel_rfl) (by kernel_rfl) (by kernel_rfl) (fun _ _ _ h => h) (Or.inr ⟨by rfl, rfl⟩) hS ?_
        simp only [Act.put, List.setIfInBounds_toArray, List.set_cons_zero, List.set_cons_succ]
        refine take_lawH 14 (some 66) (undef) rfl rfl (by kernel_rfl) (by kernel_rfl) (by kernel_rfl) (fun _ _ _ h => h) (Or.inr ⟨by rfl, rfl⟩) hS ?_
        simp only [Act.put, List.setIfInBounds_toArray, List.set_cons_zero, List.set_cons_succ]
        refine take_lawH 15 (some 67) (undef) rfl rfl (by kernel_rfl) (by kernel_rfl) (by kernel_rfl) (fun _ _ _ h => h) (Or.inr ⟨by rfl, rfl⟩) hS ?_
        simp only [Act.put, List.setIfInBounds_toArray, List.set_cons_zero, List.set_cons_succ]
        refine take_lawH 16 (some 68) (.bool false) rfl rfl (by kernel_rfl) (by kernel_rfl) (by kernel_rfl) (fun _ _ _ h => h) (Or.inl ⟨by rfl, fun w' hw' => by rfl⟩) hS ?_
        simp only [Act.put, List.setIfInBounds_toArray, List.set_cons_zero, List.set_cons_succ]
        refine take_lawH 17 (some 69) (.bool false) rfl rfl (by kernel_rfl) (by kernel_rfl) (by kernel_rfl) (fun _ _ _ h => h) (Or.inl ⟨by rfl, fun w' hw' => by rfl⟩) hS ?_
        simp only [Act.put, List.setIfInBounds_toArray, List.set_cons_zero, List.set_cons_succ]
        refine take_lawH 18 (some 70) (.bool false) rfl rfl (by kernel_rfl) (by kernel_rfl) (by kernel_rfl) (fun _ _ _ h => h) (Or.inl ⟨by rfl, fun w' hw' => by rfl⟩) hS ?_
        simp only [Act.put, List.setIfInBounds_toArray, List.set_cons_zero, List.set_cons_succ]
        refine take_lawH 19 (some 71) (.bool false) rfl rfl (by kernel_rfl) (by kernel_rfl) (by kernel_rfl) (fun _ _ _ h => h) (Or.inl ⟨by rfl, fun w' hw' => by rfl⟩) hS ?_
        simp only [Act.put, List.setIfInBounds_toArray, List.set_cons_zero, List.set_cons_succ]
        refine take_lawH 20 (some 72) (.bool true) rfl rfl (by kernel_rfl) (by kernel_rfl) (by kernel_rfl) (fun _ _ _ h => h) (Or.inl ⟨by rfl, fun w' hw' => by go_simp⟩) hS ?_
        simp only [Act.put, List.setIfInBounds_toArray, List.set_cons_zero, List.set_cons_succ]
        refine take_lawH 21 (some 73) (.bool true) rfl rfl (by kernel_rfl) (by kernel_rfl) (by kernel_rfl) (fun _ _ _ h => h) (Or.inl ⟨by rfl, fun w' hw' => by rfl⟩) hS ?_
        simp only [Act.put, List.setIfInBounds_toArray, List.set_cons_zero, List.set_cons_succ]
        refine take_lawH 22 (some 74) (.agg sp0.cs.toArray) rfl rfl (by kernel_rfl) (by kernel_rfl) (by kernel_rfl) (fun _ _ _ h => h) (Or.inl ⟨by rfl, fun w' hw' => by exact exec_loadN 37 (.tmp 9) rfl _ rfl _ _ (load_cells rowy_spot hw')⟩) hS ?_
        simp only [Act.put, List.setIfInBounds_toArray, List.set_cons_zero, List.set_cons_succ]
        refine take_lawH 23 (some 75) (.agg sp0.cs.toArray) rfl rfl (by kernel_rfl) (by kernel_rfl) (by kernel_rfl) (fun _ _ _ h => h) (Or.inl ⟨by rfl, fun w' hw' => by exact exec_bsp rfl _⟩) hS ?_
        simp only [Act.put, List.setIfInBounds_toArray, List.set_cons_zero, List.set_cons_succ]
        refine take_lawH 24 (some 76) (.bool false) rfl rfl (by kernel_rfl) (by kernel_rfl) (by kernel_rfl) (fun _ _ _ h => h) (Or.inl ⟨by rfl, fun w' hw' => by go_simp⟩) hS ?_
        simp only [Act.put, List.setIfInBounds_toArray, List.set_cons_zero, List.set_cons_succ]
        refine take_lawH 25 (some 77) (.bool false) rfl rfl (by kernel_rfl) (by kernel_rfl) (by kernel_rfl) (fun _ _ _ h => h) (Or.inl ⟨by rfl, fun w' hw' => by rfl⟩) hS ?_
        simp only [Act.put, List.setIfInBounds_toArray, List.set_cons_zero, List.set_cons_succ]
        refine take_lawH 26 (some 78) (.bool false) rfl rfl (by kernel_rfl) (by kernel_rfl) (by kernel_rfl) (fun _ _ _ h => h) (Or.inl ⟨by rfl, fun w' hw' => by rfl⟩) hS ?_
        simp only [Act.put, List.setIfInBounds_toArray, List.set_cons_zero, List.set_cons_succ]
        refine wpAnyH_done (by kernel_rfl) ?_ _
        go_wp2
        go_roundw
        case rel => exact ⟨j + 1, by omega, by omega, by go_num, VM, BB⟩
        case measure => simp [intOf]; omega
      · obtain ⟨ao, cap, hv, hg⟩ := HK.out.l
        obtain ⟨g, rfl, hr⟩ := hg (Nat.lt_of_le_of_lt (Nat.zero_le _) (List.getElem?_eq_some_iff.1 q2).1)
        obtain ⟨n, hn⟩ : ∃ n, n = L.length := ⟨_, rfl⟩
        rw [← hn] at hv
        subst hv
        have KN : Hid (k < n) := by have := (List.getElem?_eq_some_iff.1 q2).1; show _ < _; omega
        have k0 : (0 : Int) ≤ (k : Int) := by omega
        obtain ⟨y, hy⟩ : ∃ y, y = gs s f ns j := ⟨_, rfl⟩
        have RX : Hid (∀ W, Below wb.heap.size wb W → W.rangeAt g (k * 16 + 2) y.cs) := fun W hW => by have r9 := spot_in ((hr.below hW) k c9 q2).1; rw [q3, ← hy] at r9; exact r9
        have G1 : Hid (∀ W, Below wb.heap.size wb W → Calls Try.prog 21 #[pt c, .int .i64 ns, .int .i64 j] W fun e w' => e = .returned (.tuple #[.agg y.cs.toArray, .bool true]) ∧ Below W.heap.size W w') := fun W hW => by have g9 := GT.out W j hW; rw [q1, ← hy] at g9; exact g9
        have P1 : Hid (∀ W, Below wb.heap.size wb W → Calls Try.prog 33 #[.agg (rmc s (.slice (some ⟨g, 0, none⟩) n cap)).toArray, .int .i64 ns, .int .i64 j] W fun e w' => e = .returned (.int .i64 (k : Int)) ∧ Below W.heap.size W w') := fun W hW => by have g9 := PC.out W j hW; rw [q4] at g9; exact g9
        have eq9 : ∀ W : World, (Op.equalIn 10000 49 (.agg y.cs.toArray) (.agg y.cs.toArray)).run Try.prog W = .ok true W := fun W => eql_rspot y W
        have gd9 : Try.prog.eqGuardType Try.prog.depth 49 = false := by kernel_rfl
        clear q1 q2 q3 q4 hr hg hn hy GT PC
        have t0 : (0 : Nat) = 0 := rfl
        go_upto_region 11 with (first
          | (have qq := t4; go_at_call 33; refine (P1.out _ BB.out).mono ?_; rintro e wf ⟨rfl, B9⟩; have VW : Hid (Vr wf wc.heap.size y.cs) := VW.out.below B9 (range_lt VW.out.1 (Nat.succ_pos _)); have VM : Hid (Vr wf wb.heap.size (rmc s (.slice (some ⟨g, 0, none⟩) n cap))) := VM.out.below B9 (range_lt VM.out.1 (Nat.succ_pos _)); have BB : Hid (Below wb.heap.size wb wf) := BB.out.trans (B9.mono BB.out.size); clear B9 t4)
          | (have qq := t3; refine load_law _ (by rfl) 28 (.tmp 4) rfl wb.heap.size 0 (rmc s (.slice (some ⟨g, 0, none⟩) n cap)) rfl rowy_rmap VM.out.1 ?_; clear t3; have t4 : (0 : Nat) = 0 := rfl)
          | (have qq := t2; (with_reducible refine at_store ?_); refine store_lawC _ y.cs wc.heap.size 0 rfl rfl VZ.out.2 size_spot (y).one ?_; intro we e9 r9 h9 B8; have VW : Hid (Vr we wc.heap.size y.cs) := ⟨r9, h9⟩; have LW : Hid (wc.heap.size < wd.heap.size) := range_lt VZ.out.1 (Nat.succ_pos _); have VM : Hid (Vr we wb.heap.size (rmc s (.slice (some ⟨g, 0, none⟩) n cap))) := (by have g9 : wd.grownBy we (some wc.heap.size) := (by rw [e9.out]; exact (wrt_cells wd wc.heap.size 0 14 _ rfl).1); exact VM.out.heap (g9.block _ (range_lt VM.out.1 (Nat.succ_pos _)) (fun e => by have := WC.out; have := Option.some.inj e; omega))); have BB : Hid (Below wb.heap.size wb we) := (by have g9 : wd.grownBy we (some wc.heap.size) := (by rw [e9.out]; exact (wrt_cells wd wc.heap.size 0 14 _ rfl).1); exact BB.out.grown g9 BB.out.size (fun k9 hk9 => by have := WC.out; cases hk9; omega)); clear e9 r9 h9 B8 VZ B5 t2; have t3 : (0 : Nat) = 0 := rfl)
          | (have qq := t1; (with_reducible refine at_alloc ?_); refine new_lawC _ sp0.cs zero_spot ?_; intro wd X9 B9 _; have VZ : Hid (Vr wd wc.heap.size sp0.cs) := X9; have B5 : Hid (Below wc.heap.size wc wd) := B9; have VM : Hid (Vr wd wb.heap.size (rmc s (.slice (some ⟨g, 0, none⟩) n cap))) := VM.out.below B9 (range_lt VM.out.1 (Nat.succ_pos _)); have BB : Hid (Below wb.heap.size wb wd) := BB.out.trans (B9.mono BB.out.size); clear X9 B9 t1; have t2 : (0 : Nat) = 0 := rfl)
          | (have qq := t0; go_at_call 21; refine (G1.out _ BB.out).mono ?_; rintro e wc ⟨rfl, B9⟩; have VM : Hid (Vr wc wb.heap.size (rmc s (.slice (some ⟨g, 0, none⟩) n cap))) := VM.out.below B9 (range_lt VM.out.1 (Nat.succ_pos _)); have BB : Hid (Below wb.heap.size wb wc) := BB.out.trans (B9.mono BB.out.size); have WC : Hid (wb.heap.size < wc.heap.size) := range_lt VM.out.1 (Nat.succ_pos _); clear B9 t0; have t1 : (0 : Nat) = 0 := rfl))
        obtain ⟨QX, hQX⟩ : ∃ q, q = wc.heap.size := ⟨_, rfl⟩
        have VQ : Hid (Vr wf QX y.cs) := by rw [hQX]; exact VW.out
        rw [← hQX]
        clear hQX VW WC G1 P1
        have VM : Hid (Vr wf.drew wb.heap.size (rmc s (.slice (some ⟨g, 0, none⟩) n cap))) := VM.out.drewN 1
        have VQ : Hid (Vr wf.drew QX y.cs) := VQ.out.drewN 1
        have BB : Hid (Below wb.heap.size wb wf.drew) := below_dr BB.out 1
        refine wp_region_held_drew (S := fun w' => w'.rangeAt QX 0 y.cs ∧ w'.cell? ⟨wb.heap.size, 4, none⟩ = some (.slice (some ⟨g, 0, none⟩) n cap) ∧ w'.rangeAt g (k * 16 + 2) y.cs) (by kernel_rfl) ⟨VQ.out.1, VM.out.cell 4 _ rfl, RX.out _ BB.out⟩ (fun hS => ?_)
        obtain ⟨q1, hx0⟩ : ∃ x, x = wf.drew := ⟨_, rfl⟩
        rw [← hx0] at hS VM VQ BB ⊢
        clear hx0
        refine take_lawH 0 (some 52) (.bool true) rfl rfl (by kernel_rfl) (by kernel_rfl) (by kernel_rfl) (fun _ _ _ h => h) (Or.inl ⟨by rfl, fun w' hw' => by rfl⟩) hS ?_
        simp only [Act.put, List.setIfInBounds_toArray, List.set_cons_zero, List.set_cons_succ]
        refine take_lawH 1 (some 53) (.int .i64 (k : Int)) rfl rfl (by kernel_rfl) (by kernel_rfl) (by kernel_rfl) (fun _ _ _ h => h) (Or.inl ⟨by rfl, fun w' hw' => by rfl⟩) hS ?_
        simp only [Act.put, List.setIfInBounds_toArray, List.set_cons_zero, List.set_cons_succ]
        refine take_lawH 2 (some 54) (.bool true) rfl rfl (by kernel_rfl) (by kernel_rfl) (by kernel_rfl) (fun _ _ _ h => h) (Or.inl ⟨by rfl, fun w' hw' => by go_simp⟩) hS ?_
        simp only [Act.put, List.setIfInBounds_toArray, List.set_cons_zero, List.set_cons_succ]
        refine take_lawH 3 (some 55) (.bool false) rfl rfl (by kernel_rfl) (by kernel_rfl) (by kernel_rfl) (fun _ _ _ h => h) (Or.inl ⟨by rfl, fun w' hw' => by go_simp⟩) hS ?_
        simp only [Act.put, List.setIfInBounds_toArray, List.set_cons_zero, List.set_cons_succ]
        refine take_lawH 4 (some 56) (.bool false) rfl rfl (by kernel_rfl) (by kernel_rfl) (by kernel_rfl) (fun _ _ _ h => h) (Or.inl ⟨by rfl, fun w' hw' => by rfl⟩) hS ?_
        simp only [Act.put, List.setIfInBounds_toArray, List.set_cons_zero, List.set_cons_succ]
        refine take_lawH 5 (some 57) (.bool true) rfl rfl (by kernel_rfl) (by kernel_rfl) (by kernel_rfl) (fun _ _ _ h => h) (Or.inl ⟨by rfl, fun w' hw' => by rfl⟩) hS ?_
        simp only [Act.put, List.setIfInBounds_toArray, List.set_cons_zero, List.set_cons_succ]
        refine take_lawH 6 (some 58) (.bool true) rfl rfl (by kernel_rfl) (by kernel_rfl) (by kernel_rfl) (fun _ _ _ h => h) (Or.inl ⟨by rfl, fun w' hw' => by rfl⟩) hS ?_
        simp only [Act.put, List.setIfInBounds_toArray, List.set_cons_zero, List.set_cons_succ]
        refine take_lawH 7 (some 59) (.agg y.cs.toArray) rfl rfl (by kernel_rfl) (by kernel_rfl) (by kernel_rfl) (fun _ _ _ h => h) (Or.inl ⟨by rfl, fun w' hw' => by exact exec_loadN 37 (.tmp 9) rfl _ rfl _ _ (load_cells rowy_spot hw'.1)⟩) hS ?_
        simp only [Act.put, List.setIfInBounds_toArray, List.set_cons_zero, List.set_cons_succ]
        refine take_lawH 9 (some 61) (.pointer (some ⟨wb.heap.size, 4, none⟩)) rfl rfl (by kernel_rfl) (by kernel_rfl) (by kernel_rfl) (fun _ _ _ h => h) (Or.inl ⟨by rfl, fun w' hw' => by go_simp⟩) hS ?_
        simp only [Act.put, List.setIfInBounds_toArray, List.set_cons_zero, List.set_cons_succ]
        refine take_lawH 10 (some 62) (.slice (some ⟨g, 0, none⟩) n cap) rfl rfl (by kernel_rfl) (by kernel_rfl) (by kernel_rfl) (fun _ _ _ h => h) (Or.inl ⟨by rfl, fun w' hw' => by exact exec_loadN 26 (.tmp 61) rfl _ rfl _ _ (load_cl hw'.2.1)⟩) hS ?_
        simp only [Act.put, List.setIfInBounds_toArray, List.set_cons_zero, List.set_cons_succ]
        refine take_lawH 11 (some 63) (.int .i64 (k : Int)) rfl rfl (by kernel_rfl) (by kernel_rfl) (by kernel_rfl) (fun _ _ _ h => h) (Or.inl ⟨by rfl, fun w' hw' => by rfl⟩) hS ?_
        simp only [Act.put, List.setIfInBounds_toArray, List.set_cons_zero, List.set_cons_succ]
        refine take_lawH 12 (some 64) (.pointer (some ⟨g, k * 16, none⟩)) rfl rfl (by kernel_rfl) (by kernel_rfl) (by kernel_rfl) (fun _ _ _ h => h) (Or.inl ⟨by rfl, fun w' hw' => by exact exec_idxC (.tmp 62) (.tmp 63) rfl g n cap k rfl rfl KN.out _⟩) hS ?_
        simp only [Act.put, List.setIfInBounds_toArray, List.set_cons_zero, List.set_cons_succ]
        refine take_lawH 13 (some 65) (.pointer (some ⟨g, k * 16 + 2, none⟩)) rfl rfl (by kernel_rfl) (by kernel_rfl) (by kernel_rfl) (fun _ _ _ h => h) (Or.inl ⟨by rfl, fun w' hw' => by go_simp⟩) hS ?_
        simp only [Act.put, List.setIfInBounds_toArray, List.set_cons_zero, List.set_cons_succ]
        refine take_lawH 14 (some 66) (.agg y.cs.toArray) rfl rfl (by kernel_rfl) (by kernel_rfl) (by kernel_rfl) (fun _ _ _ h => h) (Or.inl ⟨by rfl, fun w' hw' => by exact exec_loadN 49 (.tmp 65) rfl _ rfl _ _ (load_cells rowy_rspot hw'.2.2)⟩) hS ?_
        simp only [Act.put, List.setIfInBounds_toArray, List.set_cons_zero, List.set_cons_succ]
        refine wpAnyH_ready (rs := [8]) (by kernel_rfl) (by simp) ?_
        refine AllReadyH.cons rfl (fun K hK => ?_) AllReadyH.nil
        refine step_callW q1 (by rfl) (some 60) rfl 18 #[.tmp 59] _ rfl (fun _ _ => rfl) #[.agg y.cs.toArray] (by simp only [List.map_toArray, List.map_cons, List.map_nil]; rfl) (fun v9 w' => v9 = .agg y.cs.toArray ∧ Below q1.heap.size q1 w') ((of_any y q1).mono fun e w' ⟨h1, h2⟩ => ⟨_, h1, rfl, h2⟩) ?_
        rintro v9 q2 ⟨rfl, B9⟩
        have VM : Hid (Vr q2 wb.heap.size (rmc s (.slice (some ⟨g, 0, none⟩) n cap))) := VM.out.below B9 (range_lt VM.out.1 (Nat.succ_pos _))
        have VQ : Hid (Vr q2 QX y.cs) := VQ.out.below B9 (range_lt VQ.out.1 (Nat.succ_pos _))
        have BB : Hid (Below wb.heap.size wb q2) := BB.out.trans (B9.mono BB.out.size)
        have hS : q2.rangeAt QX 0 y.cs ∧ q2.cell? ⟨wb.heap.size, 4, none⟩ = some (.slice (some ⟨g, 0, none⟩) n cap) ∧ q2.rangeAt g (k * 16 + 2) y.cs := ⟨VQ.out.1, VM.out.cell 4 _ rfl, RX.out _ BB.out⟩
        clear B9
        refine hK.out _ _ hS (fun _ => ?_)
        simp only [Act.put, List.setIfInBounds_toArray, List.set_cons_zero, List.set_cons_succ]
        clear hK K
        refine take_lawH 15 (some 67) (.bool false) rfl rfl (by kernel_rfl) (by kernel_rfl) (by kernel_rfl) (fun _ _ _ h => h) (Or.inl ⟨by rfl, fun w' hw' => by go_simp⟩) hS ?_
        simp only [Act.put, List.setIfInBounds_toArray, List.set_cons_zero, List.set_cons_succ]
        refine take_lawH 16 (some 68) (.bool false) rfl rfl (by kernel_rfl) (by kernel_rfl) (by kernel_rfl) (fun _ _ _ h => h) (Or.inl ⟨by rfl, fun w' hw' => by rfl⟩) hS ?_
        simp only [Act.put, List.setIfInBounds_toArray, List.set_cons_zero, List.set_cons_succ]
        refine take_lawH 17 (some 69) (.bool false) rfl rfl (by kernel_rfl) (by kernel_rfl) (by kernel_rfl) (fun _ _ _ h => h) (Or.inl ⟨by rfl, fun w' hw' => by rfl⟩) hS ?_
        simp only [Act.put, List.setIfInBounds_toArray, List.set_cons_zero, List.set_cons_succ]
        refine take_lawH 18 (some 70) (.bool false) rfl rfl (by kernel_rfl) (by kernel_rfl) (by kernel_rfl) (fun _ _ _ h => h) (Or.inl ⟨by rfl, fun w' hw' => by rfl⟩) hS ?_
        simp only [Act.put, List.setIfInBounds_toArray, List.set_cons_zero, List.set_cons_succ]
        refine take_lawH 19 (some 71) (.bool true) rfl rfl (by kernel_rfl) (by kernel_rfl) (by kernel_rfl) (fun _ _ _ h => h) (Or.inl ⟨by rfl, fun w' hw' => by rfl⟩) hS ?_
        simp only [Act.put, List.setIfInBounds_toArray, List.set_cons_zero, List.set_cons_succ]
        refine take_lawH 20 (some 72) (.bool false) rfl rfl (by kernel_rfl) (by kernel_rfl) (by kernel_rfl) (fun _ _ _ h => h) (Or.inl ⟨by rfl, fun w' hw' => by go_simp⟩) hS ?_
        simp only [Act.put, List.setIfInBounds_toArray, List.set_cons_zero, List.set_cons_succ]
        refine take_lawH 21 (some 73) (.bool false) rfl rfl (by kernel_rfl) (by kernel_rfl) (by kernel_rfl) (fun _ _ _ h => h) (Or.inl ⟨by rfl, fun w' hw' => by rfl⟩) hS ?_
        simp only [Act.put, List.setIfInBounds_toArray, List.set_cons_zero, List.set_cons_succ]
        refine take_lawH 22 (some 74) (undef) rfl rfl (by kernel_rfl) (by kernel_rfl) (by kernel_rfl) (fun _ _ _ h => h) (Or.inr ⟨by rfl, rfl⟩) hS ?_
        simp only [Act.put, List.setIfInBounds_toArray, List.set_cons_zero, List.set_cons_succ]
        refine take_lawH 23 (some 75) (undef) rfl rfl (by kernel_rfl) (by kernel_rfl) (by kernel_rfl) (fun _ _ _ h => h) (Or.inr ⟨by rfl, rfl⟩) hS ?_
        simp only [Act.put, List.setIfInBounds_toArray, List.set_cons_zero, List.set_cons_succ]
        refine take_lawH 24 (some 76) (undef) rfl rfl (by kernel_rfl) (by kernel_rfl) (by kernel_rfl) (fun _ _ _ h => h) (Or.inr ⟨by rfl, rfl⟩) hS ?_
        simp only [Act.put, List.setIfInBounds_toArray, List.set_cons_zero, List.set_cons_succ]
        refine take_lawH 25 (some 77) (.bool false) rfl rfl (by kernel_rfl) (by kernel_rfl) (by kernel_rfl) (fun _ _ _ h => h) (Or.inl ⟨by rfl, fun w' hw' => by rfl⟩) hS ?_
        simp only [Act.put, List.setIfInBounds_toArray, List.set_cons_zero, List.set_cons_succ]
        refine take_lawH 26 (some 78) (.bool false) rfl rfl (by kernel_rfl) (by kernel_rfl) (by kernel_rfl) (fun _ _ _ h => h) (Or.inl ⟨by rfl, fun w' hw' => by rfl⟩) hS ?_
        simp only [Act.put, List.setIfInBounds_toArray, List.set_cons_zero, List.set_cons_succ]
        refine wpAnyH_done (by kernel_rfl) ?_ _
        go_wp2
        go_roundw
        case rel => exact ⟨j + 1, by omega, by omega, by go_num, VM, BB⟩
        case measure => simp [intOf]; omega
    · have l1 : decide (j ≤ (0 : Int)) = false := decide_eq_false hlt
      have l2 : ¬ j ≤ (0 : Int) := hlt
      go_wp2
      go_ret
      exact ⟨rfl, BB.out⟩
set_option maxHeartbeats 8000000 in
theorem same_far (w wb : World) (c : Nat) (d s : Nat → Nat) (f : Nat → Nat → Sp) (rb : Option Nat) (v : Value) (L : List Ce) (hk : Wk w wb c d s f rb v L) (ns : Int) (hn : 4 ≤ ns) : Calls Try.prog 13 #[pt c, .agg (rmc s v).toArray, .int .i64 ns] wb fun e w' => e = .returned (.bool true) ∧ Below wb.heap.size wb w' := by
  have HK : Hid (Wk w wb c d s f rb v L) := hk
  obtain ⟨z, hz⟩ : ∃ z, z = szn s ns := ⟨_, rfl⟩
  have ZZ : Hid (z = szn s ns) := hz
  have z9 : (z : Int) ≤ 40 := by
    rw [hz]
    unfold szn
    split
    · have := hk.z (ns : Int).toNat (by omega); omega
    · omega
  have z0 : (z : Int) = 0 := by rw [hz]; unfold szn; rw [if_neg (by omega)]; rfl
  have SZ : Hid (∀ W, Below wb.heap.size wb W → Calls Try.prog 23 #[pt c, .int .i64 ns] W fun e w' => e = .returned (.int .i64 (0 : Int)) ∧ Below W.heap.size W w') := fun W hW => (size_any (pt c) d s f (cnt s f) ns W (.inr ⟨c, rb, rfl, hk.m.below hW⟩)).mono fun _ _ ⟨p, q⟩ => ⟨by rw [p, ← hz, z0], by rw [q]; exact Below.refl _ _⟩
  obtain ⟨kd, hkd⟩ : ∃ kd, kd = dc1 (f (ns : Int).toNat) (szn s ns) := ⟨_, rfl⟩
  have DT : Hid (∀ W, Below wb.heap.size wb W → Calls Try.prog 25 #[pt c, .int .i64 ns] W fun e w' => e = .returned (.int .i64 (kd : Int)) ∧ Below W.heap.size W w') := fun W hW => by rw [hkd]; exact data_any c rb d s f (cnt s f) ns W (hk.m.below hW) hk.z9
  have RD : Hid (∀ W, Below wb.heap.size wb W → Calls Try.prog 32 #[.agg (rmc s v).toArray, .int .i64 ns] W fun e w' => e = .returned (.int .i64 (kd : Int)) ∧ Below W.heap.size W w') := fun W hW => by rw [hkd, ← hk.r.data ns]; exact rdata_any s v L ns W (hk.l.below hW) (by have := hk.len; omega)
  have GT : Hid (∀ W k, Below wb.heap.size wb W → Calls Try.prog 21 #[pt c, .int .i64 ns, .int .i64 k] W fun e w' => e = .returned (.tuple #[.agg (gs s f ns k).cs.toArray, .bool (lv (gs s f ns k))]) ∧ Below W.heap.size W w') := fun W k hW => get_any c rb d s f (cnt s f) ns k W (hk.m.below hW)
  have PC : Hid (∀ W k, Below wb.heap.size wb W → Calls Try.prog 33 #[.agg (rmc s v).toArray, .int .i64 ns, .int .i64 k] W fun e w' => e = .returned (.int .i64 (plc ns k L 0)) ∧ Below W.heap.size W w') := fun W k hW => rplace_any s v L ns k W (hk.l.below hW) (by have := hk.len; omega)
  have e1 : decide (ns ≥ 0) = true := decide_eq_true (by omega)
  have e2 : decide (ns < 4) = false := decide_eq_false (by omega)
  clear hn
  clear hz hkd hk
  have t0 : (0 : Nat) = 0 := rfl
  go_enter Try.func13, Try.ntmps13
  go_wp2_with (have qq := t0; refine box_lawC _ (rmc s v) rfl ?_; intro w1 X9 B9 _; have VM : Hid (Vr w1 wb.heap.size (rmc s v)) := X9; have BB : Hid (Below wb.heap.size wb w1) := B9;  clear X9 B9 t0)
  have VM : Hid (Vr w1.drew wb.heap.size (rmc s v)) := VM.out.drewN 1
  have BB : Hid (Below wb.heap.size wb w1.drew) := below_dr BB.out 1
  refine wp_region_held_drew (S := fun w' => w'.rangeAt wb.heap.size 0 (rmc s v)) (by kernel_rfl) VM.out.1 (fun hS => ?_)
  obtain ⟨z1, hx0⟩ : ∃ x, x = w1.drew := ⟨_, rfl⟩
  rw [← hx0] at hS VM BB ⊢
  clear hx0
  refine take_lawH 0 (some 22) (pt c) rfl rfl (by kernel_rfl) (by kernel_rfl) (by kernel_rfl) (fun _ _ _ h => h) (Or.inl ⟨by rfl, fun w' hw' => by rfl⟩) hS ?_
  simp only [Act.put, List.setIfInBounds_toArray, List.set_cons_zero, List.set_cons_succ]
  refine take_lawH 1 (some 23) (.int .i64 ns) rfl rfl (by kernel_rfl) (by kernel_rfl) (by kernel_rfl) (fun _ _ _ h => h) (Or.inl ⟨by rfl, fun w' hw' => by rfl⟩) hS ?_
  simp only [Act.put, List.setIfInBounds_toArray, List.set_cons_zero, List.set_cons_succ]
  refine take_lawH 3 (some 25) (.int .i64 (0 : Int)) rfl rfl (by kernel_rfl) (by kernel_rfl) (by kernel_rfl) (fun _ _ _ h => h) (Or.inl ⟨by rfl, fun w' hw' => by rfl⟩) hS ?_
  simp only [Act.put, List.setIfInBounds_toArray, List.set_cons_zero, List.set_cons_succ]
  refine wpAnyH_ready (rs := [2]) (by kernel_rfl) (by simp) ?_
  refine AllReadyH.cons rfl (fun K hK => ?_) AllReadyH.nil
  refine step_callW z1 (by rfl) (some 24) rfl 23 #[.tmp 22, .tmp 23] _ rfl (fun _ _ => rfl) #[pt c, .int .i64 ns] (by simp only [List.map_toArray, List.map_cons, List.map_nil]; rfl) (fun v9 w' => v9 = .int .i64 (0 : Int) ∧ Below z1.heap.size z1 w') ((SZ.out z1 BB.out).mono fun e w' ⟨h1, h2⟩ => ⟨_, h1, rfl, h2⟩) ?_
  rintro v9 z2 ⟨rfl, B9⟩
  have VM : Hid (Vr z2 wb.heap.size (rmc s v)) := VM.out.below B9 (range_lt VM.out.1 (Nat.succ_pos _))
  have BB : Hid (Below wb.heap.size wb z2) := BB.out.trans (B9.mono BB.out.size)
  have hS : z2.rangeAt wb.heap.size 0 (rmc s v) := VM.out.1
  clear B9
  refine hK.out _ _ hS (fun _ => ?_)
  simp only [Act.put, List.setIfInBounds_toArray, List.set_cons_zero, List.set_cons_succ]
  clear hK K
  refine take_lawH 4 (some 26) (.bool false) rfl rfl (by kernel_rfl) (by kernel_rfl) (by kernel_rfl) (fun _ _ _ h => h) (Or.inl ⟨by rfl, fun w' hw' => by go_simp⟩) hS ?_
  simp only [Act.put, List.setIfInBounds_toArray, List.set_cons_zero, List.set_cons_succ]
  refine take_lawH 5 (some 27) (.bool false) rfl rfl (by kernel_rfl) (by kernel_rfl) (by kernel_rfl) (fun _ _ _ h => h) (Or.inl ⟨by rfl, fun w' hw' => by rfl⟩) hS ?_
  simp only [Act.put, List.setIfInBounds_toArray, List.set_cons_zero, List.set_cons_succ]
  refine take_lawH 6 (some 28) (pt c) rfl rfl (by kernel_rfl) (by kernel_rfl) (by kernel_rfl) (fun _ _ _ h => h) (Or.inl ⟨by rfl, fun w' hw' => by rfl⟩) hS ?_
  simp only [Act.put, List.setIfInBounds_toArray, List.set_cons_zero, List.set_cons_succ]
  refine take_lawH 7 (some 29) (.int .i64 ns) rfl rfl (by kernel_rfl) (by kernel_rfl) (by kernel_rfl) (fun _ _ _ h => h) (Or.inl ⟨by rfl, fun w' hw' => by rfl⟩) hS ?_
  simp only [Act.put, List.setIfInBounds_toArray, List.set_cons_zero, List.set_cons_succ]
  refine take_lawH 9 (some 31) (.agg (rmc s v).toArray) rfl rfl (by kernel_rfl) (by kernel_rfl) (by kernel_rfl) (fun _ _ _ h => h) (Or.inl ⟨by rfl, fun w' hw' => by exact exec_loadN 28 (.tmp 4) rfl _ rfl _ _ (load_cells rowy_rmap hw')⟩) hS ?_
  simp only [Act.put, List.setIfInBounds_toArray, List.set_cons_zero, List.set_cons_succ]
  refine take_lawH 10 (some 32) (.int .i64 ns) rfl rfl (by kernel_rfl) (by kernel_rfl) (by kernel_rfl) (fun _ _ _ h => h) (Or.inl ⟨by rfl, fun w' hw' => by rfl⟩) hS ?_
  simp only [Act.put, List.setIfInBounds_toArray, List.set_cons_zero, List.set_cons_succ]
  refine wpAnyH_ready (rs := [8]) (by kernel_rfl) (by simp) ?_
  refine AllReadyH.cons rfl (fun K hK => ?_) AllReadyH.nil
  refine step_callW z2 (by rfl) (some 30) rfl 25 #[.tmp 28, .tmp 29] _ rfl (fun _ _ => rfl) #[pt c, .int .i64 ns] (by simp only [List.map_toArray, List.map_cons, List.map_nil]; rfl) (fun v9 w' => v9 = .int .i64 (kd : Int) ∧ Below z2.heap.size z2 w') ((DT.out z2 BB.out).mono fun e w' ⟨h1, h2⟩ => ⟨_, h1, rfl, h2⟩) ?_
  rintro v9 z3 ⟨rfl, B9⟩
  have VM : Hid (Vr z3 wb.heap.size (rmc s v)) := VM.out.below B9 (range_lt VM.out.1 (Nat.succ_pos _))
  have BB : Hid (Below wb.heap.size wb z3) := BB.out.trans (B9.mono BB.out.size)
  have hS : z3.rangeAt wb.heap.size 0 (rmc s v) := VM.out.1
  clear B9
  refine hK.out _ _ hS (fun _ => ?_)
  simp only [Act.put, List.setIfInBounds_toArray, List.set_cons_zero, List.set_cons_succ]
  clear hK K
  refine wpAnyH_ready (rs := [11]) (by kernel_rfl) (by simp) ?_
  refine AllReadyH.cons rfl (fun K hK => ?_) AllReadyH.nil
  refine step_callW z3 (by rfl) (some 33) rfl 32 #[.tmp 31, .tmp 32] _ rfl (fun _ _ => rfl) #[.agg (rmc s v).toArray, .int .i64 ns] (by simp only [List.map_toArray, List.map_cons, List.map_nil]; rfl) (fun v9 w' => v9 = .int .i64 (kd : Int) ∧ Below z3.heap.size z3 w') ((RD.out z3 BB.out).mono fun e w' ⟨h1, h2⟩ => ⟨_, h1, rfl, h2⟩) ?_
  rintro v9 z4 ⟨rfl, B9⟩
  have VM : Hid (Vr z4 wb.heap.size (rmc s v)) := VM.out.below B9 (range_lt VM.out.1 (Nat.succ_pos _))
  have BB : Hid (Below wb.heap.size wb z4) := BB.out.trans (B9.mono BB.out.size)
  have hS : z4.rangeAt wb.heap.size 0 (rmc s v) := VM.out.1
  clear B9
  refine hK.out _ _ hS (fun _ => ?_)
  simp only [Act.put, List.setIfInBounds_toArray, List.set_cons_zero, List.set_cons_succ]
  clear hK K
  refine take_lawH 12 (some 34) (.bool false) rfl rfl (by kernel_rfl) (by kernel_rfl) (by kernel_rfl) (fun _ _ _ h => h) (Or.inl ⟨by rfl, fun w' hw' => by go_simp⟩) hS ?_
  simp only [Act.put, List.setIfInBounds_toArray, List.set_cons_zero, List.set_cons_succ]
  refine take_lawH 13 (some 35) (.bool false) rfl rfl (by kernel_rfl) (by kernel_rfl) (by kernel_rfl) (fun _ _ _ h => h) (Or.inl ⟨by rfl, fun w' hw' => by rfl⟩) hS ?_
  simp only [Act.put, List.setIfInBounds_toArray, List.set_cons_zero, List.set_cons_succ]
  refine wpAnyH_done (by kernel_rfl) ?_ _
  clear SZ DT RD
  go_wp2
  go_loopw [8] (fun iv wq => ∃ j : Int, -1 ≤ j ∧ j ≤ (0 : Int) + 1 ∧ iv = .int .i64 j ∧ Hid (Vr wq wb.heap.size (rmc s v)) ∧ Hid (Below wb.heap.size wb wq)) (fun iv _ => ((0 : Int) + 1 - intOf iv).toNat)
  case atStart => exact ⟨-1, by omega, by omega, rfl, VM, BB⟩
  case round =>
    clear VM BB
    obtain ⟨j, hj1, hj2, rfl, VM, BB⟩ := hrel
    have jw : IntKind.i64.wrap (j + 1) = j + 1 := by rw [IntKind.wrap_i64]; omega
    by_cases hlt : j ≤ (0 : Int)
    · have l1 : decide (j ≤ (0 : Int)) = true := decide_eq_true hlt
      rcases HK.out.r.cell ns j with ⟨q1, q2, q3⟩ | ⟨k, c9, q1, q2, q3, q4⟩
      · have G1 : Hid (∀ W, Below wb.heap.size wb W → Calls Try.prog 21 #[pt c, .int .i64 ns, .int .i64 j] W fun e w' => e = .returned (.tuple #[.agg sp0.cs.toArray, .bool false]) ∧ Below W.heap.size W w') := fun W hW => by have g9 := GT.out W j hW; rw [q1, q2] at g9; exact g9
        have P1 : Hid (∀ W, Below wb.heap.size wb W → Calls Try.prog 33 #[.agg (rmc s v).toArray, .int .i64 ns, .int .i64 j] W fun e w' => e = .returned (.int .i64 (plc ns j L 0)) ∧ Below W.heap.size W w') := fun W hW => PC.out W j hW
        generalize plc ns j L 0 = pz at P1 q3
        have p1 : decide (pz ≥ 0) = false := decide_eq_false (by omega)
        have p2 : ¬ pz ≥ 0 := by omega
        have eq9 : ∀ W : World, (Op.equalIn 10000 37 (.agg sp0.cs.toArray) (.agg sp0.cs.toArray)).run Try.prog W = .ok true W := fun W => eql_spot sp0 W
        have gd9 : Try.prog.eqGuardType Try.prog.depth 37 = false := by kernel_rfl
        clear q1 q2 q3 GT PC
        have t0 : (0 : Nat) = 0 := rfl
        go_upto_region 11 with (first
          | (have qq := t4; go_at_call 33; refine (P1.out _ BB.out).mono ?_; rintro e wf ⟨rfl, B9⟩; have VW : Hid (Vr wf wc.heap.size sp0.cs) := VW.out.below B9 (range_lt VW.out.1 (Nat.succ_pos _)); have VM : Hid (Vr wf wb.heap.size (rmc s v)) := VM.out.below B9 (range_lt VM.out.1 (Nat.succ_pos _)); have BB : Hid (Below wb.heap.size wb wf) := BB.out.trans (B9.mono BB.out.size); clear B9 t4)
          | (have qq := t3; refine load_law _ (by rfl) 28 (.tmp 4) rfl wb.heap.size 0 (rmc s v) rfl rowy_rmap VM.out.1 ?_; clear t3; have t4 : (0 : Nat) = 0 := rfl)
          | (have qq := t2; (with_reducible refine at_store ?_); refine store_lawC _ sp0.cs wc.heap.size 0 rfl rfl VZ.out.2 size_spot (sp0).one ?_; intro we e9 r9 h9 B8; have VW : Hid (Vr we wc.heap.size sp0.cs) := ⟨r9, h9⟩; have LW : Hid (wc.heap.size < wd.heap.size) := range_lt VZ.out.1 (Nat.succ_pos _); have VM : Hid (Vr we wb.heap.size (rmc s v)) := (by have g9 : wd.grownBy we (some wc.heap.size) := (by rw [e9.out]; exact (wrt_cells wd wc.heap.size 0 14 _ rfl).1); exact VM.out.heap (g9.block _ (range_lt VM.out.1 (Nat.succ_pos _)) (fun e => by have := WC.out; have := Option.some.inj e; omega))); have BB : Hid (Below wb.heap.size wb we) := (by have g9 : wd.grownBy we (some wc.heap.size) := (by rw [e9.out]; exact (wrt_cells wd wc.heap.size 0 14 _ rfl).1); exact BB.out.grown g9 BB.out.size (fun k9 hk9 => by have := WC.out; cases hk9; omega)); clear e9 r9 h9 B8 VZ B5 t2; have t3 : (0 : Nat) = 0 := rfl)
          | (have qq := t1; (with_reducible refine at_alloc ?_); refine new_lawC _ sp0.cs zero_spot ?_; intro wd X9 B9 _; have VZ : Hid (Vr wd wc.heap.size sp0.cs) := X9; have B5 : Hid (Below wc.heap.size wc wd) := B9; have VM : Hid (Vr wd wb.heap.size (rmc s v)) := VM.out.below B9 (range_lt VM.out.1 (Nat.succ_pos _)); have BB : Hid (Below wb.heap.size wb wd) := BB.out.trans (B9.mono BB.out.size); clear X9 B9 t1; have t2 : (0 : Nat) = 0 := rfl)
          | (have qq := t0; go_at_call 21; refine (G1.out _ BB.out).mono ?_; rintro e wc ⟨rfl, B9⟩; have VM : Hid (Vr wc wb.heap.size (rmc s v)) := VM.out.below B9 (range_lt VM.out.1 (Nat.succ_pos _)); have BB : Hid (Below wb.heap.size wb wc) := BB.out.trans (B9.mono BB.out.size); have WC : Hid (wb.heap.size < wc.heap.size) := range_lt VM.out.1 (Nat.succ_pos _); clear B9 t0; have t1 : (0 : Nat) = 0 := rfl))
        obtain ⟨QX, hQX⟩ : ∃ q, q = wc.heap.size := ⟨_, rfl⟩
        have VQ : Hid (Vr wf QX sp0.cs) := by rw [hQX]; exact VW.out
        rw [← hQX]
        clear hQX VW WC G1 P1
        have VM : Hid (Vr wf.drew wb.heap.size (rmc s v)) := VM.out.drewN 1
        have VQ : Hid (Vr wf.drew QX sp0.cs) := VQ.out.drewN 1
        have BB : Hid (Below wb.heap.size wb wf.drew) := below_dr BB.out 1
        refine wp_region_held_drew (S := fun w' => w'.rangeAt QX 0 sp0.cs) (by kernel_rfl) VQ.out.1 (fun hS => ?_)
        obtain ⟨q1, hx0⟩ : ∃ x, x = wf.drew := ⟨_, rfl⟩
        rw [← hx0] at hS VM VQ BB ⊢
        clear hx0
        refine take_lawH 0 (some 52) (.bool false) rfl rfl (by kernel_rfl) (by kernel_rfl) (by kernel_rfl) (fun _ _ _ h => h) (Or.inl ⟨by rfl, fun w' hw' => by rfl⟩) hS ?_
        simp only [Act.put, List.setIfInBounds_toArray, List.set_cons_zero, List.set_cons_succ]
        refine take_lawH 1 (some 53) (.int .i64 pz) rfl rfl (by kernel_rfl) (by kernel_rfl) (by kernel_rfl) (fun _ _ _ h => h) (Or.inl ⟨by rfl, fun w' hw' => by rfl⟩) hS ?_
        simp only [Act.put, List.setIfInBounds_toArray, List.set_cons_zero, List.set_cons_succ]
        refine take_lawH 2 (some 54) (.bool false) rfl rfl (by kernel_rfl) (by kernel_rfl) (by kernel_rfl) (fun _ _ _ h => h) (Or.inl ⟨by rfl, fun w' hw' => by go_simp⟩) hS ?_
        simp only [Act.put, List.setIfInBounds_toArray, List.set_cons_zero, List.set_cons_succ]
        refine take_lawH 3 (some 55) (.bool false) rfl rfl (by kernel_rfl) (by kernel_rfl) (by kernel_rfl) (fun _ _ _ h => h) (Or.inl ⟨by rfl, fun w' hw' => by go_simp⟩) hS ?_
        simp only [Act.put, List.setIfInBounds_toArray, List.set_cons_zero, List.set_cons_succ]
        refine take_lawH 4 (some 56) (.bool false) rfl rfl (by kernel_rfl) (by kernel_rfl) (by kernel_rfl) (fun _ _ _ h => h) (Or.inl ⟨by rfl, fun w' hw' => by rfl⟩) hS ?_
        simp only [Act.put, List.setIfInBounds_toArray, List.set_cons_zero, List.set_cons_succ]
        refine take_lawH 5 (some 57) (.bool false) rfl rfl (by kernel_rfl) (by kernel_rfl) (by kernel_rfl) (fun _ _ _ h => h) (Or.inl ⟨by rfl, fun w' hw' => by rfl⟩) hS ?_
        simp only [Act.put, List.setIfInBounds_toArray, List.set_cons_zero, List.set_cons_succ]
        refine take_lawH 6 (some 58) (.bool false) rfl rfl (by kernel_rfl) (by kernel_rfl) (by kernel_rfl) (fun _ _ _ h => h) (Or.inl ⟨by rfl, fun w' hw' => by rfl⟩) hS ?_
        simp only [Act.put, List.setIfInBounds_toArray, List.set_cons_zero, List.set_cons_succ]
        refine take_lawH 7 (some 59) (undef) rfl rfl (by kernel_rfl) (by kernel_rfl) (by kernel_rfl) (fun _ _ _ h => h) (Or.inr ⟨by rfl, rfl⟩) hS ?_
        simp only [Act.put, List.setIfInBounds_toArray, List.set_cons_zero, List.set_cons_succ]
        refine take_lawH 8 (some 60) (undef) rfl rfl (by kernel_rfl) (by kernel_rfl) (by kernel_rfl) (fun _ _ _ h => h) (Or.inr ⟨by rfl, rfl⟩) hS ?_
        simp only [Act.put, List.setIfInBounds_toArray, List.set_cons_zero, List.set_cons_succ]
        refine take_lawH 9 (some 61) (undef) rfl rfl (by kernel_rfl) (by kernel_rfl) (by kernel_rfl) (fun _ _ _ h => h) (Or.inr ⟨by rfl, rfl⟩) hS ?_
        simp only [Act.put, List.setIfInBounds_toArray, List.set_cons_zero, List.set_cons_succ]
        refine take_lawH 10 (some 62) (undef) rfl rfl (by kernel_rfl) (by kernel_rfl) (by kernel_rfl) (fun _ _ _ h => h) (Or.inr ⟨by rfl, rfl⟩) hS ?_
        simp only [Act.put, List.setIfInBounds_toArray, List.set_cons_zero, List.set_cons_succ]
        refine take_lawH 11 (some 63) (undef) rfl rfl (by kernel_rfl) (by kernel_rfl) (by kernel_rfl) (fun _ _ _ h => h) (Or.inr ⟨by rfl, rfl⟩) hS ?_
        simp only [Act.put, List.setIfInBounds_toArray, List.set_cons_zero, List.set_cons_succ]
        refine take_lawH 12 (some 64) (undef) rfl rfl (by kernel_rfl) (by kernel_rfl) (by kernel_rfl) (fun _ _ _ h => h) (Or.inr ⟨by rfl, rfl⟩) hS ?_
        simp only [Act.put, List.setIfInBounds_toArray, List.set_cons_zero, List.set_cons_succ]
        refine take_lawH 13 (some 65) (undef) rfl rfl (by kernel_rfl) (by kernel_rfl) (by kernel_rfl) (fun _ _ _ h => h) (Or.inr ⟨by rfl, rfl⟩) hS ?_
        simp only [Act.put, List.setIfInBounds_toArray, List.set_cons_zero, List.set_cons_succ]
        refine take_lawH 14 (some 66) (undef) rfl rfl (by kernel_rfl) (by kernel_rfl) (by kernel_rfl) (fun _ _ _ h => h) (Or.inr ⟨by rfl, rfl⟩) hS ?_
        simp only [Act.put, List.setIfInBounds_toArray, List.set_cons_zero, List.set_cons_succ]
        refine take_lawH 15 (some 67) (undef) rfl rfl (by kernel_rfl) (by kernel_rfl) (by kernel_rfl) (fun _ _ _ h => h) (Or.inr ⟨by rfl, rfl⟩) hS ?_
        simp only [Act.put, List.setIfInBounds_toArray, List.set_cons_zero, List.set_cons_succ]
        refine take_lawH 16 (some 68) (.bool false) rfl rfl (by kernel_rfl) (by kernel_rfl) (by kernel_rfl) (fun _ _ _ h => h) (Or.inl ⟨by rfl, fun w' hw' => by rfl⟩) hS ?_
        simp only [Act.put, List.setIfInBounds_toArray, List.set_cons_zero, List.set_cons_succ]
        refine take_lawH 17 (some 69) (.bool false) rfl rfl (by kernel_rfl) (by kernel_rfl) (by kernel_rfl) (fun _ _ _ h => h) (Or.inl ⟨by rfl, fun w' hw' => by rfl⟩) hS ?_
        simp only [Act.put, List.setIfInBounds_toArray, List.set_cons_zero, List.set_cons_succ]
        refine take_lawH 18 (some 70) (.bool false) rfl rfl (by kernel_rfl) (by kernel_rfl) (by kernel_rfl) (fun _ _ _ h => h) (Or.inl ⟨by rfl, fun w' hw' => by rfl⟩) hS ?_
        simp only [Act.put, List.setIfInBounds_toArray, List.set_cons_zero, List.set_cons_succ]
        refine take_lawH 19 (some 71) (.bool false) rfl rfl (by kernel_rfl) (by kernel_rfl) (by kernel_rfl) (fun _ _ _ h => h) (Or.inl ⟨by rfl, fun w' hw' => by rfl⟩) hS ?_
        simp only [Act.put, List.setIfInBounds_toArray, List.set_cons_zero, List.set_cons_succ]
        refine take_lawH 20 (some 72) (.bool true) rfl rfl (by kernel_rfl) (by kernel_rfl) (by kernel_rfl) (fun _ _ _ h => h) (Or.inl ⟨by rfl, fun w' hw' => by go_simp⟩) hS ?_
        simp only [Act.put, List.setIfInBounds_toArray, List.set_cons_zero, List.set_cons_succ]
        refine take_lawH 21 (some 73) (.bool true) rfl rfl (by kernel_rfl) (by kernel_rfl) (by kernel_rfl) (fun _ _ _ h => h) (Or.inl ⟨by rfl, fun w' hw' => by rfl⟩) hS ?_
        simp only [Act.put, List.setIfInBounds_toArray, List.set_cons_zero, List.set_cons_succ]
        refine take_lawH 22 (some 74) (.agg sp0.cs.toArray) rfl rfl (by kernel_rfl) (by kernel_rfl) (by kernel_rfl) (fun _ _ _ h => h) (Or.inl ⟨by rfl, fun w' hw' => by exact exec_loadN 37 (.tmp 9) rfl _ rfl _ _ (load_cells rowy_spot hw')⟩) hS ?_
        simp only [Act.put, List.setIfInBounds_toArray, List.set_cons_zero, List.set_cons_succ]
        refine take_lawH 23 (some 75) (.agg sp0.cs.toArray) rfl rfl (by kernel_rfl) (by kernel_rfl) (by kernel_rfl) (fun _ _ _ h => h) (Or.inl ⟨by rfl, fun w' hw' => by exact exec_bsp rfl _⟩) hS ?_
        simp only [Act.put, List.setIfInBounds_toArray, List.set_cons_zero, List.set_cons_succ]
        refine take_lawH 24 (some 76) (.bool false) rfl rfl (by kernel_rfl) (by kernel_rfl) (by kernel_rfl) (fun _ _ _ h => h) (Or.inl ⟨by rfl, fun w' hw' => by go_simp⟩) hS ?_
        simp only [Act.put, List.setIfInBounds_toArray, List.set_cons_zero, List.set_cons_succ]
        refine take_lawH 25 (some 77) (.bool false) rfl rfl (by kernel_rfl) (by kernel_rfl) (by kernel_rfl) (fun _ _ _ h => h) (Or.inl ⟨by rfl, fun w' hw' => by rfl⟩) hS ?_
        simp only [Act.put, List.setIfInBounds_toArray, List.set_cons_zero, List.set_cons_succ]
        refine take_lawH 26 (some 78) (.bool false) rfl rfl (by kernel_rfl) (by kernel_rfl) (by kernel_rfl) (fun _ _ _ h => h) (Or.inl ⟨by rfl, fun w' hw' => by rfl⟩) hS ?_
        simp only [Act.put, List.setIfInBounds_toArray, List.set_cons_zero, List.set_cons_succ]
        refine wpAnyH_done (by kernel_rfl) ?_ _
        go_wp2
        go_roundw
        case rel => exact ⟨j + 1, by omega, by omega, by go_num, VM, BB⟩
        case measure => simp [intOf]; omega
      · obtain ⟨ao, cap, hv, hg⟩ := HK.out.l
        obtain ⟨g, rfl, hr⟩ := hg (Nat.lt_of_le_of_lt (Nat.zero_le _) (List.getElem?_eq_some_iff.1 q2).1)
        obtain ⟨n, hn⟩ : ∃ n, n = L.length := ⟨_, rfl⟩
        rw [← hn] at hv
        subst hv
        have KN : Hid (k < n) := by have := (List.getElem?_eq_some_iff.1 q2).1; show _ < _; omega
        have k0 : (0 : Int) ≤ (k : Int) := by omega
        obtain ⟨y, hy⟩ : ∃ y, y = gs s f ns j := ⟨_, rfl⟩
        have RX : Hid (∀ W, Below wb.heap.size wb W → W.rangeAt g (k * 16 + 2) y.cs) := fun W hW => by have r9 := spot_in ((hr.below hW) k c9 q2).1; rw [q3, ← hy] at r9; exact r9
        have G1 : Hid (∀ W, Below wb.heap.size wb W → Calls Try.prog 21 #[pt c, .int .i64 ns, .int .i64 j] W fun e w' => e = .returned (.tuple #[.agg y.cs.toArray, .bool true]) ∧ Below W.heap.size W w') := fun W hW => by have g9 := GT.out W j hW; rw [q1, ← hy] at g9; exact g9
        have P1 : Hid (∀ W, Below wb.heap.size wb W → Calls Try.prog 33 #[.agg (rmc s (.slice (some ⟨g, 0, none⟩) n cap)).toArray, .int .i64 ns, .int .i64 j] W fun e w' => e = .returned (.int .i64 (k : Int)) ∧ Below W.heap.size W w') := fun W hW => by have g9 := PC.out W j hW; rw [q4] at g9; exact g9
        have eq9 : ∀ W : World, (Op.equalIn 10000 49 (.agg y.cs.toArray) (.agg y.cs.toArray)).run Try.prog W = .ok true W := fun W => eql_rspot y W
        have gd9 : Try.prog.eqGuardType Try.prog.depth 49 = false := by kernel_rfl
        clear q1 q2 q3 q4 hr hg hn hy GT PC
        have t0 : (0 : Nat) = 0 := rfl
        go_upto_region 11 with (first
          | (have qq := t4; go_at_call 33; refine (P1.out _ BB.out).mono ?_; rintro e wf ⟨rfl, B9⟩; have VW : Hid (Vr wf wc.heap.size y.cs) := VW.out.below B9 (range_lt VW.out.1 (Nat.succ_pos _)); have VM : Hid (Vr wf wb.heap.size (rmc s (.slice (some ⟨g, 0, none⟩) n cap))) := VM.out.below B9 (range_lt VM.out.1 (Nat.succ_pos _)); have BB : Hid (Below wb.heap.size wb wf) := BB.out.trans (B9.mono BB.out.size); clear B9 t4)
          | (have qq := t3; refine load_law _ (by rfl) 28 (.tmp 4) rfl wb.heap.size 0 (rmc s (.slice (some ⟨g, 0, none⟩) n cap)) rfl rowy_rmap VM.out.1 ?_; clear t3; have t4 : (0 : Nat) = 0 := rfl)
          | (have qq := t2; (with_reducible refine at_store ?_); refine store_lawC _ y.cs wc.heap.size 0 rfl rfl VZ.out.2 size_spot (y).one ?_; intro we e9 r9 h9 B8; have VW : Hid (Vr we wc.heap.size y.cs) := ⟨r9, h9⟩; have LW : Hid (wc.heap.size < wd.heap.size) := range_lt VZ.out.1 (Nat.succ_pos _); have VM : Hid (Vr we wb.heap.size (rmc s (.slice (some ⟨g, 0, none⟩) n cap))) := (by have g9 : wd.grownBy we (some wc.heap.size) := (by rw [e9.out]; exact (wrt_cells wd wc.heap.size 0 14 _ rfl).1); exact VM.out.heap (g9.block _ (range_lt VM.out.1 (Nat.succ_pos _)) (fun e => by have := WC.out; have := Option.some.inj e; omega))); have BB : Hid (Below wb.heap.size wb we) := (by have g9 : wd.grownBy we (some wc.heap.size) := (by rw [e9.out]; exact (wrt_cells wd wc.heap.size 0 14 _ rfl).1); exact BB.out.grown g9 BB.out.size (fun k9 hk9 => by have := WC.out; cases hk9; omega)); clear e9 r9 h9 B8 VZ B5 t2; have t3 : (0 : Nat) = 0 := rfl)
          | (have qq := t1; (with_reducible refine at_alloc ?_); refine new_lawC _ sp0.cs zero_spot ?_; intro wd X9 B9 _; have VZ : Hid (Vr wd wc.heap.size sp0.cs) := X9; have B5 : Hid (Below wc.heap.size wc wd) := B9; have VM : Hid (Vr wd wb.heap.size (rmc s (.slice (some ⟨g, 0, none⟩) n cap))) := VM.out.below B9 (range_lt VM.out.1 (Nat.succ_pos _)); have BB : Hid (Below wb.heap.size wb wd) := BB.out.trans (B9.mono BB.out.size); clear X9 B9 t1; have t2 : (0 : Nat) = 0 := rfl)
          | (have qq := t0; go_at_call 21; refine (G1.out _ BB.out).mono ?_; rintro e wc ⟨rfl, B9⟩; have VM : Hid (Vr wc wb.heap.size (rmc s (.slice (some ⟨g, 0, none⟩) n cap))) := VM.out.below B9 (range_lt VM.out.1 (Nat.succ_pos _)); have BB : Hid (Below wb.heap.size wb wc) := BB.out.trans (B9.mono BB.out.size); have WC : Hid (wb.heap.size < wc.heap.size) := range_lt VM.out.1 (Nat.succ_pos _); clear B9 t0; have t1 : (0 : Nat) = 0 := rfl))
        obtain ⟨QX, hQX⟩ : ∃ q, q = wc.heap.size := ⟨_, rfl⟩
        have VQ : Hid (Vr wf QX y.cs) := by rw [hQX]; exact VW.out
        rw [← hQX]
        clear hQX VW WC G1 P1
        have VM : Hid (Vr wf.drew wb.heap.size (rmc s (.slice (some ⟨g, 0, none⟩) n cap))) := VM.out.drewN 1
        have VQ : Hid (Vr wf.drew QX y.cs) := VQ.out.drewN 1
        have BB : Hid (Below wb.heap.size wb wf.drew) := below_dr BB.out 1
        refine wp_region_held_drew (S := fun w' => w'.rangeAt QX 0 y.cs ∧ w'.cell? ⟨wb.heap.size, 4, none⟩ = some (.slice (some ⟨g, 0, none⟩) n cap) ∧ w'.rangeAt g (k * 16 + 2) y.cs) (by kernel_rfl) ⟨VQ.out.1, VM.out.cell 4 _ rfl, RX.out _ BB.out⟩ (fun hS => ?_)
        obtain ⟨q1, hx0⟩ : ∃ x, x = wf.drew := ⟨_, rfl⟩
        rw [← hx0] at hS VM VQ BB ⊢
        clear hx0
        refine take_lawH 0 (some 52) (.bool true) rfl rfl (by kernel_rfl) (by kernel_rfl) (by kernel_rfl) (fun _ _ _ h => h) (Or.inl ⟨by rfl, fun w' hw' => by rfl⟩) hS ?_
        simp only [Act.put, List.setIfInBounds_toArray, List.set_cons_zero, List.set_cons_succ]
        refine take_lawH 1 (some 53) (.int .i64 (k : Int)) rfl rfl (by kernel_rfl) (by kernel_rfl) (by kernel_rfl) (fun _ _ _ h => h) (Or.inl ⟨by rfl, fun w' hw' => by rfl⟩) hS ?_
        simp only [Act.put, List.setIfInBounds_toArray, List.set_cons_zero, List.set_cons_succ]
        refine take_lawH 2 (some 54) (.bool true) rfl rfl (by kernel_rfl) (by kernel_rfl) (by kernel_rfl) (fun _ _ _ h => h) (Or.inl ⟨by rfl, fun w' hw' => by go_simp⟩) hS ?_
        simp only [Act.put, List.setIfInBounds_toArray, List.set_cons_zero, List.set_cons_succ]
        refine take_lawH 3 (some 55) (.bool false) rfl rfl (by kernel_rfl) (by kernel_rfl) (by kernel_rfl) (fun _ _ _ h => h) (Or.inl ⟨by rfl, fun w' hw' => by go_simp⟩) hS ?_
        simp only [Act.put, List.setIfInBounds_toArray, List.set_cons_zero, List.set_cons_succ]
        refine take_lawH 4 (some 56) (.bool false) rfl rfl (by kernel_rfl) (by kernel_rfl) (by kernel_rfl) (fun _ _ _ h => h) (Or.inl ⟨by rfl, fun w' hw' => by rfl⟩) hS ?_
        simp only [Act.put, List.setIfInBounds_toArray, List.set_cons_zero, List.set_cons_succ]
        refine take_lawH 5 (some 57) (.bool true) rfl rfl (by kernel_rfl) (by kernel_rfl) (by kernel_rfl) (fun _ _ _ h => h) (Or.inl ⟨by rfl, fun w' hw' => by rfl⟩) hS ?_
        simp only [Act.put, List.setIfInBounds_toArray, List.set_cons_zero, List.set_cons_succ]
        refine take_lawH 6 (some 58) (.bool true) rfl rfl (by kernel_rfl) (by kernel_rfl) (by kernel_rfl) (fun _ _ _ h => h) (Or.inl ⟨by rfl, fun w' hw' => by rfl⟩) hS ?_
        simp only [Act.put, List.setIfInBounds_toArray, List.set_cons_zero, List.set_cons_succ]
        refine take_lawH 7 (some 59) (.agg y.cs.toArray) rfl rfl (by kernel_rfl) (by kernel_rfl) (by kernel_rfl) (fun _ _ _ h => h) (Or.inl ⟨by rfl, fun w' hw' => by exact exec_loadN 37 (.tmp 9) rfl _ rfl _ _ (load_cells rowy_spot hw'.1)⟩) hS ?_
        simp only [Act.put, List.setIfInBounds_toArray, List.set_cons_zero, List.set_cons_succ]
        refine take_lawH 9 (some 61) (.pointer (some ⟨wb.heap.size, 4, none⟩)) rfl rfl (by kernel_rfl) (by kernel_rfl) (by kernel_rfl) (fun _ _ _ h => h) (Or.inl ⟨by rfl, fun w' hw' => by go_simp⟩) hS ?_
        simp only [Act.put, List.setIfInBounds_toArray, List.set_cons_zero, List.set_cons_succ]
        refine take_lawH 10 (some 62) (.slice (some ⟨g, 0, none⟩) n cap) rfl rfl (by kernel_rfl) (by kernel_rfl) (by kernel_rfl) (fun _ _ _ h => h) (Or.inl ⟨by rfl, fun w' hw' => by exact exec_loadN 26 (.tmp 61) rfl _ rfl _ _ (load_cl hw'.2.1)⟩) hS ?_
        simp only [Act.put, List.setIfInBounds_toArray, List.set_cons_zero, List.set_cons_succ]
        refine take_lawH 11 (some 63) (.int .i64 (k : Int)) rfl rfl (by kernel_rfl) (by kernel_rfl) (by kernel_rfl) (fun _ _ _ h => h) (Or.inl ⟨by rfl, fun w' hw' => by rfl⟩) hS ?_
        simp only [Act.put, List.setIfInBounds_toArray, List.set_cons_zero, List.set_cons_succ]
        refine take_lawH 12 (some 64) (.pointer (some ⟨g, k * 16, none⟩)) rfl rfl (by kernel_rfl) (by kernel_rfl) (by kernel_rfl) (fun _ _ _ h => h) (Or.inl ⟨by rfl, fun w' hw' => by exact exec_idxC (.tmp 62) (.tmp 63) rfl g n cap k rfl rfl KN.out _⟩) hS ?_
        simp only [Act.put, List.setIfInBounds_toArray, List.set_cons_zero, List.set_cons_succ]
        refine take_lawH 13 (some 65) (.pointer (some ⟨g, k * 16 + 2, none⟩)) rfl rfl (by kernel_rfl) (by kernel_rfl) (by kernel_rfl) (fun _ _ _ h => h) (Or.inl ⟨by rfl, fun w' hw' => by go_simp⟩) hS ?_
        simp only [Act.put, List.setIfInBounds_toArray, List.set_cons_zero, List.set_cons_succ]
        refine take_lawH 14 (some 66) (.agg y.cs.toArray) rfl rfl (by kernel_rfl) (by kernel_rfl) (by kernel_rfl) (fun _ _ _ h => h) (Or.inl ⟨by rfl, fun w' hw' => by exact exec_loadN 49 (.tmp 65) rfl _ rfl _ _ (load_cells rowy_rspot hw'.2.2)⟩) hS ?_
        simp only [Act.put, List.setIfInBounds_toArray, List.set_cons_zero, List.set_cons_succ]
        refine wpAnyH_ready (rs := [8]) (by kernel_rfl) (by simp) ?_
        refine AllReadyH.cons rfl (fun K hK => ?_) AllReadyH.nil
        refine step_callW q1 (by rfl) (some 60) rfl 18 #[.tmp 59] _ rfl (fun _ _ => rfl) #[.agg y.cs.toArray] (by simp only [List.map_toArray, List.map_cons, List.map_nil]; rfl) (fun v9 w' => v9 = .agg y.cs.toArray ∧ Below q1.heap.size q1 w') ((of_any y q1).mono fun e w' ⟨h1, h2⟩ => ⟨_, h1, rfl, h2⟩) ?_
        rintro v9 q2 ⟨rfl, B9⟩
        have VM : Hid (Vr q2 wb.heap.size (rmc s (.slice (some ⟨g, 0, none⟩) n cap))) := VM.out.below B9 (range_lt VM.out.1 (Nat.succ_pos _))
        have VQ : Hid (Vr q2 QX y.cs) := VQ.out.below B9 (range_lt VQ.out.1 (Nat.succ_pos _))
        have BB : Hid (Below wb.heap.size wb q2) := BB.out.trans (B9.mono BB.out.size)
        have hS : q2.rangeAt QX 0 y.cs ∧ q2.cell? ⟨wb.heap.size, 4, none⟩ = some (.slice (some ⟨g, 0, none⟩) n cap) ∧ q2.rangeAt g (k * 16 + 2) y.cs := ⟨VQ.out.1, VM.out.cell 4 _ rfl, RX.out _ BB.out⟩
        clear B9
        refine hK.out _ _ hS (fun _ => ?_)
        simp only [Act.put, List.setIfInBounds_toArray, List.set_cons_zero, List.set_cons_succ]
        clear hK K
        refine take_lawH 15 (some 67) (.bool false) rfl rfl (by kernel_rfl) (by kernel_rfl) (by kernel_rfl) (fun _ _ _ h => h) (Or.inl ⟨by rfl, fun w' hw' => by go_simp⟩) hS ?_
        simp only [Act.put, List.setIfInBounds_toArray, List.set_cons_zero, List.set_cons_succ]
        refine take_lawH 16 (some 68) (.bool false) rfl rfl (by kernel_rfl) (by kernel_rfl) (by kernel_rfl) (fun _ _ _ h => h) (Or.inl ⟨by rfl, fun w' hw' => by rfl⟩) hS ?_
        simp only [Act.put, List.setIfInBounds_toArray, List.set_cons_zero, List.set_cons_succ]
        refine take_lawH 17 (some 69) (.bool false) rfl rfl (by kernel_rfl) (by kernel_rfl) (by kernel_rfl) (fun _ _ _ h => h) (Or.inl ⟨by rfl, fun w' hw' => by rfl⟩) hS ?_
        simp only [Act.put, List.setIfInBounds_toArray, List.set_cons_zero, List.set_cons_succ]
        refine take_lawH 18 (some 70) (.bool false) rfl rfl (by kernel_rfl) (by kernel_rfl) (by kernel_rfl) (fun _ _ _ h => h) (Or.inl ⟨by rfl, fun w' hw' => by rfl⟩) hS ?_
        simp only [Act.put, List.setIfInBounds_toArray, List.set_cons_zero, List.set_cons_succ]
        refine take_lawH 19 (some 71) (.bool true) rfl rfl (by kernel_rfl) (by kernel_rfl) (by kernel_rfl) (fun _ _ _ h => h) (Or.inl ⟨by rfl, fun w' hw' => by rfl⟩) hS ?_
        simp only [Act.put, List.setIfInBounds_toArray, List.set_cons_zero, List.set_cons_succ]
        refine take_lawH 20 (some 72) (.bool false) rfl rfl (by kernel_rfl) (by kernel_rfl) (by kernel_rfl) (fun _ _ _ h => h) (Or.inl ⟨by rfl, fun w' hw' => by go_simp⟩) hS ?_
        simp only [Act.put, List.setIfInBounds_toArray, List.set_cons_zero, List.set_cons_succ]
        refine take_lawH 21 (some 73) (.bool false) rfl rfl (by kernel_rfl) (by kernel_rfl) (by kernel_rfl) (fun _ _ _ h => h) (Or.inl ⟨by rfl, fun w' hw' => by rfl⟩) hS ?_
        simp only [Act.put, List.setIfInBounds_toArray, List.set_cons_zero, List.set_cons_succ]
        refine take_lawH 22 (some 74) (undef) rfl rfl (by kernel_rfl) (by kernel_rfl) (by kernel_rfl) (fun _ _ _ h => h) (Or.inr ⟨by rfl, rfl⟩) hS ?_
        simp only [Act.put, List.setIfInBounds_toArray, List.set_cons_zero, List.set_cons_succ]
        refine take_lawH 23 (some 75) (undef) rfl rfl (by kernel_rfl) (by kernel_rfl) (by kernel_rfl) (fun _ _ _ h => h) (Or.inr ⟨by rfl, rfl⟩) hS ?_
        simp only [Act.put, List.setIfInBounds_toArray, List.set_cons_zero, List.set_cons_succ]
        refine take_lawH 24 (some 76) (undef) rfl rfl (by kernel_rfl) (by kernel_rfl) (by kernel_rfl) (fun _ _ _ h => h) (Or.inr ⟨by rfl, rfl⟩) hS ?_
        simp only [Act.put, List.setIfInBounds_toArray, List.set_cons_zero, List.set_cons_succ]
        refine take_lawH 25 (some 77) (.bool false) rfl rfl (by kernel_rfl) (by kernel_rfl) (by kernel_rfl) (fun _ _ _ h => h) (Or.inl ⟨by rfl, fun w' hw' => by rfl⟩) hS ?_
        simp only [Act.put, List.setIfInBounds_toArray, List.set_cons_zero, List.set_cons_succ]
        refine take_lawH 26 (some 78) (.bool false) rfl rfl (by kernel_rfl) (by kernel_rfl) (by kernel_rfl) (fun _ _ _ h => h) (Or.inl ⟨by rfl, fun w' hw' => by rfl⟩) hS ?_
        simp only [Act.put, List.setIfInBounds_toArray, List.set_cons_zero, List.set_cons_succ]
        refine wpAnyH_done (by kernel_rfl) ?_ _
        go_wp2
        go_roundw
        case rel => exact ⟨j + 1, by omega, by omega, by go_num, VM, BB⟩
        case measure => simp [intOf]; omega
    · have l1 : decide (j ≤ (0 : Int)) = false := decide_eq_false hlt
      have l2 : ¬ j ≤ (0 : Int) := hlt
      go_wp2
      go_ret
      exact ⟨rfl, BB.out⟩
theorem same_any (w wb : World) (c : Nat) (d s : Nat → Nat) (f : Nat → Nat → Sp) (rb : Option Nat) (v : Value) (L : List Ce) (hk : Wk w wb c d s f rb v L) (ns : Int) : Calls Try.prog 13 #[pt c, .agg (rmc s v).toArray, .int .i64 ns] wb fun e w' => e = .returned (.bool true) ∧ Below wb.heap.size wb w' := by
  by_cases h1 : ns < 0
  · exact same_neg w wb c d s f rb v L hk ns h1
  by_cases h2 : 4 ≤ ns
  · exact same_far w wb c d s f rb v L hk ns h2
  obtain ⟨i, rfl⟩ : ∃ i : Nat, ns = (i : Int) := ⟨ns.toNat, by omega⟩
  exact same_in w wb c d s f rb v L hk i (by omega)
end Go.Proofs.Ytedmmpognhpbdaa.pm
