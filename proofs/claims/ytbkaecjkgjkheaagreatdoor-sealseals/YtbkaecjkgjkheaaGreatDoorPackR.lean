/- Texts put together (a claim holds few files). No claim of its own. -/
import Derived.Test.YtbkaecjkgjkheaaGreatDoorPackO
import Derived.Test.YtbkaecjkgjkheaaGreatDoorPackB
import Derived.Test.YtbkaecjkgjkheaaGreatDoorPackE
import Derived.Test.YtbkaecjkgjkheaaGreatDoorPackC
/- What the reference's Bytes, End and Read answer. No claim of its own. -/
namespace Go.Proofs.YtbkaecjkgjkheaaGreatDoor.he
open Go.RowKit Go.Proofs.YtbkaecjkgjkheaaGreatDoor.fa
set_option maxRecDepth 20000

section
variable {ops : Array Oper} {o : Oper} {a : Act} {Q : Exit → Act → World → Prop} {K : Act → World → Prop} {E : Prop}
/-- '[]byte{a, b, c, d}' -/
theorem step_lit4 (w : World) (hg : o.guard = none) (d : Option Tmp) (hd : o.dst = d) (x y z u : Operand) (hop : o.op = Op.buildSlice 22 4 #[(0, x), (1, y), (2, z), (3, u)]) (p q r s : Int) (hx : a.eval x = .int .u8 p) (hy : a.eval y = .int .u8 q) (hz : a.eval z = .int .u8 r) (hu : a.eval u = .int .u8 s)
    (hK : ∀ v w', Own w.heap.size w' v [p, q, r, s] → Below w.heap.size w w' → K (a.put d v) w') : if Region.wanted o (yielded ops a.tmps) = true then Oper.wp Tryz.prog o a w K Q else E := by
  have hw : Region.wanted o (yielded ops a.tmps) = true := by simp [Region.wanted, hg]
  rw [if_pos hw]
  subst hd
  have hrun : (Instr.buildSlice 22 4 #[(0, .int .u8 p), (1, .int .u8 q), (2, .int .u8 r), (3, .int .u8 s)]).run Tryz.prog w = .ok (.slice (some ⟨w.heap.size, 0, none⟩) 4 4) (w.alloc (.cells #[.int .u8 p, .int .u8 q, .int .u8 r, .int .u8 s] 5)) := by kernel_rfl
  unfold Oper.wp execOp
  simp only [hop, List.map_toArray, List.map_cons, List.map_nil, hx, hy, hz, hu, Sem.run_bind, Sem.run_pure, Result.andThen_ok, hrun]
  exact hK _ _ (World.ownsRow_lit (e := 5) (size := 1) (base := w.heap.size) w #[.int .u8 p, .int .u8 q, .int .u8 r, .int .u8 s] 4 (Nat.le_refl _) (by simp [maxLen]) rfl) ((Below.refl _ _).alloc (Nat.le_refl _) _)
end
theorem ld_u32 {w : World} {b p : Nat} {x : Int} (h : w.cell? ⟨b, p, none⟩ = some (.int .u32 x)) : (Instr.loadAt 23 (.pointer (some ⟨b, p, none⟩))).run Tryz.prog w = .ok (.int .u32 x) w := by
  simp only [Instr.loadAt, Instr.sureAddr, Sem.run_bind, Sem.run_pure, Result.andThen_ok, run_load1 w b p 23 .u32 x Tryz.underlying23 h]
theorem ld_int {w : World} {b p : Nat} {x : Int} (h : w.cell? ⟨b, p, none⟩ = some (.int .i64 x)) : (Instr.loadAt 3 (.pointer (some ⟨b, p, none⟩))).run Tryz.prog w = .ok (.int .i64 x) w := by
  simp only [Instr.loadAt, Instr.sureAddr, Sem.run_bind, Sem.run_pure, Result.andThen_ok, run_load1 w b p 3 .i64 x Tryz.underlying3 h]
theorem ld_u8 {w : World} {b p : Nat} {x : Int} (h : w.cell? ⟨b, p, none⟩ = some (.int .u8 x)) : (Instr.loadAt 5 (.pointer (some ⟨b, p, none⟩))).run Tryz.prog w = .ok (.int .u8 x) w := by
  simp only [Instr.loadAt, Instr.sureAddr, Sem.run_bind, Sem.run_pure, Result.andThen_ok, run_load1 w b p 5 .u8 x Tryz.underlying5 h]

set_option maxHeartbeats 4000000 in
theorem rbytes_own (k n c l e t : Int) (w : World) (h : Rh k n c) (hl : 0 ≤ l ∧ l ≤ 4294967295) (he : 0 ≤ e ∧ e ≤ 18446744073709551615) (ht : 0 ≤ t ∧ t ≤ 18446744073709551615) :
    Calls Tryz.prog 26 #[.agg (hv k n c l e t).toArray] w fun x w' => ∃ v, x = .returned v ∧ Own w.heap.size w' v (hb k n c l e t) ∧ Below w.heap.size w w' := by
  obtain ⟨r1, r2, r3, r4, r5, r6⟩ := h
  have k1 : IntKind.u8.wrap k = k := by rw [IntKind.wrap_u8]; omega
  have k2 : IntKind.u8.wrap n = n := by rw [IntKind.wrap_u8]; omega
  have k3 : IntKind.u8.wrap c = c := by rw [IntKind.wrap_u8]; omega
  have k4 : IntKind.u64.wrap l = l := by rw [IntKind.wrap_u64]; omega
  have S4 : Hid (∀ w, Calls Tryz.prog 44 #[.int .u64 l, .int .i64 4] w fun e w' => ∃ v, e = .returned v ∧ Byt w' v (be l 4) ∧ Below w.heap.size w w') := fun w => by
    have := rbig_any l 4 w (by omega)
    rw [clamp48.1] at this
    exact this
  have S8 : Hid (∀ w, Calls Tryz.prog 44 #[.int .u64 e, .int .i64 8] w fun e' w' => ∃ v, e' = .returned v ∧ Byt w' v (be e 8) ∧ Below w.heap.size w w') := fun w => by
    have := rbig_any e 8 w he
    rw [clamp48.2.1] at this
    exact this
  have S9 : Hid (∀ w, Calls Tryz.prog 44 #[.int .u64 t, .int .i64 8] w fun e' w' => ∃ v, e' = .returned v ∧ Byt w' v (be t 8) ∧ Below w.heap.size w w') := fun w => by
    have := rbig_any t 8 w ht
    rw [clamp48.2.1] at this
    exact this
  have LN : Hid ((be l 4).length = 4 ∧ (be e 8).length = 8 ∧ (be t 8).length = 8) := ⟨be_len _ _, be_len _ _, be_len _ _⟩
  have HE : Hid (([k, n, c, 0] ++ be l 4 ++ be e 8) ++ be t 8 = hb k n c l e t) := by
    show _ = _
    simp [hb]
  generalize hb k n c l e t = Z at *
  generalize be l 4 = X4 at *
  generalize be e 8 = X8 at *
  generalize be t 8 = X9 at *
  clear r1 r2 r3 r4 r5 r6 hl he ht
  have t0 : (0 : Nat) = 0 := rfl
  go_enter Tryz.func26, Tryz.ntmps26
  go_wp2_with (have q0 := t0; refine box_lawC _ (hv k n c l e t) rfl ?_; intro w1 V1 B1 s1; have HV : Hid (Vr w1 w.heap.size (hv k n c l e t)) := V1; clear V1 t0)
  refine wp_region_held_drew (S := fun w' => Below w1.heap.size w1 w') (by kernel_rfl) (Below.refl _ _).drew (fun hS => ?_)
  obtain ⟨x1, hx0⟩ : ∃ x, x = w1.drew := ⟨_, rfl⟩
  rw [← hx0] at hS  ⊢
  clear hx0
  refine take_lawH 0 (some 4) (.pointer (some ⟨w.heap.size, 0, none⟩)) rfl rfl (by kernel_rfl) (by kernel_rfl) (by kernel_rfl) (fun _ _ _ h => h) (Or.inl ⟨by rfl, fun w' hw' => by go_simp⟩) hS ?_
  simp only [Act.put, List.setIfInBounds_toArray, List.set_cons_zero, List.set_cons_succ]
  refine take_lawH 1 (some 5) (.int .i64 k) rfl rfl (by kernel_rfl) (by kernel_rfl) (by kernel_rfl) (fun _ _ _ h => h) (Or.inl ⟨by rfl, fun w' hw' => by exact exec_loadN 3 (.tmp 4) rfl _ rfl _ _ (ld_int ((HV.out.below hw' s1).cell 0 _ rfl))⟩) hS ?_
  simp only [Act.put, List.setIfInBounds_toArray, List.set_cons_zero, List.set_cons_succ]
  refine take_lawH 2 (some 6) (.int .u8 k) rfl rfl (by kernel_rfl) (by kernel_rfl) (by kernel_rfl) (fun _ _ _ h => h) (Or.inl ⟨by rfl, fun w' hw' => by go_simp⟩) hS ?_
  simp only [Act.put, List.setIfInBounds_toArray, List.set_cons_zero, List.set_cons_succ]
  refine take_lawH 3 (some 7) (.pointer (some ⟨w.heap.size, 1, none⟩)) rfl rfl (by kernel_rfl) (by kernel_rfl) (by kernel_rfl) (fun _ _ _ h => h) (Or.inl ⟨by rfl, fun w' hw' => by go_simp⟩) hS ?_
  simp only [Act.put, List.setIfInBounds_toArray, List.set_cons_zero, List.set_cons_succ]
  refine take_lawH 4 (some 8) (.int .i64 n) rfl rfl (by kernel_rfl) (by kernel_rfl) (by kernel_rfl) (fun _ _ _ h => h) (Or.inl ⟨by rfl, fun w' hw' => by exact exec_loadN 3 (.tmp 7) rfl _ rfl _ _ (ld_int ((HV.out.below hw' s1).cell 1 _ rfl))⟩) hS ?_
  simp only [Act.put, List.setIfInBounds_toArray, List.set_cons_zero, List.set_cons_succ]
  refine take_lawH 5 (some 9) (.int .u8 n) rfl rfl (by kernel_rfl) (by kernel_rfl) (by kernel_rfl) (fun _ _ _ h => h) (Or.inl ⟨by rfl, fun w' hw' => by go_simp⟩) hS ?_
  simp only [Act.put, List.setIfInBounds_toArray, List.set_cons_zero, List.set_cons_succ]
  refine take_lawH 6 (some 10) (.pointer (some ⟨w.heap.size, 2, none⟩)) rfl rfl (by kernel_rfl) (by kernel_rfl) (by kernel_rfl) (fun _ _ _ h => h) (Or.inl ⟨by rfl, fun w' hw' => by go_simp⟩) hS ?_
  simp only [Act.put, List.setIfInBounds_toArray, List.set_cons_zero, List.set_cons_succ]
  refine take_lawH 7 (some 11) (.int .i64 c) rfl rfl (by kernel_rfl) (by kernel_rfl) (by kernel_rfl) (fun _ _ _ h => h) (Or.inl ⟨by rfl, fun w' hw' => by exact exec_loadN 3 (.tmp 10) rfl _ rfl _ _ (ld_int ((HV.out.below hw' s1).cell 2 _ rfl))⟩) hS ?_
  simp only [Act.put, List.setIfInBounds_toArray, List.set_cons_zero, List.set_cons_succ]
  refine take_lawH 8 (some 12) (.int .u8 c) rfl rfl (by kernel_rfl) (by kernel_rfl) (by kernel_rfl) (fun _ _ _ h => h) (Or.inl ⟨by rfl, fun w' hw' => by go_simp⟩) hS ?_
  simp only [Act.put, List.setIfInBounds_toArray, List.set_cons_zero, List.set_cons_succ]
  refine take_lawH 10 (some 14) (.pointer (some ⟨w.heap.size, 3, none⟩)) rfl rfl (by kernel_rfl) (by kernel_rfl) (by kernel_rfl) (fun _ _ _ h => h) (Or.inl ⟨by rfl, fun w' hw' => by go_simp⟩) hS ?_
  simp only [Act.put, List.setIfInBounds_toArray, List.set_cons_zero, List.set_cons_succ]
  refine take_lawH 11 (some 15) (.int .u32 l) rfl rfl (by kernel_rfl) (by kernel_rfl) (by kernel_rfl) (fun _ _ _ h => h) (Or.inl ⟨by rfl, fun w' hw' => by exact exec_loadN 23 (.tmp 14) rfl _ rfl _ _ (ld_u32 ((HV.out.below hw' s1).cell 3 _ rfl))⟩) hS ?_
  simp only [Act.put, List.setIfInBounds_toArray, List.set_cons_zero, List.set_cons_succ]
  refine take_lawH 12 (some 16) (.int .u64 l) rfl rfl (by kernel_rfl) (by kernel_rfl) (by kernel_rfl) (fun _ _ _ h => h) (Or.inl ⟨by rfl, fun w' hw' => by go_simp⟩) hS ?_
  simp only [Act.put, List.setIfInBounds_toArray, List.set_cons_zero, List.set_cons_succ]
  refine wpAnyH_ready (rs := [9, 13]) (by kernel_rfl) (by simp) ?_
  refine AllReadyH.cons rfl (fun K hK => ?_) (AllReadyH.cons rfl (fun K hK => ?_) AllReadyH.nil)
  · refine step_lit4 _ rfl (some 13) rfl (.tmp 6) (.tmp 9) (.tmp 12) (.const (.int .u8 0)) rfl k n c 0 rfl rfl rfl rfl ?_
    intro lv x2 y9 hb
    have OL : Hid (Own w1.heap.size x2 lv [k, n, c, 0]) := own_less y9 hS.size
    have hS : Below w1.heap.size w1 x2 := hS.trans (hb.mono hS.size)
    clear hb y9
    refine hK.out _ _ hS (fun _ => ?_)
    simp only [Act.put, List.setIfInBounds_toArray, List.set_cons_zero, List.set_cons_succ]
    clear hK K
    refine wpAnyH_ready (rs := [13]) (by kernel_rfl) (by simp) ?_
    refine AllReadyH.cons rfl (fun K hK => ?_) AllReadyH.nil
    refine step_callW _ (by rfl) (some 17) rfl 44 #[.tmp 16, .const (.int .i64 4)] #[24, 3] rfl (fun q w' => by rfl) #[.int .u64 l, .int .i64 4] (by simp only [List.map_toArray, List.map_cons, List.map_nil]; rfl) (fun u w' => (Byt w' u X4) ∧ Below x2.heap.size x2 w') ?_ ?_
    · exact S4.out x2
    rintro bv x3 ⟨y9, hb⟩
    have OL : Hid (Own w1.heap.size x3 lv [k, n, c, 0]) := own_low OL.out hb
    have YB : Hid (Byt x3 bv X4) := y9
    have hS : Below w1.heap.size w1 x3 := hS.trans (hb.mono hS.size)
    clear hb y9
    refine hK.out _ _ hS (fun _ => ?_)
    simp only [Act.put, List.setIfInBounds_toArray, List.set_cons_zero, List.set_cons_succ]
    clear hK K
    refine wpAnyH_ready (rs := [14]) (by kernel_rfl) (by simp) ?_
    refine AllReadyH.cons rfl (fun K hK => ?_) AllReadyH.nil
    refine step_pushs _ rfl (some 18) rfl (.tmp 13) (.tmp 17) rfl w1.heap.size hS.size _ _ [k, n, c, 0] X4 rfl rfl OL.out YB.out (by simp) (by have := LN.out; omega) ?_
    intro pv x4 y9 hb
    have OP : Hid (Own w1.heap.size x4 pv ([k, n, c, 0] ++ X4)) := y9
    have hS : Below w1.heap.size w1 x4 := hS.trans hb
    clear hb y9
    refine hK.out _ _ hS (fun _ => ?_)
    simp only [Act.put, List.setIfInBounds_toArray, List.set_cons_zero, List.set_cons_succ]
    clear hK K
    refine take_lawH 15 (some 3) (pv) rfl rfl (by kernel_rfl) (by kernel_rfl) (by kernel_rfl) (fun _ _ _ h => h) (Or.inl ⟨by rfl, fun w' hw' => by rfl⟩) hS ?_
    simp only [Act.put, List.setIfInBounds_toArray, List.set_cons_zero, List.set_cons_succ]
    refine wpAnyH_done (by kernel_rfl) ?_ _
    have HV : Hid (Vr x4 w.heap.size (hv k n c l e t)) := HV.out.below hS s1
    have BB : Hid (Below w.heap.size w x4) := B1.trans (hS.mono (by omega))
    have z9 : w1.heap.size ≤ x4.heap.size := hS.size
    have c4 := HV.out.cell 4 _ rfl
    clear hS
    have t1 : (0 : Nat) = 0 := rfl
    go_wp2_with (first
      | (have q4 := t4; at_builtin; refine pushs_law _ rfl (.tmp 24) (.tmp 27) rfl w1.heap.size (by omega) _ _ _ X9 rfl rfl OP.out Y9.out (by have := LN.out; simp; omega) ?_; intro v8 w8 o8 B8; have OP : Hid (Own w1.heap.size w8 v8 (([k, n, c, 0] ++ X4 ++ X8) ++ X9)) := o8; have BB : Hid (Below w.heap.size w w8) := BB.out.trans (B8.mono (by omega)); clear o8 B8 t4)
      | (have q3 := t3; go_at_call 44; refine (S9.out _).mono ?_; rintro e9 w7 ⟨v7, rfl, y7, B7⟩; have Y9 : Hid (Byt w7 v7 X9) := y7; have OP : Hid (Own w1.heap.size w7 v6 ([k, n, c, 0] ++ X4 ++ X8)) := own_low OP.out B7; have BB : Hid (Below w.heap.size w w7) := BB.out.trans (B7.mono BB.out.size); have z7 : w1.heap.size ≤ w7.heap.size := Nat.le_trans z6 B7.size; clear y7 B7 t3; have t4 : (0 : Nat) = 0 := rfl)
      | (have q2 := t2; at_builtin; refine pushs_law _ rfl (.tmp 19) (.tmp 22) rfl w1.heap.size (by omega) _ _ _ X8 rfl rfl OP.out Y8.out (by have := LN.out; simp; omega) ?_; intro v6 w6 o6 B6; have OP : Hid (Own w1.heap.size w6 v6 (([k, n, c, 0] ++ X4) ++ X8)) := o6; have c5 := (HV.out.below B6 s1).cell 5 _ rfl; have BB : Hid (Below w.heap.size w w6) := BB.out.trans (B6.mono (by omega)); have z6 : w1.heap.size ≤ w6.heap.size := Nat.le_trans z5 B6.size; clear o6 B6 t2; have t3 : (0 : Nat) = 0 := rfl)
      | (have q1 := t1; go_at_call 44; refine (S8.out _).mono ?_; rintro e9 w5 ⟨v5, rfl, y5, B5⟩; have Y8 : Hid (Byt w5 v5 X8) := y5; have OP : Hid (Own w1.heap.size w5 pv ([k, n, c, 0] ++ X4)) := own_low OP.out B5; have HV : Hid (Vr w5 w.heap.size (hv k n c l e t)) := HV.out.below B5 (by omega); have BB : Hid (Below w.heap.size w w5) := BB.out.trans (B5.mono BB.out.size); have z5 : w1.heap.size ≤ w5.heap.size := Nat.le_trans z9 B5.size; clear y5 B5 t1 c4; have t2 : (0 : Nat) = 0 := rfl))
    go_ret
    exact ⟨_, rfl, by have z := OP.out; rw [HE.out] at z; exact own_less z (by omega), BB.out⟩
  · refine step_callW _ (by rfl) (some 17) rfl 44 #[.tmp 16, .const (.int .i64 4)] #[24, 3] rfl (fun q w' => by rfl) #[.int .u64 l, .int .i64 4] (by simp only [List.map_toArray, List.map_cons, List.map_nil]; rfl) (fun u w' => (Byt w' u X4) ∧ Below x1.heap.size x1 w') ?_ ?_
    · exact S4.out x1
    rintro bv x5 ⟨y9, hb⟩
    have YB : Hid (Byt x5 bv X4) := y9
    have hS : Below w1.heap.size w1 x5 := hS.trans (hb.mono hS.size)
    clear hb y9
    refine hK.out _ _ hS (fun _ => ?_)
    simp only [Act.put, List.setIfInBounds_toArray, List.set_cons_zero, List.set_cons_succ]
    clear hK K
    refine wpAnyH_ready (rs := [9]) (by kernel_rfl) (by simp) ?_
    refine AllReadyH.cons rfl (fun K hK => ?_) AllReadyH.nil
    refine step_lit4 _ rfl (some 13) rfl (.tmp 6) (.tmp 9) (.tmp 12) (.const (.int .u8 0)) rfl k n c 0 rfl rfl rfl rfl ?_
    intro lv x6 y9 hb
    have YB : Hid (Byt x6 bv X4) := YB.out.below hb
    have OL : Hid (Own w1.heap.size x6 lv [k, n, c, 0]) := own_less y9 hS.size
    have hS : Below w1.heap.size w1 x6 := hS.trans (hb.mono hS.size)
    clear hb y9
    refine hK.out _ _ hS (fun _ => ?_)
    simp only [Act.put, List.setIfInBounds_toArray, List.set_cons_zero, List.set_cons_succ]
    clear hK K
    refine wpAnyH_ready (rs := [14]) (by kernel_rfl) (by simp) ?_
    refine AllReadyH.cons rfl (fun K hK => ?_) AllReadyH.nil
    refine step_pushs _ rfl (some 18) rfl (.tmp 13) (.tmp 17) rfl w1.heap.size hS.size _ _ [k, n, c, 0] X4 rfl rfl OL.out YB.out (by simp) (by have := LN.out; omega) ?_
    intro pv x7 y9 hb
    have OP : Hid (Own w1.heap.size x7 pv ([k, n, c, 0] ++ X4)) := y9
    have hS : Below w1.heap.size w1 x7 := hS.trans hb
    clear hb y9
    refine hK.out _ _ hS (fun _ => ?_)
    simp only [Act.put, List.setIfInBounds_toArray, List.set_cons_zero, List.set_cons_succ]
    clear hK K
    refine take_lawH 15 (some 3) (pv) rfl rfl (by kernel_rfl) (by kernel_rfl) (by kernel_rfl) (fun _ _ _ h => h) (Or.inl ⟨by rfl, fun w' hw' => by rfl⟩) hS ?_
    simp only [Act.put, List.setIfInBounds_toArray, List.set_cons_zero, List.set_cons_succ]
    refine wpAnyH_done (by kernel_rfl) ?_ _
    have HV : Hid (Vr x7 w.heap.size (hv k n c l e t)) := HV.out.below hS s1
    have BB : Hid (Below w.heap.size w x7) := B1.trans (hS.mono (by omega))
    have z9 : w1.heap.size ≤ x7.heap.size := hS.size
    have c4 := HV.out.cell 4 _ rfl
    clear hS
    have t1 : (0 : Nat) = 0 := rfl
    go_wp2_with (first
      | (have q4 := t4; at_builtin; refine pushs_law _ rfl (.tmp 24) (.tmp 27) rfl w1.heap.size (by omega) _ _ _ X9 rfl rfl OP.out Y9.out (by have := LN.out; simp; omega) ?_; intro v8 w8 o8 B8; have OP : Hid (Own w1.heap.size w8 v8 (([k, n, c, 0] ++ X4 ++ X8) ++ X9)) := o8; have BB : Hid (Below w.heap.size w w8) := BB.out.trans (B8.mono (by omega)); clear o8 B8 t4)
      | (have q3 := t3; go_at_call 44; refine (S9.out _).mono ?_; rintro e9 w7 ⟨v7, rfl, y7, B7⟩; have Y9 : Hid (Byt w7 v7 X9) := y7; have OP : Hid (Own w1.heap.size w7 v6 ([k, n, c, 0] ++ X4 ++ X8)) := own_low OP.out B7; have BB : Hid (Below w.heap.size w w7) := BB.out.trans (B7.mono BB.out.size); have z7 : w1.heap.size ≤ w7.heap.size := Nat.le_trans z6 B7.size; clear y7 B7 t3; have t4 : (0 : Nat) = 0 := rfl)
      | (have q2 := t2; at_builtin; refine pushs_law _ rfl (.tmp 19) (.tmp 22) rfl w1.heap.size (by omega) _ _ _ X8 rfl rfl OP.out Y8.out (by have := LN.out; simp; omega) ?_; intro v6 w6 o6 B6; have OP : Hid (Own w1.heap.size w6 v6 (([k, n, c, 0] ++ X4) ++ X8)) := o6; have c5 := (HV.out.below B6 s1).cell 5 _ rfl; have BB : Hid (Below w.heap.size w w6) := BB.out.trans (B6.mono (by omega)); have z6 : w1.heap.size ≤ w6.heap.size := Nat.le_trans z5 B6.size; clear o6 B6 t2; have t3 : (0 : Nat) = 0 := rfl)
      | (have q1 := t1; go_at_call 44; refine (S8.out _).mono ?_; rintro e9 w5 ⟨v5, rfl, y5, B5⟩; have Y8 : Hid (Byt w5 v5 X8) := y5; have OP : Hid (Own w1.heap.size w5 pv ([k, n, c, 0] ++ X4)) := own_low OP.out B5; have HV : Hid (Vr w5 w.heap.size (hv k n c l e t)) := HV.out.below B5 (by omega); have BB : Hid (Below w.heap.size w w5) := BB.out.trans (B5.mono BB.out.size); have z5 : w1.heap.size ≤ w5.heap.size := Nat.le_trans z9 B5.size; clear y5 B5 t1 c4; have t2 : (0 : Nat) = 0 := rfl))
    go_ret
    exact ⟨_, rfl, by have z := OP.out; rw [HE.out] at z; exact own_less z (by omega), BB.out⟩
end Go.Proofs.YtbkaecjkgjkheaaGreatDoor.he

/- What the reference's Sector, Big, Tweak and Tag answer. No claim of its own. -/
namespace Go.Proofs.YtbkaecjkgjkheaaGreatDoor.se
open Go.RowKit Go.Proofs.YtbkaecjkgjkheaaGreatDoor.fa Go.Proofs.YtbkaecjkgjkheaaGreatDoor.he
set_option maxRecDepth 20000

set_option maxHeartbeats 1000000 in
theorem rsector_any (w : World) (v : Value) (xs : List Int) (h : Byt w v xs) (b : Bool) (hb : b = decide (16 ≤ xs.length ∧ xs.length ≤ 4096 ∧ xs.length % 16 = 0)) :
    Calls Tryz.prog 9 #[v] w fun e w' => e = .returned (.bool b) ∧ w' = w := by
  obtain ⟨ao, cap, rfl, h1, h2, -, -, -⟩ := h
  obtain ⟨n, hn⟩ : ∃ n, n = xs.length := ⟨_, rfl⟩
  rw [← hn] at hb h1 ⊢
  clear hn
  have HB : Hid (b = decide (16 ≤ n ∧ n ≤ 4096 ∧ n % 16 = 0)) := hb
  clear hb
  obtain ⟨m, hm⟩ : ∃ m, m = n % 16 := ⟨_, rfl⟩
  have HM : Hid (m = n % 16) := hm
  have d1 : (n : Int).tmod 16 = (m : Int) := by rw [Int.tmod_eq_emod_of_nonneg (by omega)]; omega
  have d2 : IntKind.i64.wrap (m : Int) = m := by rw [IntKind.wrap_i64]; omega
  clear hm
  by_cases a1 : 16 ≤ n
  · have l1 : (16 : Int) ≤ (n : Int) := by omega
    by_cases a2 : n ≤ 4096
    · have l2 : (n : Int) ≤ 4096 := by omega
      by_cases a3 : m = 0
      · subst a3
        go_enter Tryz.func9, Tryz.ntmps9
        go_wp2
        go_ret
        exact ⟨ret_bool (by rw [HB.out, ← HM.out]; simp; omega), rfl⟩
      · have l3 : ¬ ((m : Int) = 0) := by omega
        go_enter Tryz.func9, Tryz.ntmps9
        go_wp2
        go_ret
        have e0 : ((m : Int) == 0) = false := by simpa using a3
        exact ⟨ret_bool (by rw [HB.out, ← HM.out, e0]; simp [a3]), rfl⟩
    · have l2 : ¬ (n : Int) ≤ 4096 := by omega
      go_enter Tryz.func9, Tryz.ntmps9
      go_wp2
      go_ret
      exact ⟨ret_bool (by rw [HB.out]; simp; omega), rfl⟩
  · have l1 : ¬ (16 : Int) ≤ (n : Int) := by omega
    go_enter Tryz.func9, Tryz.ntmps9
    go_wp2
    go_ret
    exact ⟨ret_bool (by rw [HB.out]; simp; omega), rfl⟩

set_option maxHeartbeats 2000000 in
theorem bak_own (v : Value) (xs : List Int) (w : World) (hb : Byt w v xs) (hl : xs.length ≤ 1048576) :
    Calls Tryz.prog 84 #[v] w fun e w' => ∃ v', e = .returned v' ∧ Own w.heap.size w' v' xs.reverse ∧ Below w.heap.size w w' := by
  obtain ⟨ao, cap, rfl, h1, h2, h3, -, h5⟩ := hb
  have H5 : Hid (0 < xs.length → ∃ b off, ao = some ⟨b, off, none⟩ ∧ ∀ t, t < xs.length → w.cell? ⟨b, off + t, none⟩ = some (.int .u8 (gb xs t))) := h5
  clear h5 h3
  go_enter Tryz.func84, Tryz.ntmps84
  go_wp2
  go_loopw [3, 4] (fun v i wr => ∃ k : Nat, k ≤ xs.length ∧ i = .int .i64 ((xs.length : Int) - 1 - k) ∧ Own w.heap.size wr v (xs.reverse.take k) ∧ Below w.heap.size w wr) (fun _ i _ => (intOf i + 1).toNat)
  case atStart => exact ⟨0, Nat.zero_le _, by simp, Own.empty w (Nat.le_refl _), (Below.refl _ _).alloc (Nat.le_refl _) _⟩
  case round =>
    obtain ⟨k, hk, rfl, hown, hbel⟩ := hrel
    have hsz := hbel.size
    by_cases hlt : k < xs.length
    · obtain ⟨b, off, rfl, hca⟩ := H5.out (by omega)
      have c0 := hca (xs.length - 1 - k) (by omega)
      have c1 : wr.cell? ⟨b, off + (xs.length - 1 - k), none⟩ = some (.int .u8 (gb xs (xs.length - 1 - k))) := by rw [hbel.cell (World.block_lt_of_cell? w _ c0)]; exact c0
      have e2 : ((xs.length : Int) - 1 - (k : Int)).toNat = xs.length - 1 - k := by omega
      clear c0 hca
      go_wp2_with (at_builtin; refine push_law wr rfl (.tmp 13) (.tmp 18) rfl w.heap.size (by omega) _ _ (gb xs (xs.length - 1 - k)) rfl rfl hown (by simp; omega) ?_; intro v' w1 hown' hbel')
      rw [← rev_snoc xs k hlt] at hown'
      go_roundw
      case rel => exact ⟨k + 1, by omega, by go_num, hown', hbel.trans hbel'⟩
      case measure => simp [intOf]; omega
    · have hks : k = xs.length := by omega
      subst hks
      rw [List.take_of_length_le (by simp)] at hown
      go_wp2
      go_ret
      exact ⟨_, rfl, hown, hbel⟩

set_option maxHeartbeats 2000000 in
theorem rbig_own (x : Int) (w : World) (hn : 0 ≤ x ∧ x ≤ 18446744073709551615) :
    Calls Tryz.prog 44 #[.int .u64 x, .int .i64 8] w fun e w' => ∃ v, e = .returned v ∧ Own w.heap.size w' v (le x 8).reverse ∧ Below w.heap.size w w' := by
  have SL : Hid (Calls Tryz.prog 85 #[.int .u64 x, .int .i64 8] w fun e w' => ∃ v, e = .returned v ∧ Byt w' v (le x 8) ∧ Below w.heap.size w w') := by
    have := rlittle_any x 8 w hn
    rw [clamp48.2.1] at this
    exact this
  clear hn
  go_enter Tryz.func44, Tryz.ntmps44
  go_wp2_with (first
    | (go_at_call 85; refine SL.out.mono ?_; rintro e w1 ⟨v1, rfl, hv1, hb1⟩; have hz1 := hb1.size)
    | (go_at_call 84; refine (bak_own v1 _ _ hv1 (by rw [le_len]; omega)).mono ?_; rintro e w2 ⟨v2, rfl, hv2, hb2⟩))
  go_ret
  exact ⟨_, rfl, own_less hv2 hz1, hb1.trans (hb2.mono hz1)⟩

set_option maxHeartbeats 4000000 in
theorem rztweak_any (k n c l e t : Int) (w : World) (hH : Hb l e t) :
    Calls Tryz.prog 23 #[.agg (he.hv k n c l e t).toArray] w fun x w' => ∃ r, x = .returned r ∧ Byt w' r (twk e t) ∧ Below w.heap.size w w' := by
  have HE : Hid (0 ≤ e ∧ e ≤ 18446744073709551615) := hH.2.1
  have HQ : Hid (0 ≤ t ∧ t ≤ 18446744073709551615) := hH.2.2
  clear hH
  have t0 : (0 : Nat) = 0 := rfl
  go_enter Tryz.func23, Tryz.ntmps23
  go_wp2_with (first
    | (have q0 := t0; refine box_lawC _ (he.hv k n c l e t) rfl ?_; intro w1 X9 B9 l9; have HB0 : Hid (Vr w1 w.heap.size (he.hv k n c l e t)) := X9; have BB : Hid (Below w.heap.size w w1) := B9; have hb0_0 := HB0.out.cell 0 _ rfl; have hb0_1 := HB0.out.cell 1 _ rfl; have hb0_2 := HB0.out.cell 2 _ rfl; have hb0_3 := HB0.out.cell 3 _ rfl; have hb0_4 := HB0.out.cell 4 _ rfl; have hb0_5 := HB0.out.cell 5 _ rfl; clear X9 B9 l9; clear t0; have t1 : (1 : Nat) = 1 := rfl))
  clear hb0_0 hb0_1 hb0_2 hb0_3 hb0_4 hb0_5
  refine wp_region_held_drew (S := fun w' => Below w1.heap.size w1 w') (by kernel_rfl) (Below.refl _ _).drew (fun hS => ?_)
  obtain ⟨x1, hx0⟩ : ∃ x, x = w1.drew := ⟨_, rfl⟩
  rw [← hx0] at hS  ⊢
  clear hx0
  refine take_lawH 0 (some 3) (.pointer (some ⟨w.heap.size, 4, none⟩)) rfl rfl (by kernel_rfl) (by kernel_rfl) (by kernel_rfl) (fun _ _ _ h => h) (Or.inl ⟨by rfl, fun w' hw' => by go_simp⟩) hS ?_
  simp only [Act.put, List.setIfInBounds_toArray, List.set_cons_zero, List.set_cons_succ]
  refine take_lawH 1 (some 4) (.int .u64 e) rfl rfl (by kernel_rfl) (by kernel_rfl) (by kernel_rfl) (fun _ _ _ h => h) (Or.inl ⟨by rfl, fun w' hw' => by exact exec_loadN 24 (.tmp 3) rfl _ rfl _ _ (ld_u64 ((HB0.out.below hw' (range_lt HB0.out.1 (Nat.succ_pos _))).cell 4 _ rfl))⟩) hS ?_
  simp only [Act.put, List.setIfInBounds_toArray, List.set_cons_zero, List.set_cons_succ]
  refine take_lawH 3 (some 6) (.pointer (some ⟨w.heap.size, 5, none⟩)) rfl rfl (by kernel_rfl) (by kernel_rfl) (by kernel_rfl) (fun _ _ _ h => h) (Or.inl ⟨by rfl, fun w' hw' => by go_simp⟩) hS ?_
  simp only [Act.put, List.setIfInBounds_toArray, List.set_cons_zero, List.set_cons_succ]
  refine take_lawH 4 (some 7) (.int .u64 t) rfl rfl (by kernel_rfl) (by kernel_rfl) (by kernel_rfl) (fun _ _ _ h => h) (Or.inl ⟨by rfl, fun w' hw' => by exact exec_loadN 24 (.tmp 6) rfl _ rfl _ _ (ld_u64 ((HB0.out.below hw' (range_lt HB0.out.1 (Nat.succ_pos _))).cell 5 _ rfl))⟩) hS ?_
  simp only [Act.put, List.setIfInBounds_toArray, List.set_cons_zero, List.set_cons_succ]
  refine wpAnyH_ready (rs := [2]) (by kernel_rfl) (by simp) ?_
  refine AllReadyH.cons rfl (fun K hK => ?_) AllReadyH.nil
  refine step_callW _ (by rfl) (some 5) rfl 44 #[.tmp 4, .const (.int .i64 8)] #[24, 3] rfl (fun q w' => by rfl) #[.int .u64 e, .int .i64 8] (by simp only [List.map_toArray, List.map_cons, List.map_nil]; rfl) (fun u w' => Own x1.heap.size w' u (le e 8).reverse ∧ Below x1.heap.size x1 w') ?_ ?_
  · exact (rbig_own e x1 HE.out)
  rintro a x2 ⟨y1, hb⟩
  have Oa : Hid (Own w1.heap.size x2 a (le e 8).reverse) := own_less y1 hS.size
  have hS : Below w1.heap.size w1 x2 := hS.trans (hb.mono hS.size)
  clear y1 hb
  refine hK.out _ _ hS (fun _ => ?_)
  simp only [Act.put, List.setIfInBounds_toArray, List.set_cons_zero, List.set_cons_succ]
  clear hK K
  refine wpAnyH_ready (rs := [5]) (by kernel_rfl) (by simp) ?_
  refine AllReadyH.cons rfl (fun K hK => ?_) AllReadyH.nil
  refine step_callW _ (by rfl) (some 8) rfl 44 #[.tmp 7, .const (.int .i64 8)] #[24, 3] rfl (fun q w' => by rfl) #[.int .u64 t, .int .i64 8] (by simp only [List.map_toArray, List.map_cons, List.map_nil]; rfl) (fun u w' => Own x2.heap.size w' u (le t 8).reverse ∧ Below x2.heap.size x2 w') ?_ ?_
  · exact (rbig_own t x2 HQ.out)
  rintro b x3 ⟨y1, hb⟩
  have Ob : Hid (Own w1.heap.size x3 b (le t 8).reverse) := own_less y1 hS.size
  have Oa : Hid (Own w1.heap.size x3 a (le e 8).reverse) := own_low Oa.out hb
  have hS : Below w1.heap.size w1 x3 := hS.trans (hb.mono hS.size)
  clear y1 hb
  refine hK.out _ _ hS (fun _ => ?_)
  simp only [Act.put, List.setIfInBounds_toArray, List.set_cons_zero, List.set_cons_succ]
  clear hK K
  refine wpAnyH_ready (rs := [6]) (by kernel_rfl) (by simp) ?_
  refine AllReadyH.cons rfl (fun K hK => ?_) AllReadyH.nil
  refine step_pushs _ rfl (some 9) rfl (.tmp 5) (.tmp 8) rfl w1.heap.size hS.size _ _ _ _ rfl rfl Oa.out (Ob.out.byt (rev_all (le_all t 8))) (by simp [le_len]) (by simp [le_len]) ?_
  intro rv x4 O9 hb
  have HR : Hid (Own w1.heap.size x4 rv (twk e t)) := O9
  have hS : Below w1.heap.size w1 x4 := hS.trans hb
  clear hb O9
  refine hK.out _ _ hS (fun _ => ?_)
  simp only [Act.put, List.setIfInBounds_toArray, List.set_cons_zero, List.set_cons_succ]
  clear hK K
  refine take_lawH 7 (some 2) (rv) rfl rfl (by kernel_rfl) (by kernel_rfl) (by kernel_rfl) (fun _ _ _ h => h) (Or.inl ⟨by rfl, fun w' hw' => by rfl⟩) hS ?_
  simp only [Act.put, List.setIfInBounds_toArray, List.set_cons_zero, List.set_cons_succ]
  refine wpAnyH_done (by kernel_rfl) ?_ _
  have BZ : Hid (Below w.heap.size w _) := BB.out.trans (hS.mono BB.out.size)
  clear hS
  go_wp2
  go_ret
  exact ⟨_, rfl, HR.out.byt (twk_all e t), BZ.out⟩

theorem sl_kg {w : World} {v : Value} {ks : List Int} (h : Byt w v ks) (hl : ks.length = 96) : Byt w (sl v 64 96) (kg ks) := by
  have := sl_byt h 64 96 (by omega) (by omega)
  rwa [List.take_of_length_le (by omega)] at this

set_option maxHeartbeats 4000000 in
theorem rztag_any (kv : Value) (ks : List Int) (k n c l e t : Int) (sv : Value) (ss : List Int) (w : World) (hk : Byt w kv ks) (hl : ks.length = 96) (hr : Rh k n c) (hH : Hb l e t) (hs : Byt w sv ss) (hz : ss.length ≤ 10000) :
    Calls Tryz.prog 13 #[kv, .agg (he.hv k n c l e t).toArray, sv] w fun x w' => ∃ r, x = .returned r ∧ Byt w' r (mc.tagB (mc.blk (kg ks)) ((he.hb k n c l e t) ++ ss)) ∧ Below w.heap.size w w' := by
  have HK : Hid (Byt w kv ks) := hk
  have HL : Hid (ks.length = 96) := hl
  obtain ⟨ko, kc, rfl⟩ := byt_form hk hl
  have HV : Hid (Byt w sv ss) := hs
  obtain ⟨so, sc, rfl⟩ : ∃ ao cap, sv = .slice ao ss.length cap := (by obtain ⟨ao, cap, e, _⟩ := hs; exact ⟨ao, cap, e⟩)
  have HZ : Hid (ss.length ≤ 10000) := hz
  have SB : Hid (∀ w0, Calls Tryz.prog 26 #[.agg (he.hv k n c l e t).toArray] w0 fun x w' => ∃ v, x = .returned v ∧ Own w0.heap.size w' v (he.hb k n c l e t) ∧ Below w0.heap.size w0 w') := fun w0 => rbytes_own k n c l e t w0 hr hH.1 hH.2.1 hH.2.2
  have HN : Hid ((he.hb k n c l e t).length = 24) := hb_len _ _ _ _ _ _
  have HA : Hid (AllB ((he.hb k n c l e t) ++ ss)) := allB_app (hb_all hr l e t) hs.all
  generalize (he.hb k n c l e t) = HY at SB HN HA ⊢
  clear hk hl hs hz hr hH
  have t0 : (0 : Nat) = 0 := rfl
  go_enter Tryz.func13, Tryz.ntmps13
  go_wp2_with (first
    | (have q0 := t0; refine box_lawC _ (he.hv k n c l e t) rfl ?_; intro w1 X9 B9 l9; have HB0 : Hid (Vr w1 w.heap.size (he.hv k n c l e t)) := X9; have BB : Hid (Below w.heap.size w w1) := B9; have hb0_0 := HB0.out.cell 0 _ rfl; have hb0_1 := HB0.out.cell 1 _ rfl; have hb0_2 := HB0.out.cell 2 _ rfl; have hb0_3 := HB0.out.cell 3 _ rfl; have hb0_4 := HB0.out.cell 4 _ rfl; have hb0_5 := HB0.out.cell 5 _ rfl; clear X9 B9 l9; clear t0; have t1 : (1 : Nat) = 1 := rfl))
  clear hb0_0 hb0_1 hb0_2 hb0_3 hb0_4 hb0_5
  refine wp_region_held_drew (S := fun w' => Below w1.heap.size w1 w') (by kernel_rfl) (Below.refl _ _).drew (fun hS => ?_)
  obtain ⟨x1, hx0⟩ : ∃ x, x = w1.drew := ⟨_, rfl⟩
  rw [← hx0] at hS  ⊢
  clear hx0
  refine take_lawH 0 (some 7) (.slice ko 96 kc) rfl rfl (by kernel_rfl) (by kernel_rfl) (by kernel_rfl) (fun _ _ _ h => h) (Or.inl ⟨by rfl, fun w' hw' => by rfl⟩) hS ?_
  simp only [Act.put, List.setIfInBounds_toArray, List.set_cons_zero, List.set_cons_succ]
  refine take_lawH 1 (some 8) (sl (.slice ko 96 kc) 64 96) rfl rfl (by kernel_rfl) (by kernel_rfl) (by kernel_rfl) (fun _ _ _ h => h) (Or.inl ⟨by rfl, fun w' hw' => by exact exec_part (.tmp 7) (.const (.int .i64 64)) (.const (.int .i64 96)) rfl _ ks _ HK.out 64 96 rfl rfl rfl (by omega) (by have := HL.out; omega) _⟩) hS ?_
  simp only [Act.put, List.setIfInBounds_toArray, List.set_cons_zero, List.set_cons_succ]
  refine take_lawH 2 (some 9) (.agg (he.hv k n c l e t).toArray) rfl rfl (by kernel_rfl) (by kernel_rfl) (by kernel_rfl) (fun _ _ _ h => h) (Or.inl ⟨by rfl, fun w' hw' => by exact exec_loadN 26 (.tmp 4) rfl _ rfl _ _ (load_cells rowy_head (HB0.out.below hw' (range_lt HB0.out.1 (Nat.succ_pos _))).1)⟩) hS ?_
  simp only [Act.put, List.setIfInBounds_toArray, List.set_cons_zero, List.set_cons_succ]
  refine take_lawH 4 (some 11) (.slice so ss.length sc) rfl rfl (by kernel_rfl) (by kernel_rfl) (by kernel_rfl) (fun _ _ _ h => h) (Or.inl ⟨by rfl, fun w' hw' => by rfl⟩) hS ?_
  simp only [Act.put, List.setIfInBounds_toArray, List.set_cons_zero, List.set_cons_succ]
  refine wpAnyH_ready (rs := [3]) (by kernel_rfl) (by simp) ?_
  refine AllReadyH.cons rfl (fun K hK => ?_) AllReadyH.nil
  refine step_callW _ (by rfl) (some 10) rfl 26 #[.tmp 9] #[26] rfl (fun q w' => by rfl) #[.agg (he.hv k n c l e t).toArray] (by simp only [List.map_toArray, List.map_cons, List.map_nil]; rfl) (fun u w' => Own x1.heap.size w' u HY ∧ Below x1.heap.size x1 w') ?_ ?_
  · exact SB.out _
  rintro hv9 x2 ⟨y1, hb⟩
  have OH : Hid (Own w1.heap.size x2 hv9 HY) := own_less y1 hS.size
  have hS : Below w1.heap.size w1 x2 := hS.trans (hb.mono hS.size)
  clear y1 hb
  refine hK.out _ _ hS (fun _ => ?_)
  simp only [Act.put, List.setIfInBounds_toArray, List.set_cons_zero, List.set_cons_succ]
  clear hK K
  refine wpAnyH_ready (rs := [5]) (by kernel_rfl) (by simp) ?_
  refine AllReadyH.cons rfl (fun K hK => ?_) AllReadyH.nil
  refine step_pushs _ rfl (some 12) rfl (.tmp 10) (.tmp 11) rfl w1.heap.size hS.size _ _ HY ss rfl rfl OH.out (HV.out.below (BB.out.trans (hS.mono BB.out.size))) (by rw [HN.out]; omega) (by have := HZ.out; omega) ?_
  intro tv9 x3 O9 hb
  have OT : Hid (Own w1.heap.size x3 tv9 (HY ++ ss)) := O9
  have hS : Below w1.heap.size w1 x3 := hS.trans hb
  clear hb O9
  refine hK.out _ _ hS (fun _ => ?_)
  simp only [Act.put, List.setIfInBounds_toArray, List.set_cons_zero, List.set_cons_succ]
  clear hK K
  refine wpAnyH_ready (rs := [6]) (by kernel_rfl) (by simp) ?_
  refine AllReadyH.cons rfl (fun K hK => ?_) AllReadyH.nil
  refine step_callW _ (by rfl) (some 13) rfl 25 #[.tmp 8, .tmp 12] #[22, 22] rfl (fun q w' => by rfl) #[sl (.slice ko 96 kc) 64 96, tv9] (by simp only [List.map_toArray, List.map_cons, List.map_nil]; rfl) (fun u w' => Byt w' u (mc.tagB (mc.blk (kg ks)) (HY ++ ss)) ∧ Below x3.heap.size x3 w') ?_ ?_
  · exact mc.rtag_any _ _ _ _ _ (sl_kg (HK.out.below (BB.out.trans (hS.mono BB.out.size))) HL.out) (OT.out.byt HA.out) (by rw [kg_len HL.out]; omega) (by rw [List.length_append, HN.out]; have := HZ.out; omega)
  rintro rv x4 ⟨y1, hb⟩
  have HR : Hid (Byt x4 rv (mc.tagB (mc.blk (kg ks)) (HY ++ ss))) := y1
  have hS : Below w1.heap.size w1 x4 := hS.trans (hb.mono hS.size)
  clear y1 hb
  refine hK.out _ _ hS (fun _ => ?_)
  simp only [Act.put, List.setIfInBounds_toArray, List.set_cons_zero, List.set_cons_succ]
  clear hK K
  refine take_lawH 7 (some 6) (rv) rfl rfl (by kernel_rfl) (by kernel_rfl) (by kernel_rfl) (fun _ _ _ h => h) (Or.inl ⟨by rfl, fun w' hw' => by rfl⟩) hS ?_
  simp only [Act.put, List.setIfInBounds_toArray, List.set_cons_zero, List.set_cons_succ]
  refine wpAnyH_done (by kernel_rfl) ?_ _
  have BZ : Hid (Below w.heap.size w _) := BB.out.trans (hS.mono BB.out.size)
  clear hS
  go_wp2
  go_ret
  exact ⟨_, rfl, HR.out, BZ.out⟩
end Go.Proofs.YtbkaecjkgjkheaaGreatDoor.se

/- What the reference's Sub answers. No claim of its own. -/
namespace Go.Proofs.YtbkaecjkgjkheaaGreatDoor
open Go.RowKit
set_option maxRecDepth 20000

set_option maxHeartbeats 1000000 in
theorem rsbit_any (n i : Nat) (w : World) (hn : n < 256) (hi : i < 16) :
    Calls Tryz.prog 46 #[.int .u8 n, .int .i64 i] w fun e w' => e = .returned (.int .i64 (b8 n i)) ∧ w' = w := by
  have HB : Hid (b8 n i = hv n (i % 8) % 2) := rfl
  obtain ⟨m, hm⟩ : ∃ m, m = i % 8 := ⟨_, rfl⟩
  rw [← hm] at HB
  have hm8 : m < 8 := by omega
  have r1 : ((i : Int)).tmod 8 = (m : Int) := by rw [Int.tmod_eq_emod_of_nonneg (by omega)]; omega
  have r2 : (i : Int) % 8 = (m : Int) := by omega
  generalize b8 n i = q at *
  clear hm
  go_enter Tryz.func46, Tryz.ntmps46
  go_wp2
  go_loop [5, 6] (fun x j => ∃ k : Nat, k ≤ m ∧ j = .int .i64 k ∧ x = .int .i64 (hv n k)) (fun _ j => m - (intOf j).toNat)
  case atStart => exact ⟨0, Nat.zero_le _, rfl, by simp [hv]⟩
  case round =>
    obtain ⟨k, hk, rfl, rfl⟩ := hrel
    have h1 := hv_le n k
    have h2 := hv_succ n k
    by_cases hlt : k < m
    · have H2 : Hid (hv n k / 2 = hv n (k + 1)) := h2
      clear h2
      go_wp2
      go_round
      case rel => exact ⟨k + 1, by omega, by go_num, by rw [← H2.out]; simp⟩
      case measure => simp [intOf]; omega
    · have hks : k = m := by omega
      subst hks
      clear h2
      go_wp2
      go_ret
      exact ⟨ret_int (by rw [HB.out]; simp), rfl⟩

set_option maxHeartbeats 4000000 in
theorem rsub_any (a : Nat) (w : World) (ha : a < 256) :
    Calls Tryz.prog 24 #[.int .u8 a] w fun e w' => e = .returned (.int .u8 (sb a)) ∧ w' = w := by
  have HI : Hid (∀ w, Calls Tryz.prog 45 #[.int .u8 a] w fun e w' => e = .returned (.int .u8 (iv a)) ∧ w' = w) := fun w => rinv_any a w ha
  have HE : Hid (so (iv a) 8 = sb a ∧ sb a < 256) := ⟨so_iv a ha, sb_lt a ha⟩
  have HV : Hid (iv a < 256) := iv_lt a
  generalize sb a = s at *
  generalize iv a = v at *
  clear ha
  go_enter Tryz.func24, Tryz.ntmps24
  go_wp2_with (go_at_call 45; refine (HI.out _).mono ?_; rintro e w' ⟨rfl, hw⟩; obtain rfl := hw.symm)
  go_loop [4, 5, 6] (fun o p i => ∃ k q : Nat, k ≤ 8 ∧ i = .int .i64 k ∧ p = .int .i64 q ∧ q = 2 ^ k ∧ o = .int .i64 (so v k)) (fun _ _ i => 8 - (intOf i).toNat)
  case atStart => exact ⟨0, 1, Nat.zero_le _, rfl, rfl, rfl, rfl⟩
  case round =>
    obtain ⟨k, q, hk, rfl, rfl, hq, rfl⟩ := hrel
    have hq2 : q ≤ 256 := by rw [hq]; exact (show 2 ^ k ≤ 2 ^ 8 from Nat.pow_le_pow_right (by omega) (by omega))
    have ho := so_lt v k
    rw [← hq] at ho
    have HQ : Hid (q = 2 ^ k) := hq
    clear hq
    by_cases hlt : k < 8
    · have C0 : Hid (∀ w, Calls Tryz.prog 46 #[.int .u8 v, .int .i64 k] w fun e w' => e = .returned (.int .i64 (b8 v k)) ∧ w' = w) := fun w => rsbit_any v k w HV.out (by omega)
      obtain ⟨k4, hk4⟩ : ∃ m : Nat, k + 4 = m := ⟨_, rfl⟩
      have hi4 : (k : Int) + 4 = (k4 : Int) := by omega
      have C4 : Hid (∀ w, Calls Tryz.prog 46 #[.int .u8 v, .int .i64 k4] w fun e w' => e = .returned (.int .i64 (b8 v (k + 4))) ∧ w' = w) := by
        rw [hk4]; exact fun w => rsbit_any v k4 w HV.out (by omega)
      obtain ⟨k5, hk5⟩ : ∃ m : Nat, k + 5 = m := ⟨_, rfl⟩
      have hi5 : (k : Int) + 5 = (k5 : Int) := by omega
      have C5 : Hid (∀ w, Calls Tryz.prog 46 #[.int .u8 v, .int .i64 k5] w fun e w' => e = .returned (.int .i64 (b8 v (k + 5))) ∧ w' = w) := by
        rw [hk5]; exact fun w => rsbit_any v k5 w HV.out (by omega)
      obtain ⟨k6, hk6⟩ : ∃ m : Nat, k + 6 = m := ⟨_, rfl⟩
      have hi6 : (k : Int) + 6 = (k6 : Int) := by omega
      have C6 : Hid (∀ w, Calls Tryz.prog 46 #[.int .u8 v, .int .i64 k6] w fun e w' => e = .returned (.int .i64 (b8 v (k + 6))) ∧ w' = w) := by
        rw [hk6]; exact fun w => rsbit_any v k6 w HV.out (by omega)
      obtain ⟨k7, hk7⟩ : ∃ m : Nat, k + 7 = m := ⟨_, rfl⟩
      have hi7 : (k : Int) + 7 = (k7 : Int) := by omega
      have C7 : Hid (∀ w, Calls Tryz.prog 46 #[.int .u8 v, .int .i64 k7] w fun e w' => e = .returned (.int .i64 (b8 v (k + 7))) ∧ w' = w) := by
        rw [hk7]; exact fun w => rsbit_any v k7 w HV.out (by omega)
      have C9 : Hid (∀ w, Calls Tryz.prog 46 #[.int .u8 99, .int .i64 k] w fun e w' => e = .returned (.int .i64 (b8 99 k)) ∧ w' = w) := fun w => rsbit_any 99 k w (by omega) (by omega)
      have hS : so v (k + 1) = so v k + 2 ^ k * sbt v k := rfl
      rw [← HQ.out] at hS
      have l0 := b8_lt v k
      have l4 := b8_lt v (k + 4)
      have l5 := b8_lt v (k + 5)
      have l6 := b8_lt v (k + 6)
      have l7 := b8_lt v (k + 7)
      have l9 := b8_lt 99 k
      have HD : Hid (sbt v k = b8 v k ^^^ b8 v (k + 4) ^^^ b8 v (k + 5) ^^^ b8 v (k + 6) ^^^ b8 v (k + 7) ^^^ b8 99 k) := rfl
      generalize b8 v k = e0 at *
      generalize b8 v (k + 4) = e4 at *
      generalize b8 v (k + 5) = e5 at *
      generalize b8 v (k + 6) = e6 at *
      generalize b8 v (k + 7) = e7 at *
      generalize b8 99 k = e9 at *
      have x4 := i64_xor_nat e0 e4 (by omega) (by omega)
      have y4 := xor2 e0 e4 l0 l4
      obtain ⟨f4, hf4⟩ : ∃ f, f = e0 ^^^ e4 := ⟨_, rfl⟩
      rw [← hf4] at x4 y4 HD
      have x5 := i64_xor_nat f4 e5 (by omega) (by omega)
      have y5 := xor2 f4 e5 y4 l5
      obtain ⟨f5, hf5⟩ : ∃ f, f = f4 ^^^ e5 := ⟨_, rfl⟩
      rw [← hf5] at x5 y5 HD
      have x6 := i64_xor_nat f5 e6 (by omega) (by omega)
      have y6 := xor2 f5 e6 y5 l6
      obtain ⟨f6, hf6⟩ : ∃ f, f = f5 ^^^ e6 := ⟨_, rfl⟩
      rw [← hf6] at x6 y6 HD
      have x7 := i64_xor_nat f6 e7 (by omega) (by omega)
      have y7 := xor2 f6 e7 y6 l7
      obtain ⟨f7, hf7⟩ : ∃ f, f = f6 ^^^ e7 := ⟨_, rfl⟩
      rw [← hf7] at x7 y7 HD
      have x9 := i64_xor_nat f7 e9 (by omega) (by omega)
      have y9 := xor2 f7 e9 y7 l9
      obtain ⟨f9, hf9⟩ : ∃ f, f = f7 ^^^ e9 := ⟨_, rfl⟩
      rw [← hf9] at x9 y9 HD
      rw [HD.out] at hS
      have HS : Hid (so v (k + 1) = so v k + q * f9) := hS
      have hm : 0 ≤ (q : Int) * (f9 : Int) ∧ (q : Int) * (f9 : Int) ≤ 256 := by
        rw [← Int.natCast_mul]
        have : q * f9 ≤ q * 1 := Nat.mul_le_mul_left _ (by omega)
        omega
      clear hk4 hk5 hk6 hk7 hS HD hf4 hf5 hf6 hf7 hf9 l0 l4 l5 l6 l7 l9 y4 y5 y6 y7 y9
      generalize so v k = o at *
      go_wp2_with (first
        | (go_at_call_of 46 (Value.int IntKind.u8 (v : Int)); go_at_call_of 46 (Value.int IntKind.i64 (k : Int)); refine (C0.out _).mono ?_; rintro e w' ⟨rfl, hw⟩; obtain rfl := hw.symm)
        | (go_at_call_of 46 (Value.int IntKind.i64 (k7 : Int)); refine (C7.out _).mono ?_; rintro e w' ⟨rfl, hw⟩; obtain rfl := hw.symm)
        | (go_at_call_of 46 (Value.int IntKind.i64 (k6 : Int)); refine (C6.out _).mono ?_; rintro e w' ⟨rfl, hw⟩; obtain rfl := hw.symm)
        | (go_at_call_of 46 (Value.int IntKind.i64 (k5 : Int)); refine (C5.out _).mono ?_; rintro e w' ⟨rfl, hw⟩; obtain rfl := hw.symm)
        | (go_at_call_of 46 (Value.int IntKind.i64 (k4 : Int)); refine (C4.out _).mono ?_; rintro e w' ⟨rfl, hw⟩; obtain rfl := hw.symm)
        | (go_at_call_of 46 (Value.int IntKind.i64 (k : Int)); refine (C9.out _).mono ?_; rintro e w' ⟨rfl, hw⟩; obtain rfl := hw.symm))
      go_round
      case rel => exact ⟨k + 1, q * 2, by omega, by go_num, by go_num, by rw [HQ.out, Nat.pow_succ], by rw [HS.out]; simp⟩
      case measure => simp [intOf]; omega
    · have hk8 : k = 8 := by omega
      subst hk8
      rw [HE.out.1]
      have hs := HE.out.2
      clear HE ho
      go_wp2
      go_ret
      exact ⟨ret_int (by omega), rfl⟩
end Go.Proofs.YtbkaecjkgjkheaaGreatDoor

/- What the reference's Table, Turned and put answer. No claim of its own. -/
namespace Go.Proofs.YtbkaecjkgjkheaaGreatDoor
open Go.RowKit
set_option maxRecDepth 20000

set_option maxRecDepth 20000 in
set_option maxHeartbeats 2000000 in
theorem rtable_any (w : World) :
    Calls Tryz.prog 11 #[] w fun e w' => ∃ v, e = .returned v ∧ Byt w' v ptab ∧ Below w.heap.size w w' := by
  have HG : Hid (∀ a, a < 256 → gb ptab a = (sb a : Int)) := gb_p
  have HL : Hid (ptab.length = 256) := ptab_len
  have HA : Hid (AllB ptab) := pAll
  have HS : Hid (∀ k, k < 256 → ptab.take (k + 1) = ptab.take k ++ [(sb k : Int)]) := fun k hk => by
    rw [take_snoc_gb ptab k (by rw [ptab_len]; exact hk), gb_p k hk]
  generalize ptab = tb at *
  go_enter Tryz.func11, Tryz.ntmps11
  go_wp2
  go_loopw [1, 2] (fun v i wr => ∃ k : Nat, k ≤ 256 ∧ i = .int .i64 k ∧ Own w.heap.size wr v (tb.take k) ∧ Below w.heap.size w wr) (fun _ i _ => 256 - (intOf i).toNat)
  case atStart => exact ⟨0, Nat.zero_le _, rfl, Own.empty w (Nat.le_refl _), (Below.refl _ _).alloc (Nat.le_refl _) _⟩
  case round =>
    obtain ⟨k, hk, rfl, hown, hbel⟩ := hrel
    have hsz := hbel.size
    have k0 : (0 : Int) ≤ (k : Int) := by omega
    by_cases hlt : k < 256
    · have k1 : (k : Int) < 256 := by omega
      have uw : IntKind.u8.wrap (k : Int) = (k : Int) := by rw [IntKind.wrap_u8']; omega
      have R1 : Hid (∀ w0, Calls Tryz.prog 24 #[.int .u8 k] w0 fun e w' => e = .returned (.int .u8 (sb k)) ∧ w' = w0) := fun w0 => rsub_any k w0 hlt
      have SN : Hid (tb.take (k + 1) = tb.take k ++ [(sb k : Int)]) := HS.out k hlt
      have LN : Hid ((tb.take k).length ≤ 1099511627776) := by show _ ≤ _; rw [List.length_take, HL.out]; omega
      have HO : Hid (Own w.heap.size wr u1 (tb.take k)) := hown
      clear hown
      generalize sb k = y at *
      go_wp2_with (first
        | (go_at_call 24; refine (R1.out _).mono ?_; rintro e w2 ⟨rfl, hw⟩; obtain rfl := hw.symm)
        | (at_builtin; refine push_law wr rfl (.tmp 8) (.tmp 12) rfl w.heap.size (by omega) _ _ (y : Int) rfl rfl HO.out LN.out ?_; intro v' w1 hown' hbel'))
      rw [← SN.out] at hown'
      go_roundw
      case rel => exact ⟨k + 1, by omega, by go_num, hown', hbel.trans hbel'⟩
      case measure => simp [intOf]; omega
    · have hk256 : k = 256 := by omega
      subst hk256
      rw [List.take_of_length_le (by rw [HL.out]; omega)] at hown
      go_wp2
      go_ret
      exact ⟨_, rfl, hown.byt HA.out, hbel⟩

/-- as far as the first k bytes are put back -/
def prb (k : Nat) : List Int := (List.range 256).map fun t => if sk t < k then (sk t : Int) else 0
theorem prb_len (k : Nat) : (prb k).length = 256 := by simp [prb]
theorem gb_prb (k t : Nat) (h : t < 256) : gb (prb k) t = if sk t < k then (sk t : Int) else 0 := range_gb _ _ _ h
theorem prb_zero : prb 0 = List.replicate 256 0 := ext_gb (by rw [prb_len, List.length_replicate]) fun t ht => by
  rw [prb_len] at ht
  rw [gb_prb _ _ ht, if_neg (by omega)]
  unfold gb
  rw [List.getD_eq_getElem?_getD, List.getElem?_replicate, if_pos ht]; rfl
theorem prb_end : prb 256 = btab := ext_gb (by rw [prb_len, btab_len]) fun t ht => by
  rw [prb_len] at ht
  rw [gb_prb _ _ ht, if_pos (sk_lt t ht), gb_b t ht]
theorem prb_set (k : Nat) (h : k < 256) : (prb k).set (sb k) (k : Int) = prb (k + 1) := ext_gb (by simp [prb]) fun t ht => by
  rw [List.length_set, prb_len] at ht
  rw [gb_set _ _ _ _ (by rw [prb_len]; exact ht), gb_prb _ _ ht, gb_prb _ _ ht]
  by_cases e : sb k = t
  · have : sk t = k := by rw [← e, sk_sb k h]
    rw [if_pos e, this, if_pos (by omega)]
  · rw [if_neg e]
    have : sk t ≠ k := fun h' => e (by rw [← h', sb_sk t ht])
    by_cases h1 : sk t < k
    · rw [if_pos h1, if_pos (by omega)]
    · rw [if_neg h1, if_neg (by omega)]

set_option maxRecDepth 20000 in
set_option maxHeartbeats 2000000 in
theorem rturnedT_any (v : Value) (w : World) (hv : Byt w v ptab) :
    Calls Tryz.prog 92 #[v] w fun e w' => ∃ v', e = .returned v' ∧ Byt w' v' btab ∧ Below w.heap.size w w' := by
  obtain ⟨ao, ca, rfl, ha1, ha2, ha3, -, ha5⟩ := hv
  rw [ptab_len] at ha1 ha5 ⊢
  obtain ⟨bb, bo, rfl, hcell⟩ := ha5 (by omega)
  have HC : Hid (∀ t, t < 256 → w.cell? ⟨bb, bo + t, none⟩ = some (.int .u8 (sb t : Int))) := fun t ht => by
    rw [hcell t ht, gb_p t ht]
  have hbw : bb < w.heap.size := World.block_lt_of_cell? w _ (hcell 0 (by omega))
  have HE : Hid (prb 256 = btab) := prb_end
  have HA : Hid (AllB btab ∧ btab.length = 256) := ⟨bAll, btab_len⟩
  generalize btab = tb at *
  clear hcell ha5 ha3
  go_enter Tryz.func92, Tryz.ntmps92
  go_wp2_with (at_make; refine make_law _ rfl _ _ rfl w.heap.size (Nat.le_refl _) 256 256 rfl rfl rfl (by omega) ?_; intro w1 hown B1 s1; have HO1 : Hid (Ar w1 w.heap.size 0 .u8 (List.replicate 256 0)) := hown.arG; clear hown)
  generalize hg0 : w.heap.size = g0 at *
  go_loopw [4] (fun i wr => ∃ k : Nat, k ≤ 256 ∧ i = .int .i64 k ∧ Ar wr g0 0 .u8 (prb k) ∧ Below g0 w wr) (fun i _ => 256 - (intOf i).toNat)
  case atStart => exact ⟨0, Nat.zero_le _, rfl, by rw [prb_zero]; exact HO1.out, B1⟩
  case round =>
    obtain ⟨k, hk, rfl, hA, hB⟩ := hrel
    have k0 : (0 : Int) ≤ (k : Int) := by omega
    by_cases hlt : k < 256
    · have k1 : (k : Int) < 256 := by omega
      have u1 : IntKind.u8.wrap (k : Int) = (k : Int) := by rw [IntKind.wrap_u8']; omega
      have s1 := sb_lt k hlt
      have s2 : (0 : Int) ≤ (sb k : Int) := by omega
      have s3 : (sb k : Int) < 256 := by omega
      have c1 : wr.cell? ⟨bb, bo + k, none⟩ = some (.int .u8 (sb k : Int)) := (hB.cell hbw).trans (HC.out k hlt)
      have c3 := hA.cell0 (sb k) (by rw [prb_len]; exact s1)
      have c4 := hA.free0 (sb k) (by rw [prb_len]; exact s1)
      have hA2 : Hid (Ar (wr.setCell ⟨g0, sb k, none⟩ (.int .u8 (k : Int))) g0 0 .u8 (prb (k + 1))) := by
        have h := hA.set0 (sb k) (by rw [prb_len]; exact s1) (k : Int)
        rw [prb_set k hlt] at h
        exact h
      have hB2 : Hid (Below g0 w (wr.setCell ⟨g0, sb k, none⟩ (.int .u8 (k : Int)))) := hB.setCell (Nat.le_refl _) _
      clear hA
      generalize sb k = y at *
      go_wp2
      go_roundw
      case rel => exact ⟨k + 1, by omega, by go_num, hA2.out, hB2.out⟩
      case measure => simp [intOf]; omega
    · have hk256 : k = 256 := by omega
      subst hk256
      rw [HE.out] at hA
      go_wp2
      go_ret
      exact ⟨_, rfl, hA.bytG HA.out.1 256 256 HA.out.2 (by omega) (by omega), by rw [hg0]; exact hB⟩

set_option maxRecDepth 20000 in
set_option maxHeartbeats 2000000 in
theorem rput_any (v tv : Value) (xs tab : List Int) (w : World) (hv : Byt w v xs) (ht : Byt w tv tab) (hl : tab.length = 256) (hmax : xs.length ≤ 1048576) :
    Calls Tryz.prog 79 #[v, tv] w fun e w' => ∃ v', e = .returned v' ∧ Byt w' v' (looked tab xs) ∧ Below w.heap.size w w' := by
  obtain ⟨ao, ca, rfl, ha1, ha2, ha3, -, ha5⟩ := hv
  obtain ⟨to_, ta, rfl, ht1, ht2, ht3, -, ht5⟩ := ht
  rw [hl] at ht1 ht5 ⊢
  obtain ⟨tb, tf, rfl, htc⟩ := ht5 (by omega)
  have HA5 : Hid (0 < xs.length → ∃ b off, ao = some ⟨b, off, none⟩ ∧ ∀ t, t < xs.length → w.cell? ⟨b, off + t, none⟩ = some (.int .u8 (gb xs t))) := ha5
  have HA : Hid (AllB xs) := ha3
  have HT : Hid (∀ t, t < 256 → w.cell? ⟨tb, tf + t, none⟩ = some (.int .u8 (gb tab t))) := htc
  have htw : tb < w.heap.size := World.block_lt_of_cell? w _ (htc 0 (by omega))
  have HZ : Hid ((looked tab xs).length = xs.length) := looked_len tab xs
  have HG : Hid (∀ k, k < xs.length → (looked tab xs).take (k + 1) = (looked tab xs).take k ++ [gb tab (gb xs k).toNat]) := fun k hk => by
    rw [take_snoc_gb _ k (by rw [looked_len]; exact hk), looked_gb tab xs k hk]
  have HZA : Hid (AllB (looked tab xs)) := looked_all tab xs ht3
  generalize looked tab xs = zs at *
  clear ha5 ha3 ht3 ht5 htc hl
  go_enter Tryz.func79, Tryz.ntmps79
  go_wp2
  go_loopw [5, 6] (fun v i wr => ∃ k : Nat, k ≤ xs.length ∧ i = .int .i64 k ∧ Own w.heap.size wr v (zs.take k) ∧ Below w.heap.size w wr) (fun _ i _ => xs.length - (intOf i).toNat)
  case atStart => exact ⟨0, Nat.zero_le _, rfl, Own.empty w (Nat.le_refl _), (Below.refl _ _).alloc (Nat.le_refl _) _⟩
  case round =>
    obtain ⟨k, hk, rfl, hown, hbel⟩ := hrel
    have hsz := hbel.size
    have k0 : (0 : Int) ≤ (k : Int) := by omega
    by_cases hlt : k < xs.length
    · obtain ⟨b, off, rfl, hca⟩ := HA5.out (by omega)
      have n1 := World.block_lt_of_cell? w _ (hca k hlt)
      have c1 : wr.cell? ⟨b, off + k, none⟩ = some (.int .u8 (gb xs k)) := (hbel.cell n1).trans (hca k hlt)
      obtain ⟨x, hx⟩ : ∃ x : Nat, gb xs k = (x : Int) := ⟨(gb xs k).toNat, by have := HA.out k; omega⟩
      have hx8 : x < 256 := by have := HA.out k; omega
      rw [hx] at c1
      have c2 : wr.cell? ⟨tb, tf + x, none⟩ = some (.int .u8 (gb tab x)) := (hbel.cell htw).trans (HT.out x hx8)
      have SN : Hid (zs.take (k + 1) = zs.take k ++ [gb tab x]) := by
        have := HG.out k hlt
        rw [hx, Int.toNat_natCast] at this
        exact this
      have lk : (k : Int) < (xs.length : Int) := by omega
      have x0 : (0 : Int) ≤ (x : Int) := by omega
      have x1 : (x : Int) < 256 := by omega
      have LN : Hid ((zs.take k).length ≤ 1099511627776) := by show _ ≤ _; rw [List.length_take, HZ.out]; omega
      have HO : Hid (Own w.heap.size wr u5 (zs.take k)) := hown
      clear hca hx hx8 hown
      generalize gb tab x = y at *
      go_wp2_with (at_builtin; refine push_law wr rfl (.tmp 14) (.tmp 22) rfl w.heap.size (by omega) _ _ y rfl rfl HO.out LN.out ?_; intro v' w1 hown' hbel')
      rw [← SN.out] at hown'
      go_roundw
      case rel => exact ⟨k + 1, by omega, by go_num, hown', hbel.trans hbel'⟩
      case measure => simp [intOf]; omega
    · have hks : k = xs.length := by omega
      rw [List.take_of_length_le (by rw [HZ.out]; omega)] at hown
      go_wp2
      go_ret
      exact ⟨_, rfl, hown.byt HZA.out, hbel⟩
end Go.Proofs.YtbkaecjkgjkheaaGreatDoor

