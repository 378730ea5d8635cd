/- Parts of the proof: what KeyboxNil reaches. No claim of its own. -/
import Derived.Lib.AppendZeros
import Derived.Lib.SliceRun
import Derived.Deep.RegionHeld3
import Derived.Deep.DeepCutAuto
import Derived.WalkKit
import Derived.WalkSmall
import Derived.ProofKit
import Derived.OpenShut
import Derived.BigQuiet
import Derived.Deep.QuietTactic
import Derived.Deep.WholeRow
import Derived.Deep.MidRow
import Derived.Laws.StructEq
import Derived.Laws.AppendOwnNone
import Derived.Deep.DeepHandedRow
import Derived.Lib.LaidTab
import Derived.Deep.Matrix
import Derived.Test.YtakibiigcdgohaaGreatDoorA00
import Derived.Test.YtakibiigcdgohaaGreatDoorA01
import Derived.Test.YtakibiigcdgohaaGreatDoorA02
import Derived.Test.YtakibiigcdgohaaGreatDoorA03
import Derived.Test.YtakibiigcdgohaaGreatDoorA04
import Derived.Test.YtakibiigcdgohaaGreatDoorA05
import Derived.Test.YtakibiigcdgohaaGreatDoorA09
import Derived.Test.YtakibiigcdgohaaGreatDoorA10
import Derived.Test.YtakibiigcdgohaaGreatDoorA11
import Derived.Test.YtakibiigcdgohaaGreatDoorA12
import Derived.Test.YtakibiigcdgohaaGreatDoorA13
namespace Go.Proofs.YtakibiigcdgohaaGreatDoor.he
open Go.RowKit Go.Proofs.YtakibiigcdgohaaGreatDoor.fa
set_option maxRecDepth 20000
section
variable {ops : Array Oper} {o : Oper} {a : Act} {Q : Exit → Act → World → Prop} {K : Act → World → Prop} {E : Prop}
theorem step_lit4 (w : World) (hg : o.guard = none) (d : Option Tmp) (hd : o.dst = d) (x y z u : Operand) (hop : o.op = Op.buildSlice 35 4 #[(0, x), (1, y), (2, z), (3, u)]) (p q r s : Int) (hx : a.eval x = .int .u8 p) (hy : a.eval y = .int .u8 q) (hz : a.eval z = .int .u8 r) (hu : a.eval u = .int .u8 s)
    (hK : ∀ v w', Own w.heap.size w' v [p, q, r, s] → Below w.heap.size w w' → K (a.put d v) w') : if Region.wanted o (yielded ops a.tmps) = true then Oper.wp Tryz.prog o a w K Q else E := by
  have hw : Region.wanted o (yielded ops a.tmps) = true := by simp [Region.wanted, hg]
  rw [if_pos hw]
  subst hd
  have hrun : (Instr.buildSlice 35 4 #[(0, .int .u8 p), (1, .int .u8 q), (2, .int .u8 r), (3, .int .u8 s)]).run Tryz.prog w = .ok (.slice (some ⟨w.heap.size, 0, none⟩) 4 4) (w.alloc (.cells #[.int .u8 p, .int .u8 q, .int .u8 r, .int .u8 s] 5)) := by kernel_rfl
  unfold Oper.wp execOp
  simp only [hop, List.map_toArray, List.map_cons, List.map_nil, hx, hy, hz, hu, Sem.run_bind, Sem.run_pure, Result.andThen_ok, hrun]
  exact hK _ _ (World.ownsRow_lit (e := 5) (size := 1) (base := w.heap.size) w #[.int .u8 p, .int .u8 q, .int .u8 r, .int .u8 s] 4 (Nat.le_refl _) (by simp [maxLen]) rfl) ((Below.refl _ _).alloc (Nat.le_refl _) _)
end
theorem ld_u32 {w : World} {b p : Nat} {x : Int} (h : w.cell? ⟨b, p, none⟩ = some (.int .u32 x)) : (Instr.loadAt 117 (.pointer (some ⟨b, p, none⟩))).run Tryz.prog w = .ok (.int .u32 x) w := by
  simp only [Instr.loadAt, Instr.sureAddr, Sem.run_bind, Sem.run_pure, Result.andThen_ok, run_load1 w b p 117 .u32 x Tryz.underlying117 h]
theorem ld_int {w : World} {b p : Nat} {x : Int} (h : w.cell? ⟨b, p, none⟩ = some (.int .i64 x)) : (Instr.loadAt 3 (.pointer (some ⟨b, p, none⟩))).run Tryz.prog w = .ok (.int .i64 x) w := by
  simp only [Instr.loadAt, Instr.sureAddr, Sem.run_bind, Sem.run_pure, Result.andThen_ok, run_load1 w b p 3 .i64 x Tryz.underlying3 h]
set_option maxHeartbeats 4000000 in
theorem rbytes_own (k n c l e t : Int) (w : World) (h : Rh k n c) (hl : 0 ≤ l ∧ l ≤ 4294967295) (he : 0 ≤ e ∧ e ≤ 18446744073709551615) (ht : 0 ≤ t ∧ t ≤ 18446744073709551615) :
    Calls Tryz.prog 97 #[.agg (hv k n c l e t).toArray] w fun x w' => ∃ v, x = .returned v ∧ Own w.heap.size w' v (hb k n c l e t) ∧ Below w.heap.size w w' := by
  obtain ⟨r1, r2, r3, r4, r5, r6⟩ := h
  have k1 : IntKind.u8.wrap k = k := by rw [IntKind.wrap_u8]; omega
  have k2 : IntKind.u8.wrap n = n := by rw [IntKind.wrap_u8]; omega
  have k3 : IntKind.u8.wrap c = c := by rw [IntKind.wrap_u8]; omega
  have k4 : IntKind.u64.wrap l = l := by rw [IntKind.wrap_u64]; omega
  have S4 : Hid (∀ w, Calls Tryz.prog 126 #[.int .u64 l, .int .i64 4] w fun e w' => ∃ v, e = .returned v ∧ Byt w' v (be l 4) ∧ Below w.heap.size w w') := fun w => by
    have := rbig_any l 4 w (by omega)
    rw [clamp48.1] at this
    exact this
  have S8 : Hid (∀ w, Calls Tryz.prog 126 #[.int .u64 e, .int .i64 8] w fun e' w' => ∃ v, e' = .returned v ∧ Byt w' v (be e 8) ∧ Below w.heap.size w w') := fun w => by
    have := rbig_any e 8 w he
    rw [clamp48.2.1] at this
    exact this
  have S9 : Hid (∀ w, Calls Tryz.prog 126 #[.int .u64 t, .int .i64 8] w fun e' w' => ∃ v, e' = .returned v ∧ Byt w' v (be t 8) ∧ Below w.heap.size w w') := fun w => by
    have := rbig_any t 8 w ht
    rw [clamp48.2.1] at this
    exact this
  have LN : Hid ((be l 4).length = 4 ∧ (be e 8).length = 8 ∧ (be t 8).length = 8) := ⟨be_len _ _, be_len _ _, be_len _ _⟩
  have HE : Hid (([k, n, c, 0] ++ be l 4 ++ be e 8) ++ be t 8 = hb k n c l e t) := by
    show _ = _
    simp [hb]
  generalize hb k n c l e t = Z at *
  generalize be l 4 = X4 at *
  generalize be e 8 = X8 at *
  generalize be t 8 = X9 at *
  clear r1 r2 r3 r4 r5 r6 hl he ht
  have t0 : (0 : Nat) = 0 := rfl
  go_enter Tryz.func97, Tryz.ntmps97
  go_wp2_with (have q0 := t0; refine box_lawC _ (hv k n c l e t) rfl ?_; intro w1 V1 B1 s1; have HV : Hid (Vr w1 w.heap.size (hv k n c l e t)) := V1; clear V1 t0)
  refine wp_region_held_drew (S := fun w' => Below w1.heap.size w1 w') (by kernel_rfl) (Below.refl _ _).drew (fun hS => ?_)
  obtain ⟨x1, hx0⟩ : ∃ x, x = w1.drew := ⟨_, rfl⟩
  rw [← hx0] at hS  ⊢
  clear hx0
  refine take_lawH 0 (some 4) (.pointer (some ⟨w.heap.size, 0, none⟩)) rfl rfl (by kernel_rfl) (by kernel_rfl) (by kernel_rfl) (fun _ _ _ h => h) (Or.inl ⟨by rfl, fun w' hw' => by go_simp⟩) hS ?_
  simp only [Act.put, List.setIfInBounds_toArray, List.set_cons_zero, List.set_cons_succ]
  refine take_lawH 1 (some 5) (.int .i64 k) rfl rfl (by kernel_rfl) (by kernel_rfl) (by kernel_rfl) (fun _ _ _ h => h) (Or.inl ⟨by rfl, fun w' hw' => by exact exec_loadN 3 (.tmp 4) rfl _ rfl _ _ (ld_int ((HV.out.below hw' s1).cell 0 _ rfl))⟩) hS ?_
  simp only [Act.put, List.setIfInBounds_toArray, List.set_cons_zero, List.set_cons_succ]
  refine take_lawH 2 (some 6) (.int .u8 k) rfl rfl (by kernel_rfl) (by kernel_rfl) (by kernel_rfl) (fun _ _ _ h => h) (Or.inl ⟨by rfl, fun w' hw' => by go_simp⟩) hS ?_
  simp only [Act.put, List.setIfInBounds_toArray, List.set_cons_zero, List.set_cons_succ]
  refine take_lawH 3 (some 7) (.pointer (some ⟨w.heap.size, 1, none⟩)) rfl rfl (by kernel_rfl) (by kernel_rfl) (by kernel_rfl) (fun _ _ _ h => h) (Or.inl ⟨by rfl, fun w' hw' => by go_simp⟩) hS ?_
  simp only [Act.put, List.setIfInBounds_toArray, List.set_cons_zero, List.set_cons_succ]
  refine take_lawH 4 (some 8) (.int .i64 n) rfl rfl (by kernel_rfl) (by kernel_rfl) (by kernel_rfl) (fun _ _ _ h => h) (Or.inl ⟨by rfl, fun w' hw' => by exact exec_loadN 3 (.tmp 7) rfl _ rfl _ _ (ld_int ((HV.out.below hw' s1).cell 1 _ rfl))⟩) hS ?_
  simp only [Act.put, List.setIfInBounds_toArray, List.set_cons_zero, List.set_cons_succ]
  refine take_lawH 5 (some 9) (.int .u8 n) rfl rfl (by kernel_rfl) (by kernel_rfl) (by kernel_rfl) (fun _ _ _ h => h) (Or.inl ⟨by rfl, fun w' hw' => by go_simp⟩) hS ?_
  simp only [Act.put, List.setIfInBounds_toArray, List.set_cons_zero, List.set_cons_succ]
  refine take_lawH 6 (some 10) (.pointer (some ⟨w.heap.size, 2, none⟩)) rfl rfl (by kernel_rfl) (by kernel_rfl) (by kernel_rfl) (fun _ _ _ h => h) (Or.inl ⟨by rfl, fun w' hw' => by go_simp⟩) hS ?_
  simp only [Act.put, List.setIfInBounds_toArray, List.set_cons_zero, List.set_cons_succ]
  refine take_lawH 7 (some 11) (.int .i64 c) rfl rfl (by kernel_rfl) (by kernel_rfl) (by kernel_rfl) (fun _ _ _ h => h) (Or.inl ⟨by rfl, fun w' hw' => by exact exec_loadN 3 (.tmp 10) rfl _ rfl _ _ (ld_int ((HV.out.below hw' s1).cell 2 _ rfl))⟩) hS ?_
  simp only [Act.put, List.setIfInBounds_toArray, List.set_cons_zero, List.set_cons_succ]
  refine take_lawH 8 (some 12) (.int .u8 c) rfl rfl (by kernel_rfl) (by kernel_rfl) (by kernel_rfl) (fun _ _ _ h => h) (Or.inl ⟨by rfl, fun w' hw' => by go_simp⟩) hS ?_
  simp only [Act.put, List.setIfInBounds_toArray, List.set_cons_zero, List.set_cons_succ]
  refine take_lawH 10 (some 14) (.pointer (some ⟨w.heap.size, 3, none⟩)) rfl rfl (by kernel_rfl) (by kernel_rfl) (by kernel_rfl) (fun _ _ _ h => h) (Or.inl ⟨by rfl, fun w' hw' => by go_simp⟩) hS ?_
  simp only [Act.put, List.setIfInBounds_toArray, List.set_cons_zero, List.set_cons_succ]
  refine take_lawH 11 (some 15) (.int .u32 l) rfl rfl (by kernel_rfl) (by kernel_rfl) (by kernel_rfl) (fun _ _ _ h => h) (Or.inl ⟨by rfl, fun w' hw' => by exact exec_loadN 117 (.tmp 14) rfl _ rfl _ _ (ld_u32 ((HV.out.below hw' s1).cell 3 _ rfl))⟩) hS ?_
  simp only [Act.put, List.setIfInBounds_toArray, List.set_cons_zero, List.set_cons_succ]
  refine take_lawH 12 (some 16) (.int .u64 l) rfl rfl (by kernel_rfl) (by kernel_rfl) (by kernel_rfl) (fun _ _ _ h => h) (Or.inl ⟨by rfl, fun w' hw' => by go_simp⟩) hS ?_
  simp only [Act.put, List.setIfInBounds_toArray, List.set_cons_zero, List.set_cons_succ]
  refine wpAnyH_ready (rs := [9, 13]) (by kernel_rfl) (by simp) ?_
  refine AllReadyH.cons rfl (fun K hK => ?_) (AllReadyH.cons rfl (fun K hK => ?_) AllReadyH.nil)
  · refine step_lit4 _ rfl (some 13) rfl (.tmp 6) (.tmp 9) (.tmp 12) (.const (.int .u8 0)) rfl k n c 0 rfl rfl rfl rfl ?_
    intro lv x2 y9 hb
    have OL : Hid (Own w1.heap.size x2 lv [k, n, c, 0]) := own_less y9 hS.size
    have hS : Below w1.heap.size w1 x2 := hS.trans (hb.mono hS.size)
    clear hb y9
    refine hK.out _ _ hS (fun _ => ?_)
    simp only [Act.put, List.setIfInBounds_toArray, List.set_cons_zero, List.set_cons_succ]
    clear hK K
    refine wpAnyH_ready (rs := [13]) (by kernel_rfl) (by simp) ?_
    refine AllReadyH.cons rfl (fun K hK => ?_) AllReadyH.nil
    refine step_callW _ (by rfl) (some 17) rfl 126 #[.tmp 16, .const (.int .i64 4)] #[41, 3] rfl (fun q w' => by rfl) #[.int .u64 l, .int .i64 4] (by simp only [List.map_toArray, List.map_cons, List.map_nil]; rfl) (fun u w' => (Byt w' u X4) ∧ Below x2.heap.size x2 w') ?_ ?_
    · exact S4.out x2
    rintro bv x3 ⟨y9, hb⟩
    have OL : Hid (Own w1.heap.size x3 lv [k, n, c, 0]) := own_low OL.out hb
    have YB : Hid (Byt x3 bv X4) := y9
    have hS : Below w1.heap.size w1 x3 := hS.trans (hb.mono hS.size)
    clear hb y9
    refine hK.out _ _ hS (fun _ => ?_)
    simp only [Act.put, List.setIfInBounds_toArray, List.set_cons_zero, List.set_cons_succ]
    clear hK K
    refine wpAnyH_ready (rs := [14]) (by kernel_rfl) (by simp) ?_
    refine AllReadyH.cons rfl (fun K hK => ?_) AllReadyH.nil
    refine step_pushs _ rfl (some 18) rfl (.tmp 13) (.tmp 17) rfl w1.heap.size hS.size _ _ [k, n, c, 0] X4 rfl rfl OL.out YB.out (by simp) (by have := LN.out; omega) ?_
    intro pv x4 y9 hb
    have OP : Hid (Own w1.heap.size x4 pv ([k, n, c, 0] ++ X4)) := y9
    have hS : Below w1.heap.size w1 x4 := hS.trans hb
    clear hb y9
    refine hK.out _ _ hS (fun _ => ?_)
    simp only [Act.put, List.setIfInBounds_toArray, List.set_cons_zero, List.set_cons_succ]
    clear hK K
    refine take_lawH 15 (some 3) (pv) rfl rfl (by kernel_rfl) (by kernel_rfl) (by kernel_rfl) (fun _ _ _ h => h) (Or.inl ⟨by rfl, fun w' hw' => by rfl⟩) hS ?_
    simp only [Act.put, List.setIfInBounds_toArray, List.set_cons_zero, List.set_cons_succ]
    refine wpAnyH_done (by kernel_rfl) ?_ _
    have HV : Hid (Vr x4 w.heap.size (hv k n c l e t)) := HV.out.below hS s1
    have BB : Hid (Below w.heap.size w x4) := B1.trans (hS.mono (by omega))
    have z9 : w1.heap.size ≤ x4.heap.size := hS.size
    have c4 := HV.out.cell 4 _ rfl
    clear hS
    have t1 : (0 : Nat) = 0 := rfl
    go_wp2_with (first
      | (have q4 := t4; at_builtin; refine pushs_law _ rfl (.tmp 24) (.tmp 27) rfl w1.heap.size (by omega) _ _ _ X9 rfl rfl OP.out Y9.out (by have := LN.out; simp; omega) ?_; intro v8 w8 o8 B8; have OP : Hid (Own w1.heap.size w8 v8 (([k, n, c, 0] ++ X4 ++ X8) ++ X9)) := o8; have BB : Hid (Below w.heap.size w w8) := BB.out.trans (B8.mono (by omega)); clear o8 B8 t4)
      | (have q3 := t3; go_at_call 126; refine (S9.out _).mono ?_; rintro e9 w7 ⟨v7, rfl, y7, B7⟩; have Y9 : Hid (Byt w7 v7 X9) := y7; have OP : Hid (Own w1.heap.size w7 v6 ([k, n, c, 0] ++ X4 ++ X8)) := own_low OP.out B7; have BB : Hid (Below w.heap.size w w7) := BB.out.trans (B7.mono BB.out.size); have z7 : w1.heap.size ≤ w7.heap.size := Nat.le_trans z6 B7.size; clear y7 B7 t3; have t4 : (0 : Nat) = 0 := rfl)
      | (have q2 := t2; at_builtin; refine pushs_law _ rfl (.tmp 19) (.tmp 22) rfl w1.heap.size (by omega) _ _ _ X8 rfl rfl OP.out Y8.out (by have := LN.out; simp; omega) ?_; intro v6 w6 o6 B6; have OP : Hid (Own w1.heap.size w6 v6 (([k, n, c, 0] ++ X4) ++ X8)) := o6; have c5 := (HV.out.below B6 s1).cell 5 _ rfl; have BB : Hid (Below w.heap.size w w6) := BB.out.trans (B6.mono (by omega)); have z6 : w1.heap.size ≤ w6.heap.size := Nat.le_trans z5 B6.size; clear o6 B6 t2; have t3 : (0 : Nat) = 0 := rfl)
      | (have q1 := t1; go_at_call 126; refine (S8.out _).mono ?_; rintro e9 w5 ⟨v5, rfl, y5, B5⟩; have Y8 : Hid (Byt w5 v5 X8) := y5; have OP : Hid (Own w1.heap.size w5 pv ([k, n, c, 0] ++ X4)) := own_low OP.out B5; have HV : Hid (Vr w5 w.heap.size (hv k n c l e t)) := HV.out.below B5 (by omega); have BB : Hid (Below w.heap.size w w5) := BB.out.trans (B5.mono BB.out.size); have z5 : w1.heap.size ≤ w5.heap.size := Nat.le_trans z9 B5.size; clear y5 B5 t1 c4; have t2 : (0 : Nat) = 0 := rfl))
    go_ret
    exact ⟨_, rfl, by have z := OP.out; rw [HE.out] at z; exact own_less z (by omega), BB.out⟩
  · refine step_callW _ (by rfl) (some 17) rfl 126 #[.tmp 16, .const (.int .i64 4)] #[41, 3] rfl (fun q w' => by rfl) #[.int .u64 l, .int .i64 4] (by simp only [List.map_toArray, List.map_cons, List.map_nil]; rfl) (fun u w' => (Byt w' u X4) ∧ Below x1.heap.size x1 w') ?_ ?_
    · exact S4.out x1
    rintro bv x5 ⟨y9, hb⟩
    have YB : Hid (Byt x5 bv X4) := y9
    have hS : Below w1.heap.size w1 x5 := hS.trans (hb.mono hS.size)
    clear hb y9
    refine hK.out _ _ hS (fun _ => ?_)
    simp only [Act.put, List.setIfInBounds_toArray, List.set_cons_zero, List.set_cons_succ]
    clear hK K
    refine wpAnyH_ready (rs := [9]) (by kernel_rfl) (by simp) ?_
    refine AllReadyH.cons rfl (fun K hK => ?_) AllReadyH.nil
    refine step_lit4 _ rfl (some 13) rfl (.tmp 6) (.tmp 9) (.tmp 12) (.const (.int .u8 0)) rfl k n c 0 rfl rfl rfl rfl ?_
    intro lv x6 y9 hb
    have YB : Hid (Byt x6 bv X4) := YB.out.below hb
    have OL : Hid (Own w1.heap.size x6 lv [k, n, c, 0]) := own_less y9 hS.size
    have hS : Below w1.heap.size w1 x6 := hS.trans (hb.mono hS.size)
    clear hb y9
    refine hK.out _ _ hS (fun _ => ?_)
    simp only [Act.put, List.setIfInBounds_toArray, List.set_cons_zero, List.set_cons_succ]
    clear hK K
    refine wpAnyH_ready (rs := [14]) (by kernel_rfl) (by simp) ?_
    refine AllReadyH.cons rfl (fun K hK => ?_) AllReadyH.nil
    refine step_pushs _ rfl (some 18) rfl (.tmp 13) (.tmp 17) rfl w1.heap.size hS.size _ _ [k, n, c, 0] X4 rfl rfl OL.out YB.out (by simp) (by have := LN.out; omega) ?_
    intro pv x7 y9 hb
    have OP : Hid (Own w1.heap.size x7 pv ([k, n, c, 0] ++ X4)) := y9
    have hS : Below w1.heap.size w1 x7 := hS.trans hb
    clear hb y9
    refine hK.out _ _ hS (fun _ => ?_)
    simp only [Act.put, List.setIfInBounds_toArray, List.set_cons_zero, List.set_cons_succ]
    clear hK K
    refine take_lawH 15 (some 3) (pv) rfl rfl (by kernel_rfl) (by kernel_rfl) (by kernel_rfl) (fun _ _ _ h => h) (Or.inl ⟨by rfl, fun w' hw' => by rfl⟩) hS ?_
    simp only [Act.put, List.setIfInBounds_toArray, List.set_cons_zero, List.set_cons_succ]
    refine wpAnyH_done (by kernel_rfl) ?_ _
    have HV : Hid (Vr x7 w.heap.size (hv k n c l e t)) := HV.out.below hS s1
    have BB : Hid (Below w.heap.size w x7) := B1.trans (hS.mono (by omega))
    have z9 : w1.heap.size ≤ x7.heap.size := hS.size
    have c4 := HV.out.cell 4 _ rfl
    clear hS
    have t1 : (0 : Nat) = 0 := rfl
    go_wp2_with (first
      | (have q4 := t4; at_builtin; refine pushs_law _ rfl (.tmp 24) (.tmp 27) rfl w1.heap.size (by omega) _ _ _ X9 rfl rfl OP.out Y9.out (by have := LN.out; simp; omega) ?_; intro v8 w8 o8 B8; have OP : Hid (Own w1.heap.size w8 v8 (([k, n, c, 0] ++ X4 ++ X8) ++ X9)) := o8; have BB : Hid (Below w.heap.size w w8) := BB.out.trans (B8.mono (by omega)); clear o8 B8 t4)
      | (have q3 := t3; go_at_call 126; refine (S9.out _).mono ?_; rintro e9 w7 ⟨v7, rfl, y7, B7⟩; have Y9 : Hid (Byt w7 v7 X9) := y7; have OP : Hid (Own w1.heap.size w7 v6 ([k, n, c, 0] ++ X4 ++ X8)) := own_low OP.out B7; have BB : Hid (Below w.heap.size w w7) := BB.out.trans (B7.mono BB.out.size); have z7 : w1.heap.size ≤ w7.heap.size := Nat.le_trans z6 B7.size; clear y7 B7 t3; have t4 : (0 : Nat) = 0 := rfl)
      | (have q2 := t2; at_builtin; refine pushs_law _ rfl (.tmp 19) (.tmp 22) rfl w1.heap.size (by omega) _ _ _ X8 rfl rfl OP.out Y8.out (by have := LN.out; simp; omega) ?_; intro v6 w6 o6 B6; have OP : Hid (Own w1.heap.size w6 v6 (([k, n, c, 0] ++ X4) ++ X8)) := o6; have c5 := (HV.out.below B6 s1).cell 5 _ rfl; have BB : Hid (Below w.heap.size w w6) := BB.out.trans (B6.mono (by omega)); have z6 : w1.heap.size ≤ w6.heap.size := Nat.le_trans z5 B6.size; clear o6 B6 t2; have t3 : (0 : Nat) = 0 := rfl)
      | (have q1 := t1; go_at_call 126; refine (S8.out _).mono ?_; rintro e9 w5 ⟨v5, rfl, y5, B5⟩; have Y8 : Hid (Byt w5 v5 X8) := y5; have OP : Hid (Own w1.heap.size w5 pv ([k, n, c, 0] ++ X4)) := own_low OP.out B5; have HV : Hid (Vr w5 w.heap.size (hv k n c l e t)) := HV.out.below B5 (by omega); have BB : Hid (Below w.heap.size w w5) := BB.out.trans (B5.mono BB.out.size); have z5 : w1.heap.size ≤ w5.heap.size := Nat.le_trans z9 B5.size; clear y5 B5 t1 c4; have t2 : (0 : Nat) = 0 := rfl))
    go_ret
    exact ⟨_, rfl, by have z := OP.out; rw [HE.out] at z; exact own_less z (by omega), BB.out⟩
set_option maxHeartbeats 4000000 in
theorem rend_any (k n c l e t : Int) (v : Value) (tag : List Int) (w : World) (hb' : Byt w v tag) (h : Rh k n c) (hl : 0 ≤ l ∧ l ≤ 4294967295) (he : 0 ≤ e ∧ e ≤ 18446744073709551615) (ht : 0 ≤ t ∧ t ≤ 18446744073709551615) (hn : tag.length = 0 ∨ tag.length = 32) :
    Calls Tryz.prog 74 #[.agg (hv k n c l e t).toArray, v] w fun x w' => ∃ v, x = .returned v ∧ Byt w' v (hend (hb k n c l e t) (tgo tag) (List.replicate 8 255)) ∧ Below w.heap.size w w' := by
  have SB : Hid (∀ w, Calls Tryz.prog 97 #[.agg (hv k n c l e t).toArray] w fun x w' => ∃ v, x = .returned v ∧ Own w.heap.size w' v (hb k n c l e t) ∧ Below w.heap.size w w') := fun w => rbytes_own k n c l e t w h hl he ht
  have AZ : Hid (AllB (hb k n c l e t)) := hb_all h l e t
  have LZ : Hid ((hb k n c l e t).length = 24 ∧ (inv (hb k n c l e t)).length = 24) := ⟨hb_len _ _ _ _ _ _, by rw [inv_len, hb_len]⟩
  have S8 : Hid (∀ w, Calls Tryz.prog 51 #[.int .u8 255, .int .i64 8] w fun e w' => ∃ v, e = .returned v ∧ Byt w' v (List.replicate 8 255) ∧ Below w.heap.size w w') := fun w => by
    have := rfill_any 255 8 w (by omega)
    rw [show clamp 8 65536 = 8 by decide] at this
    exact this
  have LT : Hid ((tgo tag).length = 32 ∧ (List.replicate 8 (255 : Int)).length = 8) := ⟨tgo_len hn, by simp⟩
  have HA : Hid (AllB (hend (hb k n c l e t) (tgo tag) (List.replicate 8 255))) := hend_all (hb_all h l e t) (tgo_all hb'.all) (allB_replicate 255 8 (by omega))
  have HE : Hid (((hb k n c l e t ++ inv (hb k n c l e t)) ++ tgo tag) ++ List.replicate 8 255 = hend (hb k n c l e t) (tgo tag) (List.replicate 8 255)) := by
    show _ = _
    simp [hend]
  have HTG : Hid ((tag.length = 0 ∧ ∀ w, Calls Tryz.prog 51 #[.int .u8 255, .int .i64 32] w fun e w' => ∃ v, e = .returned v ∧ Byt w' v (tgo tag) ∧ Below w.heap.size w w') ∨ (tag.length = 32 ∧ ∀ w', Below w.heap.size w w' → Byt w' v (tgo tag))) := by
    show _ ∨ _
    rcases hn with q | q
    · refine .inl ⟨q, fun w => ?_⟩
      have := rfill_any 255 32 w (by omega)
      rw [show clamp 32 65536 = 32 by decide] at this
      have eT : tgo tag = List.replicate 32 255 := by unfold tgo; rw [if_pos q]
      rw [eT]; exact this
    · refine .inr ⟨q, fun w' hw => ?_⟩
      have eT : tgo tag = tag := by unfold tgo; rw [if_neg (by omega)]
      rw [eT]; exact hb'.below hw
  obtain ⟨ao, cap, rfl, h1, h2, -⟩ := hb'
  generalize hend (hb k n c l e t) (tgo tag) (List.replicate 8 255) = ZZ at *
  generalize hb k n c l e t = Z at *
  generalize tgo tag = TG at *
  generalize List.replicate 8 (255 : Int) = M8 at *
  generalize tag.length = nt at *
  clear h hl he ht h1 h2 hn
  have t0 : (0 : Nat) = 0 := rfl
  go_enter Tryz.func74, Tryz.ntmps74
  go_wp2_with (have q0 := t0; refine box_lawC _ (hv k n c l e t) rfl ?_; intro w1 V1 B1 s1; have HV : Hid (Vr w1 w.heap.size (hv k n c l e t)) := V1; clear V1 t0)
  refine wp_region_held_drew (S := fun w' => Below w1.heap.size w1 w') (by kernel_rfl) (Below.refl _ _).drew (fun hS => ?_)
  obtain ⟨x1, hx0⟩ : ∃ x, x = w1.drew := ⟨_, rfl⟩
  rw [← hx0] at hS  ⊢
  clear hx0
  refine take_lawH 0 (some 6) (.agg (hv k n c l e t).toArray) rfl rfl (by kernel_rfl) (by kernel_rfl) (by kernel_rfl) (fun _ _ _ h => h) (Or.inl ⟨by rfl, fun w' hw' => by exact exec_loadN 119 (.tmp 2) rfl _ rfl _ _ (load_cells rowy_head (HV.out.below hw' s1).1)⟩) hS ?_
  simp only [Act.put, List.setIfInBounds_toArray, List.set_cons_zero, List.set_cons_succ]
  refine take_lawH 2 (some 8) (.agg (hv k n c l e t).toArray) rfl rfl (by kernel_rfl) (by kernel_rfl) (by kernel_rfl) (fun _ _ _ h => h) (Or.inl ⟨by rfl, fun w' hw' => by exact exec_loadN 119 (.tmp 2) rfl _ rfl _ _ (load_cells rowy_head (HV.out.below hw' s1).1)⟩) hS ?_
  simp only [Act.put, List.setIfInBounds_toArray, List.set_cons_zero, List.set_cons_succ]
  refine wpAnyH_ready (rs := [1]) (by kernel_rfl) (by simp) ?_
  refine AllReadyH.cons rfl (fun K hK => ?_) AllReadyH.nil
  have z1 : w1.heap.size ≤ x1.heap.size := hS.size
  refine step_callW _ (by rfl) (some 7) rfl 97 #[.tmp 6] #[119] rfl (fun q w' => by rfl) #[.agg (hv k n c l e t).toArray] (by simp only [List.map_toArray, List.map_cons, List.map_nil]; rfl) (fun u w' => (Own x1.heap.size w' u Z) ∧ Below x1.heap.size x1 w') ?_ ?_
  · exact SB.out x1
  rintro u1 x2 ⟨y9, hb⟩
  have O1 : Hid (Own x1.heap.size x2 u1 Z) := y9
  have hS : Below w1.heap.size w1 x2 := hS.trans (hb.mono hS.size)
  clear hb y9
  refine hK.out _ _ hS (fun _ => ?_)
  simp only [Act.put, List.setIfInBounds_toArray, List.set_cons_zero, List.set_cons_succ]
  clear hK K
  refine wpAnyH_ready (rs := [3]) (by kernel_rfl) (by simp) ?_
  refine AllReadyH.cons rfl (fun K hK => ?_) AllReadyH.nil
  refine step_callW _ (by rfl) (some 9) rfl 97 #[.tmp 8] #[119] rfl (fun q w' => by rfl) #[.agg (hv k n c l e t).toArray] (by simp only [List.map_toArray, List.map_cons, List.map_nil]; rfl) (fun u w' => (Own x2.heap.size w' u Z) ∧ Below x2.heap.size x2 w') ?_ ?_
  · exact SB.out x2
  rintro u2 x3 ⟨y9, hb⟩
  have O1 : Hid (Own x1.heap.size x3 u1 Z) := own_low O1.out hb
  have O2 : Hid (Own x2.heap.size x3 u2 Z) := y9
  have hS : Below w1.heap.size w1 x3 := hS.trans (hb.mono hS.size)
  clear hb y9
  refine hK.out _ _ hS (fun _ => ?_)
  simp only [Act.put, List.setIfInBounds_toArray, List.set_cons_zero, List.set_cons_succ]
  clear hK K
  refine wpAnyH_ready (rs := [4]) (by kernel_rfl) (by simp) ?_
  refine AllReadyH.cons rfl (fun K hK => ?_) AllReadyH.nil
  refine step_callW _ (by rfl) (some 10) rfl 98 #[.tmp 9] #[35] rfl (fun q w' => by rfl) #[u2] (by simp only [List.map_toArray, List.map_cons, List.map_nil]; rfl) (fun u w' => (Byt w' u (inv Z)) ∧ Below x3.heap.size x3 w') ?_ ?_
  · exact (rinvert_any _ Z x3 (O2.out.byt AZ.out) (by have := LZ.out; omega))
  rintro u3 x4 ⟨y9, hb⟩
  have O1 : Hid (Own x1.heap.size x4 u1 Z) := own_low O1.out hb
  have O2 : Hid (Own x2.heap.size x4 u2 Z) := own_low O2.out hb
  have YI : Hid (Byt x4 u3 (inv Z)) := y9
  have hS : Below w1.heap.size w1 x4 := hS.trans (hb.mono hS.size)
  clear hb y9
  refine hK.out _ _ hS (fun _ => ?_)
  simp only [Act.put, List.setIfInBounds_toArray, List.set_cons_zero, List.set_cons_succ]
  clear hK K
  refine wpAnyH_ready (rs := [5]) (by kernel_rfl) (by simp) ?_
  refine AllReadyH.cons rfl (fun K hK => ?_) AllReadyH.nil
  refine step_pushs _ rfl (some 11) rfl (.tmp 7) (.tmp 10) rfl w1.heap.size hS.size _ _ Z (inv Z) rfl rfl (own_less O1.out z1) YI.out (by have := LZ.out; omega) (by have := LZ.out; omega) ?_
  intro pv x5 y9 hb
  have OP : Hid (Own w1.heap.size x5 pv (Z ++ inv Z)) := y9
  have hS : Below w1.heap.size w1 x5 := hS.trans hb
  clear hb y9
  refine hK.out _ _ hS (fun _ => ?_)
  simp only [Act.put, List.setIfInBounds_toArray, List.set_cons_zero, List.set_cons_succ]
  clear hK K
  refine take_lawH 6 (some 5) (pv) rfl rfl (by kernel_rfl) (by kernel_rfl) (by kernel_rfl) (fun _ _ _ h => h) (Or.inl ⟨by rfl, fun w' hw' => by rfl⟩) hS ?_
  simp only [Act.put, List.setIfInBounds_toArray, List.set_cons_zero, List.set_cons_succ]
  refine wpAnyH_done (by kernel_rfl) ?_ _
  have BB : Hid (Below w.heap.size w x5) := B1.trans (hS.mono (by omega))
  have z9 : w1.heap.size ≤ x5.heap.size := hS.size
  clear hS
  rcases HTG.out with ⟨q, SF⟩ | ⟨q, YF⟩
  · subst q
    have SF : Hid (∀ w, Calls Tryz.prog 51 #[.int .u8 255, .int .i64 32] w fun e w' => ∃ v, e = .returned v ∧ Byt w' v TG ∧ Below w.heap.size w w') := SF
    clear HTG
    have t1 : (0 : Nat) = 0 := rfl
    go_wp2_with (first
      | (have q4 := t4; at_builtin; refine pushs_law _ rfl (.tmp 19) (.tmp 20) rfl w1.heap.size (by omega) _ _ _ M8 rfl rfl OP.out YM.out (by have := LZ.out; have := LT.out; simp; omega) ?_; intro v8 w8 o8 B8; have OP : Hid (Own w1.heap.size w8 v8 (((Z ++ inv Z) ++ TG) ++ M8)) := o8; have BB : Hid (Below w.heap.size w w8) := BB.out.trans (B8.mono (by omega)); clear o8 B8 t4)
      | (have q3 := t3; go_at_call 51; refine (S8.out _).mono ?_; rintro e9 w7 ⟨v7, rfl, y7, B7⟩; have YM : Hid (Byt w7 v7 M8) := y7; have OP : Hid (Own w1.heap.size w7 v6 ((Z ++ inv Z) ++ TG)) := own_low OP.out B7; have BB : Hid (Below w.heap.size w w7) := BB.out.trans (B7.mono BB.out.size); have z7 : w1.heap.size ≤ w7.heap.size := Nat.le_trans z6 B7.size; clear y7 B7 t3; have t4 : (0 : Nat) = 0 := rfl)
      | (have q2 := t2; at_builtin; refine pushs_law _ rfl (.tmp 16) (.tmp 17) rfl w1.heap.size z5 _ _ _ TG rfl rfl OP.out YT.out (by have := LZ.out; have := LT.out; simp; omega) ?_; intro v6 w6 o6 B6; have OP : Hid (Own w1.heap.size w6 v6 ((Z ++ inv Z) ++ TG)) := o6; have BB : Hid (Below w.heap.size w w6) := BB.out.trans (B6.mono (by omega)); have z6 : w1.heap.size ≤ w6.heap.size := Nat.le_trans z5 B6.size; clear o6 B6 t2; have t3 : (0 : Nat) = 0 := rfl)
      | (have q1 := t1; go_at_call 51; refine (SF.out _).mono ?_; rintro e9 w5 ⟨v5, rfl, y5, B5⟩; have YT : Hid (Byt w5 v5 TG) := y5; have OP : Hid (Own w1.heap.size w5 pv (Z ++ inv Z)) := own_low OP.out B5; have BB : Hid (Below w.heap.size w w5) := BB.out.trans (B5.mono BB.out.size); have z5 : w1.heap.size ≤ w5.heap.size := Nat.le_trans z9 B5.size; clear y5 B5 t1; have t2 : (0 : Nat) = 0 := rfl))
    go_ret
    exact ⟨_, rfl, by have z := OP.out; rw [HE.out] at z; exact z.byt HA.out, BB.out⟩
  · subst q
    have YT : Hid (Byt x5 (.slice ao 32 cap) TG) := YF _ BB.out
    clear HTG YF
    have z5 := z9
    have t2 : (0 : Nat) = 0 := rfl
    go_wp2_with (first
      | (have q4 := t4; at_builtin; refine pushs_law _ rfl (.tmp 19) (.tmp 20) rfl w1.heap.size (by omega) _ _ _ M8 rfl rfl OP.out YM.out (by have := LZ.out; have := LT.out; simp; omega) ?_; intro v8 w8 o8 B8; have OP : Hid (Own w1.heap.size w8 v8 (((Z ++ inv Z) ++ TG) ++ M8)) := o8; have BB : Hid (Below w.heap.size w w8) := BB.out.trans (B8.mono (by omega)); clear o8 B8 t4)
      | (have q3 := t3; go_at_call 51; refine (S8.out _).mono ?_; rintro e9 w7 ⟨v7, rfl, y7, B7⟩; have YM : Hid (Byt w7 v7 M8) := y7; have OP : Hid (Own w1.heap.size w7 v6 ((Z ++ inv Z) ++ TG)) := own_low OP.out B7; have BB : Hid (Below w.heap.size w w7) := BB.out.trans (B7.mono BB.out.size); have z7 : w1.heap.size ≤ w7.heap.size := Nat.le_trans z6 B7.size; clear y7 B7 t3; have t4 : (0 : Nat) = 0 := rfl)
      | (have q2 := t2; at_builtin; refine pushs_law _ rfl (.tmp 16) (.tmp 17) rfl w1.heap.size z5 _ _ _ TG rfl rfl OP.out YT.out (by have := LZ.out; have := LT.out; simp; omega) ?_; intro v6 w6 o6 B6; have OP : Hid (Own w1.heap.size w6 v6 ((Z ++ inv Z) ++ TG)) := o6; have BB : Hid (Below w.heap.size w w6) := BB.out.trans (B6.mono (by omega)); have z6 : w1.heap.size ≤ w6.heap.size := Nat.le_trans z5 B6.size; clear o6 B6 t2; have t3 : (0 : Nat) = 0 := rfl))
    go_ret
    exact ⟨_, rfl, by have z := OP.out; rw [HE.out] at z; exact z.byt HA.out, BB.out⟩
end Go.Proofs.YtakibiigcdgohaaGreatDoor.he
namespace Go.Proofs.YtakibiigcdgohaaGreatDoor.pa
open Go.RowKit Go.Proofs.YtakibiigcdgohaaGreatDoor.fa Go.Proofs.YtakibiigcdgohaaGreatDoor.he
set_option maxRecDepth 20000
theorem join_any (a b : Value) (x y : List Int) (w : World) (ha : Byt w a x) (hb : Byt w b y) (l1 : x.length ≤ 10000) (l2 : y.length ≤ 10000) (hp : 0 < x.length) :
    Calls Tryz.prog 116 #[.agg ([a, b] : List Value).toArray] w fun e w' => ∃ r, e = .returned r ∧ Own w.heap.size w' r (x ++ y) ∧ Below w.heap.size w w' := by
  have e : cats [x, y] 2 = x ++ y := by simp [cats]
  have SC : Hid (∀ w1, Vr w1 w.heap.size [a, b] → Below w.heap.size w w1 → Calls Tryz.prog 113 #[.slice (some ⟨w.heap.size, 0, none⟩) 2 2] w1 fun e w' => ∃ r, e = .returned r ∧ Own w.heap.size w' r (x ++ y) ∧ Below w.heap.size w w') := fun w1 hV hB => by
    have := concat_any w.heap.size 2 (fun k => ([a, b] : List Value).getD k undef) [x, y] w1 rfl (by omega) (fun k hk => by
      match k, hk with
      | 0, _ => exact ha.below hB
      | 1, _ => exact hb.below hB) (fun k hk => by
      have hk : k < 2 := hk
      match k, hk with
      | 0, _ => exact l1
      | 1, _ => exact l2) (by rw [e]; simp; omega) (fun k hk => by
      match k, hk with
      | 0, _ => exact hV.cell 0 _ rfl
      | 1, _ => exact hV.cell 1 _ rfl)
    rw [e] at this
    refine this.mono ?_
    rintro q w' ⟨r, rfl, o, B⟩
    exact ⟨r, rfl, own_less o hB.size, hB.trans (B.mono hB.size)⟩
  clear ha hb l1 l2 hp e
  have t0 : (0 : Nat) = 0 := rfl
  go_enter Tryz.func116, Tryz.ntmps116
  go_wp2_with (first
    | (have q1 := t1; go_at_call 113; refine (SC.out _ HV.out BB.out).mono ?_; rintro e9 w2 ⟨r, rfl, O2, B2⟩; clear t1)
    | (have q0 := t0; refine box_lawC _ [a, b] rfl ?_; intro w1 X1 B1 l1; have HV : Hid (Vr w1 w.heap.size [a, b]) := X1; have BB : Hid (Below w.heap.size w w1) := B1; clear X1 B1 l1 t0; have t1 : (1 : Nat) = 1 := rfl))
  go_ret
  exact ⟨_, rfl, O2, B2⟩
end Go.Proofs.YtakibiigcdgohaaGreatDoor.pa
namespace Go.Proofs.YtakibiigcdgohaaGreatDoor.pa
open Go.RowKit Go.Proofs.YtakibiigcdgohaaGreatDoor.fa Go.Proofs.YtakibiigcdgohaaGreatDoor.he
set_option maxRecDepth 20000
section
variable {ops : Array Oper} {rest : List Oper} {a : Act} {Q : Exit → Act → World → Prop} {w : World} {d : Option Tmp} {ty : TypeId} {pos : String} {af : Array Edge} {gd : Option (Nat × Bool)}
theorem at_store {t : TypeId} {x y : Operand} (h : wpList Tryz.prog ops Q (⟨d, Op.store t x y, ty, pos, af, gd⟩ :: rest) a w) : wpList Tryz.prog ops Q (⟨d, Op.store t x y, ty, pos, af, gd⟩ :: rest) a w := h
theorem at_alloc {t : TypeId} (h : wpList Tryz.prog ops Q (⟨d, Op.alloc t, ty, pos, af, gd⟩ :: rest) a w) : wpList Tryz.prog ops Q (⟨d, Op.alloc t, ty, pos, af, gd⟩ :: rest) a w := h
end
def plo (S : Nat) (p : List Int) : List Int := if p.length = 0 then List.replicate S 255 else p
theorem sec_of {g0 g1 g2 g3 g4 g5 : Int} (h : ge.Rt [g0, g1, g2, g3, g4, g5]) : ∃ S : Nat, g2 = S ∧ 32 ≤ S ∧ S ≤ 4096 := by
  obtain ⟨⟨-, -, a2, -⟩, -⟩ := h
  simp only [gb, List.getD, List.getElem?_cons_zero, List.getElem?_cons_succ, Option.getD_some] at a2
  exact ⟨g2.toNat, by omega, by omega, by omega⟩
theorem sec_le {g0 g1 g3 g4 g5 : Int} {S : Nat} (h : ge.Rt [g0, g1, (S : Int), g3, g4, g5]) : 32 ≤ S ∧ S ≤ 4096 := by
  obtain ⟨T, h1, h2, h3⟩ := sec_of h
  omega
theorem clampS {S : Nat} (h : S ≤ 4184) : clamp (S : Int) 65536 = S := by unfold clamp; omega
theorem own_form {B : Nat} {w : World} {v : Value} {xs : List Int} (h : Own B w v xs) (ha : AllB xs) : ∃ ao cap, v = .slice ao xs.length cap := by
  obtain ⟨ao, cap, e, -⟩ := h.byt ha
  exact ⟨ao, cap, e⟩
theorem hend_all {k n c l e t : Int} (h : Rh k n c) {tag mk : List Int} (h1 : AllB tag) (h2 : AllB mk) : AllB (hend (hb k n c l e t) tag mk) := by
  have hb1 := hb_all h l e t
  exact allB_app hb1 (allB_app (inv_all _ hb1) (allB_app h1 h2))
theorem tgo_all {tag : List Int} (h : AllB tag) : AllB (tgo tag) := by
  unfold tgo
  split
  · exact allB_replicate 255 _ (by omega)
  · exact h
set_option maxHeartbeats 4000000 in
theorem make_yf (g0 g1 g3 g4 g5 : Int) (S : Nat) (k n c l e t : Int) (pv tv : Value) (p tag : List Int) (w : World) (hp : Byt w pv p) (ht : Byt w tv tag) (hH : Hb l e t) (hT : Tab w) (hr : ge.Rt [g0, g1, (S : Int), g3, g4, g5]) (hl : p.length = S) (hk : Rh k n c) (hn : tag.length = 0 ∨ tag.length = 32) :
    Calls Tryz.prog 90 #[.agg (ints .i64 [g0, g1, (S : Int), g3, g4, g5]), .agg (hv k n c l e t).toArray, pv, tv] w fun x w' => ∃ v, x = .returned (.tuple #[v, .int .i64 0]) ∧ Own w.heap.size w' v (plo S p ++ hend (hb k n c l e t) (tgo tag) (List.replicate 8 255)) ∧ Below w.heap.size w w' := by
  have ⟨s1, s2⟩ := sec_le hr
  have SK : Hid (∀ w0, Calls Tryz.prog 33 #[.agg (ints .i64 [g0, g1, (S : Int), g3, g4, g5])] w0 fun x w' => x = .returned (.int .i64 0) ∧ Below w0.heap.size w0 w') := ge.check_yes [g0, g1, (S : Int), g3, g4, g5] rfl hr
  have SE : Hid (∀ w0, Below w.heap.size w w0 → Calls Tryz.prog 115 #[.agg (hv k n c l e t).toArray, tv] w0 fun x w' => ∃ v, x = .returned (.tuple #[v, .int .i64 0]) ∧ Own w0.heap.size w' v (hend (hb k n c l e t) (tgo tag) (List.replicate 8 255)) ∧ Below w0.heap.size w0 w') := fun w0 hb => end_yes k n c l e t tv tag w0 (ht.below hb) hH.1 hH.2.1 hH.2.2 (hT.below hb) hk hn
  have EL : Hid ((hend (hb k n c l e t) (tgo tag) (List.replicate 8 255)).length = 88) := hend_len (hb_len _ _ _ _ _ _) (tgo_len hn) (by simp)
  have EA : Hid (AllB (hend (hb k n c l e t) (tgo tag) (List.replicate 8 255))) := hend_all hk (tgo_all ht.all) (allB_replicate 255 _ (by omega))
  obtain ⟨po, pn, pc, hpf, hpn⟩ : ∃ po pn pc, pv = .slice po pn pc ∧ p.length = pn := (by obtain ⟨ao, cap, e, _⟩ := hp; exact ⟨ao, _, cap, e, rfl⟩)
  subst hpf
  have e0 : pn = S := by omega
  subst e0
  have n0 : ((pn : Int) == 0) = false := beq_eq_false_iff_ne.2 (by omega)
  have ez : plo pn p = p := if_neg (by omega)
  rw [ez]
  have ZL : Hid (p.length ≤ 10000 ∧ 0 < p.length) := ⟨by omega, by omega⟩
  have HP : Hid (Byt w (.slice po pn pc) p) := hp
  clear ez
  generalize hend (hb k n c l e t) (tgo tag) (List.replicate 8 255) = E at SE EL EA ⊢
  clear hr hT hk hl hpn s1 s2 hn hH
  clear hp ht
  have t0 : (0 : Nat) = 0 := rfl
  go_enter Tryz.func90, Tryz.ntmps90
  go_wp2_with (first
    | (have q4 := t4; go_at_call 116; refine (join_any _ _ p E w4 (HP.out.below BB.out) (HE.out.byt EA.out) ZL.out.1 (by rw [EL.out]; omega) ZL.out.2).mono ?_; rintro e9 w5 ⟨r9, rfl, O9, B9⟩; have HB0 : Hid (Vr w5 w.heap.size [.int .i64 g0, .int .i64 g1, .int .i64 (pn : Int), .int .i64 g3, .int .i64 g4, .int .i64 g5]) := HB0.out.below B9 (range_lt HB0.out.1 (Nat.succ_pos _)); have HB1 : Hid (Vr w5 w1.heap.size (hv k n c l e t)) := HB1.out.below B9 (range_lt HB1.out.1 (Nat.succ_pos _)); have HE : Hid (Own w3.heap.size w5 (.slice eo 88 ec) E) := own_low HE.out B9; have HR : Hid (Own w.heap.size w5 r9 (p ++ E)) := own_less O9 BB.out.size; have BB : Hid (Below w.heap.size w w5) := BB.out.trans (B9.mono BB.out.size); clear hb0_0 hb0_1 hb0_2 hb0_3 hb0_4 hb0_5 hb1_0 hb1_1 hb1_2 hb1_3 hb1_4 hb1_5; have hb0_0 := HB0.out.cell 0 _ rfl; have hb0_1 := HB0.out.cell 1 _ rfl; have hb0_2 := HB0.out.cell 2 _ rfl; have hb0_3 := HB0.out.cell 3 _ rfl; have hb0_4 := HB0.out.cell 4 _ rfl; have hb0_5 := HB0.out.cell 5 _ rfl; have hb1_0 := HB1.out.cell 0 _ rfl; have hb1_1 := HB1.out.cell 1 _ rfl; have hb1_2 := HB1.out.cell 2 _ rfl; have hb1_3 := HB1.out.cell 3 _ rfl; have hb1_4 := HB1.out.cell 4 _ rfl; have hb1_5 := HB1.out.cell 5 _ rfl; clear B9 O9; clear t4; have t5 : (1 : Nat) = 1 := rfl)
    | (have q3 := t3; go_at_call 115; refine (SE.out w3 BB.out).mono ?_; rintro e9 w4 ⟨v9, rfl, O9, B9⟩; have HB0 : Hid (Vr w4 w.heap.size [.int .i64 g0, .int .i64 g1, .int .i64 (pn : Int), .int .i64 g3, .int .i64 g4, .int .i64 g5]) := HB0.out.below B9 (range_lt HB0.out.1 (Nat.succ_pos _)); have HB1 : Hid (Vr w4 w1.heap.size (hv k n c l e t)) := HB1.out.below B9 (range_lt HB1.out.1 (Nat.succ_pos _)); obtain ⟨eo, ec, rfl⟩ := own_form O9 EA.out; rw [EL.out] at O9 ⊢; have HE : Hid (Own w3.heap.size w4 (.slice eo 88 ec) E) := O9; have BB : Hid (Below w.heap.size w w4) := BB.out.trans (B9.mono BB.out.size); clear hb0_0 hb0_1 hb0_2 hb0_3 hb0_4 hb0_5 hb1_0 hb1_1 hb1_2 hb1_3 hb1_4 hb1_5; have hb0_0 := HB0.out.cell 0 _ rfl; have hb0_1 := HB0.out.cell 1 _ rfl; have hb0_2 := HB0.out.cell 2 _ rfl; have hb0_3 := HB0.out.cell 3 _ rfl; have hb0_4 := HB0.out.cell 4 _ rfl; have hb0_5 := HB0.out.cell 5 _ rfl; have hb1_0 := HB1.out.cell 0 _ rfl; have hb1_1 := HB1.out.cell 1 _ rfl; have hb1_2 := HB1.out.cell 2 _ rfl; have hb1_3 := HB1.out.cell 3 _ rfl; have hb1_4 := HB1.out.cell 4 _ rfl; have hb1_5 := HB1.out.cell 5 _ rfl; clear B9 O9; clear t3; have t4 : (1 : Nat) = 1 := rfl)
    | (have q2 := t2; go_at_call 33; refine (SK.out w2).mono ?_; rintro e9 w3 ⟨rfl, B9⟩; have HB0 : Hid (Vr w3 w.heap.size [.int .i64 g0, .int .i64 g1, .int .i64 (pn : Int), .int .i64 g3, .int .i64 g4, .int .i64 g5]) := HB0.out.below B9 (range_lt HB0.out.1 (Nat.succ_pos _)); have HB1 : Hid (Vr w3 w1.heap.size (hv k n c l e t)) := HB1.out.below B9 (range_lt HB1.out.1 (Nat.succ_pos _)); have BB : Hid (Below w.heap.size w w3) := BB.out.trans (B9.mono BB.out.size); clear hb0_0 hb0_1 hb0_2 hb0_3 hb0_4 hb0_5 hb1_0 hb1_1 hb1_2 hb1_3 hb1_4 hb1_5; have hb0_0 := HB0.out.cell 0 _ rfl; have hb0_1 := HB0.out.cell 1 _ rfl; have hb0_2 := HB0.out.cell 2 _ rfl; have hb0_3 := HB0.out.cell 3 _ rfl; have hb0_4 := HB0.out.cell 4 _ rfl; have hb0_5 := HB0.out.cell 5 _ rfl; have hb1_0 := HB1.out.cell 0 _ rfl; have hb1_1 := HB1.out.cell 1 _ rfl; have hb1_2 := HB1.out.cell 2 _ rfl; have hb1_3 := HB1.out.cell 3 _ rfl; have hb1_4 := HB1.out.cell 4 _ rfl; have hb1_5 := HB1.out.cell 5 _ rfl; clear B9; clear t2; have t3 : (1 : Nat) = 1 := rfl)
    | (have q1 := t1; refine box_lawC _ (hv k n c l e t) rfl ?_; intro w2 X9 B9 l9; have HB0 : Hid (Vr w2 w.heap.size [.int .i64 g0, .int .i64 g1, .int .i64 (pn : Int), .int .i64 g3, .int .i64 g4, .int .i64 g5]) := HB0.out.below B9 (range_lt HB0.out.1 (Nat.succ_pos _)); have HB1 : Hid (Vr w2 w1.heap.size (hv k n c l e t)) := X9; have BB : Hid (Below w.heap.size w w2) := BB.out.trans (B9.mono BB.out.size); have hb0_0 := HB0.out.cell 0 _ rfl; have hb0_1 := HB0.out.cell 1 _ rfl; have hb0_2 := HB0.out.cell 2 _ rfl; have hb0_3 := HB0.out.cell 3 _ rfl; have hb0_4 := HB0.out.cell 4 _ rfl; have hb0_5 := HB0.out.cell 5 _ rfl; have hb1_0 := HB1.out.cell 0 _ rfl; have hb1_1 := HB1.out.cell 1 _ rfl; have hb1_2 := HB1.out.cell 2 _ rfl; have hb1_3 := HB1.out.cell 3 _ rfl; have hb1_4 := HB1.out.cell 4 _ rfl; have hb1_5 := HB1.out.cell 5 _ rfl; clear X9 B9 l9; clear t1; have t2 : (1 : Nat) = 1 := rfl)
    | (have q0 := t0; refine box_lawC _ [.int .i64 g0, .int .i64 g1, .int .i64 (pn : Int), .int .i64 g3, .int .i64 g4, .int .i64 g5] rfl ?_; intro w1 X9 B9 l9; have HB0 : Hid (Vr w1 w.heap.size [.int .i64 g0, .int .i64 g1, .int .i64 (pn : Int), .int .i64 g3, .int .i64 g4, .int .i64 g5]) := X9; have BB : Hid (Below w.heap.size w w1) := B9; clear X9 B9 l9; clear t0; have t1 : (1 : Nat) = 1 := rfl))
  go_ret2
  exact ⟨_, rfl, HR.out, BB.out⟩
set_option maxHeartbeats 4000000 in
theorem make_ye (g0 g1 g3 g4 g5 : Int) (S : Nat) (k n c l e t : Int) (pv tv : Value) (p tag : List Int) (w : World) (hp : Byt w pv p) (ht : Byt w tv tag) (hH : Hb l e t) (hT : Tab w) (hr : ge.Rt [g0, g1, (S : Int), g3, g4, g5]) (hl : p.length = 0) (hk : Rh k n c) (hn : tag.length = 0 ∨ tag.length = 32) :
    Calls Tryz.prog 90 #[.agg (ints .i64 [g0, g1, (S : Int), g3, g4, g5]), .agg (hv k n c l e t).toArray, pv, tv] w fun x w' => ∃ v, x = .returned (.tuple #[v, .int .i64 0]) ∧ Own w.heap.size w' v (plo S p ++ hend (hb k n c l e t) (tgo tag) (List.replicate 8 255)) ∧ Below w.heap.size w w' := by
  have ⟨s1, s2⟩ := sec_le hr
  have SK : Hid (∀ w0, Calls Tryz.prog 33 #[.agg (ints .i64 [g0, g1, (S : Int), g3, g4, g5])] w0 fun x w' => x = .returned (.int .i64 0) ∧ Below w0.heap.size w0 w') := ge.check_yes [g0, g1, (S : Int), g3, g4, g5] rfl hr
  have SE : Hid (∀ w0, Below w.heap.size w w0 → Calls Tryz.prog 115 #[.agg (hv k n c l e t).toArray, tv] w0 fun x w' => ∃ v, x = .returned (.tuple #[v, .int .i64 0]) ∧ Own w0.heap.size w' v (hend (hb k n c l e t) (tgo tag) (List.replicate 8 255)) ∧ Below w0.heap.size w0 w') := fun w0 hb => end_yes k n c l e t tv tag w0 (ht.below hb) hH.1 hH.2.1 hH.2.2 (hT.below hb) hk hn
  have SF : Hid (∀ w0, Calls Tryz.prog 114 #[.int .u8 255, .int .i64 (S : Int)] w0 fun x w' => ∃ ao cap, x = .returned (.slice ao S cap) ∧ Byt w' (.slice ao S cap) (List.replicate S 255) ∧ Below w0.heap.size w0 w') := fun w0 => (fill_any 255 S w0 (by omega)).mono (by rintro _ _ ⟨v, rfl, h1, h2⟩; rw [clampS (by omega)] at h1; obtain ⟨ao, cap, e, z⟩ := h1; rw [List.length_replicate] at e; subst e; exact ⟨ao, cap, rfl, ⟨ao, cap, by rw [List.length_replicate], z⟩, h2⟩)
  have EL : Hid ((hend (hb k n c l e t) (tgo tag) (List.replicate 8 255)).length = 88) := hend_len (hb_len _ _ _ _ _ _) (tgo_len hn) (by simp)
  have EA : Hid (AllB (hend (hb k n c l e t) (tgo tag) (List.replicate 8 255))) := hend_all hk (tgo_all ht.all) (allB_replicate 255 _ (by omega))
  obtain ⟨po, pn, pc, hpf, hpn⟩ : ∃ po pn pc, pv = .slice po pn pc ∧ p.length = pn := (by obtain ⟨ao, cap, e, _⟩ := hp; exact ⟨ao, _, cap, e, rfl⟩)
  subst hpf
  have e0 : pn = 0 := by omega
  subst e0
  have ez : plo S p = List.replicate S 255 := if_pos hpn
  rw [ez]
  obtain ⟨Z, hZ⟩ : ∃ Z, List.replicate S (255 : Int) = Z := ⟨_, rfl⟩
  rw [hZ] at SF ⊢
  have ZL : Hid (Z.length ≤ 10000 ∧ 0 < Z.length) := (by rw [← hZ, List.length_replicate]; exact ⟨by omega, by omega⟩)
  clear ez hZ
  generalize hend (hb k n c l e t) (tgo tag) (List.replicate 8 255) = E at SE EL EA ⊢
  clear hr hT hk hl hpn s1 s2 hn hH
  clear hp ht
  have t0 : (0 : Nat) = 0 := rfl
  go_enter Tryz.func90, Tryz.ntmps90
  go_wp2_with (first
    | (have q5 := t5; go_at_call 116; refine (join_any _ _ Z E w5 HP.out (HE.out.byt EA.out) ZL.out.1 (by rw [EL.out]; omega) ZL.out.2).mono ?_; rintro e9 w6 ⟨r9, rfl, O9, B9⟩; have HB0 : Hid (Vr w6 w.heap.size [.int .i64 g0, .int .i64 g1, .int .i64 (S : Int), .int .i64 g3, .int .i64 g4, .int .i64 g5]) := HB0.out.below B9 (range_lt HB0.out.1 (Nat.succ_pos _)); have HB1 : Hid (Vr w6 w1.heap.size (hv k n c l e t)) := HB1.out.below B9 (range_lt HB1.out.1 (Nat.succ_pos _)); have HP : Hid (Byt w6 (.slice fo S fc) Z) := HP.out.below B9; have HE : Hid (Own w4.heap.size w6 (.slice eo 88 ec) E) := own_low HE.out B9; have HR : Hid (Own w.heap.size w6 r9 (Z ++ E)) := own_less O9 BB.out.size; have BB : Hid (Below w.heap.size w w6) := BB.out.trans (B9.mono BB.out.size); clear hb0_0 hb0_1 hb0_2 hb0_3 hb0_4 hb0_5 hb1_0 hb1_1 hb1_2 hb1_3 hb1_4 hb1_5; have hb0_0 := HB0.out.cell 0 _ rfl; have hb0_1 := HB0.out.cell 1 _ rfl; have hb0_2 := HB0.out.cell 2 _ rfl; have hb0_3 := HB0.out.cell 3 _ rfl; have hb0_4 := HB0.out.cell 4 _ rfl; have hb0_5 := HB0.out.cell 5 _ rfl; have hb1_0 := HB1.out.cell 0 _ rfl; have hb1_1 := HB1.out.cell 1 _ rfl; have hb1_2 := HB1.out.cell 2 _ rfl; have hb1_3 := HB1.out.cell 3 _ rfl; have hb1_4 := HB1.out.cell 4 _ rfl; have hb1_5 := HB1.out.cell 5 _ rfl; clear B9 O9; clear t5; have t6 : (1 : Nat) = 1 := rfl)
    | (have q4 := t4; go_at_call 115; refine (SE.out w4 BB.out).mono ?_; rintro e9 w5 ⟨v9, rfl, O9, B9⟩; have HB0 : Hid (Vr w5 w.heap.size [.int .i64 g0, .int .i64 g1, .int .i64 (S : Int), .int .i64 g3, .int .i64 g4, .int .i64 g5]) := HB0.out.below B9 (range_lt HB0.out.1 (Nat.succ_pos _)); have HB1 : Hid (Vr w5 w1.heap.size (hv k n c l e t)) := HB1.out.below B9 (range_lt HB1.out.1 (Nat.succ_pos _)); have HP : Hid (Byt w5 (.slice fo S fc) Z) := HP.out.below B9; obtain ⟨eo, ec, rfl⟩ := own_form O9 EA.out; rw [EL.out] at O9 ⊢; have HE : Hid (Own w4.heap.size w5 (.slice eo 88 ec) E) := O9; have BB : Hid (Below w.heap.size w w5) := BB.out.trans (B9.mono BB.out.size); clear hb0_0 hb0_1 hb0_2 hb0_3 hb0_4 hb0_5 hb1_0 hb1_1 hb1_2 hb1_3 hb1_4 hb1_5; have hb0_0 := HB0.out.cell 0 _ rfl; have hb0_1 := HB0.out.cell 1 _ rfl; have hb0_2 := HB0.out.cell 2 _ rfl; have hb0_3 := HB0.out.cell 3 _ rfl; have hb0_4 := HB0.out.cell 4 _ rfl; have hb0_5 := HB0.out.cell 5 _ rfl; have hb1_0 := HB1.out.cell 0 _ rfl; have hb1_1 := HB1.out.cell 1 _ rfl; have hb1_2 := HB1.out.cell 2 _ rfl; have hb1_3 := HB1.out.cell 3 _ rfl; have hb1_4 := HB1.out.cell 4 _ rfl; have hb1_5 := HB1.out.cell 5 _ rfl; clear B9 O9; clear t4; have t5 : (1 : Nat) = 1 := rfl)
    | (have q3 := t3; go_at_call 114; refine (SF.out w3).mono ?_; rintro e9 w4 ⟨fo, fc, rfl, Y9, B9⟩; have HB0 : Hid (Vr w4 w.heap.size [.int .i64 g0, .int .i64 g1, .int .i64 (S : Int), .int .i64 g3, .int .i64 g4, .int .i64 g5]) := HB0.out.below B9 (range_lt HB0.out.1 (Nat.succ_pos _)); have HB1 : Hid (Vr w4 w1.heap.size (hv k n c l e t)) := HB1.out.below B9 (range_lt HB1.out.1 (Nat.succ_pos _)); have HP : Hid (Byt w4 (.slice fo S fc) Z) := Y9; have BB : Hid (Below w.heap.size w w4) := BB.out.trans (B9.mono BB.out.size); clear hb0_0 hb0_1 hb0_2 hb0_3 hb0_4 hb0_5 hb1_0 hb1_1 hb1_2 hb1_3 hb1_4 hb1_5; have hb0_0 := HB0.out.cell 0 _ rfl; have hb0_1 := HB0.out.cell 1 _ rfl; have hb0_2 := HB0.out.cell 2 _ rfl; have hb0_3 := HB0.out.cell 3 _ rfl; have hb0_4 := HB0.out.cell 4 _ rfl; have hb0_5 := HB0.out.cell 5 _ rfl; have hb1_0 := HB1.out.cell 0 _ rfl; have hb1_1 := HB1.out.cell 1 _ rfl; have hb1_2 := HB1.out.cell 2 _ rfl; have hb1_3 := HB1.out.cell 3 _ rfl; have hb1_4 := HB1.out.cell 4 _ rfl; have hb1_5 := HB1.out.cell 5 _ rfl; clear B9 Y9; clear t3; have t4 : (1 : Nat) = 1 := rfl)
    | (have q2 := t2; go_at_call 33; refine (SK.out w2).mono ?_; rintro e9 w3 ⟨rfl, B9⟩; have HB0 : Hid (Vr w3 w.heap.size [.int .i64 g0, .int .i64 g1, .int .i64 (S : Int), .int .i64 g3, .int .i64 g4, .int .i64 g5]) := HB0.out.below B9 (range_lt HB0.out.1 (Nat.succ_pos _)); have HB1 : Hid (Vr w3 w1.heap.size (hv k n c l e t)) := HB1.out.below B9 (range_lt HB1.out.1 (Nat.succ_pos _)); have BB : Hid (Below w.heap.size w w3) := BB.out.trans (B9.mono BB.out.size); clear hb0_0 hb0_1 hb0_2 hb0_3 hb0_4 hb0_5 hb1_0 hb1_1 hb1_2 hb1_3 hb1_4 hb1_5; have hb0_0 := HB0.out.cell 0 _ rfl; have hb0_1 := HB0.out.cell 1 _ rfl; have hb0_2 := HB0.out.cell 2 _ rfl; have hb0_3 := HB0.out.cell 3 _ rfl; have hb0_4 := HB0.out.cell 4 _ rfl; have hb0_5 := HB0.out.cell 5 _ rfl; have hb1_0 := HB1.out.cell 0 _ rfl; have hb1_1 := HB1.out.cell 1 _ rfl; have hb1_2 := HB1.out.cell 2 _ rfl; have hb1_3 := HB1.out.cell 3 _ rfl; have hb1_4 := HB1.out.cell 4 _ rfl; have hb1_5 := HB1.out.cell 5 _ rfl; clear B9; clear t2; have t3 : (1 : Nat) = 1 := rfl)
    | (have q1 := t1; refine box_lawC _ (hv k n c l e t) rfl ?_; intro w2 X9 B9 l9; have HB0 : Hid (Vr w2 w.heap.size [.int .i64 g0, .int .i64 g1, .int .i64 (S : Int), .int .i64 g3, .int .i64 g4, .int .i64 g5]) := HB0.out.below B9 (range_lt HB0.out.1 (Nat.succ_pos _)); have HB1 : Hid (Vr w2 w1.heap.size (hv k n c l e t)) := X9; have BB : Hid (Below w.heap.size w w2) := BB.out.trans (B9.mono BB.out.size); have hb0_0 := HB0.out.cell 0 _ rfl; have hb0_1 := HB0.out.cell 1 _ rfl; have hb0_2 := HB0.out.cell 2 _ rfl; have hb0_3 := HB0.out.cell 3 _ rfl; have hb0_4 := HB0.out.cell 4 _ rfl; have hb0_5 := HB0.out.cell 5 _ rfl; have hb1_0 := HB1.out.cell 0 _ rfl; have hb1_1 := HB1.out.cell 1 _ rfl; have hb1_2 := HB1.out.cell 2 _ rfl; have hb1_3 := HB1.out.cell 3 _ rfl; have hb1_4 := HB1.out.cell 4 _ rfl; have hb1_5 := HB1.out.cell 5 _ rfl; clear X9 B9 l9; clear t1; have t2 : (1 : Nat) = 1 := rfl)
    | (have q0 := t0; refine box_lawC _ [.int .i64 g0, .int .i64 g1, .int .i64 (S : Int), .int .i64 g3, .int .i64 g4, .int .i64 g5] rfl ?_; intro w1 X9 B9 l9; have HB0 : Hid (Vr w1 w.heap.size [.int .i64 g0, .int .i64 g1, .int .i64 (S : Int), .int .i64 g3, .int .i64 g4, .int .i64 g5]) := X9; have BB : Hid (Below w.heap.size w w1) := B9; clear X9 B9 l9; clear t0; have t1 : (1 : Nat) = 1 := rfl))
  go_ret2
  exact ⟨_, rfl, HR.out, BB.out⟩
theorem make_yes (g0 g1 g3 g4 g5 : Int) (S : Nat) (k n c l e t : Int) (pv tv : Value) (p tag : List Int) (w : World) (hp : Byt w pv p) (ht : Byt w tv tag) (hH : Hb l e t) (hT : Tab w) (hr : ge.Rt [g0, g1, (S : Int), g3, g4, g5]) (hl : p.length = 0 ∨ p.length = S) (hk : Rh k n c) (hn : tag.length = 0 ∨ tag.length = 32) :
    Calls Tryz.prog 90 #[.agg (ints .i64 [g0, g1, (S : Int), g3, g4, g5]), .agg (hv k n c l e t).toArray, pv, tv] w fun x w' => ∃ v, x = .returned (.tuple #[v, .int .i64 0]) ∧ Own w.heap.size w' v (plo S p ++ hend (hb k n c l e t) (tgo tag) (List.replicate 8 255)) ∧ Below w.heap.size w w' := by
  rcases hl with hl | hl
  · exact make_ye g0 g1 g3 g4 g5 S k n c l e t pv tv p tag w hp ht hH hT hr hl hk hn
  · exact make_yf g0 g1 g3 g4 g5 S k n c l e t pv tv p tag w hp ht hH hT hr hl hk hn
set_option maxHeartbeats 4000000 in
theorem commit_yes (g0 g1 g3 g4 g5 : Int) (S : Nat) (w : World) (hr : ge.Rt [g0, g1, (S : Int), g3, g4, g5]) :
    Calls Tryz.prog 68 #[.agg (ints .i64 [g0, g1, (S : Int), g3, g4, g5])] w fun x w' => ∃ v, x = .returned (.tuple #[v, .int .i64 0]) ∧ Own w.heap.size w' v (he.mark (S + 88)) ∧ Below w.heap.size w w' := by
  have ⟨s1, s2⟩ := sec_le hr
  have SK : Hid (∀ w0, Calls Tryz.prog 33 #[.agg (ints .i64 [g0, g1, (S : Int), g3, g4, g5])] w0 fun x w' => x = .returned (.int .i64 0) ∧ Below w0.heap.size w0 w') := ge.check_yes [g0, g1, (S : Int), g3, g4, g5] rfl hr
  have SZ : Hid (∀ w0, Calls Tryz.prog 37 #[.agg (ints .i64 [g0, g1, (S : Int), g3, g4, g5])] w0 fun x w' => x = .returned (.int .i64 ((S + 88 : Nat) : Int)) ∧ Below w0.heap.size w0 w') := fun w0 => ge.psize_yes [g0, g1, (S : Int), g3, g4, g5] rfl hr w0
  have SM : Hid (∀ w0, Calls Tryz.prog 91 #[.int .i64 ((S + 88 : Nat) : Int)] w0 fun x w' => ∃ v, x = .returned v ∧ Own w0.heap.size w' v (he.mark (S + 88)) ∧ Below w0.heap.size w0 w') := fun w0 => mark_yes (S + 88) w0 (by omega) (by omega)
  generalize he.mark (S + 88) = Z at SM ⊢
  generalize S + 88 = T at SM SZ
  clear s1 s2
  clear hr
  have t0 : (0 : Nat) = 0 := rfl
  go_enter Tryz.func68, Tryz.ntmps68
  go_wp2_with (first
    | (have q3 := t3; go_at_call 91; refine (SM.out w3).mono ?_; rintro e9 w4 ⟨v9, rfl, O9, B9⟩; have HB0 : Hid (Vr w4 w.heap.size [.int .i64 g0, .int .i64 g1, .int .i64 (S : Int), .int .i64 g3, .int .i64 g4, .int .i64 g5]) := HB0.out.below B9 (range_lt HB0.out.1 (Nat.succ_pos _)); have HR : Hid (Own w.heap.size w4 v9 Z) := own_less O9 BB.out.size; have BB : Hid (Below w.heap.size w w4) := BB.out.trans (B9.mono BB.out.size); clear hb0_0 hb0_1 hb0_2 hb0_3 hb0_4 hb0_5; have hb0_0 := HB0.out.cell 0 _ rfl; have hb0_1 := HB0.out.cell 1 _ rfl; have hb0_2 := HB0.out.cell 2 _ rfl; have hb0_3 := HB0.out.cell 3 _ rfl; have hb0_4 := HB0.out.cell 4 _ rfl; have hb0_5 := HB0.out.cell 5 _ rfl; clear B9 O9; clear t3; have t4 : (1 : Nat) = 1 := rfl)
    | (have q2 := t2; go_at_call 37; refine (SZ.out w2).mono ?_; rintro e9 w3 ⟨rfl, B9⟩; have HB0 : Hid (Vr w3 w.heap.size [.int .i64 g0, .int .i64 g1, .int .i64 (S : Int), .int .i64 g3, .int .i64 g4, .int .i64 g5]) := HB0.out.below B9 (range_lt HB0.out.1 (Nat.succ_pos _)); have BB : Hid (Below w.heap.size w w3) := BB.out.trans (B9.mono BB.out.size); clear hb0_0 hb0_1 hb0_2 hb0_3 hb0_4 hb0_5; have hb0_0 := HB0.out.cell 0 _ rfl; have hb0_1 := HB0.out.cell 1 _ rfl; have hb0_2 := HB0.out.cell 2 _ rfl; have hb0_3 := HB0.out.cell 3 _ rfl; have hb0_4 := HB0.out.cell 4 _ rfl; have hb0_5 := HB0.out.cell 5 _ rfl; clear B9; clear t2; have t3 : (1 : Nat) = 1 := rfl)
    | (have q1 := t1; go_at_call 33; refine (SK.out w1).mono ?_; rintro e9 w2 ⟨rfl, B9⟩; have HB0 : Hid (Vr w2 w.heap.size [.int .i64 g0, .int .i64 g1, .int .i64 (S : Int), .int .i64 g3, .int .i64 g4, .int .i64 g5]) := HB0.out.below B9 (range_lt HB0.out.1 (Nat.succ_pos _)); have BB : Hid (Below w.heap.size w w2) := BB.out.trans (B9.mono BB.out.size); clear hb0_0 hb0_1 hb0_2 hb0_3 hb0_4 hb0_5; have hb0_0 := HB0.out.cell 0 _ rfl; have hb0_1 := HB0.out.cell 1 _ rfl; have hb0_2 := HB0.out.cell 2 _ rfl; have hb0_3 := HB0.out.cell 3 _ rfl; have hb0_4 := HB0.out.cell 4 _ rfl; have hb0_5 := HB0.out.cell 5 _ rfl; clear B9; clear t1; have t2 : (1 : Nat) = 1 := rfl)
    | (have q0 := t0; refine box_lawC _ [.int .i64 g0, .int .i64 g1, .int .i64 (S : Int), .int .i64 g3, .int .i64 g4, .int .i64 g5] rfl ?_; intro w1 X9 B9 l9; have HB0 : Hid (Vr w1 w.heap.size [.int .i64 g0, .int .i64 g1, .int .i64 (S : Int), .int .i64 g3, .int .i64 g4, .int .i64 g5]) := X9; have BB : Hid (Below w.heap.size w w1) := B9; have hb0_0 := HB0.out.cell 0 _ rfl; have hb0_1 := HB0.out.cell 1 _ rfl; have hb0_2 := HB0.out.cell 2 _ rfl; have hb0_3 := HB0.out.cell 3 _ rfl; have hb0_4 := HB0.out.cell 4 _ rfl; have hb0_5 := HB0.out.cell 5 _ rfl; clear X9 B9 l9; clear t0; have t1 : (1 : Nat) = 1 := rfl))
  go_ret2
  exact ⟨_, rfl, HR.out, BB.out⟩
end Go.Proofs.YtakibiigcdgohaaGreatDoor.pa
