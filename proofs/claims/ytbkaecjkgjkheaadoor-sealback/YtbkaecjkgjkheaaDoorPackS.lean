/- Texts put together (a claim holds few files). No claim of its own. -/
import Derived.Test.YtbkaecjkgjkheaaDoorPackR
import Derived.Test.YtbkaecjkgjkheaaDoorPackQ
/- That the statements' own question 'does the program answer at all?' is answered by yes. No claim of its own. -/
namespace Go.Proofs.YtbkaecjkgjkheaaDoor.se
open Go.ChangeShapes Go.WideShapes Go.ChangeAt Go.RowKit Go.Proofs.YtbkaecjkgjkheaaDoor.fa Go.Proofs.YtbkaecjkgjkheaaDoor.he
set_option maxRecDepth 20000

set_option maxRecDepth 20000 in
set_option maxHeartbeats 4000000 in
theorem awake_any (w : World) (hT : Tab w) : Calls Tryd.prog 6 #[] w fun e w' => e = .returned (.bool true) ∧ Below w.heap.size w w' := by
  have SN : Hid (∀ w0 v, Byt w0 v (List.replicate 96 0) → Calls Tryd.prog 7 #[v] w0 fun x w' => ∃ p, x = .returned (.tuple #[.pointer (some ⟨p, 0, none⟩), .int .i64 0]) ∧ Kys w' p (List.replicate 96 0) ∧ Below w0.heap.size w0 w') := fun w0 v h => znew_yes v _ w0 h List.length_replicate
  have SS : Hid (∀ w0 p v, Below w.heap.size w w0 → Kys w0 p (List.replicate 96 0) → Byt w0 v (List.replicate 32 0) → Calls Tryd.prog 15 #[.pointer (some ⟨p, 0, none⟩), .agg (he.hv 1 0 0 0 0 0).toArray, v] w0 fun x w' => ∃ xo xc ao cap, x = .returned (.tuple #[.slice xo 32 xc, .slice ao 32 cap, .int .i64 0]) ∧ Below w0.heap.size w0 w') := fun w0 p v hb hk hv => by
    refine (zseal_yes 1 0 0 0 0 0 v _ w0 p _ hk List.length_replicate ⟨by omega, by omega, by omega, by omega, by omega, by omega⟩ ⟨by omega, by omega, by omega, by omega⟩ (hT.below hb) hv (allB_replicate 0 _ (by omega)) 2 List.length_replicate (by omega) (by omega)).mono ?_
    rintro _ _ ⟨xo, xc, ao, cap, h1, -, -, h4⟩
    rw [List.length_replicate] at h1
    exact ⟨xo, xc, ao, cap, h1, h4⟩
  have ST : Hid (∀ w0, Calls Tryd.prog 10 #[.agg (he.hv 0 0 0 0 0 7).toArray] w0 fun x w' => ∃ g cap, x = .returned (.slice (some ⟨g, 0, none⟩) 16 cap) ∧ w'.cell? ⟨g, 15, none⟩ = some (.int .u8 7) ∧ Below w0.heap.size w0 w') := fun w0 => by
    refine (ztweak_own 0 0 0 0 0 7 w0 ⟨by omega, by omega, by omega, by omega⟩).mono ?_
    rintro _ _ ⟨r, rfl, h1, h2⟩
    obtain ⟨g, cap, rfl, -, -, hc⟩ := own_cell h1 (twk_len _ _) (by omega)
    exact ⟨g, cap, rfl, hc 15 (by omega), h2⟩
  have AZ : Hid (∀ n : Nat, AllB (List.replicate n (0 : Int))) := fun n => allB_replicate 0 n (by omega)
  clear hT
  obtain ⟨Z, hZ⟩ : ∃ Z, List.replicate 96 (0 : Int) = Z := ⟨_, rfl⟩
  obtain ⟨Y, hY⟩ : ∃ Y, List.replicate 32 (0 : Int) = Y := ⟨_, rfl⟩
  have EZ : Hid (List.replicate 96 (0 : Int) = Z) := hZ
  have EY : Hid (List.replicate 32 (0 : Int) = Y) := hY
  rw [hZ] at SN SS
  rw [hY] at SS
  clear hZ hY
  have t0 : (0 : Nat) = 0 := rfl
  go_enter Tryd.func6, Tryd.ntmps6
  go_wp2_with (first
    | (have q5 := t5; go_at_call 10; refine (ST.out w4).mono ?_; rintro e9 w5 ⟨g5, cap5, rfl, c15, B5⟩; have BB : Hid (Below w.heap.size w w5) := BB.out.trans (B5.mono BB.out.size); clear B5 t5)
    | (have q4 := t4; go_at_call 15; refine (SS.out w3 p9 _ BB.out HK.out HS.out).mono ?_; rintro e9 w4 ⟨xo, xc, ao, cap, rfl, B4⟩; have BB : Hid (Below w.heap.size w w4) := BB.out.trans (B4.mono BB.out.size); clear B4 t4; have t5 : (1 : Nat) = 1 := rfl)
    | (have q3 := t3; refine make_law w2 rfl (.const (.int .i64 32)) (.const (.int .i64 32)) rfl w2.heap.size (Nat.le_refl _) 32 32 rfl rfl rfl (by omega) ?_; intro w3 o3 B3 l3; have y3 := o3.byt (AZ.out 32); rw [EY.out] at y3; have HS : Hid (Byt w3 (.slice (some ⟨w2.heap.size, 0, none⟩) 32 32) Y) := y3; have HK : Hid (Kys w3 p9 Z) := HK.out.below B3; have BB : Hid (Below w.heap.size w w3) := BB.out.trans (B3.mono BB.out.size); clear o3 y3 B3 l3 t3; have t4 : (1 : Nat) = 1 := rfl)
    | (have q2 := t2; refine build_law _ rfl 26 _ rfl (.agg (he.hv 1 0 0 0 0 0).toArray) (by kernel_rfl) ?_; clear t2; have t3 : (1 : Nat) = 1 := rfl)
    | (have q1 := t1; go_at_call 7; refine (SN.out w1 _ HB.out).mono ?_; rintro e9 w2 ⟨p9, rfl, k2, B2⟩; have HK : Hid (Kys w2 p9 Z) := k2; have BB : Hid (Below w.heap.size w w2) := BB.out.trans (B2.mono BB.out.size); clear k2 B2 t1 HB; have t2 : (1 : Nat) = 1 := rfl)
    | (have q0 := t0; refine make_law w rfl (.const (.int .i64 96)) (.const (.int .i64 96)) rfl w.heap.size (Nat.le_refl _) 96 96 rfl rfl rfl (by omega) ?_; intro w1 o1 B1 l1; have y1 := o1.byt (AZ.out 96); rw [EZ.out] at y1; have HB : Hid (Byt w1 (.slice (some ⟨w.heap.size, 0, none⟩) 96 96) Z) := y1; have BB : Hid (Below w.heap.size w w1) := B1; clear o1 y1 B1 l1 t0; have t1 : (1 : Nat) = 1 := rfl))
  go_ret
  exact ⟨rfl, BB.out⟩
end Go.Proofs.YtbkaecjkgjkheaaDoor.se

/- What the reference's Bytes, End and Read answer. No claim of its own. -/
namespace Go.Proofs.YtbkaecjkgjkheaaDoor.he
open Go.RowKit Go.Proofs.YtbkaecjkgjkheaaDoor.fa
set_option maxRecDepth 20000

section
variable {ops : Array Oper} {o : Oper} {a : Act} {Q : Exit → Act → World → Prop} {K : Act → World → Prop} {E : Prop}
/-- '[]byte{a, b, c, d}' -/
theorem step_lit4 (w : World) (hg : o.guard = none) (d : Option Tmp) (hd : o.dst = d) (x y z u : Operand) (hop : o.op = Op.buildSlice 22 4 #[(0, x), (1, y), (2, z), (3, u)]) (p q r s : Int) (hx : a.eval x = .int .u8 p) (hy : a.eval y = .int .u8 q) (hz : a.eval z = .int .u8 r) (hu : a.eval u = .int .u8 s)
    (hK : ∀ v w', Own w.heap.size w' v [p, q, r, s] → Below w.heap.size w w' → K (a.put d v) w') : if Region.wanted o (yielded ops a.tmps) = true then Oper.wp Tryd.prog o a w K Q else E := by
  have hw : Region.wanted o (yielded ops a.tmps) = true := by simp [Region.wanted, hg]
  rw [if_pos hw]
  subst hd
  have hrun : (Instr.buildSlice 22 4 #[(0, .int .u8 p), (1, .int .u8 q), (2, .int .u8 r), (3, .int .u8 s)]).run Tryd.prog w = .ok (.slice (some ⟨w.heap.size, 0, none⟩) 4 4) (w.alloc (.cells #[.int .u8 p, .int .u8 q, .int .u8 r, .int .u8 s] 5)) := by kernel_rfl
  unfold Oper.wp execOp
  simp only [hop, List.map_toArray, List.map_cons, List.map_nil, hx, hy, hz, hu, Sem.run_bind, Sem.run_pure, Result.andThen_ok, hrun]
  exact hK _ _ (World.ownsRow_lit (e := 5) (size := 1) (base := w.heap.size) w #[.int .u8 p, .int .u8 q, .int .u8 r, .int .u8 s] 4 (Nat.le_refl _) (by simp [maxLen]) rfl) ((Below.refl _ _).alloc (Nat.le_refl _) _)
end
theorem ld_u32 {w : World} {b p : Nat} {x : Int} (h : w.cell? ⟨b, p, none⟩ = some (.int .u32 x)) : (Instr.loadAt 23 (.pointer (some ⟨b, p, none⟩))).run Tryd.prog w = .ok (.int .u32 x) w := by
  simp only [Instr.loadAt, Instr.sureAddr, Sem.run_bind, Sem.run_pure, Result.andThen_ok, run_load1 w b p 23 .u32 x Tryd.underlying23 h]
theorem ld_int {w : World} {b p : Nat} {x : Int} (h : w.cell? ⟨b, p, none⟩ = some (.int .i64 x)) : (Instr.loadAt 3 (.pointer (some ⟨b, p, none⟩))).run Tryd.prog w = .ok (.int .i64 x) w := by
  simp only [Instr.loadAt, Instr.sureAddr, Sem.run_bind, Sem.run_pure, Result.andThen_ok, run_load1 w b p 3 .i64 x Tryd.underlying3 h]
theorem ld_u8 {w : World} {b p : Nat} {x : Int} (h : w.cell? ⟨b, p, none⟩ = some (.int .u8 x)) : (Instr.loadAt 5 (.pointer (some ⟨b, p, none⟩))).run Tryd.prog w = .ok (.int .u8 x) w := by
  simp only [Instr.loadAt, Instr.sureAddr, Sem.run_bind, Sem.run_pure, Result.andThen_ok, run_load1 w b p 5 .u8 x Tryd.underlying5 h]

set_option maxHeartbeats 4000000 in
theorem rbytes_own (k n c l e t : Int) (w : World) (h : Rh k n c) (hl : 0 ≤ l ∧ l ≤ 4294967295) (he : 0 ≤ e ∧ e ≤ 18446744073709551615) (ht : 0 ≤ t ∧ t ≤ 18446744073709551615) :
    Calls Tryd.prog 25 #[.agg (hv k n c l e t).toArray] w fun x w' => ∃ v, x = .returned v ∧ Own w.heap.size w' v (hb k n c l e t) ∧ Below w.heap.size w w' := by
  obtain ⟨r1, r2, r3, r4, r5, r6⟩ := h
  have k1 : IntKind.u8.wrap k = k := by rw [IntKind.wrap_u8]; omega
  have k2 : IntKind.u8.wrap n = n := by rw [IntKind.wrap_u8]; omega
  have k3 : IntKind.u8.wrap c = c := by rw [IntKind.wrap_u8]; omega
  have k4 : IntKind.u64.wrap l = l := by rw [IntKind.wrap_u64]; omega
  have S4 : Hid (∀ w, Calls Tryd.prog 23 #[.int .u64 l, .int .i64 4] w fun e w' => ∃ v, e = .returned v ∧ Byt w' v (be l 4) ∧ Below w.heap.size w w') := fun w => by
    have := rbig_any l 4 w (by omega)
    rw [clamp48.1] at this
    exact this
  have S8 : Hid (∀ w, Calls Tryd.prog 23 #[.int .u64 e, .int .i64 8] w fun e' w' => ∃ v, e' = .returned v ∧ Byt w' v (be e 8) ∧ Below w.heap.size w w') := fun w => by
    have := rbig_any e 8 w he
    rw [clamp48.2.1] at this
    exact this
  have S9 : Hid (∀ w, Calls Tryd.prog 23 #[.int .u64 t, .int .i64 8] w fun e' w' => ∃ v, e' = .returned v ∧ Byt w' v (be t 8) ∧ Below w.heap.size w w') := fun w => by
    have := rbig_any t 8 w ht
    rw [clamp48.2.1] at this
    exact this
  have LN : Hid ((be l 4).length = 4 ∧ (be e 8).length = 8 ∧ (be t 8).length = 8) := ⟨be_len _ _, be_len _ _, be_len _ _⟩
  have HE : Hid (([k, n, c, 0] ++ be l 4 ++ be e 8) ++ be t 8 = hb k n c l e t) := by
    show _ = _
    simp [hb]
  generalize hb k n c l e t = Z at *
  generalize be l 4 = X4 at *
  generalize be e 8 = X8 at *
  generalize be t 8 = X9 at *
  clear r1 r2 r3 r4 r5 r6 hl he ht
  have t0 : (0 : Nat) = 0 := rfl
  go_enter Tryd.func25, Tryd.ntmps25
  go_wp2_with (have q0 := t0; refine box_lawC _ (hv k n c l e t) rfl ?_; intro w1 V1 B1 s1; have HV : Hid (Vr w1 w.heap.size (hv k n c l e t)) := V1; clear V1 t0)
  refine wp_region_held_drew (S := fun w' => Below w1.heap.size w1 w') (by kernel_rfl) (Below.refl _ _).drew (fun hS => ?_)
  obtain ⟨x1, hx0⟩ : ∃ x, x = w1.drew := ⟨_, rfl⟩
  rw [← hx0] at hS  ⊢
  clear hx0
  refine take_lawH 0 (some 4) (.pointer (some ⟨w.heap.size, 0, none⟩)) rfl rfl (by kernel_rfl) (by kernel_rfl) (by kernel_rfl) (fun _ _ _ h => h) (Or.inl ⟨by rfl, fun w' hw' => by go_simp⟩) hS ?_
  simp only [Act.put, List.setIfInBounds_toArray, List.set_cons_zero, List.set_cons_succ]
  refine take_lawH 1 (some 5) (.int .i64 k) rfl rfl (by kernel_rfl) (by kernel_rfl) (by kernel_rfl) (fun _ _ _ h => h) (Or.inl ⟨by rfl, fun w' hw' => by exact exec_loadN 3 (.tmp 4) rfl _ rfl _ _ (ld_int ((HV.out.below hw' s1).cell 0 _ rfl))⟩) hS ?_
  simp only [Act.put, List.setIfInBounds_toArray, List.set_cons_zero, List.set_cons_succ]
  refine take_lawH 2 (some 6) (.int .u8 k) rfl rfl (by kernel_rfl) (by kernel_rfl) (by kernel_rfl) (fun _ _ _ h => h) (Or.inl ⟨by rfl, fun w' hw' => by go_simp⟩) hS ?_
  simp only [Act.put, List.setIfInBounds_toArray, List.set_cons_zero, List.set_cons_succ]
  refine take_lawH 3 (some 7) (.pointer (some ⟨w.heap.size, 1, none⟩)) rfl rfl (by kernel_rfl) (by kernel_rfl) (by kernel_rfl) (fun _ _ _ h => h) (Or.inl ⟨by rfl, fun w' hw' => by go_simp⟩) hS ?_
  simp only [Act.put, List.setIfInBounds_toArray, List.set_cons_zero, List.set_cons_succ]
  refine take_lawH 4 (some 8) (.int .i64 n) rfl rfl (by kernel_rfl) (by kernel_rfl) (by kernel_rfl) (fun _ _ _ h => h) (Or.inl ⟨by rfl, fun w' hw' => by exact exec_loadN 3 (.tmp 7) rfl _ rfl _ _ (ld_int ((HV.out.below hw' s1).cell 1 _ rfl))⟩) hS ?_
  simp only [Act.put, List.setIfInBounds_toArray, List.set_cons_zero, List.set_cons_succ]
  refine take_lawH 5 (some 9) (.int .u8 n) rfl rfl (by kernel_rfl) (by kernel_rfl) (by kernel_rfl) (fun _ _ _ h => h) (Or.inl ⟨by rfl, fun w' hw' => by go_simp⟩) hS ?_
  simp only [Act.put, List.setIfInBounds_toArray, List.set_cons_zero, List.set_cons_succ]
  refine take_lawH 6 (some 10) (.pointer (some ⟨w.heap.size, 2, none⟩)) rfl rfl (by kernel_rfl) (by kernel_rfl) (by kernel_rfl) (fun _ _ _ h => h) (Or.inl ⟨by rfl, fun w' hw' => by go_simp⟩) hS ?_
  simp only [Act.put, List.setIfInBounds_toArray, List.set_cons_zero, List.set_cons_succ]
  refine take_lawH 7 (some 11) (.int .i64 c) rfl rfl (by kernel_rfl) (by kernel_rfl) (by kernel_rfl) (fun _ _ _ h => h) (Or.inl ⟨by rfl, fun w' hw' => by exact exec_loadN 3 (.tmp 10) rfl _ rfl _ _ (ld_int ((HV.out.below hw' s1).cell 2 _ rfl))⟩) hS ?_
  simp only [Act.put, List.setIfInBounds_toArray, List.set_cons_zero, List.set_cons_succ]
  refine take_lawH 8 (some 12) (.int .u8 c) rfl rfl (by kernel_rfl) (by kernel_rfl) (by kernel_rfl) (fun _ _ _ h => h) (Or.inl ⟨by rfl, fun w' hw' => by go_simp⟩) hS ?_
  simp only [Act.put, List.setIfInBounds_toArray, List.set_cons_zero, List.set_cons_succ]
  refine take_lawH 10 (some 14) (.pointer (some ⟨w.heap.size, 3, none⟩)) rfl rfl (by kernel_rfl) (by kernel_rfl) (by kernel_rfl) (fun _ _ _ h => h) (Or.inl ⟨by rfl, fun w' hw' => by go_simp⟩) hS ?_
  simp only [Act.put, List.setIfInBounds_toArray, List.set_cons_zero, List.set_cons_succ]
  refine take_lawH 11 (some 15) (.int .u32 l) rfl rfl (by kernel_rfl) (by kernel_rfl) (by kernel_rfl) (fun _ _ _ h => h) (Or.inl ⟨by rfl, fun w' hw' => by exact exec_loadN 23 (.tmp 14) rfl _ rfl _ _ (ld_u32 ((HV.out.below hw' s1).cell 3 _ rfl))⟩) hS ?_
  simp only [Act.put, List.setIfInBounds_toArray, List.set_cons_zero, List.set_cons_succ]
  refine take_lawH 12 (some 16) (.int .u64 l) rfl rfl (by kernel_rfl) (by kernel_rfl) (by kernel_rfl) (fun _ _ _ h => h) (Or.inl ⟨by rfl, fun w' hw' => by go_simp⟩) hS ?_
  simp only [Act.put, List.setIfInBounds_toArray, List.set_cons_zero, List.set_cons_succ]
  refine wpAnyH_ready (rs := [9, 13]) (by kernel_rfl) (by simp) ?_
  refine AllReadyH.cons rfl (fun K hK => ?_) (AllReadyH.cons rfl (fun K hK => ?_) AllReadyH.nil)
  · refine step_lit4 _ rfl (some 13) rfl (.tmp 6) (.tmp 9) (.tmp 12) (.const (.int .u8 0)) rfl k n c 0 rfl rfl rfl rfl ?_
    intro lv x2 y9 hb
    have OL : Hid (Own w1.heap.size x2 lv [k, n, c, 0]) := own_less y9 hS.size
    have hS : Below w1.heap.size w1 x2 := hS.trans (hb.mono hS.size)
    clear hb y9
    refine hK.out _ _ hS (fun _ => ?_)
    simp only [Act.put, List.setIfInBounds_toArray, List.set_cons_zero, List.set_cons_succ]
    clear hK K
    refine wpAnyH_ready (rs := [13]) (by kernel_rfl) (by simp) ?_
    refine AllReadyH.cons rfl (fun K hK => ?_) AllReadyH.nil
    refine step_callW _ (by rfl) (some 17) rfl 23 #[.tmp 16, .const (.int .i64 4)] #[24, 3] rfl (fun q w' => by rfl) #[.int .u64 l, .int .i64 4] (by simp only [List.map_toArray, List.map_cons, List.map_nil]; rfl) (fun u w' => (Byt w' u X4) ∧ Below x2.heap.size x2 w') ?_ ?_
    · exact S4.out x2
    rintro bv x3 ⟨y9, hb⟩
    have OL : Hid (Own w1.heap.size x3 lv [k, n, c, 0]) := own_low OL.out hb
    have YB : Hid (Byt x3 bv X4) := y9
    have hS : Below w1.heap.size w1 x3 := hS.trans (hb.mono hS.size)
    clear hb y9
    refine hK.out _ _ hS (fun _ => ?_)
    simp only [Act.put, List.setIfInBounds_toArray, List.set_cons_zero, List.set_cons_succ]
    clear hK K
    refine wpAnyH_ready (rs := [14]) (by kernel_rfl) (by simp) ?_
    refine AllReadyH.cons rfl (fun K hK => ?_) AllReadyH.nil
    refine step_pushs _ rfl (some 18) rfl (.tmp 13) (.tmp 17) rfl w1.heap.size hS.size _ _ [k, n, c, 0] X4 rfl rfl OL.out YB.out (by simp) (by have := LN.out; omega) ?_
    intro pv x4 y9 hb
    have OP : Hid (Own w1.heap.size x4 pv ([k, n, c, 0] ++ X4)) := y9
    have hS : Below w1.heap.size w1 x4 := hS.trans hb
    clear hb y9
    refine hK.out _ _ hS (fun _ => ?_)
    simp only [Act.put, List.setIfInBounds_toArray, List.set_cons_zero, List.set_cons_succ]
    clear hK K
    refine take_lawH 15 (some 3) (pv) rfl rfl (by kernel_rfl) (by kernel_rfl) (by kernel_rfl) (fun _ _ _ h => h) (Or.inl ⟨by rfl, fun w' hw' => by rfl⟩) hS ?_
    simp only [Act.put, List.setIfInBounds_toArray, List.set_cons_zero, List.set_cons_succ]
    refine wpAnyH_done (by kernel_rfl) ?_ _
    have HV : Hid (Vr x4 w.heap.size (hv k n c l e t)) := HV.out.below hS s1
    have BB : Hid (Below w.heap.size w x4) := B1.trans (hS.mono (by omega))
    have z9 : w1.heap.size ≤ x4.heap.size := hS.size
    have c4 := HV.out.cell 4 _ rfl
    clear hS
    have t1 : (0 : Nat) = 0 := rfl
    go_wp2_with (first
      | (have q4 := t4; at_builtin; refine pushs_law _ rfl (.tmp 24) (.tmp 27) rfl w1.heap.size (by omega) _ _ _ X9 rfl rfl OP.out Y9.out (by have := LN.out; simp; omega) ?_; intro v8 w8 o8 B8; have OP : Hid (Own w1.heap.size w8 v8 (([k, n, c, 0] ++ X4 ++ X8) ++ X9)) := o8; have BB : Hid (Below w.heap.size w w8) := BB.out.trans (B8.mono (by omega)); clear o8 B8 t4)
      | (have q3 := t3; go_at_call 23; refine (S9.out _).mono ?_; rintro e9 w7 ⟨v7, rfl, y7, B7⟩; have Y9 : Hid (Byt w7 v7 X9) := y7; have OP : Hid (Own w1.heap.size w7 v6 ([k, n, c, 0] ++ X4 ++ X8)) := own_low OP.out B7; have BB : Hid (Below w.heap.size w w7) := BB.out.trans (B7.mono BB.out.size); have z7 : w1.heap.size ≤ w7.heap.size := Nat.le_trans z6 B7.size; clear y7 B7 t3; have t4 : (0 : Nat) = 0 := rfl)
      | (have q2 := t2; at_builtin; refine pushs_law _ rfl (.tmp 19) (.tmp 22) rfl w1.heap.size (by omega) _ _ _ X8 rfl rfl OP.out Y8.out (by have := LN.out; simp; omega) ?_; intro v6 w6 o6 B6; have OP : Hid (Own w1.heap.size w6 v6 (([k, n, c, 0] ++ X4) ++ X8)) := o6; have c5 := (HV.out.below B6 s1).cell 5 _ rfl; have BB : Hid (Below w.heap.size w w6) := BB.out.trans (B6.mono (by omega)); have z6 : w1.heap.size ≤ w6.heap.size := Nat.le_trans z5 B6.size; clear o6 B6 t2; have t3 : (0 : Nat) = 0 := rfl)
      | (have q1 := t1; go_at_call 23; refine (S8.out _).mono ?_; rintro e9 w5 ⟨v5, rfl, y5, B5⟩; have Y8 : Hid (Byt w5 v5 X8) := y5; have OP : Hid (Own w1.heap.size w5 pv ([k, n, c, 0] ++ X4)) := own_low OP.out B5; have HV : Hid (Vr w5 w.heap.size (hv k n c l e t)) := HV.out.below B5 (by omega); have BB : Hid (Below w.heap.size w w5) := BB.out.trans (B5.mono BB.out.size); have z5 : w1.heap.size ≤ w5.heap.size := Nat.le_trans z9 B5.size; clear y5 B5 t1 c4; have t2 : (0 : Nat) = 0 := rfl))
    go_ret
    exact ⟨_, rfl, by have z := OP.out; rw [HE.out] at z; exact own_less z (by omega), BB.out⟩
  · refine step_callW _ (by rfl) (some 17) rfl 23 #[.tmp 16, .const (.int .i64 4)] #[24, 3] rfl (fun q w' => by rfl) #[.int .u64 l, .int .i64 4] (by simp only [List.map_toArray, List.map_cons, List.map_nil]; rfl) (fun u w' => (Byt w' u X4) ∧ Below x1.heap.size x1 w') ?_ ?_
    · exact S4.out x1
    rintro bv x5 ⟨y9, hb⟩
    have YB : Hid (Byt x5 bv X4) := y9
    have hS : Below w1.heap.size w1 x5 := hS.trans (hb.mono hS.size)
    clear hb y9
    refine hK.out _ _ hS (fun _ => ?_)
    simp only [Act.put, List.setIfInBounds_toArray, List.set_cons_zero, List.set_cons_succ]
    clear hK K
    refine wpAnyH_ready (rs := [9]) (by kernel_rfl) (by simp) ?_
    refine AllReadyH.cons rfl (fun K hK => ?_) AllReadyH.nil
    refine step_lit4 _ rfl (some 13) rfl (.tmp 6) (.tmp 9) (.tmp 12) (.const (.int .u8 0)) rfl k n c 0 rfl rfl rfl rfl ?_
    intro lv x6 y9 hb
    have YB : Hid (Byt x6 bv X4) := YB.out.below hb
    have OL : Hid (Own w1.heap.size x6 lv [k, n, c, 0]) := own_less y9 hS.size
    have hS : Below w1.heap.size w1 x6 := hS.trans (hb.mono hS.size)
    clear hb y9
    refine hK.out _ _ hS (fun _ => ?_)
    simp only [Act.put, List.setIfInBounds_toArray, List.set_cons_zero, List.set_cons_succ]
    clear hK K
    refine wpAnyH_ready (rs := [14]) (by kernel_rfl) (by simp) ?_
    refine AllReadyH.cons rfl (fun K hK => ?_) AllReadyH.nil
    refine step_pushs _ rfl (some 18) rfl (.tmp 13) (.tmp 17) rfl w1.heap.size hS.size _ _ [k, n, c, 0] X4 rfl rfl OL.out YB.out (by simp) (by have := LN.out; omega) ?_
    intro pv x7 y9 hb
    have OP : Hid (Own w1.heap.size x7 pv ([k, n, c, 0] ++ X4)) := y9
    have hS : Below w1.heap.size w1 x7 := hS.trans hb
    clear hb y9
    refine hK.out _ _ hS (fun _ => ?_)
    simp only [Act.put, List.setIfInBounds_toArray, List.set_cons_zero, List.set_cons_succ]
    clear hK K
    refine take_lawH 15 (some 3) (pv) rfl rfl (by kernel_rfl) (by kernel_rfl) (by kernel_rfl) (fun _ _ _ h => h) (Or.inl ⟨by rfl, fun w' hw' => by rfl⟩) hS ?_
    simp only [Act.put, List.setIfInBounds_toArray, List.set_cons_zero, List.set_cons_succ]
    refine wpAnyH_done (by kernel_rfl) ?_ _
    have HV : Hid (Vr x7 w.heap.size (hv k n c l e t)) := HV.out.below hS s1
    have BB : Hid (Below w.heap.size w x7) := B1.trans (hS.mono (by omega))
    have z9 : w1.heap.size ≤ x7.heap.size := hS.size
    have c4 := HV.out.cell 4 _ rfl
    clear hS
    have t1 : (0 : Nat) = 0 := rfl
    go_wp2_with (first
      | (have q4 := t4; at_builtin; refine pushs_law _ rfl (.tmp 24) (.tmp 27) rfl w1.heap.size (by omega) _ _ _ X9 rfl rfl OP.out Y9.out (by have := LN.out; simp; omega) ?_; intro v8 w8 o8 B8; have OP : Hid (Own w1.heap.size w8 v8 (([k, n, c, 0] ++ X4 ++ X8) ++ X9)) := o8; have BB : Hid (Below w.heap.size w w8) := BB.out.trans (B8.mono (by omega)); clear o8 B8 t4)
      | (have q3 := t3; go_at_call 23; refine (S9.out _).mono ?_; rintro e9 w7 ⟨v7, rfl, y7, B7⟩; have Y9 : Hid (Byt w7 v7 X9) := y7; have OP : Hid (Own w1.heap.size w7 v6 ([k, n, c, 0] ++ X4 ++ X8)) := own_low OP.out B7; have BB : Hid (Below w.heap.size w w7) := BB.out.trans (B7.mono BB.out.size); have z7 : w1.heap.size ≤ w7.heap.size := Nat.le_trans z6 B7.size; clear y7 B7 t3; have t4 : (0 : Nat) = 0 := rfl)
      | (have q2 := t2; at_builtin; refine pushs_law _ rfl (.tmp 19) (.tmp 22) rfl w1.heap.size (by omega) _ _ _ X8 rfl rfl OP.out Y8.out (by have := LN.out; simp; omega) ?_; intro v6 w6 o6 B6; have OP : Hid (Own w1.heap.size w6 v6 (([k, n, c, 0] ++ X4) ++ X8)) := o6; have c5 := (HV.out.below B6 s1).cell 5 _ rfl; have BB : Hid (Below w.heap.size w w6) := BB.out.trans (B6.mono (by omega)); have z6 : w1.heap.size ≤ w6.heap.size := Nat.le_trans z5 B6.size; clear o6 B6 t2; have t3 : (0 : Nat) = 0 := rfl)
      | (have q1 := t1; go_at_call 23; refine (S8.out _).mono ?_; rintro e9 w5 ⟨v5, rfl, y5, B5⟩; have Y8 : Hid (Byt w5 v5 X8) := y5; have OP : Hid (Own w1.heap.size w5 pv ([k, n, c, 0] ++ X4)) := own_low OP.out B5; have HV : Hid (Vr w5 w.heap.size (hv k n c l e t)) := HV.out.below B5 (by omega); have BB : Hid (Below w.heap.size w w5) := BB.out.trans (B5.mono BB.out.size); have z5 : w1.heap.size ≤ w5.heap.size := Nat.le_trans z9 B5.size; clear y5 B5 t1 c4; have t2 : (0 : Nat) = 0 := rfl))
    go_ret
    exact ⟨_, rfl, by have z := OP.out; rw [HE.out] at z; exact own_less z (by omega), BB.out⟩
end Go.Proofs.YtbkaecjkgjkheaaDoor.he

/- What the reference's Sector, Big, Tweak and Tag answer. No claim of its own. -/
namespace Go.Proofs.YtbkaecjkgjkheaaDoor.se
open Go.RowKit Go.Proofs.YtbkaecjkgjkheaaDoor.fa Go.Proofs.YtbkaecjkgjkheaaDoor.he
set_option maxRecDepth 20000

set_option maxHeartbeats 1000000 in
theorem rsector_any (w : World) (v : Value) (xs : List Int) (h : Byt w v xs) (b : Bool) (hb : b = decide (16 ≤ xs.length ∧ xs.length ≤ 4096 ∧ xs.length % 16 = 0)) :
    Calls Tryd.prog 14 #[v] w fun e w' => e = .returned (.bool b) ∧ w' = w := by
  obtain ⟨ao, cap, rfl, h1, h2, -, -, -⟩ := h
  obtain ⟨n, hn⟩ : ∃ n, n = xs.length := ⟨_, rfl⟩
  rw [← hn] at hb h1 ⊢
  clear hn
  have HB : Hid (b = decide (16 ≤ n ∧ n ≤ 4096 ∧ n % 16 = 0)) := hb
  clear hb
  obtain ⟨m, hm⟩ : ∃ m, m = n % 16 := ⟨_, rfl⟩
  have HM : Hid (m = n % 16) := hm
  have d1 : (n : Int).tmod 16 = (m : Int) := by rw [Int.tmod_eq_emod_of_nonneg (by omega)]; omega
  have d2 : IntKind.i64.wrap (m : Int) = m := by rw [IntKind.wrap_i64]; omega
  clear hm
  by_cases a1 : 16 ≤ n
  · have l1 : (16 : Int) ≤ (n : Int) := by omega
    by_cases a2 : n ≤ 4096
    · have l2 : (n : Int) ≤ 4096 := by omega
      by_cases a3 : m = 0
      · subst a3
        go_enter Tryd.func14, Tryd.ntmps14
        go_wp2
        go_ret
        exact ⟨ret_bool (by rw [HB.out, ← HM.out]; simp; omega), rfl⟩
      · have l3 : ¬ ((m : Int) = 0) := by omega
        go_enter Tryd.func14, Tryd.ntmps14
        go_wp2
        go_ret
        have e0 : ((m : Int) == 0) = false := by simpa using a3
        exact ⟨ret_bool (by rw [HB.out, ← HM.out, e0]; simp [a3]), rfl⟩
    · have l2 : ¬ (n : Int) ≤ 4096 := by omega
      go_enter Tryd.func14, Tryd.ntmps14
      go_wp2
      go_ret
      exact ⟨ret_bool (by rw [HB.out]; simp; omega), rfl⟩
  · have l1 : ¬ (16 : Int) ≤ (n : Int) := by omega
    go_enter Tryd.func14, Tryd.ntmps14
    go_wp2
    go_ret
    exact ⟨ret_bool (by rw [HB.out]; simp; omega), rfl⟩

set_option maxHeartbeats 2000000 in
theorem bak_own (v : Value) (xs : List Int) (w : World) (hb : Byt w v xs) (hl : xs.length ≤ 1048576) :
    Calls Tryd.prog 38 #[v] w fun e w' => ∃ v', e = .returned v' ∧ Own w.heap.size w' v' xs.reverse ∧ Below w.heap.size w w' := by
  obtain ⟨ao, cap, rfl, h1, h2, h3, -, h5⟩ := hb
  have H5 : Hid (0 < xs.length → ∃ b off, ao = some ⟨b, off, none⟩ ∧ ∀ t, t < xs.length → w.cell? ⟨b, off + t, none⟩ = some (.int .u8 (gb xs t))) := h5
  clear h5 h3
  go_enter Tryd.func38, Tryd.ntmps38
  go_wp2
  go_loopw [3, 4] (fun v i wr => ∃ k : Nat, k ≤ xs.length ∧ i = .int .i64 ((xs.length : Int) - 1 - k) ∧ Own w.heap.size wr v (xs.reverse.take k) ∧ Below w.heap.size w wr) (fun _ i _ => (intOf i + 1).toNat)
  case atStart => exact ⟨0, Nat.zero_le _, by simp, Own.empty w (Nat.le_refl _), (Below.refl _ _).alloc (Nat.le_refl _) _⟩
  case round =>
    obtain ⟨k, hk, rfl, hown, hbel⟩ := hrel
    have hsz := hbel.size
    by_cases hlt : k < xs.length
    · obtain ⟨b, off, rfl, hca⟩ := H5.out (by omega)
      have c0 := hca (xs.length - 1 - k) (by omega)
      have c1 : wr.cell? ⟨b, off + (xs.length - 1 - k), none⟩ = some (.int .u8 (gb xs (xs.length - 1 - k))) := by rw [hbel.cell (World.block_lt_of_cell? w _ c0)]; exact c0
      have e2 : ((xs.length : Int) - 1 - (k : Int)).toNat = xs.length - 1 - k := by omega
      clear c0 hca
      go_wp2_with (at_builtin; refine push_law wr rfl (.tmp 13) (.tmp 18) rfl w.heap.size (by omega) _ _ (gb xs (xs.length - 1 - k)) rfl rfl hown (by simp; omega) ?_; intro v' w1 hown' hbel')
      rw [← rev_snoc xs k hlt] at hown'
      go_roundw
      case rel => exact ⟨k + 1, by omega, by go_num, hown', hbel.trans hbel'⟩
      case measure => simp [intOf]; omega
    · have hks : k = xs.length := by omega
      subst hks
      rw [List.take_of_length_le (by simp)] at hown
      go_wp2
      go_ret
      exact ⟨_, rfl, hown, hbel⟩

set_option maxHeartbeats 2000000 in
theorem rbig_own (x : Int) (w : World) (hn : 0 ≤ x ∧ x ≤ 18446744073709551615) :
    Calls Tryd.prog 23 #[.int .u64 x, .int .i64 8] w fun e w' => ∃ v, e = .returned v ∧ Own w.heap.size w' v (le x 8).reverse ∧ Below w.heap.size w w' := by
  have SL : Hid (Calls Tryd.prog 39 #[.int .u64 x, .int .i64 8] w fun e w' => ∃ v, e = .returned v ∧ Byt w' v (le x 8) ∧ Below w.heap.size w w') := by
    have := rlittle_any x 8 w hn
    rw [clamp48.2.1] at this
    exact this
  clear hn
  go_enter Tryd.func23, Tryd.ntmps23
  go_wp2_with (first
    | (go_at_call 39; refine SL.out.mono ?_; rintro e w1 ⟨v1, rfl, hv1, hb1⟩; have hz1 := hb1.size)
    | (go_at_call 38; refine (bak_own v1 _ _ hv1 (by rw [le_len]; omega)).mono ?_; rintro e w2 ⟨v2, rfl, hv2, hb2⟩))
  go_ret
  exact ⟨_, rfl, own_less hv2 hz1, hb1.trans (hb2.mono hz1)⟩

set_option maxHeartbeats 4000000 in
theorem rztweak_any (k n c l e t : Int) (w : World) (hH : Hb l e t) :
    Calls Tryd.prog 11 #[.agg (he.hv k n c l e t).toArray] w fun x w' => ∃ r, x = .returned r ∧ Byt w' r (twk e t) ∧ Below w.heap.size w w' := by
  have HE : Hid (0 ≤ e ∧ e ≤ 18446744073709551615) := hH.2.1
  have HQ : Hid (0 ≤ t ∧ t ≤ 18446744073709551615) := hH.2.2
  clear hH
  have t0 : (0 : Nat) = 0 := rfl
  go_enter Tryd.func11, Tryd.ntmps11
  go_wp2_with (first
    | (have q0 := t0; refine box_lawC _ (he.hv k n c l e t) rfl ?_; intro w1 X9 B9 l9; have HB0 : Hid (Vr w1 w.heap.size (he.hv k n c l e t)) := X9; have BB : Hid (Below w.heap.size w w1) := B9; have hb0_0 := HB0.out.cell 0 _ rfl; have hb0_1 := HB0.out.cell 1 _ rfl; have hb0_2 := HB0.out.cell 2 _ rfl; have hb0_3 := HB0.out.cell 3 _ rfl; have hb0_4 := HB0.out.cell 4 _ rfl; have hb0_5 := HB0.out.cell 5 _ rfl; clear X9 B9 l9; clear t0; have t1 : (1 : Nat) = 1 := rfl))
  clear hb0_0 hb0_1 hb0_2 hb0_3 hb0_4 hb0_5
  refine wp_region_held_drew (S := fun w' => Below w1.heap.size w1 w') (by kernel_rfl) (Below.refl _ _).drew (fun hS => ?_)
  obtain ⟨x1, hx0⟩ : ∃ x, x = w1.drew := ⟨_, rfl⟩
  rw [← hx0] at hS  ⊢
  clear hx0
  refine take_lawH 0 (some 3) (.pointer (some ⟨w.heap.size, 4, none⟩)) rfl rfl (by kernel_rfl) (by kernel_rfl) (by kernel_rfl) (fun _ _ _ h => h) (Or.inl ⟨by rfl, fun w' hw' => by go_simp⟩) hS ?_
  simp only [Act.put, List.setIfInBounds_toArray, List.set_cons_zero, List.set_cons_succ]
  refine take_lawH 1 (some 4) (.int .u64 e) rfl rfl (by kernel_rfl) (by kernel_rfl) (by kernel_rfl) (fun _ _ _ h => h) (Or.inl ⟨by rfl, fun w' hw' => by exact exec_loadN 24 (.tmp 3) rfl _ rfl _ _ (ld_u64 ((HB0.out.below hw' (range_lt HB0.out.1 (Nat.succ_pos _))).cell 4 _ rfl))⟩) hS ?_
  simp only [Act.put, List.setIfInBounds_toArray, List.set_cons_zero, List.set_cons_succ]
  refine take_lawH 3 (some 6) (.pointer (some ⟨w.heap.size, 5, none⟩)) rfl rfl (by kernel_rfl) (by kernel_rfl) (by kernel_rfl) (fun _ _ _ h => h) (Or.inl ⟨by rfl, fun w' hw' => by go_simp⟩) hS ?_
  simp only [Act.put, List.setIfInBounds_toArray, List.set_cons_zero, List.set_cons_succ]
  refine take_lawH 4 (some 7) (.int .u64 t) rfl rfl (by kernel_rfl) (by kernel_rfl) (by kernel_rfl) (fun _ _ _ h => h) (Or.inl ⟨by rfl, fun w' hw' => by exact exec_loadN 24 (.tmp 6) rfl _ rfl _ _ (ld_u64 ((HB0.out.below hw' (range_lt HB0.out.1 (Nat.succ_pos _))).cell 5 _ rfl))⟩) hS ?_
  simp only [Act.put, List.setIfInBounds_toArray, List.set_cons_zero, List.set_cons_succ]
  refine wpAnyH_ready (rs := [2]) (by kernel_rfl) (by simp) ?_
  refine AllReadyH.cons rfl (fun K hK => ?_) AllReadyH.nil
  refine step_callW _ (by rfl) (some 5) rfl 23 #[.tmp 4, .const (.int .i64 8)] #[24, 3] rfl (fun q w' => by rfl) #[.int .u64 e, .int .i64 8] (by simp only [List.map_toArray, List.map_cons, List.map_nil]; rfl) (fun u w' => Own x1.heap.size w' u (le e 8).reverse ∧ Below x1.heap.size x1 w') ?_ ?_
  · exact (rbig_own e x1 HE.out)
  rintro a x2 ⟨y1, hb⟩
  have Oa : Hid (Own w1.heap.size x2 a (le e 8).reverse) := own_less y1 hS.size
  have hS : Below w1.heap.size w1 x2 := hS.trans (hb.mono hS.size)
  clear y1 hb
  refine hK.out _ _ hS (fun _ => ?_)
  simp only [Act.put, List.setIfInBounds_toArray, List.set_cons_zero, List.set_cons_succ]
  clear hK K
  refine wpAnyH_ready (rs := [5]) (by kernel_rfl) (by simp) ?_
  refine AllReadyH.cons rfl (fun K hK => ?_) AllReadyH.nil
  refine step_callW _ (by rfl) (some 8) rfl 23 #[.tmp 7, .const (.int .i64 8)] #[24, 3] rfl (fun q w' => by rfl) #[.int .u64 t, .int .i64 8] (by simp only [List.map_toArray, List.map_cons, List.map_nil]; rfl) (fun u w' => Own x2.heap.size w' u (le t 8).reverse ∧ Below x2.heap.size x2 w') ?_ ?_
  · exact (rbig_own t x2 HQ.out)
  rintro b x3 ⟨y1, hb⟩
  have Ob : Hid (Own w1.heap.size x3 b (le t 8).reverse) := own_less y1 hS.size
  have Oa : Hid (Own w1.heap.size x3 a (le e 8).reverse) := own_low Oa.out hb
  have hS : Below w1.heap.size w1 x3 := hS.trans (hb.mono hS.size)
  clear y1 hb
  refine hK.out _ _ hS (fun _ => ?_)
  simp only [Act.put, List.setIfInBounds_toArray, List.set_cons_zero, List.set_cons_succ]
  clear hK K
  refine wpAnyH_ready (rs := [6]) (by kernel_rfl) (by simp) ?_
  refine AllReadyH.cons rfl (fun K hK => ?_) AllReadyH.nil
  refine step_pushs _ rfl (some 9) rfl (.tmp 5) (.tmp 8) rfl w1.heap.size hS.size _ _ _ _ rfl rfl Oa.out (Ob.out.byt (rev_all (le_all t 8))) (by simp [le_len]) (by simp [le_len]) ?_
  intro rv x4 O9 hb
  have HR : Hid (Own w1.heap.size x4 rv (twk e t)) := O9
  have hS : Below w1.heap.size w1 x4 := hS.trans hb
  clear hb O9
  refine hK.out _ _ hS (fun _ => ?_)
  simp only [Act.put, List.setIfInBounds_toArray, List.set_cons_zero, List.set_cons_succ]
  clear hK K
  refine take_lawH 7 (some 2) (rv) rfl rfl (by kernel_rfl) (by kernel_rfl) (by kernel_rfl) (fun _ _ _ h => h) (Or.inl ⟨by rfl, fun w' hw' => by rfl⟩) hS ?_
  simp only [Act.put, List.setIfInBounds_toArray, List.set_cons_zero, List.set_cons_succ]
  refine wpAnyH_done (by kernel_rfl) ?_ _
  have BZ : Hid (Below w.heap.size w _) := BB.out.trans (hS.mono BB.out.size)
  clear hS
  go_wp2
  go_ret
  exact ⟨_, rfl, HR.out.byt (twk_all e t), BZ.out⟩

theorem sl_kg {w : World} {v : Value} {ks : List Int} (h : Byt w v ks) (hl : ks.length = 96) : Byt w (sl v 64 96) (kg ks) := by
  have := sl_byt h 64 96 (by omega) (by omega)
  rwa [List.take_of_length_le (by omega)] at this

set_option maxHeartbeats 4000000 in
theorem rztag_any (kv : Value) (ks : List Int) (k n c l e t : Int) (sv : Value) (ss : List Int) (w : World) (hk : Byt w kv ks) (hl : ks.length = 96) (hr : Rh k n c) (hH : Hb l e t) (hs : Byt w sv ss) (hz : ss.length ≤ 10000) :
    Calls Tryd.prog 13 #[kv, .agg (he.hv k n c l e t).toArray, sv] w fun x w' => ∃ r, x = .returned r ∧ Byt w' r (mc.tagB (mc.blk (kg ks)) ((he.hb k n c l e t) ++ ss)) ∧ Below w.heap.size w w' := by
  have HK : Hid (Byt w kv ks) := hk
  have HL : Hid (ks.length = 96) := hl
  obtain ⟨ko, kc, rfl⟩ := byt_form hk hl
  have HV : Hid (Byt w sv ss) := hs
  obtain ⟨so, sc, rfl⟩ : ∃ ao cap, sv = .slice ao ss.length cap := (by obtain ⟨ao, cap, e, _⟩ := hs; exact ⟨ao, cap, e⟩)
  have HZ : Hid (ss.length ≤ 10000) := hz
  have SB : Hid (∀ w0, Calls Tryd.prog 25 #[.agg (he.hv k n c l e t).toArray] w0 fun x w' => ∃ v, x = .returned v ∧ Own w0.heap.size w' v (he.hb k n c l e t) ∧ Below w0.heap.size w0 w') := fun w0 => rbytes_own k n c l e t w0 hr hH.1 hH.2.1 hH.2.2
  have HN : Hid ((he.hb k n c l e t).length = 24) := hb_len _ _ _ _ _ _
  have HA : Hid (AllB ((he.hb k n c l e t) ++ ss)) := allB_app (hb_all hr l e t) hs.all
  generalize (he.hb k n c l e t) = HY at SB HN HA ⊢
  clear hk hl hs hz hr hH
  have t0 : (0 : Nat) = 0 := rfl
  go_enter Tryd.func13, Tryd.ntmps13
  go_wp2_with (first
    | (have q0 := t0; refine box_lawC _ (he.hv k n c l e t) rfl ?_; intro w1 X9 B9 l9; have HB0 : Hid (Vr w1 w.heap.size (he.hv k n c l e t)) := X9; have BB : Hid (Below w.heap.size w w1) := B9; have hb0_0 := HB0.out.cell 0 _ rfl; have hb0_1 := HB0.out.cell 1 _ rfl; have hb0_2 := HB0.out.cell 2 _ rfl; have hb0_3 := HB0.out.cell 3 _ rfl; have hb0_4 := HB0.out.cell 4 _ rfl; have hb0_5 := HB0.out.cell 5 _ rfl; clear X9 B9 l9; clear t0; have t1 : (1 : Nat) = 1 := rfl))
  clear hb0_0 hb0_1 hb0_2 hb0_3 hb0_4 hb0_5
  refine wp_region_held_drew (S := fun w' => Below w1.heap.size w1 w') (by kernel_rfl) (Below.refl _ _).drew (fun hS => ?_)
  obtain ⟨x1, hx0⟩ : ∃ x, x = w1.drew := ⟨_, rfl⟩
  rw [← hx0] at hS  ⊢
  clear hx0
  refine take_lawH 0 (some 7) (.slice ko 96 kc) rfl rfl (by kernel_rfl) (by kernel_rfl) (by kernel_rfl) (fun _ _ _ h => h) (Or.inl ⟨by rfl, fun w' hw' => by rfl⟩) hS ?_
  simp only [Act.put, List.setIfInBounds_toArray, List.set_cons_zero, List.set_cons_succ]
  refine take_lawH 1 (some 8) (sl (.slice ko 96 kc) 64 96) rfl rfl (by kernel_rfl) (by kernel_rfl) (by kernel_rfl) (fun _ _ _ h => h) (Or.inl ⟨by rfl, fun w' hw' => by exact exec_part (.tmp 7) (.const (.int .i64 64)) (.const (.int .i64 96)) rfl _ ks _ HK.out 64 96 rfl rfl rfl (by omega) (by have := HL.out; omega) _⟩) hS ?_
  simp only [Act.put, List.setIfInBounds_toArray, List.set_cons_zero, List.set_cons_succ]
  refine take_lawH 2 (some 9) (.agg (he.hv k n c l e t).toArray) rfl rfl (by kernel_rfl) (by kernel_rfl) (by kernel_rfl) (fun _ _ _ h => h) (Or.inl ⟨by rfl, fun w' hw' => by exact exec_loadN 26 (.tmp 4) rfl _ rfl _ _ (load_cells rowy_head (HB0.out.below hw' (range_lt HB0.out.1 (Nat.succ_pos _))).1)⟩) hS ?_
  simp only [Act.put, List.setIfInBounds_toArray, List.set_cons_zero, List.set_cons_succ]
  refine take_lawH 4 (some 11) (.slice so ss.length sc) rfl rfl (by kernel_rfl) (by kernel_rfl) (by kernel_rfl) (fun _ _ _ h => h) (Or.inl ⟨by rfl, fun w' hw' => by rfl⟩) hS ?_
  simp only [Act.put, List.setIfInBounds_toArray, List.set_cons_zero, List.set_cons_succ]
  refine wpAnyH_ready (rs := [3]) (by kernel_rfl) (by simp) ?_
  refine AllReadyH.cons rfl (fun K hK => ?_) AllReadyH.nil
  refine step_callW _ (by rfl) (some 10) rfl 25 #[.tmp 9] #[26] rfl (fun q w' => by rfl) #[.agg (he.hv k n c l e t).toArray] (by simp only [List.map_toArray, List.map_cons, List.map_nil]; rfl) (fun u w' => Own x1.heap.size w' u HY ∧ Below x1.heap.size x1 w') ?_ ?_
  · exact SB.out _
  rintro hv9 x2 ⟨y1, hb⟩
  have OH : Hid (Own w1.heap.size x2 hv9 HY) := own_less y1 hS.size
  have hS : Below w1.heap.size w1 x2 := hS.trans (hb.mono hS.size)
  clear y1 hb
  refine hK.out _ _ hS (fun _ => ?_)
  simp only [Act.put, List.setIfInBounds_toArray, List.set_cons_zero, List.set_cons_succ]
  clear hK K
  refine wpAnyH_ready (rs := [5]) (by kernel_rfl) (by simp) ?_
  refine AllReadyH.cons rfl (fun K hK => ?_) AllReadyH.nil
  refine step_pushs _ rfl (some 12) rfl (.tmp 10) (.tmp 11) rfl w1.heap.size hS.size _ _ HY ss rfl rfl OH.out (HV.out.below (BB.out.trans (hS.mono BB.out.size))) (by rw [HN.out]; omega) (by have := HZ.out; omega) ?_
  intro tv9 x3 O9 hb
  have OT : Hid (Own w1.heap.size x3 tv9 (HY ++ ss)) := O9
  have hS : Below w1.heap.size w1 x3 := hS.trans hb
  clear hb O9
  refine hK.out _ _ hS (fun _ => ?_)
  simp only [Act.put, List.setIfInBounds_toArray, List.set_cons_zero, List.set_cons_succ]
  clear hK K
  refine wpAnyH_ready (rs := [6]) (by kernel_rfl) (by simp) ?_
  refine AllReadyH.cons rfl (fun K hK => ?_) AllReadyH.nil
  refine step_callW _ (by rfl) (some 13) rfl 24 #[.tmp 8, .tmp 12] #[22, 22] rfl (fun q w' => by rfl) #[sl (.slice ko 96 kc) 64 96, tv9] (by simp only [List.map_toArray, List.map_cons, List.map_nil]; rfl) (fun u w' => Byt w' u (mc.tagB (mc.blk (kg ks)) (HY ++ ss)) ∧ Below x3.heap.size x3 w') ?_ ?_
  · exact mc.rtag_any _ _ _ _ _ (sl_kg (HK.out.below (BB.out.trans (hS.mono BB.out.size))) HL.out) (OT.out.byt HA.out) (by rw [kg_len HL.out]; omega) (by rw [List.length_append, HN.out]; have := HZ.out; omega)
  rintro rv x4 ⟨y1, hb⟩
  have HR : Hid (Byt x4 rv (mc.tagB (mc.blk (kg ks)) (HY ++ ss))) := y1
  have hS : Below w1.heap.size w1 x4 := hS.trans (hb.mono hS.size)
  clear y1 hb
  refine hK.out _ _ hS (fun _ => ?_)
  simp only [Act.put, List.setIfInBounds_toArray, List.set_cons_zero, List.set_cons_succ]
  clear hK K
  refine take_lawH 7 (some 6) (rv) rfl rfl (by kernel_rfl) (by kernel_rfl) (by kernel_rfl) (fun _ _ _ h => h) (Or.inl ⟨by rfl, fun w' hw' => by rfl⟩) hS ?_
  simp only [Act.put, List.setIfInBounds_toArray, List.set_cons_zero, List.set_cons_succ]
  refine wpAnyH_done (by kernel_rfl) ?_ _
  have BZ : Hid (Below w.heap.size w _) := BB.out.trans (hS.mono BB.out.size)
  clear hS
  go_wp2
  go_ret
  exact ⟨_, rfl, HR.out, BZ.out⟩
end Go.Proofs.YtbkaecjkgjkheaaDoor.se

