/- What the law's apply and right, and the reference's row of blocks, answer. No claim of its own. -/
import Derived.Test.YtnmofigidlmcaaaEDoR
import Derived.Test.YtnmofigidlmcaaaELaw
namespace Go.Proofs.Ytnmofigidlmcaaa.le
open Go.RowKit Go.Proofs.Ytnmofigidlmcaaa.he
set_option maxRecDepth 20000

theorem run_ldI (w : World) (b p : Nat) (n : Int) (h : w.cell? ⟨b, p, none⟩ = some (.int .i64 n)) : (Instr.loadAt 3 (.pointer (some ⟨b, p, none⟩))).run Try.prog w = .ok (.int .i64 n) w := by
  simp only [Instr.loadAt, Instr.sureAddr, Sem.run_bind, Sem.run_pure, Result.andThen_ok, run_load1 w b p 3 .i64 n Try.underlying3 h]
/-- the address of a block in the reference's row -/
theorem run_idxR (w : World) (d n c i : Nat) (hi : i < n) : (Instr.indexAt 28 (.slice (some ⟨d, 0, none⟩) n c) (.int .i64 (i : Int))).run Try.prog w = .ok (.pointer (some ⟨d, i * 9, none⟩)) w := by
  have hs : (sizeOf 37).run Try.prog w = .ok 9 w := by
    have h := size_rblk
    cases hq : Try.prog.info? 37 with
    | none => simp [hq] at h
    | some i0 =>
      have : i0.size = 9 := by simpa [hq] using h
      simp [sizeOf, typeInfo, hq, this]
  rw [run_indexAt_slice _ _ _ _ _ _ _ Try.underlying28, if_pos (by omega), show Try.prog.elem 28 = 37 by kernel_rfl, hs]
  simp only [Result.andThen_ok, Addr.add_lit, Int.toNat_natCast, Nat.zero_add]
theorem q_idxR {ops : Array Oper} {C : World → Prop} {K : Act → Prop} {o : Oper} {a : Act} (hw : Region.wanted o (yielded ops a.tmps) = true) (e : Option Tmp) (he : o.dst = e) (x y : Operand) (hop : o.op = Op.indexAddr 28 x y) (d n c i : Nat) (hx : a.eval x = .slice (some ⟨d, 0, none⟩) n c) (hy : a.eval y = .int .i64 (i : Int)) (hi : i < n)
    (hK : K (a.put e (.pointer (some ⟨d, i * 9, none⟩)))) :
    if Region.wanted o (yielded ops a.tmps) = true then o.quiet Try.prog a C K else K (a.put o.dst undef) := by
  refine q_val hw e he _ (fun w _ => ?_) hK
  unfold execOp
  simp only [hop, hx, hy, Sem.run_bind, Sem.run_pure, Result.andThen_ok, run_idxR w d n c i hi]
theorem Rr.put {r : Nat} {w w' : World} {v : Value} {n : Nat} {f : Nat → Bk} (h : Rr r w v n f) (k : Nat) (x : Bk) (hx : At w' r (k * 9) x.cs) (hw : Wrt r (k * 9) w w') : Rr r w' v n (up f k x) := by
  obtain ⟨ao, cap, h0, h1, h2⟩ := h
  exact ⟨ao, cap, h0, h1, fun hp => ⟨(h2 hp).1, (h2 hp).2.put k x hx hw⟩⟩

theorem app_noa (ao : Option Addr) (n cap : Nat) (kd b s : Int) (w : World) (hb : b < 0) : Calls Try.prog 12 #[.slice ao n cap, stp kd b s] w fun e w' => e = .returned (.int .i64 2) ∧ Below w.heap.size w w' := by
  have t0 : (0 : Nat) = 0 := rfl
  go_enter Try.func12, Try.ntmps12
  go_wp2_with (have qq := t0; refine box_lawC _ (stl kd b s) rfl ?_; intro w1 X1 B1 l1; have c0 := X1.cell 0 _ rfl; have c1 := X1.cell 1 _ rfl; have c2 := X1.cell 2 _ rfl; have V1 : Hid (Vr w1 w.heap.size (stl kd b s)) := X1; clear X1 t0)
  go_ret
  exact ⟨rfl, B1⟩
theorem app_nob (ao : Option Addr) (n cap : Nat) (kd b s : Int) (w : World) (h0 : 0 ≤ b) (hb : n ≤ b) : Calls Try.prog 12 #[.slice ao n cap, stp kd b s] w fun e w' => e = .returned (.int .i64 2) ∧ Below w.heap.size w w' := by
  have g0 : ¬ b < 0 := by omega
  have t0 : (0 : Nat) = 0 := rfl
  go_enter Try.func12, Try.ntmps12
  go_wp2_with (have qq := t0; refine box_lawC _ (stl kd b s) rfl ?_; intro w1 X1 B1 l1; have c0 := X1.cell 0 _ rfl; have c1 := X1.cell 1 _ rfl; have c2 := X1.cell 2 _ rfl; have V1 : Hid (Vr w1 w.heap.size (stl kd b s)) := X1; clear X1 t0)
  go_ret
  exact ⟨rfl, B1⟩
theorem app_noc (ao : Option Addr) (n cap : Nat) (kd b s : Int) (w : World) (h0 : 0 ≤ b) (hb : b < n) (h1 : kd = 1) (hs : s < 0) : Calls Try.prog 12 #[.slice ao n cap, stp kd b s] w fun e w' => e = .returned (.int .i64 2) ∧ Below w.heap.size w w' := by
  subst h1
  have g0 : ¬ b < 0 := by omega
  have g1 : ¬ (n : Int) ≤ b := by omega
  have t0 : (0 : Nat) = 0 := rfl
  go_enter Try.func12, Try.ntmps12
  go_wp2_with (have qq := t0; refine box_lawC _ (stl 1 b s) rfl ?_; intro w1 X1 B1 l1; have c0 := X1.cell 0 _ rfl; have c1 := X1.cell 1 _ rfl; have c2 := X1.cell 2 _ rfl; have V1 : Hid (Vr w1 w.heap.size (stl 1 b s)) := X1; clear X1 t0)
  go_ret
  exact ⟨rfl, B1⟩
theorem app_nod (ao : Option Addr) (n cap : Nat) (kd b s : Int) (w : World) (h0 : 0 ≤ b) (hb : b < n) (h1 : kd = 1) (hs : 3 < s) : Calls Try.prog 12 #[.slice ao n cap, stp kd b s] w fun e w' => e = .returned (.int .i64 2) ∧ Below w.heap.size w w' := by
  subst h1
  have g0 : ¬ b < 0 := by omega
  have g1 : ¬ (n : Int) ≤ b := by omega
  have g2 : ¬ s < 0 := by omega
  have t0 : (0 : Nat) = 0 := rfl
  go_enter Try.func12, Try.ntmps12
  go_wp2_with (have qq := t0; refine box_lawC _ (stl 1 b s) rfl ?_; intro w1 X1 B1 l1; have c0 := X1.cell 0 _ rfl; have c1 := X1.cell 1 _ rfl; have c2 := X1.cell 2 _ rfl; have V1 : Hid (Vr w1 w.heap.size (stl 1 b s)) := X1; clear X1 t0)
  go_ret
  exact ⟨rfl, B1⟩
theorem app_no (r : Nat) (v : Value) (n : Nat) (f : Nat → Bk) (kd b s : Int) (w : World) (h : Rr r w v n f) (hx : ¬ (0 ≤ b ∧ b < n ∧ (kd = 1 → 0 ≤ s ∧ s ≤ 3))) : Calls Try.prog 12 #[v, stp kd b s] w fun e w' => e = .returned (.int .i64 2) ∧ Below w.heap.size w w' := by
  obtain ⟨ao, cap, rfl, -, -⟩ := h
  by_cases h0 : b < 0
  · exact app_noa ao n cap kd b s w h0
  · by_cases h1 : (n : Int) ≤ b
    · exact app_nob ao n cap kd b s w (by omega) h1
    · by_cases h2 : kd = 1
      · by_cases h3 : s < 0
        · exact app_noc ao n cap kd b s w (by omega) (by omega) h2 h3
        · exact app_nod ao n cap kd b s w (by omega) (by omega) h2 (by omega)
      · exact absurd ⟨by omega, by omega, fun e => absurd e h2⟩ hx
set_option maxHeartbeats 2000000 in
theorem app_yesa (r n cap k : Nat) (f : Nat → Bk) (kd s : Int) (w : World) (hR : Rws w r n f) (hk : k < n) (h1 : 1 ≤ kd) (h7 : kd ≤ 7) (hs : Sm (f k)) (hu : kd = 7 → s ≤ 1000000) (hn : kd ≠ 1) :
    Calls Try.prog 12 #[.slice (some ⟨r, 0, none⟩) n cap, stp kd k s] w fun e w' => e = .returned (.int .i64 0) ∧ At w' r (k * 9) (doB kd s (f k)).cs ∧ ∃ w1, Below w.heap.size w w1 ∧ Wrt r (k * 9) w1 w' := by
  have HR : Hid (At w r (k * 9) (f k).cs) := hR k hk
  have D0 : Hid (∀ w, Calls Try.prog 38 #[.agg (f k).cs.toArray, .int .i64 kd, .int .i64 s] w fun e w' => e = .returned (.agg (doB kd s (f k)).cs.toArray) ∧ Below w.heap.size w w') := fun w => rdo_any (f k) kd s w h1 h7 hs hu
  have k0 : ¬ (k : Int) < 0 := by omega
  have k1 : ¬ (n : Int) ≤ (k : Int) := by omega
  have q1 : (kd == 1) = false := beq_eq_false_iff_ne.2 hn
  clear hR hs hu h1 h7
  obtain ⟨Y, hY⟩ : ∃ Y, Y = doB kd s (f k) := ⟨_, rfl⟩
  rw [← hY] at D0 ⊢
  clear hY
  have t0 : (0 : Nat) = 0 := rfl
  go_enter Try.func12, Try.ntmps12
  go_wp2_with (have qq := t0; refine box_lawC _ (stl kd k s) rfl ?_; intro w1 X1 B1 l1; have c0 := X1.cell 0 _ rfl; have c1 := X1.cell 1 _ rfl; have c2 := X1.cell 2 _ rfl; have V1 : Hid (Vr w1 w.heap.size (stl kd k s)) := X1; clear X1 t0)
  have HA : Hid (At w1 r (k * 9) (f k).cs) := HR.out.heap (B1.block r (HR.out.lt (Nat.succ_pos _)))
  have CC : Hid (∀ w', Below w1.heap.size w1 w' → w'.cell? ⟨w.heap.size, 0, none⟩ = some (.int .i64 kd) ∧ w'.cell? ⟨w.heap.size, 1, none⟩ = some (.int .i64 (k : Int)) ∧ w'.cell? ⟨w.heap.size, 2, none⟩ = some (.int .i64 s) ∧ w'.rangeAt r (k * 9) (f k).cs) := fun w' hw' => by
    have V := V1.out.below hw' l1
    exact ⟨V.cell 0 _ rfl, V.cell 1 _ rfl, V.cell 2 _ rfl, (HA.out.heap (hw'.block r (HA.out.lt (Nat.succ_pos _)))).1⟩
  have DD : Hid (∀ w', Below w1.heap.size w1 w' → Calls Try.prog 38 #[.agg (f k).cs.toArray, .int .i64 kd, .int .i64 s] w' fun e w'' => e = .returned (.agg Y.cs.toArray) ∧ Below w1.heap.size w1 w'') := fun w' hw' => (D0.out w').mono fun _ _ h' => ⟨h'.1, hw'.trans (h'.2.mono hw'.size)⟩
  refine wp_region_any (by kernel_rfl) ?_
  change wpAny _ _ _ _ _ _ _ (World.drew _)
  refine wpAny_quiet_then (C := fun w' => Below w1.heap.size w1 w') 0 14 1 _ (by kernel_rfl) rfl (by kernel_rfl) (by kernel_rfl) (Below.refl _ _).drew (Wq.out ?_)
  simp only [List.take_succ_cons, List.take_zero, List.drop_zero]
  refine wq_step (fun K hK => ?_)
  refine q_val (by rfl) (some 30) rfl (.slice (some ⟨r, 0, none⟩) n cap) (fun w' _ => by rfl) (hK _ ?_)
  simp only [Act.put, List.setIfInBounds_toArray, List.set_cons_zero, List.set_cons_succ]
  clear hK K
  refine wq_step (fun K hK => ?_)
  refine q_val (by rfl) (some 31) rfl (.pointer (some ⟨w.heap.size, 1, none⟩)) (fun w' _ => by go_simp) (hK _ ?_)
  simp only [Act.put, List.setIfInBounds_toArray, List.set_cons_zero, List.set_cons_succ]
  clear hK K
  refine wq_step (fun K hK => ?_)
  refine q_loadS (by rfl) (some 32) rfl (.tmp 31) 3 rfl (.pointer (some ⟨w.heap.size, 1, none⟩)) (.int .i64 k) rfl (fun w' hw' => run_ldI w' _ _ _ (CC.out w' hw').2.1) (hK _ ?_)
  simp only [Act.put, List.setIfInBounds_toArray, List.set_cons_zero, List.set_cons_succ]
  clear hK K
  refine wq_step (fun K hK => ?_)
  refine q_val (by rfl) (some 33) rfl (.slice (some ⟨r, 0, none⟩) n cap) (fun w' _ => by rfl) (hK _ ?_)
  simp only [Act.put, List.setIfInBounds_toArray, List.set_cons_zero, List.set_cons_succ]
  clear hK K
  refine wq_step (fun K hK => ?_)
  refine q_val (by rfl) (some 34) rfl (.pointer (some ⟨w.heap.size, 1, none⟩)) (fun w' _ => by go_simp) (hK _ ?_)
  simp only [Act.put, List.setIfInBounds_toArray, List.set_cons_zero, List.set_cons_succ]
  clear hK K
  refine wq_step (fun K hK => ?_)
  refine q_loadS (by rfl) (some 35) rfl (.tmp 34) 3 rfl (.pointer (some ⟨w.heap.size, 1, none⟩)) (.int .i64 k) rfl (fun w' hw' => run_ldI w' _ _ _ (CC.out w' hw').2.1) (hK _ ?_)
  simp only [Act.put, List.setIfInBounds_toArray, List.set_cons_zero, List.set_cons_succ]
  clear hK K
  refine wq_step (fun K hK => ?_)
  refine q_idxR (by rfl) (some 36) rfl (.tmp 33) (.tmp 35) rfl r n cap k rfl rfl (hk) (hK _ ?_)
  simp only [Act.put, List.setIfInBounds_toArray, List.set_cons_zero, List.set_cons_succ]
  clear hK K
  refine wq_step (fun K hK => ?_)
  refine q_loadS (by rfl) (some 37) rfl (.tmp 36) 37 rfl (.pointer (some ⟨r, k * 9, none⟩)) (.agg (f k).cs.toArray) rfl (fun w' hw' => load_cells rowy_rblk (CC.out w' hw').2.2.2) (hK _ ?_)
  simp only [Act.put, List.setIfInBounds_toArray, List.set_cons_zero, List.set_cons_succ]
  clear hK K
  refine wq_step (fun K hK => ?_)
  refine q_val (by rfl) (some 38) rfl (.pointer (some ⟨w.heap.size, 0, none⟩)) (fun w' _ => by go_simp) (hK _ ?_)
  simp only [Act.put, List.setIfInBounds_toArray, List.set_cons_zero, List.set_cons_succ]
  clear hK K
  refine wq_step (fun K hK => ?_)
  refine q_loadS (by rfl) (some 39) rfl (.tmp 38) 3 rfl (.pointer (some ⟨w.heap.size, 0, none⟩)) (.int .i64 kd) rfl (fun w' hw' => run_ldI w' _ _ _ (CC.out w' hw').1) (hK _ ?_)
  simp only [Act.put, List.setIfInBounds_toArray, List.set_cons_zero, List.set_cons_succ]
  clear hK K
  refine wq_step (fun K hK => ?_)
  refine q_val (by rfl) (some 40) rfl (.pointer (some ⟨w.heap.size, 2, none⟩)) (fun w' _ => by go_simp) (hK _ ?_)
  simp only [Act.put, List.setIfInBounds_toArray, List.set_cons_zero, List.set_cons_succ]
  clear hK K
  refine wq_step (fun K hK => ?_)
  refine q_loadS (by rfl) (some 41) rfl (.tmp 40) 3 rfl (.pointer (some ⟨w.heap.size, 2, none⟩)) (.int .i64 s) rfl (fun w' hw' => run_ldI w' _ _ _ (CC.out w' hw').2.2.1) (hK _ ?_)
  simp only [Act.put, List.setIfInBounds_toArray, List.set_cons_zero, List.set_cons_succ]
  clear hK K
  refine wq_step (fun K hK => ?_)
  refine q_call (by rfl) (some 42) rfl 38 #[.tmp 37, .tmp 39, .tmp 41] #[37, 3, 3] rfl (fun q w' => by rfl) #[.agg (f k).cs.toArray, .int .i64 kd, .int .i64 s] (by simp only [List.map_toArray, List.map_cons, List.map_nil]; rfl) (.agg Y.cs.toArray) (fun w' hw' => DD.out w' hw') (hK _ ?_)
  simp only [Act.put, List.setIfInBounds_toArray, List.set_cons_zero, List.set_cons_succ]
  clear hK K
  refine wq_step (fun K hK => ?_)
  refine q_idxR (by rfl) (some 43) rfl (.tmp 30) (.tmp 32) rfl r n cap k rfl rfl (hk) (hK _ ?_)
  simp only [Act.put, List.setIfInBounds_toArray, List.set_cons_zero, List.set_cons_succ]
  clear hK K
  refine wq_nil ?_
  intro fl w2 B2
  refine wpAny_ready (rs := [14]) (by kernel_rfl) (by simp) ?_
  refine AllReady.cons rfl (fun K hK => ?_) AllReady.nil
  refine step_storeB w2 rfl none rfl (.tmp 43) (.tmp 42) 37 rfl r (k * 9) Y (f k) rfl rfl (HA.out.heap (B2.block r (HA.out.lt (Nat.succ_pos _)))) size_rblk ?_
  intro w3 A3 W3
  refine hK _ _ ?_
  refine wpAny_done (by kernel_rfl) ?_ _
  go_wp2
  go_ret
  exact ⟨rfl, A3, w2, B1.trans (B2.mono B1.size), W3⟩
set_option maxHeartbeats 2000000 in
theorem app_yesb (r n cap k : Nat) (f : Nat → Bk) (kd s : Int) (w : World) (hR : Rws w r n f) (hk : k < n) (h1 : 1 ≤ kd) (h7 : kd ≤ 7) (hs : Sm (f k)) (hu : kd = 7 → s ≤ 1000000) (hn : kd = 1) (h0 : 0 ≤ s) (h3 : s ≤ 3) :
    Calls Try.prog 12 #[.slice (some ⟨r, 0, none⟩) n cap, stp kd k s] w fun e w' => e = .returned (.int .i64 0) ∧ At w' r (k * 9) (doB kd s (f k)).cs ∧ ∃ w1, Below w.heap.size w w1 ∧ Wrt r (k * 9) w1 w' := by
  have HR : Hid (At w r (k * 9) (f k).cs) := hR k hk
  have D0 : Hid (∀ w, Calls Try.prog 38 #[.agg (f k).cs.toArray, .int .i64 kd, .int .i64 s] w fun e w' => e = .returned (.agg (doB kd s (f k)).cs.toArray) ∧ Below w.heap.size w w') := fun w => rdo_any (f k) kd s w h1 h7 hs hu
  have k0 : ¬ (k : Int) < 0 := by omega
  have k1 : ¬ (n : Int) ≤ (k : Int) := by omega
  subst hn
  have q1 : ¬ s < 0 := by omega
  have q2 : ¬ s > 3 := by omega
  clear hR hs hu h1 h7
  obtain ⟨Y, hY⟩ : ∃ Y, Y = doB 1 s (f k) := ⟨_, rfl⟩
  rw [← hY] at D0 ⊢
  clear hY
  have t0 : (0 : Nat) = 0 := rfl
  go_enter Try.func12, Try.ntmps12
  go_wp2_with (have qq := t0; refine box_lawC _ (stl 1 k s) rfl ?_; intro w1 X1 B1 l1; have c0 := X1.cell 0 _ rfl; have c1 := X1.cell 1 _ rfl; have c2 := X1.cell 2 _ rfl; have V1 : Hid (Vr w1 w.heap.size (stl 1 k s)) := X1; clear X1 t0)
  have HA : Hid (At w1 r (k * 9) (f k).cs) := HR.out.heap (B1.block r (HR.out.lt (Nat.succ_pos _)))
  have CC : Hid (∀ w', Below w1.heap.size w1 w' → w'.cell? ⟨w.heap.size, 0, none⟩ = some (.int .i64 1) ∧ w'.cell? ⟨w.heap.size, 1, none⟩ = some (.int .i64 (k : Int)) ∧ w'.cell? ⟨w.heap.size, 2, none⟩ = some (.int .i64 s) ∧ w'.rangeAt r (k * 9) (f k).cs) := fun w' hw' => by
    have V := V1.out.below hw' l1
    exact ⟨V.cell 0 _ rfl, V.cell 1 _ rfl, V.cell 2 _ rfl, (HA.out.heap (hw'.block r (HA.out.lt (Nat.succ_pos _)))).1⟩
  have DD : Hid (∀ w', Below w1.heap.size w1 w' → Calls Try.prog 38 #[.agg (f k).cs.toArray, .int .i64 1, .int .i64 s] w' fun e w'' => e = .returned (.agg Y.cs.toArray) ∧ Below w1.heap.size w1 w'') := fun w' hw' => (D0.out w').mono fun _ _ h' => ⟨h'.1, hw'.trans (h'.2.mono hw'.size)⟩
  refine wp_region_any (by kernel_rfl) ?_
  change wpAny _ _ _ _ _ _ _ (World.drew _)
  refine wpAny_quiet_then (C := fun w' => Below w1.heap.size w1 w') 0 14 1 _ (by kernel_rfl) rfl (by kernel_rfl) (by kernel_rfl) (Below.refl _ _).drew (Wq.out ?_)
  simp only [List.take_succ_cons, List.take_zero, List.drop_zero]
  refine wq_step (fun K hK => ?_)
  refine q_val (by rfl) (some 30) rfl (.slice (some ⟨r, 0, none⟩) n cap) (fun w' _ => by rfl) (hK _ ?_)
  simp only [Act.put, List.setIfInBounds_toArray, List.set_cons_zero, List.set_cons_succ]
  clear hK K
  refine wq_step (fun K hK => ?_)
  refine q_val (by rfl) (some 31) rfl (.pointer (some ⟨w.heap.size, 1, none⟩)) (fun w' _ => by go_simp) (hK _ ?_)
  simp only [Act.put, List.setIfInBounds_toArray, List.set_cons_zero, List.set_cons_succ]
  clear hK K
  refine wq_step (fun K hK => ?_)
  refine q_loadS (by rfl) (some 32) rfl (.tmp 31) 3 rfl (.pointer (some ⟨w.heap.size, 1, none⟩)) (.int .i64 k) rfl (fun w' hw' => run_ldI w' _ _ _ (CC.out w' hw').2.1) (hK _ ?_)
  simp only [Act.put, List.setIfInBounds_toArray, List.set_cons_zero, List.set_cons_succ]
  clear hK K
  refine wq_step (fun K hK => ?_)
  refine q_val (by rfl) (some 33) rfl (.slice (some ⟨r, 0, none⟩) n cap) (fun w' _ => by rfl) (hK _ ?_)
  simp only [Act.put, List.setIfInBounds_toArray, List.set_cons_zero, List.set_cons_succ]
  clear hK K
  refine wq_step (fun K hK => ?_)
  refine q_val (by rfl) (some 34) rfl (.pointer (some ⟨w.heap.size, 1, none⟩)) (fun w' _ => by go_simp) (hK _ ?_)
  simp only [Act.put, List.setIfInBounds_toArray, List.set_cons_zero, List.set_cons_succ]
  clear hK K
  refine wq_step (fun K hK => ?_)
  refine q_loadS (by rfl) (some 35) rfl (.tmp 34) 3 rfl (.pointer (some ⟨w.heap.size, 1, none⟩)) (.int .i64 k) rfl (fun w' hw' => run_ldI w' _ _ _ (CC.out w' hw').2.1) (hK _ ?_)
  simp only [Act.put, List.setIfInBounds_toArray, List.set_cons_zero, List.set_cons_succ]
  clear hK K
  refine wq_step (fun K hK => ?_)
  refine q_idxR (by rfl) (some 36) rfl (.tmp 33) (.tmp 35) rfl r n cap k rfl rfl (hk) (hK _ ?_)
  simp only [Act.put, List.setIfInBounds_toArray, List.set_cons_zero, List.set_cons_succ]
  clear hK K
  refine wq_step (fun K hK => ?_)
  refine q_loadS (by rfl) (some 37) rfl (.tmp 36) 37 rfl (.pointer (some ⟨r, k * 9, none⟩)) (.agg (f k).cs.toArray) rfl (fun w' hw' => load_cells rowy_rblk (CC.out w' hw').2.2.2) (hK _ ?_)
  simp only [Act.put, List.setIfInBounds_toArray, List.set_cons_zero, List.set_cons_succ]
  clear hK K
  refine wq_step (fun K hK => ?_)
  refine q_val (by rfl) (some 38) rfl (.pointer (some ⟨w.heap.size, 0, none⟩)) (fun w' _ => by go_simp) (hK _ ?_)
  simp only [Act.put, List.setIfInBounds_toArray, List.set_cons_zero, List.set_cons_succ]
  clear hK K
  refine wq_step (fun K hK => ?_)
  refine q_loadS (by rfl) (some 39) rfl (.tmp 38) 3 rfl (.pointer (some ⟨w.heap.size, 0, none⟩)) (.int .i64 1) rfl (fun w' hw' => run_ldI w' _ _ _ (CC.out w' hw').1) (hK _ ?_)
  simp only [Act.put, List.setIfInBounds_toArray, List.set_cons_zero, List.set_cons_succ]
  clear hK K
  refine wq_step (fun K hK => ?_)
  refine q_val (by rfl) (some 40) rfl (.pointer (some ⟨w.heap.size, 2, none⟩)) (fun w' _ => by go_simp) (hK _ ?_)
  simp only [Act.put, List.setIfInBounds_toArray, List.set_cons_zero, List.set_cons_succ]
  clear hK K
  refine wq_step (fun K hK => ?_)
  refine q_loadS (by rfl) (some 41) rfl (.tmp 40) 3 rfl (.pointer (some ⟨w.heap.size, 2, none⟩)) (.int .i64 s) rfl (fun w' hw' => run_ldI w' _ _ _ (CC.out w' hw').2.2.1) (hK _ ?_)
  simp only [Act.put, List.setIfInBounds_toArray, List.set_cons_zero, List.set_cons_succ]
  clear hK K
  refine wq_step (fun K hK => ?_)
  refine q_call (by rfl) (some 42) rfl 38 #[.tmp 37, .tmp 39, .tmp 41] #[37, 3, 3] rfl (fun q w' => by rfl) #[.agg (f k).cs.toArray, .int .i64 1, .int .i64 s] (by simp only [List.map_toArray, List.map_cons, List.map_nil]; rfl) (.agg Y.cs.toArray) (fun w' hw' => DD.out w' hw') (hK _ ?_)
  simp only [Act.put, List.setIfInBounds_toArray, List.set_cons_zero, List.set_cons_succ]
  clear hK K
  refine wq_step (fun K hK => ?_)
  refine q_idxR (by rfl) (some 43) rfl (.tmp 30) (.tmp 32) rfl r n cap k rfl rfl (hk) (hK _ ?_)
  simp only [Act.put, List.setIfInBounds_toArray, List.set_cons_zero, List.set_cons_succ]
  clear hK K
  refine wq_nil ?_
  intro fl w2 B2
  refine wpAny_ready (rs := [14]) (by kernel_rfl) (by simp) ?_
  refine AllReady.cons rfl (fun K hK => ?_) AllReady.nil
  refine step_storeB w2 rfl none rfl (.tmp 43) (.tmp 42) 37 rfl r (k * 9) Y (f k) rfl rfl (HA.out.heap (B2.block r (HA.out.lt (Nat.succ_pos _)))) size_rblk ?_
  intro w3 A3 W3
  refine hK _ _ ?_
  refine wpAny_done (by kernel_rfl) ?_ _
  go_wp2
  go_ret
  exact ⟨rfl, A3, w2, B1.trans (B2.mono B1.size), W3⟩
theorem app_yes (r n k : Nat) (v : Value) (f : Nat → Bk) (kd s : Int) (w : World) (h : Rr r w v n f) (hk : k < n) (h1 : 1 ≤ kd) (h7 : kd ≤ 7) (hs : Sm (f k)) (hn : kd = 1 → 0 ≤ s ∧ s ≤ 3) (hu : kd = 7 → s ≤ 1000000) :
    Calls Try.prog 12 #[v, stp kd k s] w fun e w' => e = .returned (.int .i64 0) ∧ Rr r w' v n (up f k (doB kd s (f k))) ∧ w.grownBy w' (some r) := by
  have h' := h
  obtain ⟨ao, cap, rfl, hc, h2⟩ := h
  obtain ⟨rfl, hR⟩ := h2 (by omega)
  by_cases e : kd = 1
  · refine (app_yesb r n cap k f kd s w hR hk h1 h7 hs hu e (hn e).1 (hn e).2).mono ?_
    rintro _ w' ⟨rfl, ha, w1, hb, hw⟩
    exact ⟨rfl, (h'.below hb).put k _ ha hw, grown_trans (grown_below hb) hw.1⟩
  · refine (app_yesa r n cap k f kd s w hR hk h1 h7 hs hu e).mono ?_
    rintro _ w' ⟨rfl, ha, w1, hb, hw⟩
    exact ⟨rfl, (h'.below hb).put k _ ha hw, grown_trans (grown_below hb) hw.1⟩
end Go.Proofs.Ytnmofigidlmcaaa.le
