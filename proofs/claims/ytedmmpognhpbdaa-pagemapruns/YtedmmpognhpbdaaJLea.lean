/- What pagemap's leave does to the counts. No claim of its own. -/
import Derived.Test.YtedmmpognhpbdaaJStp
namespace Go.Proofs.Ytedmmpognhpbdaa.pm
open Go.RowKit Go.Proofs.Ytedmmpognhpbdaa.he
set_option maxRecDepth 20000

theorem cell_grown {w w' : World} {b c q : Nat} {v : Value} (h : w.cell? ⟨c, q, none⟩ = some v) (hg : w.grownBy w' (some b)) (hc : c ≠ b) : w'.cell? ⟨c, q, none⟩ = some v := by
  rw [World.cell?_of_block (w := w) (w' := w') (a := ⟨c, q, none⟩) (hg.block c (World.block_lt_of_cell? w _ h) (fun e => hc (Option.some.inj e)))]
  exact h
theorem range_grown {w w' : World} {b c q : Nat} {cs : List Value} (h : w.rangeAt c q cs) (hl : 0 < cs.length) (hg : w.grownBy w' (some b)) (hc : c ≠ b) : w'.rangeAt c q cs :=
  range_heap h (hg.block c (range_lt h hl) (fun e => hc (Option.some.inj e)))
theorem grown_of {a b : World} {r : Option Nat} (h : Below a.heap.size a b) : a.grownBy b r := ⟨h.os, h.tape, h.output, h.size, fun k hk _ => h.block k hk⟩
theorem ud_ud (g : Int × Int → Int) (p : Int × Int) (x y : Int) : ud (ud g p x) p y = ud g p y := by
  funext q
  unfold ud
  split <;> rfl
set_option maxHeartbeats 2000000 in
theorem leave_more (c b : Nat) (g : Int × Int → Int) (p : Int × Int) (w : World) (hc : w.cell? ⟨c, 4, none⟩ = some (.map (some b))) (hm : Mp w b g) (h1 : 1 ≤ g p) (h2 : g p ≤ 1000000) (hn : ¬ g p - 1 = 0) : Calls Try.prog 46 #[pt c, .agg (pc p).toArray] w fun e w' => e = .returned (.tuple #[]) ∧ Mp w' b (ud g p (g p - 1)) ∧ w.grownBy w' (some b) := by
  have WS : Hid (IntKind.i64.wrap (g p - 1) = g p - 1) := by show _ = _; rw [IntKind.wrap_i64]; omega
  have KC : Hid (c ≠ b) := by intro e; subst e; exact hm.row hc
  have KB : Hid (w.heap.size ≠ b) := by have := hm.lt; show _ ≠ _; omega
  have HC : Hid (w.cell? ⟨c, 4, none⟩ = some (.map (some b))) := hc
  have HM : Hid (Mp w b g) := hm
  have Z : Hid ((g p - 1 == 0) = false) := beq_eq_false_iff_ne.2 hn
  have UD : Hid (ud g p (g p - 1) p = g p - 1) := by show _ = _; simp [ud]
  clear hc hm h1 h2 hn
  have t0 : (0 : Nat) = 0 := rfl
  go_enter Try.func46, Try.ntmps46
  go_wp2_with (first
    | (have qq := t0; refine box_lawC _ (pc p) rfl ?_; intro w1 X1 B1 l1; have HP : Hid (w1.rangeAt w.heap.size 0 (pc p)) := X1.1; have HG : Hid (w.grownBy w1 (some b)) := grown_of B1; have HC : Hid (w1.cell? ⟨c, 4, none⟩ = some (.map (some b))) := (by have := HC.out; show _ = _; rw [B1.cell (World.block_lt_of_cell? w _ this)]; exact this); have HM : Hid (Mp w1 b g) := HM.out.heap (B1.block b HM.out.lt); clear B1 X1 t0))
  have HC : Hid (w1.drew.cell? ⟨c, 4, none⟩ = some (.map (some b))) := HC.out
  have HP : Hid (w1.drew.rangeAt w.heap.size 0 (pc p)) := HP.out
  have HM : Hid (Mp w1.drew b g) := HM.out.heap rfl
  have HG : Hid (w.grownBy w1.drew (some b)) := ⟨HG.out.os, HG.out.tape, HG.out.output, HG.out.size, HG.out.block⟩
  refine wp_region_held_drew (S := fun w' => w'.cell? ⟨c, 4, none⟩ = some (.map (some b)) ∧ w'.rangeAt w.heap.size 0 (pc p)) (by kernel_rfl) ⟨HC.out, HP.out⟩ (fun hS => ?_)
  obtain ⟨x1, hx0⟩ : ∃ x, x = w1.drew := ⟨_, rfl⟩
  rw [← hx0] at hS HC HP HM HG ⊢
  clear hx0
  refine take_lawH 0 (some 4) (.pointer (some ⟨c, 0, none⟩)) rfl rfl (by kernel_rfl) (by kernel_rfl) (by kernel_rfl) (fun _ _ _ h => h) (Or.inl ⟨by rfl, fun w' hw' => by rfl⟩) hS ?_
  simp only [Act.put, List.setIfInBounds_toArray, List.set_cons_zero, List.set_cons_succ]
  refine take_lawH 1 (some 5) (.pointer (some ⟨c, 0, none⟩)) rfl rfl (by kernel_rfl) (by kernel_rfl) (by kernel_rfl) (fun _ _ _ h => h) (Or.inl ⟨by rfl, fun w' hw' => by go_simp⟩) hS ?_
  simp only [Act.put, List.setIfInBounds_toArray, List.set_cons_zero, List.set_cons_succ]
  refine take_lawH 2 (some 6) (.pointer (some ⟨c, 4, none⟩)) rfl rfl (by kernel_rfl) (by kernel_rfl) (by kernel_rfl) (fun _ _ _ h => h) (Or.inl ⟨by rfl, fun w' hw' => by go_simp⟩) hS ?_
  simp only [Act.put, List.setIfInBounds_toArray, List.set_cons_zero, List.set_cons_succ]
  refine take_lawH 3 (some 7) (.map (some b)) rfl rfl (by kernel_rfl) (by kernel_rfl) (by kernel_rfl) (fun _ _ _ h => h) (Or.inl ⟨by rfl, fun w' hw' => by exact exec_loadN 69 (.tmp 6) rfl _ rfl _ _ (load_map hw'.1)⟩) hS ?_
  simp only [Act.put, List.setIfInBounds_toArray, List.set_cons_zero, List.set_cons_succ]
  refine take_lawH 4 (some 8) (.agg (pc p).toArray) rfl rfl (by kernel_rfl) (by kernel_rfl) (by kernel_rfl) (fun _ _ _ h => h) (Or.inl ⟨by rfl, fun w' hw' => by exact exec_loadN 31 (.tmp 3) rfl _ rfl _ _ (load_cells rowy_place hw'.2)⟩) hS ?_
  simp only [Act.put, List.setIfInBounds_toArray, List.set_cons_zero, List.set_cons_succ]
  refine wpAnyH_ready (rs := [5, 7]) (by kernel_rfl) (by simp) ?_
  refine AllReadyH.cons rfl (fun K hK => ?_) (AllReadyH.cons rfl (fun K hK => ?_) AllReadyH.nil)
  · refine step_look x1 rfl (some 9) rfl (.tmp 7) (.tmp 8) rfl b g p rfl rfl HM.out ?_
    refine hK.out _ _ hS (fun _ => ?_)
    simp only [Act.put, List.setIfInBounds_toArray, List.set_cons_zero, List.set_cons_succ]
    clear hK K
    refine take_lawH 6 (some 10) (.int .i64 (g p - 1)) rfl rfl (by kernel_rfl) (by kernel_rfl) (by kernel_rfl) (fun _ _ _ h => h) (Or.inl ⟨by rfl, fun w' hw' => by exact exec_sub (.tmp 9) (.const (.int .i64 1)) rfl (g p) 1 _ rfl rfl WS.out⟩) hS ?_
    simp only [Act.put, List.setIfInBounds_toArray, List.set_cons_zero, List.set_cons_succ]
    refine wpAnyH_ready (rs := [7]) (by kernel_rfl) (by simp) ?_
    refine AllReadyH.cons rfl (fun K hK => ?_) AllReadyH.nil
    refine step_entry x1 rfl (some 11) rfl (.tmp 7) (.tmp 8) rfl b g p rfl rfl HM.out ?_
    intro v0 st x2 G9 M9 HE
    have HC : Hid (x2.cell? ⟨c, 4, none⟩ = some (.map (some b))) := cell_grown HC.out G9 KC.out
    have HP : Hid (x2.rangeAt w.heap.size 0 (pc p)) := range_grown HP.out (Nat.succ_pos _) G9 KB.out
    have HG : Hid (w.grownBy x2 (some b)) := grown_trans HG.out G9
    have HM : Hid (Mp x2 b (g)) := M9
    have hS : x2.cell? ⟨c, 4, none⟩ = some (.map (some b)) ∧ x2.rangeAt w.heap.size 0 (pc p) := ⟨HC.out, HP.out⟩
    clear G9 M9
    refine hK.out _ _ hS (fun _ => ?_)
    simp only [Act.put, List.setIfInBounds_toArray, List.set_cons_zero, List.set_cons_succ]
    clear hK K
    refine take_lawH 8 (some 12) (.int .i64 st) rfl rfl (by kernel_rfl) (by kernel_rfl) (by kernel_rfl) (fun _ _ _ h => h) (Or.inl ⟨by rfl, fun w' hw' => by rfl⟩) hS ?_
    simp only [Act.put, List.setIfInBounds_toArray, List.set_cons_zero, List.set_cons_succ]
    refine wpAnyH_ready (rs := [9]) (by kernel_rfl) (by simp) ?_
    refine AllReadyH.cons rfl (fun K hK => ?_) AllReadyH.nil
    refine step_estore x2 rfl none rfl (.tmp 7) (.tmp 12) (.tmp 10) rfl b st (g p - 1) (fun w3 => x2.grownBy w3 (some b) ∧ Mp w3 b (ud g p (g p - 1))) rfl rfl rfl (HE.out x2 _ rfl) ?_
    rintro x3 ⟨G9, M9⟩
    have HC : Hid (x3.cell? ⟨c, 4, none⟩ = some (.map (some b))) := cell_grown HC.out G9 KC.out
    have HP : Hid (x3.rangeAt w.heap.size 0 (pc p)) := range_grown HP.out (Nat.succ_pos _) G9 KB.out
    have HG : Hid (w.grownBy x3 (some b)) := grown_trans HG.out G9
    have HM : Hid (Mp x3 b (ud g p (g p - 1))) := M9
    have hS : x3.cell? ⟨c, 4, none⟩ = some (.map (some b)) ∧ x3.rangeAt w.heap.size 0 (pc p) := ⟨HC.out, HP.out⟩
    clear G9 M9
    clear HE
    refine hK.out _ _ hS (fun _ => ?_)
    simp only [Act.put]
    clear hK K
    refine wpAnyH_done (by kernel_rfl) ?_ _
    have c0 := HC.out
    have p0 := HP.out 0 _ rfl
    have p1 := HP.out 1 _ rfl
    rw [Nat.zero_add] at p0 p1
    have lo : ∀ n, (Instr.lookup 69 (.map (some b)) (.agg #[.int .i64 p.1, .int .i64 p.2]) false).run Try.prog (x3.drewN n) = .ok (.int .i64 (g p - 1)) (x3.drewN n) := fun n => by have z := look_any (HM.out.heap (w' := x3.drewN n) rfl) p; rwa [UD.out] at z
    have zz := Z.out
    go_wp2
    go_quiet (fail)
    go_wp2
    refine bodyPost_end (v := .tuple #[]) (results_none rfl _ _ _) rfl ⟨rfl, HM.out.heap rfl, ⟨HG.out.os, HG.out.tape, HG.out.output, HG.out.size, HG.out.block⟩⟩
  · refine step_entry x1 rfl (some 11) rfl (.tmp 7) (.tmp 8) rfl b g p rfl rfl HM.out ?_
    intro v0 st x4 G9 M9 HE
    have HC : Hid (x4.cell? ⟨c, 4, none⟩ = some (.map (some b))) := cell_grown HC.out G9 KC.out
    have HP : Hid (x4.rangeAt w.heap.size 0 (pc p)) := range_grown HP.out (Nat.succ_pos _) G9 KB.out
    have HG : Hid (w.grownBy x4 (some b)) := grown_trans HG.out G9
    have HM : Hid (Mp x4 b (g)) := M9
    have hS : x4.cell? ⟨c, 4, none⟩ = some (.map (some b)) ∧ x4.rangeAt w.heap.size 0 (pc p) := ⟨HC.out, HP.out⟩
    clear G9 M9
    refine hK.out _ _ hS (fun _ => ?_)
    simp only [Act.put, List.setIfInBounds_toArray, List.set_cons_zero, List.set_cons_succ]
    clear hK K
    refine take_lawH 8 (some 12) (.int .i64 st) rfl rfl (by kernel_rfl) (by kernel_rfl) (by kernel_rfl) (fun _ _ _ h => h) (Or.inl ⟨by rfl, fun w' hw' => by rfl⟩) hS ?_
    simp only [Act.put, List.setIfInBounds_toArray, List.set_cons_zero, List.set_cons_succ]
    refine wpAnyH_ready (rs := [5]) (by kernel_rfl) (by simp) ?_
    refine AllReadyH.cons rfl (fun K hK => ?_) AllReadyH.nil
    refine step_look x4 rfl (some 9) rfl (.tmp 7) (.tmp 8) rfl b g p rfl rfl HM.out ?_
    refine hK.out _ _ hS (fun _ => ?_)
    simp only [Act.put, List.setIfInBounds_toArray, List.set_cons_zero, List.set_cons_succ]
    clear hK K
    refine take_lawH 6 (some 10) (.int .i64 (g p - 1)) rfl rfl (by kernel_rfl) (by kernel_rfl) (by kernel_rfl) (fun _ _ _ h => h) (Or.inl ⟨by rfl, fun w' hw' => by exact exec_sub (.tmp 9) (.const (.int .i64 1)) rfl (g p) 1 _ rfl rfl WS.out⟩) hS ?_
    simp only [Act.put, List.setIfInBounds_toArray, List.set_cons_zero, List.set_cons_succ]
    refine wpAnyH_ready (rs := [9]) (by kernel_rfl) (by simp) ?_
    refine AllReadyH.cons rfl (fun K hK => ?_) AllReadyH.nil
    refine step_estore x4 rfl none rfl (.tmp 7) (.tmp 12) (.tmp 10) rfl b st (g p - 1) (fun w3 => x4.grownBy w3 (some b) ∧ Mp w3 b (ud g p (g p - 1))) rfl rfl rfl (HE.out x4 _ rfl) ?_
    rintro x5 ⟨G9, M9⟩
    have HC : Hid (x5.cell? ⟨c, 4, none⟩ = some (.map (some b))) := cell_grown HC.out G9 KC.out
    have HP : Hid (x5.rangeAt w.heap.size 0 (pc p)) := range_grown HP.out (Nat.succ_pos _) G9 KB.out
    have HG : Hid (w.grownBy x5 (some b)) := grown_trans HG.out G9
    have HM : Hid (Mp x5 b (ud g p (g p - 1))) := M9
    have hS : x5.cell? ⟨c, 4, none⟩ = some (.map (some b)) ∧ x5.rangeAt w.heap.size 0 (pc p) := ⟨HC.out, HP.out⟩
    clear G9 M9
    clear HE
    refine hK.out _ _ hS (fun _ => ?_)
    simp only [Act.put]
    clear hK K
    refine wpAnyH_done (by kernel_rfl) ?_ _
    have c0 := HC.out
    have p0 := HP.out 0 _ rfl
    have p1 := HP.out 1 _ rfl
    rw [Nat.zero_add] at p0 p1
    have lo : ∀ n, (Instr.lookup 69 (.map (some b)) (.agg #[.int .i64 p.1, .int .i64 p.2]) false).run Try.prog (x5.drewN n) = .ok (.int .i64 (g p - 1)) (x5.drewN n) := fun n => by have z := look_any (HM.out.heap (w' := x5.drewN n) rfl) p; rwa [UD.out] at z
    have zz := Z.out
    go_wp2
    go_quiet (fail)
    go_wp2
    refine bodyPost_end (v := .tuple #[]) (results_none rfl _ _ _) rfl ⟨rfl, HM.out.heap rfl, ⟨HG.out.os, HG.out.tape, HG.out.output, HG.out.size, HG.out.block⟩⟩
set_option maxHeartbeats 2000000 in
theorem leave_last (c b : Nat) (g : Int × Int → Int) (p : Int × Int) (w : World) (hc : w.cell? ⟨c, 4, none⟩ = some (.map (some b))) (hm : Mp w b g) (_h1 : 1 ≤ g p) (_h2 : g p ≤ 1000000) (he : g p - 1 = 0) : Calls Try.prog 46 #[pt c, .agg (pc p).toArray] w fun e w' => e = .returned (.tuple #[]) ∧ Mp w' b (ud g p (g p - 1)) ∧ w.grownBy w' (some b) := by
  have WS : Hid (IntKind.i64.wrap (g p - 1) = g p - 1) := by show _ = _; rw [IntKind.wrap_i64]; omega
  have KC : Hid (c ≠ b) := by intro e; subst e; exact hm.row hc
  have KB : Hid (w.heap.size ≠ b) := by have := hm.lt; show _ ≠ _; omega
  have HC : Hid (w.cell? ⟨c, 4, none⟩ = some (.map (some b))) := hc
  have HM : Hid (Mp w b g) := hm
  have Z : Hid (g p - 1 = 0) := he
  have UD : Hid (ud g p (g p - 1) p = g p - 1) := by show _ = _; simp [ud]
  clear hc hm he
  have t0 : (0 : Nat) = 0 := rfl
  go_enter Try.func46, Try.ntmps46
  go_wp2_with (first
    | (have qq := t0; refine box_lawC _ (pc p) rfl ?_; intro w1 X1 B1 l1; have HP : Hid (w1.rangeAt w.heap.size 0 (pc p)) := X1.1; have HG : Hid (w.grownBy w1 (some b)) := grown_of B1; have HC : Hid (w1.cell? ⟨c, 4, none⟩ = some (.map (some b))) := (by have := HC.out; show _ = _; rw [B1.cell (World.block_lt_of_cell? w _ this)]; exact this); have HM : Hid (Mp w1 b g) := HM.out.heap (B1.block b HM.out.lt); clear B1 X1 t0))
  have HC : Hid (w1.drew.cell? ⟨c, 4, none⟩ = some (.map (some b))) := HC.out
  have HP : Hid (w1.drew.rangeAt w.heap.size 0 (pc p)) := HP.out
  have HM : Hid (Mp w1.drew b g) := HM.out.heap rfl
  have HG : Hid (w.grownBy w1.drew (some b)) := ⟨HG.out.os, HG.out.tape, HG.out.output, HG.out.size, HG.out.block⟩
  refine wp_region_held_drew (S := fun w' => w'.cell? ⟨c, 4, none⟩ = some (.map (some b)) ∧ w'.rangeAt w.heap.size 0 (pc p)) (by kernel_rfl) ⟨HC.out, HP.out⟩ (fun hS => ?_)
  obtain ⟨x1, hx0⟩ : ∃ x, x = w1.drew := ⟨_, rfl⟩
  rw [← hx0] at hS HC HP HM HG ⊢
  clear hx0
  refine take_lawH 0 (some 4) (.pointer (some ⟨c, 0, none⟩)) rfl rfl (by kernel_rfl) (by kernel_rfl) (by kernel_rfl) (fun _ _ _ h => h) (Or.inl ⟨by rfl, fun w' hw' => by rfl⟩) hS ?_
  simp only [Act.put, List.setIfInBounds_toArray, List.set_cons_zero, List.set_cons_succ]
  refine take_lawH 1 (some 5) (.pointer (some ⟨c, 0, none⟩)) rfl rfl (by kernel_rfl) (by kernel_rfl) (by kernel_rfl) (fun _ _ _ h => h) (Or.inl ⟨by rfl, fun w' hw' => by go_simp⟩) hS ?_
  simp only [Act.put, List.setIfInBounds_toArray, List.set_cons_zero, List.set_cons_succ]
  refine take_lawH 2 (some 6) (.pointer (some ⟨c, 4, none⟩)) rfl rfl (by kernel_rfl) (by kernel_rfl) (by kernel_rfl) (fun _ _ _ h => h) (Or.inl ⟨by rfl, fun w' hw' => by go_simp⟩) hS ?_
  simp only [Act.put, List.setIfInBounds_toArray, List.set_cons_zero, List.set_cons_succ]
  refine take_lawH 3 (some 7) (.map (some b)) rfl rfl (by kernel_rfl) (by kernel_rfl) (by kernel_rfl) (fun _ _ _ h => h) (Or.inl ⟨by rfl, fun w' hw' => by exact exec_loadN 69 (.tmp 6) rfl _ rfl _ _ (load_map hw'.1)⟩) hS ?_
  simp only [Act.put, List.setIfInBounds_toArray, List.set_cons_zero, List.set_cons_succ]
  refine take_lawH 4 (some 8) (.agg (pc p).toArray) rfl rfl (by kernel_rfl) (by kernel_rfl) (by kernel_rfl) (fun _ _ _ h => h) (Or.inl ⟨by rfl, fun w' hw' => by exact exec_loadN 31 (.tmp 3) rfl _ rfl _ _ (load_cells rowy_place hw'.2)⟩) hS ?_
  simp only [Act.put, List.setIfInBounds_toArray, List.set_cons_zero, List.set_cons_succ]
  refine wpAnyH_ready (rs := [5, 7]) (by kernel_rfl) (by simp) ?_
  refine AllReadyH.cons rfl (fun K hK => ?_) (AllReadyH.cons rfl (fun K hK => ?_) AllReadyH.nil)
  · refine step_look x1 rfl (some 9) rfl (.tmp 7) (.tmp 8) rfl b g p rfl rfl HM.out ?_
    refine hK.out _ _ hS (fun _ => ?_)
    simp only [Act.put, List.setIfInBounds_toArray, List.set_cons_zero, List.set_cons_succ]
    clear hK K
    refine take_lawH 6 (some 10) (.int .i64 (g p - 1)) rfl rfl (by kernel_rfl) (by kernel_rfl) (by kernel_rfl) (fun _ _ _ h => h) (Or.inl ⟨by rfl, fun w' hw' => by exact exec_sub (.tmp 9) (.const (.int .i64 1)) rfl (g p) 1 _ rfl rfl WS.out⟩) hS ?_
    simp only [Act.put, List.setIfInBounds_toArray, List.set_cons_zero, List.set_cons_succ]
    refine wpAnyH_ready (rs := [7]) (by kernel_rfl) (by simp) ?_
    refine AllReadyH.cons rfl (fun K hK => ?_) AllReadyH.nil
    refine step_entry x1 rfl (some 11) rfl (.tmp 7) (.tmp 8) rfl b g p rfl rfl HM.out ?_
    intro v0 st x2 G9 M9 HE
    have HC : Hid (x2.cell? ⟨c, 4, none⟩ = some (.map (some b))) := cell_grown HC.out G9 KC.out
    have HP : Hid (x2.rangeAt w.heap.size 0 (pc p)) := range_grown HP.out (Nat.succ_pos _) G9 KB.out
    have HG : Hid (w.grownBy x2 (some b)) := grown_trans HG.out G9
    have HM : Hid (Mp x2 b (g)) := M9
    have hS : x2.cell? ⟨c, 4, none⟩ = some (.map (some b)) ∧ x2.rangeAt w.heap.size 0 (pc p) := ⟨HC.out, HP.out⟩
    clear G9 M9
    refine hK.out _ _ hS (fun _ => ?_)
    simp only [Act.put, List.setIfInBounds_toArray, List.set_cons_zero, List.set_cons_succ]
    clear hK K
    refine take_lawH 8 (some 12) (.int .i64 st) rfl rfl (by kernel_rfl) (by kernel_rfl) (by kernel_rfl) (fun _ _ _ h => h) (Or.inl ⟨by rfl, fun w' hw' => by rfl⟩) hS ?_
    simp only [Act.put, List.setIfInBounds_toArray, List.set_cons_zero, List.set_cons_succ]
    refine wpAnyH_ready (rs := [9]) (by kernel_rfl) (by simp) ?_
    refine AllReadyH.cons rfl (fun K hK => ?_) AllReadyH.nil
    refine step_estore x2 rfl none rfl (.tmp 7) (.tmp 12) (.tmp 10) rfl b st (g p - 1) (fun w3 => x2.grownBy w3 (some b) ∧ Mp w3 b (ud g p (g p - 1))) rfl rfl rfl (HE.out x2 _ rfl) ?_
    rintro x3 ⟨G9, M9⟩
    have HC : Hid (x3.cell? ⟨c, 4, none⟩ = some (.map (some b))) := cell_grown HC.out G9 KC.out
    have HP : Hid (x3.rangeAt w.heap.size 0 (pc p)) := range_grown HP.out (Nat.succ_pos _) G9 KB.out
    have HG : Hid (w.grownBy x3 (some b)) := grown_trans HG.out G9
    have HM : Hid (Mp x3 b (ud g p (g p - 1))) := M9
    have hS : x3.cell? ⟨c, 4, none⟩ = some (.map (some b)) ∧ x3.rangeAt w.heap.size 0 (pc p) := ⟨HC.out, HP.out⟩
    clear G9 M9
    clear HE
    refine hK.out _ _ hS (fun _ => ?_)
    simp only [Act.put]
    clear hK K
    refine wpAnyH_done (by kernel_rfl) ?_ _
    have c0 := HC.out
    have p0 := HP.out 0 _ rfl
    have p1 := HP.out 1 _ rfl
    rw [Nat.zero_add] at p0 p1
    have lo : ∀ n, (Instr.lookup 69 (.map (some b)) (.agg #[.int .i64 p.1, .int .i64 p.2]) false).run Try.prog (x3.drewN n) = .ok (.int .i64 0) (x3.drewN n) := fun n => by have z := look_any (HM.out.heap (w' := x3.drewN n) rfl) p; rwa [UD.out, Z.out] at z
    go_wp2
    go_quiet (fail)
    go_wp2
    obtain ⟨y1, hy1⟩ : ∃ x, x = x3.drewN nq := ⟨_, rfl⟩
    rw [← hy1]
    have HC : Hid (y1.cell? ⟨c, 4, none⟩ = some (.map (some b))) := by rw [hy1]; exact HC.out
    have HP : Hid (y1.rangeAt w.heap.size 0 (pc p)) := by rw [hy1]; exact HP.out
    have HM : Hid (Mp y1 b (ud g p (g p - 1))) := by rw [hy1]; exact HM.out.heap rfl
    have HG : Hid (w.grownBy y1 (some b)) := by rw [hy1]; exact ⟨HG.out.os, HG.out.tape, HG.out.output, HG.out.size, HG.out.block⟩
    clear hy1 c0 p0 p1 lo
    have HC : Hid (y1.drew.cell? ⟨c, 4, none⟩ = some (.map (some b))) := HC.out
    have HP : Hid (y1.drew.rangeAt w.heap.size 0 (pc p)) := HP.out
    have HM : Hid (Mp y1.drew b (ud g p (g p - 1))) := HM.out.heap rfl
    have HG : Hid (w.grownBy y1.drew (some b)) := ⟨HG.out.os, HG.out.tape, HG.out.output, HG.out.size, HG.out.block⟩
    refine wp_region_held_drew (S := fun w' => w'.cell? ⟨c, 4, none⟩ = some (.map (some b)) ∧ w'.rangeAt w.heap.size 0 (pc p)) (by kernel_rfl) ⟨HC.out, HP.out⟩ (fun hS => ?_)
    obtain ⟨z1, hx0⟩ : ∃ x, x = y1.drew := ⟨_, rfl⟩
    rw [← hx0] at hS HC HP HM HG ⊢
    clear hx0
    refine take_lawH 0 (some 20) (.pointer (some ⟨c, 0, none⟩)) rfl rfl (by kernel_rfl) (by kernel_rfl) (by kernel_rfl) (fun _ _ _ h => h) (Or.inl ⟨by rfl, fun w' hw' => by rfl⟩) hS ?_
    simp only [Act.put, List.setIfInBounds_toArray, List.set_cons_zero, List.set_cons_succ]
    refine take_lawH 1 (some 21) (.pointer (some ⟨c, 0, none⟩)) rfl rfl (by kernel_rfl) (by kernel_rfl) (by kernel_rfl) (fun _ _ _ h => h) (Or.inl ⟨by rfl, fun w' hw' => by go_simp⟩) hS ?_
    simp only [Act.put, List.setIfInBounds_toArray, List.set_cons_zero, List.set_cons_succ]
    refine take_lawH 2 (some 22) (.pointer (some ⟨c, 4, none⟩)) rfl rfl (by kernel_rfl) (by kernel_rfl) (by kernel_rfl) (fun _ _ _ h => h) (Or.inl ⟨by rfl, fun w' hw' => by go_simp⟩) hS ?_
    simp only [Act.put, List.setIfInBounds_toArray, List.set_cons_zero, List.set_cons_succ]
    refine take_lawH 3 (some 23) (.map (some b)) rfl rfl (by kernel_rfl) (by kernel_rfl) (by kernel_rfl) (fun _ _ _ h => h) (Or.inl ⟨by rfl, fun w' hw' => by exact exec_loadN 69 (.tmp 22) rfl _ rfl _ _ (load_map hw'.1)⟩) hS ?_
    simp only [Act.put, List.setIfInBounds_toArray, List.set_cons_zero, List.set_cons_succ]
    refine take_lawH 4 (some 24) (.agg (pc p).toArray) rfl rfl (by kernel_rfl) (by kernel_rfl) (by kernel_rfl) (fun _ _ _ h => h) (Or.inl ⟨by rfl, fun w' hw' => by exact exec_loadN 31 (.tmp 3) rfl _ rfl _ _ (load_cells rowy_place hw'.2)⟩) hS ?_
    simp only [Act.put, List.setIfInBounds_toArray, List.set_cons_zero, List.set_cons_succ]
    refine wpAnyH_ready (rs := [5]) (by kernel_rfl) (by simp) ?_
    refine AllReadyH.cons rfl (fun K hK => ?_) AllReadyH.nil
    refine step_delete z1 rfl none rfl (.tmp 23) (.tmp 24) rfl b (ud g p (g p - 1)) p rfl rfl HM.out ?_
    intro z2 G9 M9
    have HC : Hid (z2.cell? ⟨c, 4, none⟩ = some (.map (some b))) := cell_grown HC.out G9 KC.out
    have HP : Hid (z2.rangeAt w.heap.size 0 (pc p)) := range_grown HP.out (Nat.succ_pos _) G9 KB.out
    have HG : Hid (w.grownBy z2 (some b)) := grown_trans HG.out G9
    have HM : Hid (Mp z2 b (ud (ud g p (g p - 1)) p 0)) := M9
    have hS : z2.cell? ⟨c, 4, none⟩ = some (.map (some b)) ∧ z2.rangeAt w.heap.size 0 (pc p) := ⟨HC.out, HP.out⟩
    clear G9 M9
    refine hK.out _ _ hS (fun _ => ?_)
    simp only [Act.put]
    clear hK K
    refine wpAnyH_done (by kernel_rfl) ?_ _
    go_wp2
    refine bodyPost_end (v := .tuple #[]) (results_none rfl _ _ _) rfl ⟨rfl, ?_, HG.out⟩
    rw [Z.out]
    have := HM.out
    rw [Z.out] at this
    rwa [ud_ud] at this
  · refine step_entry x1 rfl (some 11) rfl (.tmp 7) (.tmp 8) rfl b g p rfl rfl HM.out ?_
    intro v0 st x4 G9 M9 HE
    have HC : Hid (x4.cell? ⟨c, 4, none⟩ = some (.map (some b))) := cell_grown HC.out G9 KC.out
    have HP : Hid (x4.rangeAt w.heap.size 0 (pc p)) := range_grown HP.out (Nat.succ_pos _) G9 KB.out
    have HG : Hid (w.grownBy x4 (some b)) := grown_trans HG.out G9
    have HM : Hid (Mp x4 b (g)) := M9
    have hS : x4.cell? ⟨c, 4, none⟩ = some (.map (some b)) ∧ x4.rangeAt w.heap.size 0 (pc p) := ⟨HC.out, HP.out⟩
    clear G9 M9
    refine hK.out _ _ hS (fun _ => ?_)
    simp only [Act.put, List.setIfInBounds_toArray, List.set_cons_zero, List.set_cons_succ]
    clear hK K
    refine take_lawH 8 (some 12) (.int .i64 st) rfl rfl (by kernel_rfl) (by kernel_rfl) (by kernel_rfl) (fun _ _ _ h => h) (Or.inl ⟨by rfl, fun w' hw' => by rfl⟩) hS ?_
    simp only [Act.put, List.setIfInBounds_toArray, List.set_cons_zero, List.set_cons_succ]
    refine wpAnyH_ready (rs := [5]) (by kernel_rfl) (by simp) ?_
    refine AllReadyH.cons rfl (fun K hK => ?_) AllReadyH.nil
    refine step_look x4 rfl (some 9) rfl (.tmp 7) (.tmp 8) rfl b g p rfl rfl HM.out ?_
    refine hK.out _ _ hS (fun _ => ?_)
    simp only [Act.put, List.setIfInBounds_toArray, List.set_cons_zero, List.set_cons_succ]
    clear hK K
    refine take_lawH 6 (some 10) (.int .i64 (g p - 1)) rfl rfl (by kernel_rfl) (by kernel_rfl) (by kernel_rfl) (fun _ _ _ h => h) (Or.inl ⟨by rfl, fun w' hw' => by exact exec_sub (.tmp 9) (.const (.int .i64 1)) rfl (g p) 1 _ rfl rfl WS.out⟩) hS ?_
    simp only [Act.put, List.setIfInBounds_toArray, List.set_cons_zero, List.set_cons_succ]
    refine wpAnyH_ready (rs := [9]) (by kernel_rfl) (by simp) ?_
    refine AllReadyH.cons rfl (fun K hK => ?_) AllReadyH.nil
    refine step_estore x4 rfl none rfl (.tmp 7) (.tmp 12) (.tmp 10) rfl b st (g p - 1) (fun w3 => x4.grownBy w3 (some b) ∧ Mp w3 b (ud g p (g p - 1))) rfl rfl rfl (HE.out x4 _ rfl) ?_
    rintro x5 ⟨G9, M9⟩
    have HC : Hid (x5.cell? ⟨c, 4, none⟩ = some (.map (some b))) := cell_grown HC.out G9 KC.out
    have HP : Hid (x5.rangeAt w.heap.size 0 (pc p)) := range_grown HP.out (Nat.succ_pos _) G9 KB.out
    have HG : Hid (w.grownBy x5 (some b)) := grown_trans HG.out G9
    have HM : Hid (Mp x5 b (ud g p (g p - 1))) := M9
    have hS : x5.cell? ⟨c, 4, none⟩ = some (.map (some b)) ∧ x5.rangeAt w.heap.size 0 (pc p) := ⟨HC.out, HP.out⟩
    clear G9 M9
    clear HE
    refine hK.out _ _ hS (fun _ => ?_)
    simp only [Act.put]
    clear hK K
    refine wpAnyH_done (by kernel_rfl) ?_ _
    have c0 := HC.out
    have p0 := HP.out 0 _ rfl
    have p1 := HP.out 1 _ rfl
    rw [Nat.zero_add] at p0 p1
    have lo : ∀ n, (Instr.lookup 69 (.map (some b)) (.agg #[.int .i64 p.1, .int .i64 p.2]) false).run Try.prog (x5.drewN n) = .ok (.int .i64 0) (x5.drewN n) := fun n => by have z := look_any (HM.out.heap (w' := x5.drewN n) rfl) p; rwa [UD.out, Z.out] at z
    go_wp2
    go_quiet (fail)
    go_wp2
    obtain ⟨y1, hy1⟩ : ∃ x, x = x5.drewN nq := ⟨_, rfl⟩
    rw [← hy1]
    have HC : Hid (y1.cell? ⟨c, 4, none⟩ = some (.map (some b))) := by rw [hy1]; exact HC.out
    have HP : Hid (y1.rangeAt w.heap.size 0 (pc p)) := by rw [hy1]; exact HP.out
    have HM : Hid (Mp y1 b (ud g p (g p - 1))) := by rw [hy1]; exact HM.out.heap rfl
    have HG : Hid (w.grownBy y1 (some b)) := by rw [hy1]; exact ⟨HG.out.os, HG.out.tape, HG.out.output, HG.out.size, HG.out.block⟩
    clear hy1 c0 p0 p1 lo
    have HC : Hid (y1.drew.cell? ⟨c, 4, none⟩ = some (.map (some b))) := HC.out
    have HP : Hid (y1.drew.rangeAt w.heap.size 0 (pc p)) := HP.out
    have HM : Hid (Mp y1.drew b (ud g p (g p - 1))) := HM.out.heap rfl
    have HG : Hid (w.grownBy y1.drew (some b)) := ⟨HG.out.os, HG.out.tape, HG.out.output, HG.out.size, HG.out.block⟩
    refine wp_region_held_drew (S := fun w' => w'.cell? ⟨c, 4, none⟩ = some (.map (some b)) ∧ w'.rangeAt w.heap.size 0 (pc p)) (by kernel_rfl) ⟨HC.out, HP.out⟩ (fun hS => ?_)
    obtain ⟨z1, hx0⟩ : ∃ x, x = y1.drew := ⟨_, rfl⟩
    rw [← hx0] at hS HC HP HM HG ⊢
    clear hx0
    refine take_lawH 0 (some 20) (.pointer (some ⟨c, 0, none⟩)) rfl rfl (by kernel_rfl) (by kernel_rfl) (by kernel_rfl) (fun _ _ _ h => h) (Or.inl ⟨by rfl, fun w' hw' => by rfl⟩) hS ?_
    simp only [Act.put, List.setIfInBounds_toArray, List.set_cons_zero, List.set_cons_succ]
    refine take_lawH 1 (some 21) (.pointer (some ⟨c, 0, none⟩)) rfl rfl (by kernel_rfl) (by kernel_rfl) (by kernel_rfl) (fun _ _ _ h => h) (Or.inl ⟨by rfl, fun w' hw' => by go_simp⟩) hS ?_
    simp only [Act.put, List.setIfInBounds_toArray, List.set_cons_zero, List.set_cons_succ]
    refine take_lawH 2 (some 22) (.pointer (some ⟨c, 4, none⟩)) rfl rfl (by kernel_rfl) (by kernel_rfl) (by kernel_rfl) (fun _ _ _ h => h) (Or.inl ⟨by rfl, fun w' hw' => by go_simp⟩) hS ?_
    simp only [Act.put, List.setIfInBounds_toArray, List.set_cons_zero, List.set_cons_succ]
    refine take_lawH 3 (some 23) (.map (some b)) rfl rfl (by kernel_rfl) (by kernel_rfl) (by kernel_rfl) (fun _ _ _ h => h) (Or.inl ⟨by rfl, fun w' hw' => by exact exec_loadN 69 (.tmp 22) rfl _ rfl _ _ (load_map hw'.1)⟩) hS ?_
    simp only [Act.put, List.setIfInBounds_toArray, List.set_cons_zero, List.set_cons_succ]
    refine take_lawH 4 (some 24) (.agg (pc p).toArray) rfl rfl (by kernel_rfl) (by kernel_rfl) (by kernel_rfl) (fun _ _ _ h => h) (Or.inl ⟨by rfl, fun w' hw' => by exact exec_loadN 31 (.tmp 3) rfl _ rfl _ _ (load_cells rowy_place hw'.2)⟩) hS ?_
    simp only [Act.put, List.setIfInBounds_toArray, List.set_cons_zero, List.set_cons_succ]
    refine wpAnyH_ready (rs := [5]) (by kernel_rfl) (by simp) ?_
    refine AllReadyH.cons rfl (fun K hK => ?_) AllReadyH.nil
    refine step_delete z1 rfl none rfl (.tmp 23) (.tmp 24) rfl b (ud g p (g p - 1)) p rfl rfl HM.out ?_
    intro z2 G9 M9
    have HC : Hid (z2.cell? ⟨c, 4, none⟩ = some (.map (some b))) := cell_grown HC.out G9 KC.out
    have HP : Hid (z2.rangeAt w.heap.size 0 (pc p)) := range_grown HP.out (Nat.succ_pos _) G9 KB.out
    have HG : Hid (w.grownBy z2 (some b)) := grown_trans HG.out G9
    have HM : Hid (Mp z2 b (ud (ud g p (g p - 1)) p 0)) := M9
    have hS : z2.cell? ⟨c, 4, none⟩ = some (.map (some b)) ∧ z2.rangeAt w.heap.size 0 (pc p) := ⟨HC.out, HP.out⟩
    clear G9 M9
    refine hK.out _ _ hS (fun _ => ?_)
    simp only [Act.put]
    clear hK K
    refine wpAnyH_done (by kernel_rfl) ?_ _
    go_wp2
    refine bodyPost_end (v := .tuple #[]) (results_none rfl _ _ _) rfl ⟨rfl, ?_, HG.out⟩
    rw [Z.out]
    have := HM.out
    rw [Z.out] at this
    rwa [ud_ud] at this
theorem leave_any (c b : Nat) (g : Int × Int → Int) (p : Int × Int) (w : World) (hc : w.cell? ⟨c, 4, none⟩ = some (.map (some b))) (hm : Mp w b g) (h1 : 1 ≤ g p) (h2 : g p ≤ 1000000) : Calls Try.prog 46 #[pt c, .agg (pc p).toArray] w fun e w' => e = .returned (.tuple #[]) ∧ Mp w' b (ud g p (g p - 1)) ∧ w.grownBy w' (some b) := by
  by_cases h : g p - 1 = 0
  · exact leave_last c b g p w hc hm h1 h2 h
  · exact leave_more c b g p w hc hm h1 h2 h
end Go.Proofs.Ytedmmpognhpbdaa.pm
