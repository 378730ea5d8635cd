/- What pagemap's Get answers of a sector that there is. No claim of its own. -/
import Derived.Test.YtedmmpognhpbdaaJGet
namespace Go.Proofs.Ytedmmpognhpbdaa.pm
open Go.RowKit Go.Proofs.Ytedmmpognhpbdaa.he
set_option maxRecDepth 20000

/-- the address of a spot in a row of them -/
theorem run_idxS (w : World) (d q n c i : Nat) (hi : i < n) : (Instr.indexAt 47 (.slice (some ⟨d, q, none⟩) n c) (.int .i64 (i : Int))).run Try.prog w = .ok (pq d (q + i * 14)) w := by
  rw [run_indexAt_slice _ _ _ _ _ _ _ Try.underlying47, if_pos (by omega), show Try.prog.elem 47 = 37 by kernel_rfl, size_sp]
  simp only [Result.andThen_ok, Int.toNat_natCast]
  rw [Addr.add_lit]
theorem exec_idxS {ev : Operand → Value} {o : Oper} (x y : Operand) (hop : o.op = Op.indexAddr 47 x y) (d n c i : Nat) (hx : ev x = .slice (some ⟨d, 0, none⟩) n c) (hy : ev y = .int .i64 (i : Int)) (hi : i < n) (w : World) : (execOp ev o).run Try.prog w = .ok (.value (pq d (i * 14))) w := by
  unfold execOp
  simp only [hop, hx, hy, Sem.run_bind, Result.andThen_ok, run_idxS w d 0 n c i hi]
  simp
theorem step_storeV {ops : Array Oper} {o : Oper} {a : Act} {Q : Exit → Act → World → Prop} {K : Act → World → Prop} {E : Prop} (w : World) (hg : o.guard = none) (d : Option Tmp) (hd : o.dst = d) (x y : Operand) (t : TypeId) (hop : o.op = Op.store t x y) (c : Nat) (cs0 cs : List Value) (hx : a.eval x = pq c 0) (hy : a.eval y = .agg cs.toArray) (hV : Vr w c cs0) (hl : cs0.length = cs.length) (hs : (Try.prog.info? t).map (·.size) = some cs.length) (h1 : ∀ v ∈ cs, v.oneCell' = true)
    (hK : ∀ w', Vr w' c cs → Below c w w' → K (a.put d undef) w') : if Region.wanted o (yielded ops a.tmps) = true then Oper.wp Try.prog o a w K Q else E := by
  have hw : Region.wanted o (yielded ops a.tmps) = true := by simp [Region.wanted, hg]
  rw [if_pos hw]
  subst hd
  have ht : w.there c 0 cs.length := by rw [← hl]; exact hV.2
  refine wp_store_mid t x y hop c 0 cs.toArray hx hy (by simpa using ht) (by simpa using hs) (all_oneCell_toArray h1) ?_
  exact hK _ ⟨World.rangeAt_setCells_same w c 0 cs ht, World.there_setCells ht c 0 _⟩ (below_cells _ (Nat.le_refl _) _ _ (Below.refl _ _))
set_option maxHeartbeats 2000000 in
theorem get_yes (c : Nat) (rb : Option Nat) (d s : Nat → Nat) (f : Nat → Nat → Sp) (g : PL → Int) (i k : Nat) (w : World) (hm : Pm w c d s f rb g) (hi : i < 4) (hk : k < s i) : Calls Try.prog 21 #[pt c, .int .i64 (i : Int), .int .i64 (k : Int)] w fun e w' => e = .returned (.tuple #[.agg (f i k).cs.toArray, .bool (lv (f i k))]) ∧ Below w.heap.size w w' := by
  obtain ⟨n, hn⟩ : ∃ n, n = s i := ⟨_, rfl⟩
  obtain ⟨D, hD⟩ : ∃ D, D = d i := ⟨_, rfl⟩
  have SS : Hid (∀ W, Below w.heap.size w W → Calls Try.prog 48 #[pt c, .int .i64 (i : Int)] W fun e w' => e = .returned (.slice (some ⟨D, 0, none⟩) n n) ∧ w' = W) := fun W hW => by
    have z := sectors_any (pt c) d s f g (i : Int) W (.inr ⟨c, rb, rfl, hm.below hW⟩)
    have e : sec d s (i : Int) = .slice (some ⟨D, 0, none⟩) n n := by
      unfold sec sv
      rw [if_pos (by omega), Int.toNat_natCast, ← hn, ← hD, if_neg (by omega)]
    rwa [e] at z
  have hr := hm.r i hi k hk
  rw [Nat.zero_add, ← hD] at hr
  obtain ⟨y, hy⟩ : ∃ y, y = f i k := ⟨_, rfl⟩
  rw [← hy] at hr ⊢
  have HR : Hid (At w D (k * 14) y.cs) := hr
  have DL : Hid (D < w.heap.size) := hr.lt (Nat.succ_pos _)
  have SI : Hid (∀ W, Calls Try.prog 45 #[.agg y.cs.toArray] W fun e w' => e = .returned (.bool (lv y)) ∧ Below W.heap.size W w') := fun W => isspot_any y W
  generalize lv y = r at SI ⊢
  rw [← hn] at hk
  have HK : Hid (k < n) := hk
  have k0 : ¬ ((k : Int) < 0) := by omega
  have k2 : ¬ ((k : Int) ≥ (n : Int)) := by omega
  have k3 : decide ((k : Int) ≥ (n : Int)) = false := decide_eq_false k2
  have k4 : (k : Int) < (n : Int) := by omega
  clear hm hr hy hn hD hk
  have t0 : (0 : Nat) = 0 := rfl
  go_enter Try.func21, Try.ntmps21
  go_wp2_with (first
    | (have qq := t1; go_at_call 48; refine (SS.out _ BB.out).mono ?_; rintro e w2 ⟨rfl, hw⟩; obtain rfl := hw.symm; clear t1)
    | (have qq := t0; (with_reducible refine at_alloc ?_); refine new_lawC _ sp0.cs zero_spot ?_; intro w1 X1 B1 l1; have HX : Hid (Vr w1 w.heap.size sp0.cs) := X1; have BB : Hid (Below w.heap.size w w1) := B1; have WL : Hid (w.heap.size < w1.heap.size) := l1; clear X1 B1 l1 t0; have t1 : (0 : Nat) = 0 := rfl))
  have HS : Hid (w1.drew.rangeAt D (k * 14) y.cs) := range_heap HR.out.1 (BB.out.block _ DL.out)
  have HX : Hid (Vr w1.drew w.heap.size sp0.cs) := HX.out.drewN 1
  have BB : Hid (Below w.heap.size w w1.drew) := below_dr BB.out 1
  refine wp_region_held_drew (S := fun w' => w'.rangeAt D (k * 14) y.cs) (by kernel_rfl) HS.out (fun hS => ?_)
  obtain ⟨x1, hx0⟩ : ∃ x, x = w1.drew := ⟨_, rfl⟩
  rw [← hx0] at hS HS HX BB ⊢
  clear hx0
  refine take_lawH 0 (some 21) (.slice (some ⟨D, 0, none⟩) n n) rfl rfl (by kernel_rfl) (by kernel_rfl) (by kernel_rfl) (fun _ _ _ h => h) (Or.inl ⟨by rfl, fun w' hw' => by rfl⟩) hS ?_
  simp only [Act.put, List.setIfInBounds_toArray, List.set_cons_zero, List.set_cons_succ]
  refine take_lawH 1 (some 22) (.int .i64 (k : Int)) rfl rfl (by kernel_rfl) (by kernel_rfl) (by kernel_rfl) (fun _ _ _ h => h) (Or.inl ⟨by rfl, fun w' hw' => by rfl⟩) hS ?_
  simp only [Act.put, List.setIfInBounds_toArray, List.set_cons_zero, List.set_cons_succ]
  refine take_lawH 2 (some 23) (.pointer (some ⟨D, k * 14, none⟩)) rfl rfl (by kernel_rfl) (by kernel_rfl) (by kernel_rfl) (fun _ _ _ h => h) (Or.inl ⟨by rfl, fun w' hw' => by exact exec_idxS (.tmp 21) (.tmp 22) rfl D n n k rfl rfl HK.out _⟩) hS ?_
  simp only [Act.put, List.setIfInBounds_toArray, List.set_cons_zero, List.set_cons_succ]
  refine take_lawH 3 (some 24) (.agg y.cs.toArray) rfl rfl (by kernel_rfl) (by kernel_rfl) (by kernel_rfl) (fun _ _ _ h => h) (Or.inl ⟨by rfl, fun w' hw' => by exact exec_loadN 37 (.tmp 23) rfl _ rfl _ _ (load_cells rowy_spot hw')⟩) hS ?_
  simp only [Act.put, List.setIfInBounds_toArray, List.set_cons_zero, List.set_cons_succ]
  refine take_lawH 4 (some 25) (.slice (some ⟨D, 0, none⟩) n n) rfl rfl (by kernel_rfl) (by kernel_rfl) (by kernel_rfl) (fun _ _ _ h => h) (Or.inl ⟨by rfl, fun w' hw' => by rfl⟩) hS ?_
  simp only [Act.put, List.setIfInBounds_toArray, List.set_cons_zero, List.set_cons_succ]
  refine take_lawH 5 (some 26) (.int .i64 (k : Int)) rfl rfl (by kernel_rfl) (by kernel_rfl) (by kernel_rfl) (fun _ _ _ h => h) (Or.inl ⟨by rfl, fun w' hw' => by rfl⟩) hS ?_
  simp only [Act.put, List.setIfInBounds_toArray, List.set_cons_zero, List.set_cons_succ]
  refine take_lawH 6 (some 27) (.pointer (some ⟨D, k * 14, none⟩)) rfl rfl (by kernel_rfl) (by kernel_rfl) (by kernel_rfl) (fun _ _ _ h => h) (Or.inl ⟨by rfl, fun w' hw' => by exact exec_idxS (.tmp 25) (.tmp 26) rfl D n n k rfl rfl HK.out _⟩) hS ?_
  simp only [Act.put, List.setIfInBounds_toArray, List.set_cons_zero, List.set_cons_succ]
  refine take_lawH 7 (some 28) (.agg y.cs.toArray) rfl rfl (by kernel_rfl) (by kernel_rfl) (by kernel_rfl) (fun _ _ _ h => h) (Or.inl ⟨by rfl, fun w' hw' => by exact exec_loadN 37 (.tmp 27) rfl _ rfl _ _ (load_cells rowy_spot hw')⟩) hS ?_
  simp only [Act.put, List.setIfInBounds_toArray, List.set_cons_zero, List.set_cons_succ]
  refine wpAnyH_ready (rs := [8]) (by kernel_rfl) (by simp) ?_
  refine AllReadyH.cons rfl (fun K hK => ?_) AllReadyH.nil
  refine step_callG x1 rfl (some 29) rfl 45 #[.tmp 28] _ rfl (fun _ _ => rfl) #[.agg y.cs.toArray] (by simp only [List.map_toArray, List.map_cons, List.map_nil]; rfl) (fun v w' => v = .bool r ∧ Below x1.heap.size x1 w') ((SI.out x1).mono fun e w' ⟨h1, h2⟩ => ⟨_, h1, rfl, h2⟩) ?_
  rintro v9 x2 ⟨rfl, B9⟩
  have HX : Hid (Vr x2 w.heap.size sp0.cs) := HX.out.below B9 (range_lt HX.out.1 (Nat.succ_pos _))
  have hS : x2.rangeAt D (k * 14) y.cs := range_heap hS (B9.block _ (range_lt hS (Nat.succ_pos _)))
  have BB : Hid (Below w.heap.size w x2) := BB.out.trans (B9.mono BB.out.size)
  clear B9
  refine hK.out _ _ hS (fun _ => ?_)
  simp only [Act.put, List.setIfInBounds_toArray, List.set_cons_zero, List.set_cons_succ]
  clear hK K
  refine wpAnyH_ready (rs := [9]) (by kernel_rfl) (by simp) ?_
  refine AllReadyH.cons rfl (fun K hK => ?_) AllReadyH.nil
  refine step_storeV x2 rfl none rfl (.tmp 6) (.tmp 24) 37 rfl w.heap.size sp0.cs y.cs rfl rfl HX.out rfl size_spot y.one ?_
  intro x3 X9 B9
  have HX : Hid (Vr x3 w.heap.size y.cs) := X9
  have hS : x3.rangeAt D (k * 14) y.cs := range_heap hS (B9.block _ DL.out)
  have BB : Hid (Below w.heap.size w x3) := BB.out.trans B9
  clear X9 B9
  refine hK.out _ _ hS (fun _ => ?_)
  simp only [Act.put]
  clear hK K
  refine take_lawH 10 (some 7) (.bool r) rfl rfl (by kernel_rfl) (by kernel_rfl) (by kernel_rfl) (fun _ _ _ h => h) (Or.inl ⟨by rfl, fun w' hw' => by rfl⟩) hS ?_
  simp only [Act.put, List.setIfInBounds_toArray, List.set_cons_zero, List.set_cons_succ]
  refine wpAnyH_done (by kernel_rfl) ?_ _
  go_wp2
  refine bodyPost_ret (v := .tuple #[.agg y.cs.toArray, .bool r]) (results_cv rfl _ _ w.heap.size y.cs _ rowy_spot rfl rfl HX.out.1) rfl ⟨rfl, BB.out⟩
theorem get_any (c : Nat) (rb : Option Nat) (d s : Nat → Nat) (f : Nat → Nat → Sp) (g : PL → Int) (n k : Int) (w : World) (hm : Pm w c d s f rb g) : Calls Try.prog 21 #[pt c, .int .i64 n, .int .i64 k] w fun e w' => e = .returned (.tuple #[.agg (gs s f n k).cs.toArray, .bool (lv (gs s f n k))]) ∧ Below w.heap.size w w' := by
  by_cases h : 0 ≤ k ∧ k < szn s n
  · have hn : 0 ≤ n ∧ n < 4 := by
      unfold szn at h
      split at h
      · assumption
      · omega
    obtain ⟨i, rfl⟩ : ∃ i : Nat, n = i := ⟨n.toNat, by omega⟩
    obtain ⟨j, rfl⟩ : ∃ j : Nat, k = j := ⟨k.toNat, by omega⟩
    have e : gs s f (i : Int) (j : Int) = f i j := by unfold gs; rw [if_pos h, Int.toNat_natCast, Int.toNat_natCast]
    have hs : j < s i := by
      have := h.2
      unfold szn at this
      rw [if_pos hn, Int.toNat_natCast] at this
      omega
    rw [e]
    exact get_yes c rb d s f g i j w hm (by omega) hs
  · have e : gs s f n k = sp0 := by unfold gs; rw [if_neg h]
    rw [e]
    exact get_no (pt c) d s f g n k w (.inr ⟨c, rb, rfl, hm⟩) h
end Go.Proofs.Ytedmmpognhpbdaa.pm
