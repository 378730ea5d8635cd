/- What nand's blockCells, refuses, Image, Geometry and Power answer. No claim of its own. -/
import Derived.Test.YtnklbmeadjgehaaNCel
namespace Go.Proofs.Ytnklbmeadjgehaa.na
open Go.RowKit Go.Proofs.Ytnklbmeadjgehaa.fa
set_option maxRecDepth 20000

theorem exec_mul {ev : Operand → Value} {o : Oper} {w : World} (x y : Operand) (hop : o.op = Op.binOp .mul 3 x y 3) (A B q : Int) (hx : ev x = .int .i64 A) (hy : ev y = .int .i64 B) (hq : IntKind.i64.wrap (A * B) = q) : (execOp ev o).run Try.prog w = .ok (.value (.int .i64 q)) w := by
  subst hq
  unfold execOp
  simp only [hop, hx, hy]
  rfl
theorem wrap_mul (P S : Nat) (h : P * S ≤ 16777216) : IntKind.i64.wrap ((P : Int) * (S : Int)) = ((P * S : Nat) : Int) := by
  have : (P : Int) * (S : Int) = ((P * S : Nat) : Int) := by simp
  rw [this, IntKind.wrap_i64]; omega

theorem blockCells_nil (b : Int) (w : World) : Calls Try.prog 53 #[.pointer none, .int .i64 b] w fun e w' => e = .returned (.tuple #[.slice none 0 0, .int .i64 4]) ∧ w' = w := by
  have SO : Hid (∀ w, Calls Try.prog 17 #[.pointer none] w fun e w' => e = .returned (.bool false) ∧ w' = w) := on_nil
  go_enter Try.func53, Try.ntmps53
  go_wp2_with (go_at_call 17; refine (SO.out _).mono ?_; rintro e w' ⟨rfl, hw⟩; obtain rfl := hw.symm)
  go_ret2
  exact ⟨rfl, rfl⟩

section
variable {M : Nat → Bool} {w : World} {c r d : Nat} {q : Nat → Nat} {pv tv : Value} {g : List Int} {N P S : Nat} {pl : Pln} {X : Raw}
theorem blockCells_off (h : Lay M w c r d q pv tv g N P S pl X) (ho : xo X = false) (b : Int) : Calls Try.prog 53 #[.pointer (some ⟨c, 0, none⟩), .int .i64 b] w fun e w' => e = .returned (.tuple #[.slice none 0 0, .int .i64 4]) ∧ w' = w := by
  have SO : Hid (Calls Try.prog 17 #[.pointer (some ⟨c, 0, none⟩)] w fun e w' => e = .returned (.bool false) ∧ w' = w) := on_any c false w (by rw [← ho]; exact h.cells.2.1)
  clear h
  go_enter Try.func53, Try.ntmps53
  go_wp2_with (go_at_call 17; refine SO.out.mono ?_; rintro e w' ⟨rfl, hw⟩; obtain rfl := hw.symm)
  go_ret2
  exact ⟨rfl, rfl⟩
theorem blockCells_no (h : Lay M w c r d q pv tv g N P S pl X) (ho : xo X = true) (b : Int) (hb : ¬ (0 ≤ b ∧ b < N)) : Calls Try.prog 53 #[.pointer (some ⟨c, 0, none⟩), .int .i64 b] w fun e w' => e = .returned (.tuple #[.slice none 0 0, .int .i64 2]) ∧ w' = w := by
  have SO : Hid (Calls Try.prog 17 #[.pointer (some ⟨c, 0, none⟩)] w fun e w' => e = .returned (.bool true) ∧ w' = w) := on_any c true w (by rw [← ho]; exact h.cells.2.1)
  have SH : Hid (Calls Try.prog 45 #[.pointer (some ⟨c, 0, none⟩), .int .i64 b] w fun e w' => e = .returned (.bool false) ∧ w' = w) := has_any c r N b w h.cells.2.2.2.1 false (by rw [decide_eq_false hb])
  clear h hb
  go_enter Try.func53, Try.ntmps53
  go_wp2_with (first
    | (go_at_call 45; refine SH.out.mono ?_; rintro e w' ⟨rfl, hw⟩; obtain rfl := hw.symm)
    | (go_at_call 17; refine SO.out.mono ?_; rintro e w' ⟨rfl, hw⟩; obtain rfl := hw.symm))
  go_ret2
  exact ⟨rfl, rfl⟩

set_option maxHeartbeats 4000000 in
theorem blockCells_yes (h : Lay M w c r d q pv tv g N P S pl X) (ho : xo X = true) (b : Nat) (hb : b < N) : Calls Try.prog 53 #[.pointer (some ⟨c, 0, none⟩), .int .i64 (b : Int)] w fun e w' => e = .returned (.tuple #[.slice (some ⟨d, b * (P * S), none⟩) (P * S) (N * (P * S) - b * (P * S)), .int .i64 0]) ∧ Below w.heap.size w w' := by
  have SO : Hid (Calls Try.prog 17 #[.pointer (some ⟨c, 0, none⟩)] w fun e w' => e = .returned (.bool true) ∧ w' = w) := on_any c true w (by rw [← ho]; exact h.cells.2.1)
  have SH : Hid (Calls Try.prog 45 #[.pointer (some ⟨c, 0, none⟩), .int .i64 (b : Int)] w fun e w' => e = .returned (.bool true) ∧ w' = w) := has_any c r N b w h.cells.2.2.2.1 true (by rw [decide_eq_true (by omega)])
  have HL : Hid (Lay M w c r d q pv tv g N P S pl X) := h
  obtain ⟨gl, hr, g0, g1, g2⟩ := h.1
  have MQ : Hid (IntKind.i64.wrap ((P : Int) * (S : Int)) = ((P * S : Nat) : Int)) := wrap_mul P S (by have := h.bytes; omega)
  have C1 : Hid (∀ w', Below w.heap.size w w' → w'.cell? ⟨c, 1, none⟩ = some (.int .i64 (P : Int))) := fun w' hw => by
    have e : (g.map (Value.int .i64))[1]? = some (.int .i64 (P : Int)) := by
      rw [← g1, List.getElem?_map]
      have : g[1]? = some (gb g 1) := by simp [gb, List.getD, gl]
      rw [this]; rfl
    exact (h.below hw).geo 1 _ e
  have SP : Hid (∀ w, Calls Try.prog 37 #[.agg (ints .i64 g)] w fun x w' => x = .returned (.int .i64 (S : Int)) ∧ Below w.heap.size w w') := psize_nat g gl hr S g2
  have SQ : Hid (∀ w, Calls Try.prog 70 #[.slice (some ⟨d, 0, none⟩) (N * (P * S)) (N * (P * S)), .int .i64 (b : Int), .int .i64 ((P * S : Nat) : Int)] w fun e w' => e = .returned (.slice (some ⟨d, b * (P * S), none⟩) (P * S) (N * (P * S) - b * (P * S))) ∧ Below w.heap.size w w') := fun w => by
    obtain ⟨a1, a2, a3, a4, a5, a6⟩ := h.num
    obtain ⟨b1, b2, b3⟩ := h.bytes
    exact (part_any d (N * (P * S)) b (P * S) w (by omega) (Nat.mul_le_mul_right (P * S) (show b + 1 ≤ N by omega)) (by omega) (by omega) (by omega)).mono fun e w' ⟨h1, h2⟩ => ⟨h1, by rw [h2]; exact Below.refl _ _⟩
  clear h hb
  go_enter Try.func53, Try.ntmps53
  go_wp2_with (first
    | (go_at_call 45; refine SH.out.mono ?_; rintro e w' ⟨rfl, hw⟩; obtain rfl := hw.symm)
    | (go_at_call 17; refine SO.out.mono ?_; rintro e w' ⟨rfl, hw⟩; obtain rfl := hw.symm))
  refine wp_region_held_drew (S := fun w' => Below w.heap.size w w') (by kernel_rfl) (Below.refl _ _).drew (fun hS => ?_)
  obtain ⟨y1, hx0⟩ : ∃ x, x = w.drew := ⟨_, rfl⟩
  rw [← hx0] at hS  ⊢
  clear hx0
  refine take_lawH 0 (some 13) (.pointer (some ⟨c, 0, none⟩)) rfl rfl (by kernel_rfl) (by kernel_rfl) (by kernel_rfl) (fun _ _ _ h => h) (Or.inl ⟨by rfl, fun w' hw' => by rfl⟩) hS ?_
  simp only [Act.put, List.setIfInBounds_toArray, List.set_cons_zero, List.set_cons_succ]
  refine take_lawH 1 (some 14) (.pointer (some ⟨c, 0, none⟩)) rfl rfl (by kernel_rfl) (by kernel_rfl) (by kernel_rfl) (fun _ _ _ h => h) (Or.inl ⟨by rfl, fun w' hw' => by go_simp⟩) hS ?_
  simp only [Act.put, List.setIfInBounds_toArray, List.set_cons_zero, List.set_cons_succ]
  refine take_lawH 2 (some 15) (.pointer (some ⟨c, 8, none⟩)) rfl rfl (by kernel_rfl) (by kernel_rfl) (by kernel_rfl) (fun _ _ _ h => h) (Or.inl ⟨by rfl, fun w' hw' => by go_simp⟩) hS ?_
  simp only [Act.put, List.setIfInBounds_toArray, List.set_cons_zero, List.set_cons_succ]
  refine take_lawH 3 (some 16) (.slice (some ⟨d, 0, none⟩) (N * (P * S)) (N * (P * S))) rfl rfl (by kernel_rfl) (by kernel_rfl) (by kernel_rfl) (fun _ _ _ h => h) (Or.inl ⟨by rfl, fun w' hw' => by exact exec_loadN 53 (.tmp 15) rfl _ rfl _ _ (load_one one_bytes (HL.out.below hw').cells.2.2.1)⟩) hS ?_
  simp only [Act.put, List.setIfInBounds_toArray, List.set_cons_zero, List.set_cons_succ]
  refine take_lawH 4 (some 17) (.int .i64 (b : Int)) rfl rfl (by kernel_rfl) (by kernel_rfl) (by kernel_rfl) (fun _ _ _ h => h) (Or.inl ⟨by rfl, fun w' hw' => by rfl⟩) hS ?_
  simp only [Act.put, List.setIfInBounds_toArray, List.set_cons_zero, List.set_cons_succ]
  refine take_lawH 5 (some 18) (.pointer (some ⟨c, 0, none⟩)) rfl rfl (by kernel_rfl) (by kernel_rfl) (by kernel_rfl) (fun _ _ _ h => h) (Or.inl ⟨by rfl, fun w' hw' => by rfl⟩) hS ?_
  simp only [Act.put, List.setIfInBounds_toArray, List.set_cons_zero, List.set_cons_succ]
  refine take_lawH 6 (some 19) (.pointer (some ⟨c, 0, none⟩)) rfl rfl (by kernel_rfl) (by kernel_rfl) (by kernel_rfl) (fun _ _ _ h => h) (Or.inl ⟨by rfl, fun w' hw' => by go_simp⟩) hS ?_
  simp only [Act.put, List.setIfInBounds_toArray, List.set_cons_zero, List.set_cons_succ]
  refine take_lawH 7 (some 20) (.pointer (some ⟨c, 0, none⟩)) rfl rfl (by kernel_rfl) (by kernel_rfl) (by kernel_rfl) (fun _ _ _ h => h) (Or.inl ⟨by rfl, fun w' hw' => by go_simp⟩) hS ?_
  simp only [Act.put, List.setIfInBounds_toArray, List.set_cons_zero, List.set_cons_succ]
  refine take_lawH 8 (some 21) (.pointer (some ⟨c, 1, none⟩)) rfl rfl (by kernel_rfl) (by kernel_rfl) (by kernel_rfl) (fun _ _ _ h => h) (Or.inl ⟨by rfl, fun w' hw' => by go_simp⟩) hS ?_
  simp only [Act.put, List.setIfInBounds_toArray, List.set_cons_zero, List.set_cons_succ]
  refine take_lawH 9 (some 22) (.int .i64 (P : Int)) rfl rfl (by kernel_rfl) (by kernel_rfl) (by kernel_rfl) (fun _ _ _ h => h) (Or.inl ⟨by rfl, fun w' hw' => by exact exec_loadN 3 (.tmp 21) rfl _ rfl _ _ (load_one one_int (C1.out w' hw'))⟩) hS ?_
  simp only [Act.put, List.setIfInBounds_toArray, List.set_cons_zero, List.set_cons_succ]
  refine take_lawH 10 (some 23) (.pointer (some ⟨c, 0, none⟩)) rfl rfl (by kernel_rfl) (by kernel_rfl) (by kernel_rfl) (fun _ _ _ h => h) (Or.inl ⟨by rfl, fun w' hw' => by rfl⟩) hS ?_
  simp only [Act.put, List.setIfInBounds_toArray, List.set_cons_zero, List.set_cons_succ]
  refine take_lawH 11 (some 24) (.pointer (some ⟨c, 0, none⟩)) rfl rfl (by kernel_rfl) (by kernel_rfl) (by kernel_rfl) (fun _ _ _ h => h) (Or.inl ⟨by rfl, fun w' hw' => by go_simp⟩) hS ?_
  simp only [Act.put, List.setIfInBounds_toArray, List.set_cons_zero, List.set_cons_succ]
  refine take_lawH 12 (some 25) (.pointer (some ⟨c, 0, none⟩)) rfl rfl (by kernel_rfl) (by kernel_rfl) (by kernel_rfl) (fun _ _ _ h => h) (Or.inl ⟨by rfl, fun w' hw' => by go_simp⟩) hS ?_
  simp only [Act.put, List.setIfInBounds_toArray, List.set_cons_zero, List.set_cons_succ]
  refine take_lawH 13 (some 26) (.agg (ints .i64 g)) rfl rfl (by kernel_rfl) (by kernel_rfl) (by kernel_rfl) (fun _ _ _ h => h) (Or.inl ⟨by rfl, fun w' hw' => by exact exec_loadN 23 (.tmp 25) rfl _ rfl _ _ (ld_geo gl (HL.out.below hw').geo)⟩) hS ?_
  simp only [Act.put, List.setIfInBounds_toArray, List.set_cons_zero, List.set_cons_succ]
  refine wpAnyH_ready (rs := [14]) (by kernel_rfl) (by simp) ?_
  refine AllReadyH.cons rfl (fun K hK => ?_) AllReadyH.nil
  refine ge.step_callW _ (by rfl) (some 27) rfl 37 #[.tmp 26] #[23] rfl (fun q w' => by rfl) #[.agg (ints .i64 g)] (by simp only [List.map_toArray, List.map_cons, List.map_nil]; rfl) (fun v w' => v = (.int .i64 (S : Int)) ∧ Below y1.heap.size y1 w') ?_ ?_
  · exact (SP.out y1).mono fun e w' ⟨h1, h2⟩ => ⟨_, h1, rfl, h2⟩
  rintro _ y2 ⟨rfl, hb⟩
  have hS : Below w.heap.size w y2 := hS.trans (hb.mono hS.size)
  clear hb
  refine hK.out _ _ hS (fun _ => ?_)
  simp only [Act.put, List.setIfInBounds_toArray, List.set_cons_zero, List.set_cons_succ]
  clear hK K
  refine take_lawH 15 (some 28) (.int .i64 ((P * S : Nat) : Int)) rfl rfl (by kernel_rfl) (by kernel_rfl) (by kernel_rfl) (fun _ _ _ h => h) (Or.inl ⟨by rfl, fun w' hw' => by exact exec_mul (.tmp 22) (.tmp 27) rfl (P : Int) (S : Int) _ rfl rfl MQ.out⟩) hS ?_
  simp only [Act.put, List.setIfInBounds_toArray, List.set_cons_zero, List.set_cons_succ]
  refine wpAnyH_ready (rs := [16]) (by kernel_rfl) (by simp) ?_
  refine AllReadyH.cons rfl (fun K hK => ?_) AllReadyH.nil
  refine ge.step_callW _ (by rfl) (some 29) rfl 70 #[.tmp 16, .tmp 17, .tmp 28] #[53, 3, 3] rfl (fun q w' => by rfl) #[.slice (some ⟨d, 0, none⟩) (N * (P * S)) (N * (P * S)), .int .i64 (b : Int), .int .i64 ((P * S : Nat) : Int)] (by simp only [List.map_toArray, List.map_cons, List.map_nil]; rfl) (fun v w' => v = (.slice (some ⟨d, b * (P * S), none⟩) (P * S) (N * (P * S) - b * (P * S))) ∧ Below y2.heap.size y2 w') ?_ ?_
  · exact (SQ.out y2).mono fun e w' ⟨h1, h2⟩ => ⟨_, h1, rfl, h2⟩
  rintro _ y3 ⟨rfl, hb⟩
  have hS : Below w.heap.size w y3 := hS.trans (hb.mono hS.size)
  clear hb
  refine hK.out _ _ hS (fun _ => ?_)
  simp only [Act.put, List.setIfInBounds_toArray, List.set_cons_zero, List.set_cons_succ]
  clear hK K
  refine take_lawH 17 (some 4) ((.slice (some ⟨d, b * (P * S), none⟩) (P * S) (N * (P * S) - b * (P * S)))) rfl rfl (by kernel_rfl) (by kernel_rfl) (by kernel_rfl) (fun _ _ _ h => h) (Or.inl ⟨by rfl, fun w' hw' => by rfl⟩) hS ?_
  simp only [Act.put, List.setIfInBounds_toArray, List.set_cons_zero, List.set_cons_succ]
  refine take_lawH 18 (some 5) (.int .i64 0) rfl rfl (by kernel_rfl) (by kernel_rfl) (by kernel_rfl) (fun _ _ _ h => h) (Or.inl ⟨by rfl, fun w' hw' => by rfl⟩) hS ?_
  simp only [Act.put, List.setIfInBounds_toArray, List.set_cons_zero, List.set_cons_succ]
  refine wpAnyH_done (by kernel_rfl) ?_ _
  have BB : Hid (Below w.heap.size w y3) := hS
  clear hS
  go_wp2
  go_ret2
  exact ⟨rfl, BB.out⟩

/-- has a page been programmed, from this one on -/
def Bhd (l : List Int) (p : Nat) : Prop := ∃ i, p ≤ i ∧ i < l.length ∧ 0 < gb l i
theorem gb_drop (l : List Int) (p i : Nat) : gb (l.drop p) i = gb l (p + i) := by simp [gb, List.getD]
set_option maxHeartbeats 2000000 in
theorem refuses_any (rb ro qb : Nat) (s : Bool) (l : List Int) (p P : Nat) (w : World) (c0 : w.cell? ⟨rb, ro, none⟩ = some (.slice (some ⟨qb, 0, none⟩) P P)) (c2 : w.cell? ⟨rb, ro + 2, none⟩ = some (.bool s)) (hA : Ar w qb 0 .i64 l) (hl : l.length = P) (hp : p < P) (hP : P ≤ 32) (x : Int)
    (h7 : s = true ∨ 2 ≤ gb l p → x = 7) (h6 : s = false → gb l p = 0 → Bhd l p → x = 6) (h0 : s = false → gb l p < 2 → ¬ (gb l p = 0 ∧ Bhd l p) → x = 0) :
    Calls Try.prog 50 #[.pointer (some ⟨rb, ro, none⟩), .int .i64 (p : Int)] w fun e w' => e = .returned (.int .i64 x) ∧ w' = w := by
  cases s with
  | true =>
    have hx := h7 (Or.inl rfl)
    subst hx
    clear h7 h6 h0
    go_enter Try.func50, Try.ntmps50
    go_wp2
    go_ret
    exact ⟨rfl, rfl⟩
  | false =>
    have cp := hA.cell0 p (by omega)
    have i0 : (0 : Int) ≤ (p : Int) := by omega
    have i1 : (p : Int) < (P : Int) := by omega
    have i2 : (p : Int) ≤ (P : Int) := by omega
    have hne : ¬ (P = p) := by omega
    have HA : Hid (Ar w qb 0 .i64 l) := hA
    by_cases h2 : 2 ≤ gb l p
    · have hx := h7 (Or.inr h2)
      subst hx
      clear h7 h6 h0 hA
      generalize gb l p = u at *
      go_enter Try.func50, Try.ntmps50
      go_wp2
      go_ret
      exact ⟨rfl, rfl⟩
    · by_cases hu : gb l p = 0
      · have SM : Hid (∀ w0, w0 = w → Calls Try.prog 71 #[.slice (some ⟨qb, p, none⟩) (P - p) (P - p)] w0 fun e w' => ∃ m, e = .returned (.int .i64 m) ∧ Mx (l.drop p) m ∧ w' = w0) := fun w0 e => by
          subst e
          have hd : Ar w0 qb p .i64 (l.drop p) := by
            have := hA.subG p (l.drop p) (by simp; omega) (fun t _ => gb_drop l p t)
            rwa [Nat.zero_add] at this
          exact max_any qb p (P - p) (P - p) (l.drop p) w0 hd (by simp; omega) (by omega) (Nat.le_refl _) (by omega)
        have H6 : Hid (Bhd l p → x = 6) := fun hb => h6 rfl hu hb
        have H0 : Hid (¬ Bhd l p → x = 0) := fun hb => h0 rfl (by omega) fun q => hb q.2
        rw [hu] at cp
        have HL : Hid (l.length = P) := hl
        clear h7 h6 h0 hA h2 hu hl
        go_enter Try.func50, Try.ntmps50
        go_wp2_with (go_at_call 71; refine (SM.out _ rfl).mono ?_; rintro e w' ⟨m, rfl, hm, hw⟩; obtain rfl := hw.symm; have HM : Hid (Mx (l.drop p) m) := hm; clear hm)
        · rename_i hpos
          have hx := H6.out (by
            obtain ⟨i, hi, e⟩ := HM.out.2
            rw [gb_drop] at e
            rw [List.length_drop] at hi
            exact ⟨p + i, by omega, by omega, by omega⟩)
          subst hx
          go_ret
          exact ⟨rfl, rfl⟩
        · rename_i hpos
          have hx := H0.out (fun ⟨i, h1, h2, h3⟩ => by
            have := HM.out.1 (i - p) (by rw [List.length_drop]; omega)
            rw [gb_drop, show p + (i - p) = i by omega] at this
            omega)
          subst hx
          go_ret
          exact ⟨rfl, rfl⟩
      · have hx := h0 rfl (by omega) (fun q => hu q.1)
        subst hx
        clear h7 h6 h0 hA
        generalize gb l p = u at *
        have hu' : (u == 0) = false := beq_eq_false_iff_ne.2 hu
        go_enter Try.func50, Try.ntmps50
        go_wp2
        go_ret
        exact ⟨rfl, rfl⟩

theorem power_any (h : Lay M w c r d q pv tv g N P S pl X) (b : Bool) :
    Calls Try.prog 28 #[.pointer (some ⟨c, 0, none⟩), .bool b] w fun e w' => (∃ v, e = .returned v) ∧ w' = w.setCell ⟨c, 7, none⟩ (.bool b) := by
  obtain ⟨q1, q2⟩ := h.free 7 (by omega)
  have f7 := h.cells.2.1
  clear h
  go_enter Try.func28, Try.ntmps28
  go_wp2
  exact ⟨rfl, _, results_none rfl _ _ _, ⟨_, rfl⟩, rfl⟩
theorem power_nil (b : Bool) (w : World) : Calls Try.prog 28 #[.pointer none, .bool b] w fun e w' => (∃ v, e = .returned v) ∧ w' = w := by
  go_enter Try.func28, Try.ntmps28
  go_wp2
  exact ⟨rfl, _, results_none rfl _ _ _, ⟨_, rfl⟩, rfl⟩
theorem image_any (h : Lay M w c r d q pv tv g N P S pl X) :
    Calls Try.prog 20 #[.pointer (some ⟨c, 0, none⟩)] w fun e w' => ∃ v, e = .returned v ∧ Bow w.heap.size w' v (xi X) ∧ Below w.heap.size w w' := by
  have f8 := h.cells.2.2.1
  have hb := h.bytes
  obtain ⟨-, -, -, -, h5, -⟩ := h
  have SC : Hid (Calls Try.prog 46 #[.slice (some ⟨d, 0, none⟩) (N * (P * S)) (N * (P * S))] w fun e w' => ∃ v', e = .returned v' ∧ Bow w.heap.size w' v' (xi X) ∧ Below w.heap.size w w') := bclone_any _ (xi X) w (h5.1.bytG h5.2.2 _ _ h5.2.1 (Nat.le_refl _) (by omega)) (by rw [h5.2.1]; omega)
  generalize N * (P * S) = n at *
  clear h5
  go_enter Try.func20, Try.ntmps20
  go_wp2_with (go_at_call 46; refine SC.out.mono ?_; rintro e w1 ⟨v1, rfl, y1, B1⟩; have Y1 : Hid (Bow w.heap.size w1 v1 (xi X)) := y1; clear y1)
  go_ret
  exact ⟨_, rfl, Y1.out, B1⟩
theorem image_nil (w : World) : Calls Try.prog 20 #[.pointer none] w fun e w' => e = .returned (.slice none 0 0) ∧ w' = w := by
  go_enter Try.func20, Try.ntmps20
  go_wp2
  go_ret
  exact ⟨rfl, rfl⟩
theorem zero_geo : (Try.prog.info? 23).map (fun i => (i.zero, i.size)) = some (some (.agg ([.int .i64 0, .int .i64 0, .int .i64 0, .int .i64 0, .int .i64 0, .int .i64 0] : List Value).toArray), 6) := by kernel_rfl
set_option maxHeartbeats 1000000 in
theorem geometry_any (h : Lay M w c r d q pv tv g N P S pl X) :
    Calls Try.prog 13 #[.pointer (some ⟨c, 0, none⟩)] w fun e w' => e = .returned (.agg (ints .i64 g)) ∧ Below w.heap.size w w' := by
  have HL : Hid (Lay M w c r d q pv tv g N P S pl X) := h
  have hl := h.1.1
  clear h
  have t0 : (0 : Nat) = 0 := rfl
  go_enter Try.func13, Try.ntmps13
  go_wp2_with (first
    | (have q2 := t2; refine store_lawC _ (g.map (Value.int .i64)) w.heap.size 0 rfl rfl (by rw [List.length_map, hl]; exact HV.out.2) (by rw [List.length_map, hl]; exact rowy_geo.2) (fun v hv => by obtain ⟨z, -, rfl⟩ := List.mem_map.1 hv; rfl) ?_; intro w2 E2 R2 T2 B2; have HR : Hid (w2.rangeAt w.heap.size 0 (g.map (Value.int .i64))) := R2; have BB : Hid (Below w.heap.size w w2) := BB.out.trans B2; clear R2 T2 E2 B2 t2)
    | (have q1 := t1; refine load_lawS _ (by rfl) _ _ rfl (ld_geo hl (HL.out.below BB.out).geo) ?_; clear t1; have t2 : (2 : Nat) = 2 := rfl)
    | (have q0 := t0; refine new_lawC _ _ zero_geo ?_; intro w1 V1 B1 l1; have HV : Hid (Vr w1 w.heap.size [.int .i64 0, .int .i64 0, .int .i64 0, .int .i64 0, .int .i64 0, .int .i64 0]) := V1; have f0 := (HL.out.below B1).cells.1; have BB : Hid (Below w.heap.size w w1) := B1; clear V1 B1 t0; have t1 : (1 : Nat) = 1 := rfl))
  exact bodyPost_ret (v := .agg (ints .i64 g)) (results_c rfl _ _ w.heap.size (g.map (Value.int .i64)) (by rw [List.length_map, hl]; exact rowy_geo) rfl HR.out) rfl ⟨rfl, BB.out⟩
theorem geometry_nil (w : World) : Calls Try.prog 13 #[.pointer none] w fun e w' => e = .returned (.agg #[.int .i64 0, .int .i64 0, .int .i64 0, .int .i64 0, .int .i64 0, .int .i64 0]) ∧ Below w.heap.size w w' := by
  have t0 : (0 : Nat) = 0 := rfl
  go_enter Try.func13, Try.ntmps13
  go_wp2_with (first
    | (have q2 := t2; refine store_lawC _ [.int .i64 0, .int .i64 0, .int .i64 0, .int .i64 0, .int .i64 0, .int .i64 0] w.heap.size 0 rfl rfl HV.out.2 rowy_geo.2 (fun v hv => by simp at hv; subst hv; rfl) ?_; intro w2 E2 R2 T2 B2; have HR : Hid (w2.rangeAt w.heap.size 0 [.int .i64 0, .int .i64 0, .int .i64 0, .int .i64 0, .int .i64 0, .int .i64 0]) := R2; have BB : Hid (Below w.heap.size w w2) := BB.out.trans B2; clear R2 T2 E2 B2 t2)
    | (have q0 := t0; refine new_lawC _ _ zero_geo ?_; intro w1 V1 B1 l1; have HV : Hid (Vr w1 w.heap.size [.int .i64 0, .int .i64 0, .int .i64 0, .int .i64 0, .int .i64 0, .int .i64 0]) := V1; have BB : Hid (Below w.heap.size w w1) := B1; clear V1 B1 t0; have t2 : (1 : Nat) = 1 := rfl))
  exact bodyPost_ret (v := .agg #[.int .i64 0, .int .i64 0, .int .i64 0, .int .i64 0, .int .i64 0, .int .i64 0]) (results_c rfl _ _ w.heap.size [.int .i64 0, .int .i64 0, .int .i64 0, .int .i64 0, .int .i64 0, .int .i64 0] rowy_geo rfl HR.out) rfl ⟨rfl, BB.out⟩
end
end Go.Proofs.Ytnklbmeadjgehaa.na
