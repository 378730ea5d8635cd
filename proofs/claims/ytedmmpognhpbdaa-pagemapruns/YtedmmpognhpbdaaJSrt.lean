/- What pagemap's byPlace answers; the library's sort of places by it. No claim of its own. -/
import Derived.Test.YtedmmpognhpbdaaJLay
namespace Go.Proofs.Ytedmmpognhpbdaa.pm
open Go.RowKit Go.Proofs.Ytedmmpognhpbdaa.he Go.Shelf Go.Lib
set_option maxRecDepth 20000
open Go.Sort (grow alloc_eq_grow grow_grow HoldsK flatK get_flatK putRowK)

/-- draws and new blocks alone -/
def Gr (w w' : World) : Prop := ∃ q os, w' = grow (w.drewN q) os
theorem Gr.refl (w : World) : Gr w w := ⟨0, #[], by simp [World.drewN]⟩
theorem grow_drewN (w : World) (os : Array Obj) (q : Nat) : (grow w os).drewN q = grow (w.drewN q) os := rfl
theorem Gr.drewN {w w' : World} (h : Gr w w') (n : Nat) : Gr w (w'.drewN n) := by
  obtain ⟨q, os, rfl⟩ := h
  exact ⟨q + n, os, by rw [grow_drewN]; simp [World.drewN, Nat.add_assoc]⟩
theorem Gr.alloc {w w' : World} (h : Gr w w') (o : Obj) : Gr w (w'.alloc o) := by
  obtain ⟨q, os, rfl⟩ := h
  exact ⟨q, os ++ #[o], by rw [alloc_eq_grow, grow_grow]⟩
theorem Gr.below {w w' : World} (h : Gr w w') : Below w.heap.size w w' := by
  obtain ⟨q, os, rfl⟩ := h
  refine ⟨rfl, rfl, rfl, by simp [grow, World.drewN], fun k hk => ?_⟩
  simp only [grow, World.drewN]
  rw [Array.getElem?_append_left hk]
def cf (p q : PL) : Int := if compareInt p.1 q.1 = 0 then compareInt p.2 q.2 else compareInt p.1 q.1
theorem cmp_any (x y : Int) (w : World) : Calls Try.prog 53 #[.int .i64 x, .int .i64 y] w fun e w' => e = .returned (.int .i64 (compareInt x y)) ∧ w' = w := by
  have h := AnyG.cmp_Compare_int cmpInt x y w
  exact h
theorem or_any (x y : Int) (b : Nat) (w : World) (h0 : w.cell? ⟨b, 0, none⟩ = some (.int .i64 x)) (h1 : w.cell? ⟨b, 1, none⟩ = some (.int .i64 y)) : Calls Try.prog 52 #[.slice (some ⟨b, 0, none⟩) 2 2] w fun e w' => e = .returned (.int .i64 (if x = 0 then y else x)) ∧ w' = w := by
  by_cases hx : x = 0
  · rw [if_pos hx]
    have e1 : (x != 0) = false := by simp [hx]
    by_cases hy : y = 0
    · have e2 : (y != 0) = false := by simp [hy]
      rw [hy] at h1 ⊢
      rw [hx] at h0
      clear e1 e2 hx hy
      go_enter Try.func52, Try.ntmps52
      go_wp2
      refine wp_loop_rounds 3 ?_
      rw [rounds_succ]
      go_wp2
      rw [rounds_succ]
      go_wp2
      rw [rounds_succ]
      go_wp2
      go_ret
      exact ⟨rfl, rfl⟩
    · have e2 : (y != 0) = true := by simp [hy]
      have e3 : (y == 0) = false := beq_eq_false_iff_ne.2 hy
      rw [hx] at h0
      clear e1 hx
      go_enter Try.func52, Try.ntmps52
      go_wp2
      refine wp_loop_rounds 2 ?_
      rw [rounds_succ]
      go_wp2
      rw [rounds_succ]
      go_wp2
      go_ret
      exact ⟨rfl, rfl⟩
  · rw [if_neg hx]
    have e1 : (x != 0) = true := by simp [hx]
    have e3 : (x == 0) = false := beq_eq_false_iff_ne.2 hx
    go_enter Try.func52, Try.ntmps52
    go_wp2
    refine wp_loop_rounds 1 ?_
    rw [rounds_succ]
    go_wp2
    go_ret
    exact ⟨rfl, rfl⟩
theorem load_int {w : World} {b q : Nat} {x : Int} (h : w.cell? ⟨b, q, none⟩ = some (.int .i64 x)) : (Instr.loadAt 3 (pq b q)).run Try.prog w = .ok (.int .i64 x) w := by
  have : (loadVar 3 ⟨b, q, none⟩).run Try.prog w = .ok (.int .i64 x) w := by
    simp [loadVar, isAgg, run_underlying Try.underlying3, h]
  simp only [Instr.loadAt, Instr.sureAddr, Sem.run_bind, Sem.run_pure, Result.andThen_ok, this]
theorem cell_r {w : World} {b : Nat} {cs : List Value} (h : w.rangeAt b 0 cs) (j : Nat) {v : Value} (hv : cs[j]? = some v) : w.cell? ⟨b, j, none⟩ = some v := by
  have := h j v hv
  rwa [Nat.zero_add] at this
section
variable {ops : Array Oper} {rest : List Oper} {o : Oper} {a : Act} {Q : Exit → Act → World → Prop} {K : Act → World → Prop} {E : Prop}
/-- a struct gets a place; the world is told -/
theorem box_lawX {d : Option Tmp} {x : Operand} {t ty : TypeId} {pos : String} {af : Array Edge} (w : World) (cs : List Value) (hx : a.eval x = .agg cs.toArray)
    (hK : ∀ w', w' = w.alloc (.cells cs.toArray t) → wpList Try.prog ops Q rest (a.put d (.pointer (some ⟨w.heap.size, 0, none⟩))) w') :
    wpList Try.prog ops Q (⟨d, Op.box t x, ty, pos, af, none⟩ :: rest) a w := by
  refine wpList_plain rfl fun K hK' => ?_
  unfold Oper.wp
  simp [execOp, hx, Instr.box, newVar, newRow, Value.cells, Result.andThen]
  exact hK' _ _ (hK _ rfl)
theorem step_two (w : World) (hg : o.guard = none) (d : Option Tmp) (hd : o.dst = d) (x y : Operand) (hop : o.op = Op.buildSlice 56 2 #[(0, x), (1, y)]) (p q : Int) (hx : a.eval x = .int .i64 p) (hy : a.eval y = .int .i64 q)
    (hK : ∀ w', w' = w.alloc (.cells #[.int .i64 p, .int .i64 q] 3) → K (a.put d (.slice (some ⟨w.heap.size, 0, none⟩) 2 2)) w') : if Region.wanted o (yielded ops a.tmps) = true then Oper.wp Try.prog o a w K Q else E := by
  have hw : Region.wanted o (yielded ops a.tmps) = true := by simp [Region.wanted, hg]
  rw [if_pos hw]
  subst hd
  have hrun : (Instr.buildSlice 56 2 #[(0, .int .i64 p), (1, .int .i64 q)]).run Try.prog w = .ok (.slice (some ⟨w.heap.size, 0, none⟩) 2 2) (w.alloc (.cells #[.int .i64 p, .int .i64 q] 3)) := by kernel_rfl
  unfold Oper.wp execOp
  simp only [hop, List.map_toArray, List.map_cons, List.map_nil, hx, hy, Sem.run_bind, Sem.run_pure, Result.andThen_ok, hrun]
  exact hK _ rfl
end
set_option maxHeartbeats 2000000 in
theorem byplace_any (p q : PL) (w : World) : Calls Try.prog 38 #[.agg (pc p).toArray, .agg (pc q).toArray] w fun e w' => e = .returned (.int .i64 (cf p q)) ∧ Gr w w' := by
  have C1 : Hid (∀ W, Calls Try.prog 53 #[.int .i64 p.1, .int .i64 q.1] W fun e w' => ∃ v, e = .returned v ∧ (v = .int .i64 (compareInt p.1 q.1) ∧ w' = W)) := fun W => (cmp_any _ _ W).mono fun e w' ⟨h1, h2⟩ => ⟨_, h1, rfl, h2⟩
  have C2 : Hid (∀ W, Calls Try.prog 53 #[.int .i64 p.2, .int .i64 q.2] W fun e w' => ∃ v, e = .returned v ∧ (v = .int .i64 (compareInt p.2 q.2) ∧ w' = W)) := fun W => (cmp_any _ _ W).mono fun e w' ⟨h1, h2⟩ => ⟨_, h1, rfl, h2⟩
  unfold cf
  generalize compareInt p.1 q.1 = k1 at C1 ⊢
  generalize compareInt p.2 q.2 = k2 at C2 ⊢
  obtain ⟨r, hr⟩ : ∃ r, r = (if k1 = 0 then k2 else k1) := ⟨_, rfl⟩
  rw [← hr]
  have HR : Hid (r = (if k1 = 0 then k2 else k1)) := hr
  clear hr
  have t0 : (0 : Nat) = 0 := rfl
  go_enter Try.func38, Try.ntmps38
  go_wp2_with (first
    | (have qq := t1; refine box_lawX _ (pc q) rfl ?_; intro w2 e2; have GG : Hid (Gr w w2) := (by rw [e2]; exact GG.out.alloc _); have HX : Hid (w2.rangeAt w.heap.size 0 (pc p)) := (by rw [e2]; exact (HX.out.below ((Below.refl _ _).alloc (Nat.le_refl _) _) l1).1); have HY : Hid (w2.rangeAt w1.heap.size 0 (pc q)) := (by rw [e2]; exact (Vr.new w1 31 (pc q)).1); clear e2 t1)
    | (have qq := t0; refine box_lawX _ (pc p) rfl ?_; intro w1 e1; have GG : Hid (Gr w w1) := (by rw [e1]; exact (Gr.refl w).alloc _); have HX : Hid (Vr w1 w.heap.size (pc p)) := (by rw [e1]; exact Vr.new w 31 (pc p)); have l1 : w.heap.size < w1.heap.size := (by rw [e1]; simp); clear e1 t0; have t1 : (0 : Nat) = 0 := rfl))
  have HX : Hid (w2.drew.rangeAt w.heap.size 0 (pc p)) := HX.out
  have HY : Hid (w2.drew.rangeAt w1.heap.size 0 (pc q)) := HY.out
  have GG : Hid (Gr w w2.drew) := GG.out.drewN 1
  refine wp_region_held_drew (S := fun w' => w'.rangeAt w.heap.size 0 (pc p) ∧ w'.rangeAt w1.heap.size 0 (pc q)) (by kernel_rfl) ⟨HX.out, HY.out⟩ (fun hS => ?_)
  obtain ⟨x1, hx0⟩ : ∃ x, x = w2.drew := ⟨_, rfl⟩
  rw [← hx0] at hS HX HY GG ⊢
  clear hx0
  refine take_lawH 0 (some 5) (.pointer (some ⟨w.heap.size, 0, none⟩)) rfl rfl (by kernel_rfl) (by kernel_rfl) (by kernel_rfl) (fun _ _ _ h => h) (Or.inl ⟨by rfl, fun w' hw' => by go_simp⟩) hS ?_
  simp only [Act.put, List.setIfInBounds_toArray, List.set_cons_zero, List.set_cons_succ]
  refine take_lawH 1 (some 6) (.int .i64 p.1) rfl rfl (by kernel_rfl) (by kernel_rfl) (by kernel_rfl) (fun _ _ _ h => h) (Or.inl ⟨by rfl, fun w' hw' => by exact exec_loadN 3 (.tmp 5) rfl _ rfl _ _ (load_int (cell_r hw'.1 0 rfl))⟩) hS ?_
  simp only [Act.put, List.setIfInBounds_toArray, List.set_cons_zero, List.set_cons_succ]
  refine take_lawH 2 (some 7) (.pointer (some ⟨w1.heap.size, 0, none⟩)) rfl rfl (by kernel_rfl) (by kernel_rfl) (by kernel_rfl) (fun _ _ _ h => h) (Or.inl ⟨by rfl, fun w' hw' => by go_simp⟩) hS ?_
  simp only [Act.put, List.setIfInBounds_toArray, List.set_cons_zero, List.set_cons_succ]
  refine take_lawH 3 (some 8) (.int .i64 q.1) rfl rfl (by kernel_rfl) (by kernel_rfl) (by kernel_rfl) (fun _ _ _ h => h) (Or.inl ⟨by rfl, fun w' hw' => by exact exec_loadN 3 (.tmp 7) rfl _ rfl _ _ (load_int (cell_r hw'.2 0 rfl))⟩) hS ?_
  simp only [Act.put, List.setIfInBounds_toArray, List.set_cons_zero, List.set_cons_succ]
  refine take_lawH 5 (some 10) (.pointer (some ⟨w.heap.size, 1, none⟩)) rfl rfl (by kernel_rfl) (by kernel_rfl) (by kernel_rfl) (fun _ _ _ h => h) (Or.inl ⟨by rfl, fun w' hw' => by go_simp⟩) hS ?_
  simp only [Act.put, List.setIfInBounds_toArray, List.set_cons_zero, List.set_cons_succ]
  refine take_lawH 6 (some 11) (.int .i64 p.2) rfl rfl (by kernel_rfl) (by kernel_rfl) (by kernel_rfl) (fun _ _ _ h => h) (Or.inl ⟨by rfl, fun w' hw' => by exact exec_loadN 3 (.tmp 10) rfl _ rfl _ _ (load_int (cell_r hw'.1 1 rfl))⟩) hS ?_
  simp only [Act.put, List.setIfInBounds_toArray, List.set_cons_zero, List.set_cons_succ]
  refine take_lawH 7 (some 12) (.pointer (some ⟨w1.heap.size, 1, none⟩)) rfl rfl (by kernel_rfl) (by kernel_rfl) (by kernel_rfl) (fun _ _ _ h => h) (Or.inl ⟨by rfl, fun w' hw' => by go_simp⟩) hS ?_
  simp only [Act.put, List.setIfInBounds_toArray, List.set_cons_zero, List.set_cons_succ]
  refine take_lawH 8 (some 13) (.int .i64 q.2) rfl rfl (by kernel_rfl) (by kernel_rfl) (by kernel_rfl) (fun _ _ _ h => h) (Or.inl ⟨by rfl, fun w' hw' => by exact exec_loadN 3 (.tmp 12) rfl _ rfl _ _ (load_int (cell_r hw'.2 1 rfl))⟩) hS ?_
  simp only [Act.put, List.setIfInBounds_toArray, List.set_cons_zero, List.set_cons_succ]
  refine wpAnyH_ready (rs := [4]) (by kernel_rfl) (by simp) ?_
  refine AllReadyH.cons rfl (fun K hK => ?_) AllReadyH.nil
  refine step_callG x1 rfl (some 9) rfl 53 #[.tmp 6, .tmp 8] _ rfl (fun _ _ => rfl) #[.int .i64 p.1, .int .i64 q.1] (by simp only [List.map_toArray, List.map_cons, List.map_nil]; rfl) _ (C1.out x1) ?_
  rintro v9 w9 ⟨rfl, hw9⟩
  obtain rfl := hw9.symm
  refine hK.out _ _ hS (fun _ => ?_)
  simp only [Act.put, List.setIfInBounds_toArray, List.set_cons_zero, List.set_cons_succ]
  clear hK K
  refine wpAnyH_ready (rs := [9]) (by kernel_rfl) (by simp) ?_
  refine AllReadyH.cons rfl (fun K hK => ?_) AllReadyH.nil
  refine step_callG x1 rfl (some 14) rfl 53 #[.tmp 11, .tmp 13] _ rfl (fun _ _ => rfl) #[.int .i64 p.2, .int .i64 q.2] (by simp only [List.map_toArray, List.map_cons, List.map_nil]; rfl) _ (C2.out x1) ?_
  rintro v9 w9 ⟨rfl, hw9⟩
  obtain rfl := hw9.symm
  refine hK.out _ _ hS (fun _ => ?_)
  simp only [Act.put, List.setIfInBounds_toArray, List.set_cons_zero, List.set_cons_succ]
  clear hK K
  refine wpAnyH_ready (rs := [10]) (by kernel_rfl) (by simp) ?_
  refine AllReadyH.cons rfl (fun K hK => ?_) AllReadyH.nil
  refine step_two x1 rfl (some 15) rfl (.tmp 9) (.tmp 14) rfl k1 k2 rfl rfl ?_
  intro x2 e9
  have LT : Below x1.heap.size x1 x2 := by rw [e9]; exact (Below.refl _ _).alloc (Nat.le_refl _) _
  have z0 : x2.cell? ⟨x1.heap.size, 0, none⟩ = some (.int .i64 k1) := by rw [e9]; exact (Vr.new x1 3 [.int .i64 k1, .int .i64 k2]).cell 0 _ rfl
  have z1 : x2.cell? ⟨x1.heap.size, 1, none⟩ = some (.int .i64 k2) := by rw [e9]; exact (Vr.new x1 3 [.int .i64 k1, .int .i64 k2]).cell 1 _ rfl
  have GG : Hid (Gr w x2) := by rw [e9]; exact GG.out.alloc _
  have HX : Hid (x2.rangeAt w.heap.size 0 (pc p)) := range_heap HX.out (LT.block _ (range_lt HX.out (Nat.succ_pos _)))
  have HY : Hid (x2.rangeAt w1.heap.size 0 (pc q)) := range_heap HY.out (LT.block _ (range_lt HY.out (Nat.succ_pos _)))
  have hS : x2.rangeAt w.heap.size 0 (pc p) ∧ x2.rangeAt w1.heap.size 0 (pc q) := ⟨HX.out, HY.out⟩
  have CO : Hid (Calls Try.prog 52 #[.slice (some ⟨x1.heap.size, 0, none⟩) 2 2] x2 fun e w' => ∃ v, e = .returned v ∧ (v = .int .i64 r ∧ w' = x2)) := (or_any k1 k2 _ x2 z0 z1).mono fun e w' ⟨h1, h2⟩ => ⟨_, h1, by rw [HR.out], h2⟩
  clear z0 z1 e9 LT
  refine hK.out _ _ hS (fun _ => ?_)
  simp only [Act.put, List.setIfInBounds_toArray, List.set_cons_zero, List.set_cons_succ]
  clear hK K
  refine wpAnyH_ready (rs := [11]) (by kernel_rfl) (by simp) ?_
  refine AllReadyH.cons rfl (fun K hK => ?_) AllReadyH.nil
  refine step_callG x2 rfl (some 16) rfl 52 #[.tmp 15] _ rfl (fun _ _ => rfl) #[.slice (some ⟨x1.heap.size, 0, none⟩) 2 2] (by simp only [List.map_toArray, List.map_cons, List.map_nil]; rfl) _ CO.out ?_
  rintro v9 w9 ⟨rfl, hw9⟩
  obtain rfl := hw9.symm
  refine hK.out _ _ hS (fun _ => ?_)
  simp only [Act.put, List.setIfInBounds_toArray, List.set_cons_zero, List.set_cons_succ]
  clear hK K
  refine take_lawH 12 (some 4) (.int .i64 r) rfl rfl (by kernel_rfl) (by kernel_rfl) (by kernel_rfl) (fun _ _ _ h => h) (Or.inl ⟨by rfl, fun w' hw' => by rfl⟩) hS ?_
  simp only [Act.put, List.setIfInBounds_toArray, List.set_cons_zero, List.set_cons_succ]
  refine wpAnyH_done (by kernel_rfl) ?_ _
  go_wp2
  go_ret
  exact ⟨rfl, GG.out⟩
/-- is a place ahead of another one? -/
def ltp (p q : PL) : Bool := decide (p.1 < q.1 ∨ (p.1 = q.1 ∧ p.2 < q.2))
theorem lt_cf (p q : PL) : ltOf cf p q = ltp p q := by
  unfold ltOf cf ltp compareInt
  by_cases h1 : p.1 < q.1
  · simp [h1]
  · by_cases h2 : q.1 < p.1
    · simp [h1, h2, show ¬ p.1 = q.1 by omega]
    · have e : p.1 = q.1 := by omega
      by_cases h3 : p.2 < q.2
      · simp [e, h3]
      · by_cases h4 : q.2 < p.2 <;> simp [e, h3, h4]
theorem swo : Go.Sort.SWO (ltOf cf) where
  irrefl x := by rw [lt_cf]; simp [ltp]
  trans x y z h1 h2 := by rw [lt_cf] at *; simp [ltp] at *; omega
  ntrans x y z h1 h2 := by rw [lt_cf] at *; simp [ltp] at *; omega
theorem holds_of {w : World} {g : Nat} {L : List PL} (h : Rl w g L) : HoldsK pc 2 w g 0 L.toArray := by
  intro t ht
  have hs : (flatK pc 2 L.toArray).size = L.length * 2 := by simp [flatK]
  rw [hs] at ht
  rw [get_flatK pc 2 L.toArray t (by simpa using ht)]
  have hd : t / 2 < L.length := by omega
  have hA := h (t / 2) _ (List.getElem?_eq_getElem hd)
  have e : L.toArray[t / 2]! = L[t / 2] := by simp [hd]
  have hm : t % 2 < (pc L[t / 2]).length := by show t % 2 < 2; omega
  have ea : 0 + t = t / 2 * 2 + t % 2 := by omega
  rw [e, ea]
  refine ⟨?_, hA.free (t % 2) hm⟩
  rw [hA.cell (t % 2) _ (List.getElem?_eq_getElem hm)]
  exact congrArg some (getElem!_pos (pc L[t / 2]) (t % 2) hm).symm
theorem of_holds {w : World} {g : Nat} {d : Array PL} (h : HoldsK pc 2 w g 0 d) : Rl w g d.toList := by
  intro i x hx
  have hi : i < d.size := by have := (List.getElem?_eq_some_iff.1 hx).1; simpa using this
  have hc : ∀ j, j < 2 → ∀ v, (pc x)[j]? = some v → w.cell? ⟨g, i * 2 + j, none⟩ = some v ∧ w.frozen? ⟨g, i * 2 + j, none⟩ = false := fun j hj v hv => by
    have hs : (flatK pc 2 d).size = d.size * 2 := by simp [flatK]
    have z := h (i * 2 + j) (by rw [hs]; omega)
    rw [get_flatK pc 2 d (i * 2 + j) (by omega), show (i * 2 + j) / 2 = i by omega, show (i * 2 + j) % 2 = j by omega, Nat.zero_add] at z
    have e : d[i]! = x := by
      rw [getElem!_pos d i hi]
      have := (List.getElem?_eq_some_iff.1 hx).2
      simpa using this
    rw [e] at z
    refine ⟨?_, z.2⟩
    rw [z.1, getElem!_pos (pc x) j (by show j < 2; exact hj)]
    rw [List.getElem?_eq_getElem (by show j < 2; exact hj)] at hv
    simpa using hv
  refine ⟨fun j v hv => (hc j (List.getElem?_eq_some_iff.1 hv).1 v hv).1, fun j hj => ?_⟩
  have := hc j hj _ (List.getElem?_eq_getElem hj)
  exact ⟨by rw [this.1]; rfl, this.2⟩
theorem ch_sort (w : World) (g n : Nat) (d : Array PL) (os : Array Obj) : Ch (fun k => k = g) w (sortWorldK pc 2 w g 0 n d os) := by
  refine ⟨rfl, rfl, rfl, by simp [sortWorldK, grow, putRowK, Go.Sort.putRow, Go.Sort.mapBlock, Go.Sort.ahead], fun k hk hp => ?_⟩
  simp only [sortWorldK, grow, putRowK, Go.Sort.putRow, Go.Sort.mapBlock, Go.Sort.ahead]
  rw [Array.getElem?_append_left (by simpa using hk)]
  rw [Array.getElem?_modify, if_neg (fun e => hp e.symm)]
theorem sort_any (g cap : Nat) (L : List PL) (w : World) (hR : Rl w g L) (hg : g < w.heap.size) (hn : L.length < 4611686018427387904) : Calls Try.prog 57 #[.slice (some ⟨g, 0, none⟩) L.length cap, .func (.func 38) #[] #[]] w fun e w' => e = .returned (.tuple #[]) ∧ ∃ L' : List PL, L'.Perm L ∧ L'.Pairwise (fun a b => ltp b a = false) ∧ Rl w' g L' ∧ Ch (fun k => k = g) w w' := by
  have eg : ∀ args w, (callFunc 38 args).run Try.prog w = .ok (.enter 38 args) w := fun _ _ => rfl
  have hcmp : CmpLays Try.prog 38 #[] pc 2 cf g 0 L.toArray.size w := fun m os dk hs x y => (byplace_any x y _).mono fun e w' ⟨h1, h2⟩ => ⟨h1, h2⟩
  have hc := AnyQ.slices_SortFunc sortPl 2 Try.isAgg31 Try.sizeOf31 pc pc_len pc_one cf swo 38 #[] g 0 cap L.toArray w eg hcmp (holds_of hR) hg (by simpa using hn)
  have e : L.toArray.size = L.length := by simp
  rw [e] at hc
  change Calls Try.prog 57 #[.slice (some ⟨g, 0, none⟩) L.length cap, .func (.func 38) #[] #[]] w _ at hc
  refine hc.mono ?_
  rintro e w' ⟨rfl, d', n, os, ⟨hs, _, hp⟩, hsrt, rfl⟩
  refine ⟨rfl, d'.toList, ?_, ?_, of_holds (SWK.holds (dk := d') ⟨n, os, rfl⟩ hg (holds_of hR) hs), ch_sort w g n d' os⟩
  · have e1 : d'.extract 0 L.length = d' := by
      have : d'.size = L.length := by simpa using hs
      rw [← this]; simp
    simpa [e1] using hp
  · rw [List.pairwise_iff_getElem]
    intro i j hi hj hij
    have z := hsrt i j (Nat.zero_le _) hij (by simpa [hs] using hj)
    rw [lt_cf, getElem!_pos d' j (by simpa using hj), getElem!_pos d' i (by simpa using hi)] at z
    simpa using z
end Go.Proofs.Ytedmmpognhpbdaa.pm
