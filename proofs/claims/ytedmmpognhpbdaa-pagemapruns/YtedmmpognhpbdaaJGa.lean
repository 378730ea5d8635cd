/- Rows of places put together, and whether a place is ahead of another one. No claim of its own. -/
import Derived.Test.YtedmmpognhpbdaaJRl
import Derived.Laws.AppendOwnNone
namespace Go.Proofs.Ytedmmpognhpbdaa.pm
open Go.RowKit Go.Proofs.Ytedmmpognhpbdaa.he
set_option maxRecDepth 20000

theorem fl_app (l k : List PL) : fl (l ++ k) = fl l ++ fl k := by simp [fl]
theorem fl_one (l : List PL) : ∀ v ∈ fl l, v.oneCell' = true := fun v hv => by
  simp only [fl, List.mem_flatMap] at hv
  obtain ⟨p, _, hp⟩ := hv
  exact pc_one p v hp
theorem Rl.cells {w : World} {g : Nat} {l : List PL} (h : Rl w g l) (j : Nat) (u : Value) (hu : (fl l)[j]? = some u) : w.cell? ⟨g, j, none⟩ = some u := by
  have hj : j < l.length * 2 := by have := (List.getElem?_eq_some_iff.1 hu).1; rwa [fl_len] at this
  have hi : j / 2 < l.length := by omega
  have h1 := fl_at l (j / 2) (j % 2) _ (List.getElem?_eq_getElem hi) (by omega)
  rw [show j / 2 * 2 + j % 2 = j by omega, hu] at h1
  have h2 := (h (j / 2) _ (List.getElem?_eq_getElem hi)).1 (j % 2) u h1.symm
  rwa [show j / 2 * 2 + j % 2 = j by omega] at h2
/-- a slice that holds places -/
def Sr (w : World) (v : Value) (l : List PL) : Prop := ∃ g q m cap, v = .slice (some ⟨g, q, none⟩) m cap ∧ m = l.length ∧ ∀ j u, (fl l)[j]? = some u → w.cell? ⟨g, q + j, none⟩ = some u
theorem Sr.take {w : World} {g cap : Nat} {l : List PL} (h : Rl w g l) (a : Nat) (ha : a ≤ l.length) : Sr w (.slice (some ⟨g, 0, none⟩) a cap) (l.take a) :=
  ⟨g, 0, a, cap, rfl, by rw [List.length_take]; omega, fun j u hu => by rw [Nat.zero_add]; exact (h.take a).cells j u hu⟩
theorem Sr.drop {w : World} {g cap : Nat} {l : List PL} {v : Value} (h : Rl w g l) (a : Nat) (ha : a ≤ l.length) (hc : l.length ≤ cap) (hv : v = sliced (some ⟨g, 0, none⟩) a l.length cap 2) : Sr w v (l.drop a) := by
  subst hv
  by_cases e : a = l.length
  · subst e
    have e0 : l.drop l.length = [] := List.drop_eq_nil_of_le (Nat.le_refl _)
    rw [e0]
    unfold sliced
    by_cases e1 : cap = l.length
    · rw [if_pos e1]
      exact ⟨g, 0, _, _, rfl, by simp, fun j u hu => by simp [fl] at hu⟩
    · rw [if_neg e1]
      show Sr w (.slice (some (Addr.add ⟨g, 0, none⟩ (l.length * 2))) _ _) _
      rw [Addr.add_mid]
      exact ⟨g, 0 + l.length * 2, _, _, rfl, by simp, fun j u hu => by simp [fl] at hu⟩
  · unfold sliced
    rw [if_neg (by omega)]
    show Sr w (.slice (some (Addr.add ⟨g, 0, none⟩ (a * 2))) _ _) _
    rw [Addr.add_mid]
    refine ⟨g, 0 + a * 2, _, _, rfl, by rw [List.length_drop], fun j u hu => ?_⟩
    rw [Nat.zero_add]
    refine h.cells _ u ?_
    have e2 : fl l = fl (l.take a) ++ fl (l.drop a) := by rw [← fl_app, List.take_append_drop]
    have e3 : (fl (l.take a)).length = a * 2 := by rw [fl_len, List.length_take]; congr 1; omega
    rw [e2, List.getElem?_append_right (by omega), e3, show a * 2 + j - a * 2 = j by omega]
    exact hu
theorem Os.sr {B : Nat} {w : World} {v : Value} {l : List PL} (h : Os B w v l) : Sr w v l := by
  obtain ⟨g, cap, rfl, ho⟩ := h
  exact ⟨g, 0, _, cap, rfl, rfl, fun j u hu => by rw [Nat.zero_add]; exact (ow_row ho).1.cells j u hu⟩
theorem Sr.heap {w w' : World} {v : Value} {l : List PL} (h : Sr w v l) (hb : ∀ k, Blk v k → w'.heap[k]? = w.heap[k]?) : Sr w' v l := by
  obtain ⟨g, q, m, cap, rfl, hm, hc⟩ := h
  refine ⟨g, q, m, cap, rfl, hm, fun j u hu => ?_⟩
  have h1 := hc j u hu
  have h3 := hb g rfl
  rw [← h1]
  simp only [World.cell?, h3]
theorem info_pl : (Try.prog.info? 31).map (fun i => (i.zero, i.size, i.bytes)) = some (some (.agg (pc (0, 0)).toArray), 2, 16) := by kernel_rfl
theorem run_pushs {w : World} {B : Nat} {v vx : Value} {l k : List PL} (hB : B ≤ w.heap.size) (hown : Os B w v l) (hx : Sr w vx k) (hn : l.length + k.length ≤ 300000) (ty : TypeId) : ∃ v' w', (Builtin.append_ #[59, 59] ty #[v, vx]).run Try.prog w = .ok v' w' ∧ Os B w' v' (l ++ k) ∧ w.grownBy w' v.ownBlock := by
  obtain ⟨i0, hi, hz0, hz1, hz2⟩ := info_parts info_pl
  obtain ⟨g, q, m, cap, rfl, hm, hc⟩ := hx
  obtain ⟨G, Cp, rfl, ho⟩ := hown
  obtain ⟨v', w', hr, h2, h3, h4⟩ := run_append_own (P := Try.prog) w B 59 ty 31 i0 _ 2 16 Try.underlying59 hi hz0 hz1 hz2 rfl (by decide) _ l.length (fl l) ho ⟨g, q, none⟩ m cap (fl k) (by rw [fl_len, hm]) (fun j u hu => by rw [Addr.add_mid]; exact hc j u hu) (fl_one k) (by simp only [maxLen]; omega) (by omega) hB
  refine ⟨v', w', hr, ?_, h3⟩
  have h2' : Ow B w' v' (l ++ k) := by
    show w'.ownsRow B 31 2 v' (l ++ k).length (fl (l ++ k))
    rw [fl_app, List.length_append, ← hm]
    exact h2
  have h5 := h2'
  obtain ⟨q1, q2⟩ := h5
  rcases q2 with ⟨e, _⟩ | ⟨g', cap', cur, e, _⟩
  · exact absurd (h4.1 e).1 (by intro h; cases h)
  · exact ⟨g', cap', e, h2'⟩
section
variable {ops : Array Oper} {rest : List Oper} {o : Oper} {a : Act} {Q : Exit → Act → World → Prop} {K : Act → World → Prop} {E : Prop}
/-- 'append(s, x...)' of places, s of the call's own -/
theorem pushs_lawP (w : World) (hg : o.guard = none) (s x : Operand) (hop : o.op = .call { callee := .builtin .append, args := #[s, x], argTypes := #[59, 59] }) (B : Nat) (hB : B ≤ w.heap.size) (v vx : Value) (l k : List PL) (hs : a.eval s = v) (hx : a.eval x = vx) (hown : Os B w v l) (hk : Sr w vx k) (hn : l.length + k.length ≤ 300000)
    (hK : ∀ v' w', Os B w' v' (l ++ k) → w.grownBy w' v.ownBlock → wpList Try.prog ops Q rest (a.put o.dst v') w') : wpList Try.prog ops Q (o :: rest) a w := by
  obtain ⟨v', w', hr, h2, h3⟩ := run_pushs hB hown hk hn o.type
  refine wpList_plain hg fun K hK' => ?_
  unfold Oper.wp execOp
  simp only [hop, resolve, invoke, builtin, Sem.run_bind, Sem.run_pure, Result.andThen_ok, List.map_toArray, List.map_cons, List.map_nil, hs, hx, hr]
  exact hK' _ _ (hK v' w' h2 h3)
theorem step_pushsP (w : World) (hg : o.guard = none) (d : Option Tmp) (hd : o.dst = d) (s x : Operand) (hop : o.op = .call { callee := .builtin .append, args := #[s, x], argTypes := #[59, 59] }) (B : Nat) (hB : B ≤ w.heap.size) (v vx : Value) (l k : List PL) (hs : a.eval s = v) (hx : a.eval x = vx) (hown : Os B w v l) (hk : Sr w vx k) (hn : l.length + k.length ≤ 300000)
    (hK : ∀ v' w', Os B w' v' (l ++ k) → w.grownBy w' v.ownBlock → K (a.put d v') w') : if Region.wanted o (yielded ops a.tmps) = true then Oper.wp Try.prog o a w K Q else E := by
  have hw : Region.wanted o (yielded ops a.tmps) = true := by simp [Region.wanted, hg]
  rw [if_pos hw]
  subst hd
  obtain ⟨v', w', hr, h2, h3⟩ := run_pushs hB hown hk hn o.type
  unfold Oper.wp execOp
  simp only [hop, resolve, invoke, builtin, Sem.run_bind, Sem.run_pure, Result.andThen_ok, List.map_toArray, List.map_cons, List.map_nil, hs, hx, hr]
  exact hK v' w' h2 h3
/-- a guarded call -/
theorem step_callW (w : World) (hw : Region.wanted o (yielded ops a.tmps) = true) (d : Option Tmp) (hd : o.dst = d) (f : FuncId) (args : Array Operand) (ats : Array TypeId) (hop : o.op = .call { callee := .value (.func f), args := args, argTypes := ats })
    (hcf : ∀ (q : Array Value) (w : World), (callFunc f q).run Try.prog w = .ok (.enter f q) w) (vs : Array Value) (hx : args.map a.eval = vs) (R : Value → World → Prop) (hc : Calls Try.prog f vs w fun e w' => ∃ v, e = .returned v ∧ R v w') (hK : ∀ v w', R v w' → K (a.put d v) w') : if Region.wanted o (yielded ops a.tmps) = true then Oper.wp Try.prog o a w K Q else E := by
  rw [if_pos hw]
  subst hd
  subst hx
  unfold Oper.wp
  simp only [execOp, hop]
  go_simp
  refine hc.mono ?_
  rintro e w' ⟨v, rfl, hr⟩
  exact hK v w' hr
/-- '[]api.Place{x}' in a region that draws -/
theorem step_oneP (w : World) (hg : o.guard = none) (d : Option Tmp) (hd : o.dst = d) (x : Operand) (p : PL) (hop : o.op = Op.buildSlice 59 1 #[(0, x)]) (hx : a.eval x = .agg (pc p).toArray)
    (hK : ∀ w', Os w.heap.size w' (.slice (some ⟨w.heap.size, 0, none⟩) 1 1) [p] → Below w.heap.size w w' → K (a.put d (.slice (some ⟨w.heap.size, 0, none⟩) 1 1)) w') : if Region.wanted o (yielded ops a.tmps) = true then Oper.wp Try.prog o a w K Q else E := by
  have hw : Region.wanted o (yielded ops a.tmps) = true := by simp [Region.wanted, hg]
  rw [if_pos hw]
  subst hd
  have hrun : (Instr.buildSlice 59 1 #[(0, .agg (pc p).toArray)]).run Try.prog w = .ok (.slice (some ⟨w.heap.size, 0, none⟩) 1 1) (w.alloc (.cells (pc p).toArray 31)) := by kernel_rfl
  unfold Oper.wp execOp
  simp only [hop, List.map_toArray, List.map_cons, List.map_nil, hx, Sem.run_bind, Sem.run_pure, Result.andThen_ok, hrun]
  have h9 : (w.alloc (.cells (pc p).toArray 31)).ownsRow w.heap.size 31 2 (.slice (some ⟨w.heap.size, 0, none⟩) 1 1) 1 (pc p).toArray.toList := World.ownsRow_lit w (pc p).toArray 1 (Nat.le_refl _) (by simp [maxLen]) rfl
  refine hK _ ⟨w.heap.size, 1, rfl, ?_⟩ ((Below.refl _ _).alloc (Nat.le_refl _) _)
  show World.ownsRow _ w.heap.size 31 2 _ 1 (fl [p])
  rw [show fl [p] = pc p by simp [fl]]
  simpa using h9
end
theorem exec_fromP {ev : Operand → Value} {o : Oper} (s x : Operand) (hop : o.op = Op.slice 59 s (some x) none none) (ao : Option Addr) (n cap l : Nat) (hs : ev s = .slice ao n cap) (hx : ev x = .int .i64 (l : Int)) (hl : l ≤ n) (v : Value) (hv : v = sliced ao l n cap 2) (w : World) : (execOp ev o).run Try.prog w = .ok (.value v) w := by
  subst hv
  have und : Try.prog.underlying 59 = some (.slice (Try.prog.elem 59)) := by kernel_rfl
  have hrun := run_slice_l (P := Try.prog) w 59 ao n cap und .i64 (l : Int) (by omega) (by omega)
  rw [show Try.prog.elem 59 = 31 by kernel_rfl, size_pl] at hrun
  simp [execOp, hop, hs, hx, run_sliceAt_slice w 59 _ _ _ _ und, hrun, Result.andThen]
theorem run_idxP (w : World) (d q n c i : Nat) (hi : i < n) : (Instr.indexAt 59 (.slice (some ⟨d, q, none⟩) n c) (.int .i64 (i : Int))).run Try.prog w = .ok (pq d (q + i * 2)) w := by
  rw [run_indexAt_slice _ _ _ _ _ _ _ Try.underlying59, if_pos (by omega), show Try.prog.elem 59 = 31 by kernel_rfl, size_pl]
  simp only [Result.andThen_ok, Int.toNat_natCast]
  rw [Addr.add_lit]
theorem exec_idxP {ev : Operand → Value} {o : Oper} (x y : Operand) (hop : o.op = Op.indexAddr 59 x y) (d n c i : Nat) (hx : ev x = .slice (some ⟨d, 0, none⟩) n c) (hy : ev y = .int .i64 (i : Int)) (hi : i < n) (w : World) : (execOp ev o).run Try.prog w = .ok (.value (pq d (i * 2))) w := by
  unfold execOp
  simp only [hop, hx, hy, Sem.run_bind, Result.andThen_ok, run_idxP w d 0 n c i hi]
  simp
theorem two0 {w : World} {b : Nat} {p : PL} (h : w.rangeAt b 0 (pc p)) : w.cell? ⟨b, 0, none⟩ = some (.int .i64 p.1) ∧ w.cell? ⟨b, 1, none⟩ = some (.int .i64 p.2) := by
  have h0 := h 0 _ rfl
  have h1 := h 1 _ rfl
  exact ⟨h0, h1⟩
theorem rahead_any (p q : PL) (w : World) : Calls Try.prog 59 #[.agg (pc p).toArray, .agg (pc q).toArray] w fun e w' => e = .returned (.bool (ltp p q)) ∧ Below w.heap.size w w' := by
  by_cases he : p.1 < q.1
  · have e2 : decide (p.1 < q.1) = true := decide_eq_true he
    rw [show ltp p q = true from decide_eq_true (.inl he)]
    have t0 : (0 : Nat) = 0 := rfl
    go_enter Try.func59, Try.ntmps59
    go_wp2_with (first
      | (have qq := t1; refine box_lawC _ (pc q) rfl ?_; intro w2 X2 B2 l2; have nx := two0 (X1.out.below B2 l1).1; have ny := two0 X2.1; have BB : Hid (Below w.heap.size w w2) := BB.out.trans (B2.mono BB.out.size); clear B2 X2 t1)
      | (have qq := t0; refine box_lawC _ (pc p) rfl ?_; intro w1 X1_ B1 l1; have X1 : Hid (Vr w1 w.heap.size (pc p)) := X1_; have BB : Hid (Below w.heap.size w w1) := B1; clear B1 X1_ t0; have t1 : (0 : Nat) = 0 := rfl))
    go_ret
    exact ⟨rfl, BB.out⟩
  · have e2 : decide (p.1 < q.1) = false := decide_eq_false he
    by_cases hq : p.1 = q.1
    · have e1 : (p.1 == q.1) = true := beq_iff_eq.2 hq
      by_cases hr : p.2 < q.2
      · have e3 : decide (p.2 < q.2) = true := decide_eq_true hr
        rw [show ltp p q = true from decide_eq_true (.inr ⟨hq, hr⟩)]
        have t0 : (0 : Nat) = 0 := rfl
        go_enter Try.func59, Try.ntmps59
        go_wp2_with (first
          | (have qq := t1; refine box_lawC _ (pc q) rfl ?_; intro w2 X2 B2 l2; have nx := two0 (X1.out.below B2 l1).1; have ny := two0 X2.1; have BB : Hid (Below w.heap.size w w2) := BB.out.trans (B2.mono BB.out.size); clear B2 X2 t1)
          | (have qq := t0; refine box_lawC _ (pc p) rfl ?_; intro w1 X1_ B1 l1; have X1 : Hid (Vr w1 w.heap.size (pc p)) := X1_; have BB : Hid (Below w.heap.size w w1) := B1; clear B1 X1_ t0; have t1 : (0 : Nat) = 0 := rfl))
        go_ret
        exact ⟨rfl, BB.out⟩
      · have e3 : decide (p.2 < q.2) = false := decide_eq_false hr
        rw [show ltp p q = false from decide_eq_false (fun h => h.elim he (fun h => hr h.2))]
        have t0 : (0 : Nat) = 0 := rfl
        go_enter Try.func59, Try.ntmps59
        go_wp2_with (first
          | (have qq := t1; refine box_lawC _ (pc q) rfl ?_; intro w2 X2 B2 l2; have nx := two0 (X1.out.below B2 l1).1; have ny := two0 X2.1; have BB : Hid (Below w.heap.size w w2) := BB.out.trans (B2.mono BB.out.size); clear B2 X2 t1)
          | (have qq := t0; refine box_lawC _ (pc p) rfl ?_; intro w1 X1_ B1 l1; have X1 : Hid (Vr w1 w.heap.size (pc p)) := X1_; have BB : Hid (Below w.heap.size w w1) := B1; clear B1 X1_ t0; have t1 : (0 : Nat) = 0 := rfl))
        go_ret
        exact ⟨rfl, BB.out⟩
    · have e1 : (p.1 == q.1) = false := beq_eq_false_iff_ne.2 hq
      rw [show ltp p q = false from decide_eq_false (fun h => h.elim he (fun h => hq h.1))]
      have t0 : (0 : Nat) = 0 := rfl
      go_enter Try.func59, Try.ntmps59
      go_wp2_with (first
        | (have qq := t1; refine box_lawC _ (pc q) rfl ?_; intro w2 X2 B2 l2; have nx := two0 (X1.out.below B2 l1).1; have ny := two0 X2.1; have BB : Hid (Below w.heap.size w w2) := BB.out.trans (B2.mono BB.out.size); clear B2 X2 t1)
        | (have qq := t0; refine box_lawC _ (pc p) rfl ?_; intro w1 X1_ B1 l1; have X1 : Hid (Vr w1 w.heap.size (pc p)) := X1_; have BB : Hid (Below w.heap.size w w1) := B1; clear B1 X1_ t0; have t1 : (0 : Nat) = 0 := rfl))
      go_ret
      exact ⟨rfl, BB.out⟩
end Go.Proofs.Ytedmmpognhpbdaa.pm
