/- Rows of rows of slices ([][][]byte): how one is made and grown. No claim of its own. -/
import Derived.Test.YtahfcpdekjdceaaDoorPackL
namespace Go.Proofs.YtahfcpdekjdceaaDoor.rr
open Go.RowKit Go.Proofs.YtahfcpdekjdceaaDoor.ck
set_option maxRecDepth 20000

theorem info_row : (Tryd.prog.info? 26).map (fun i => (i.zero, i.size, i.bytes)) = some (some (.slice none 0 0), 1, 24) := by kernel_rfl
/-- v owns the values vs, in a block from B on -/
def OwnR (B : Nat) (w : World) (v : Value) (vs : List Value) : Prop := w.ownsRow B 26 1 v vs.length vs
theorem OwnR.empty (w : World) {B : Nat} (hB : B ≤ w.heap.size) : OwnR B (w.alloc (.cells #[] 26)) (.slice (some ⟨w.heap.size, 0, none⟩) 0 0) [] :=
  World.ownsRow_made w #[] 0 hB (by simp [maxLen]) (by simp)
theorem OwnR.one (w : World) {B : Nat} (hB : B ≤ w.heap.size) (x : Value) : OwnR B (w.alloc (.cells #[x] 26)) (.slice (some ⟨w.heap.size, 0, none⟩) 1 1) [x] :=
  World.ownsRow_lit w #[x] 1 hB (by simp [maxLen]) (by simp)
theorem ownr_nil (B : Nat) (w : World) : OwnR B w (.slice none 0 0) [] := ⟨by simp, .inl ⟨rfl, rfl⟩⟩
theorem OwnR.vals {B : Nat} {w : World} {v : Value} {vs : List Value} (h : OwnR B w v vs) : Vals w v vs := by
  rcases h.2 with ⟨rfl, hn⟩ | ⟨g, cap, cur, rfl, hg, hb, hc, hm, hs, ht⟩
  · have : vs = [] := List.eq_nil_of_length_eq_zero (by omega)
    subst this
    exact Vals.nil w
  · refine ⟨some ⟨g, 0, none⟩, cap, rfl, hc, by simpa [maxLen] using hm, (by intro h; cases h), fun hp => ⟨g, 0, rfl, fun t ht' => ?_⟩⟩
    have := h.cells (g := g) rfl t (vs.getD t undef) (by simp [List.getD, ht'])
    rw [Addr.add_lit] at this
    simpa using this
theorem OwnR.below {B : Nat} {w w' : World} {v : Value} {vs : List Value} (h : OwnR B w v vs) (hb : Below w.heap.size w w') : OwnR B w' v vs :=
  World.ownsRow.kept (row := none) h ⟨hb.os, hb.tape, hb.output, hb.size, fun j hj _ => hb.block j hj⟩ (by cases hv : v.ownBlock <;> simp)
theorem OwnR.less {w : World} {B B' : Nat} {v : Value} {vs : List Value} (h : OwnR B w v vs) (hB : B' ≤ B) : OwnR B' w v vs := by
  obtain ⟨a1, a2⟩ := h
  refine ⟨a1, ?_⟩
  rcases a2 with e1 | ⟨g', c', u', e1, e2, e3⟩
  · exact .inl e1
  · exact .inr ⟨g', c', u', e1, by omega, e3⟩

section
variable {ops : Array Oper} {rest : List Oper} {o : Oper} {a : Act} {Q : Exit → Act → World → Prop} {K : Act → World → Prop} {E : Prop}
/-- '[][]byte{}', in a region that draws its order -/
theorem step_nilR (w : World) (hw : Region.wanted o (yielded ops a.tmps) = true) (d : Option Tmp) (hd : o.dst = d) (hop : o.op = Op.buildSlice 42 0 #[])
    (hK : ∀ w', OwnR w.heap.size w' (.slice (some ⟨w.heap.size, 0, none⟩) 0 0) [] → Below w.heap.size w w' → K (a.put d (.slice (some ⟨w.heap.size, 0, none⟩) 0 0)) w') : if Region.wanted o (yielded ops a.tmps) = true then Oper.wp Tryd.prog o a w K Q else E := by
  rw [if_pos hw]
  subst hd
  have hrun : (Instr.buildSlice 42 0 #[]).run Tryd.prog w = .ok (.slice (some ⟨w.heap.size, 0, none⟩) 0 0) (w.alloc (.cells #[] 26)) := by kernel_rfl
  unfold Oper.wp execOp
  simp only [hop, List.map_toArray, List.map_nil, Sem.run_bind, Sem.run_pure, Result.andThen_ok, hrun]
  exact hK _ (OwnR.empty w (Nat.le_refl _)) ((Below.refl _ _).alloc (Nat.le_refl _) _)
/-- '[][]byte{x}' -/
theorem step_oneR (w : World) (hw : Region.wanted o (yielded ops a.tmps) = true) (d : Option Tmp) (hd : o.dst = d) (x : Operand) (hop : o.op = Op.buildSlice 42 1 #[(0, x)]) (v : Value) (hv : Sle v) (hx : a.eval x = v)
    (hK : ∀ w', OwnR w.heap.size w' (.slice (some ⟨w.heap.size, 0, none⟩) 1 1) [v] → Below w.heap.size w w' → K (a.put d (.slice (some ⟨w.heap.size, 0, none⟩) 1 1)) w') : if Region.wanted o (yielded ops a.tmps) = true then Oper.wp Tryd.prog o a w K Q else E := by
  rw [if_pos hw]
  subst hd
  obtain ⟨ao, n, cap, rfl⟩ := hv
  have hrun : (Instr.buildSlice 42 1 #[(0, .slice ao n cap)]).run Tryd.prog w = .ok (.slice (some ⟨w.heap.size, 0, none⟩) 1 1) (w.alloc (.cells #[.slice ao n cap] 26)) := by kernel_rfl
  unfold Oper.wp execOp
  simp only [hop, List.map_toArray, List.map_cons, List.map_nil, hx, Sem.run_bind, Sem.run_pure, Result.andThen_ok, hrun]
  exact hK _ (OwnR.one w (Nat.le_refl _) _) ((Below.refl _ _).alloc (Nat.le_refl _) _)
/-- 'append(out, s...)', out of the call's own -/
theorem step_pushsR (w : World) (hw : Region.wanted o (yielded ops a.tmps) = true) (d : Option Tmp) (hd : o.dst = d) (s x : Operand) (hop : o.op = .call { callee := .builtin .append, args := #[s, x], argTypes := #[42, 42] })
    (B : Nat) (hB : B ≤ w.heap.size) (v vy : Value) (vs us : List Value) (hs : a.eval s = v) (hx : a.eval x = vy) (hown : OwnR B w v vs) (hy : Vals w vy us) (hu : ∀ u ∈ us, Sle u) (hn : vs.length ≤ 1000000) (hm : us.length ≤ 1000000)
    (hK : ∀ v' w', OwnR B w' v' (vs ++ us) → Below B w w' → w.grownBy w' v.ownBlock → K (a.put d v') w') : if Region.wanted o (yielded ops a.tmps) = true then Oper.wp Tryd.prog o a w K Q else E := by
  rw [if_pos hw]
  subst hd
  obtain ⟨i0, hi, hz0, hz1, hz2⟩ := info_parts info_row
  obtain ⟨ao, cap, rfl, h1, h2, h4, h5⟩ := hy
  cases ao with
  | none =>
    have hc := h4 rfl
    subst hc
    have : us = [] := List.eq_nil_of_length_eq_zero (by omega)
    subst this
    have hrun := run_append_owned_none (P := Tryd.prog) (w := w) B 42 o.type 26 i0 1 Tryd.underlying42 hi v vs.length _ hown
    have hx' : a.eval x = .slice none 0 0 := hx
    unfold Oper.wp
    simp [execOp, hop, resolve, invoke, builtin, hs, hx', hrun, Result.andThen]
    refine hK v w ?_ (Below.refl _ _) ?_
    · rwa [List.append_nil]
    · exact ⟨rfl, rfl, rfl, Nat.le_refl _, fun _ _ _ => rfl⟩
  | some ad =>
    refine wp_append_own _ s x 42 hop B 26 i0 (.slice none 0 0) 1 24 Tryd.underlying42 hi hz0 hz1 hz2 rfl (by decide) v vs.length _ hs hown ad us.length cap us hx (by simp) ?_ ?_ (by simp only [maxLen]; omega) (by omega) hB fun v' w' h1 h2 _ => ?_
    · intro j u hj
      have hjl : j < us.length := (List.getElem?_eq_some_iff.1 hj).1
      obtain ⟨b, off, e, hc⟩ := h5 (by omega)
      cases e
      rw [Addr.add_mid, hc j hjl, ← hj]
      simp [List.getD, hjl]
    · intro u hu'
      obtain ⟨ao, n, c, rfl⟩ := hu u hu'
      rfl
    · refine hK v' w' ?_ ?_ h2
      · show w'.ownsRow B 26 1 v' (vs ++ us).length (vs ++ us)
        simpa using h1
      · exact (Below.refl B w).grown h2 hB fun k hk => (World.ownsRow.lt hown k hk).1
theorem nil_lawR (w : World) (hg : o.guard = none) (hop : o.op = Op.buildSlice 42 0 #[])
    (hK : ∀ w', OwnR w.heap.size w' (.slice (some ⟨w.heap.size, 0, none⟩) 0 0) [] → Below w.heap.size w w' → wpList Tryd.prog ops Q rest (a.put o.dst (.slice (some ⟨w.heap.size, 0, none⟩) 0 0)) w') : wpList Tryd.prog ops Q (o :: rest) a w := by
  refine wpList_step fun K hK' => ?_
  exact step_nilR w (by simp [Region.wanted, hg]) o.dst rfl hop fun w' h1 h2 => hK' _ _ (hK w' h1 h2)
theorem one_lawR (w : World) (hg : o.guard = none) (x : Operand) (hop : o.op = Op.buildSlice 42 1 #[(0, x)]) (v : Value) (hv : Sle v) (hx : a.eval x = v)
    (hK : ∀ w', OwnR w.heap.size w' (.slice (some ⟨w.heap.size, 0, none⟩) 1 1) [v] → Below w.heap.size w w' → wpList Tryd.prog ops Q rest (a.put o.dst (.slice (some ⟨w.heap.size, 0, none⟩) 1 1)) w') : wpList Tryd.prog ops Q (o :: rest) a w := by
  refine wpList_step fun K hK' => ?_
  exact step_oneR w (by simp [Region.wanted, hg]) o.dst rfl x hop v hv hx fun w' h1 h2 => hK' _ _ (hK w' h1 h2)
theorem pushs_lawR (w : World) (hg : o.guard = none) (s x : Operand) (hop : o.op = .call { callee := .builtin .append, args := #[s, x], argTypes := #[42, 42] })
    (B : Nat) (hB : B ≤ w.heap.size) (v vy : Value) (vs us : List Value) (hs : a.eval s = v) (hx : a.eval x = vy) (hown : OwnR B w v vs) (hy : Vals w vy us) (hu : ∀ u ∈ us, Sle u) (hn : vs.length ≤ 1000000) (hm : us.length ≤ 1000000)
    (hK : ∀ v' w', OwnR B w' v' (vs ++ us) → Below B w w' → wpList Tryd.prog ops Q rest (a.put o.dst v') w') : wpList Tryd.prog ops Q (o :: rest) a w := by
  refine wpList_step fun K hK' => ?_
  exact step_pushsR w (by simp [Region.wanted, hg]) o.dst rfl s x hop B hB v vy vs us hs hx hown hy hu hn hm fun v' w' h1 h2 _ => hK' _ _ (hK v' w' h1 h2)
end
/-- an own row of blocks -/
theorem bks_own {B : Nat} {w : World} {v : Value} {vs : List Value} {al : List (List (List Int))} (h : OwnR B w v vs) (hl : vs.length = al.length) (ha : ∀ t, t < al.length → Pgs w (vs.getD t undef) (al.getD t [])) : Bks w v al := ⟨vs, h.vals, hl, ha⟩
end Go.Proofs.YtahfcpdekjdceaaDoor.rr
