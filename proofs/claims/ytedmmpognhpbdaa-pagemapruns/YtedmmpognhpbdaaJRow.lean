/- Rows of places: how they lie, are made, grown, read, written. No claim of its own. -/
import Derived.Test.YtedmmpognhpbdaaJLea
import Derived.Test.YtedmmpognhpbdaaUOwn
namespace Go.Proofs.Ytedmmpognhpbdaa.pm
open Go.RowKit Go.Proofs.Ytedmmpognhpbdaa.he
set_option maxRecDepth 20000

abbrev PL := Int × Int
/-- places' cells, one behind the other -/
def fl (l : List PL) : List Value := l.flatMap pc
theorem fl_len (l : List PL) : (fl l).length = l.length * 2 := by
  induction l with
  | nil => rfl
  | cons x r ih => simp only [fl, List.flatMap_cons, List.length_append, List.length_cons] at ih ⊢; rw [ih]; show 2 + _ = _; omega
theorem fl_snoc (l : List PL) (x : PL) : fl (l ++ [x]) = fl l ++ pc x := by simp [fl]
theorem fl_at : ∀ (l : List PL) (i j : Nat) (x : PL), l[i]? = some x → j < 2 → (fl l)[i * 2 + j]? = (pc x)[j]?
  | [], i, j, x, h, _ => by simp at h
  | y :: r, 0, j, x, h, hj => by
    simp at h
    subst h
    simp only [fl, List.flatMap_cons]
    rw [List.getElem?_append_left (by show 0 * 2 + j < 2; omega), Nat.zero_mul, Nat.zero_add]
  | y :: r, i + 1, j, x, h, hj => by
    simp at h
    have := fl_at r i j x h hj
    simp only [fl, List.flatMap_cons]
    rw [List.getElem?_append_right (by show 2 ≤ _; omega), ← this]
    congr 1
    show (i + 1) * 2 + j - 2 = _
    omega
/-- a row of the call's own -/
def Ow (B : Nat) (w : World) (v : Value) (l : List PL) : Prop := w.ownsRow B 31 2 v l.length (fl l)
/-- places in block g from its first cell on -/
def Rl (w : World) (g : Nat) (l : List PL) : Prop := ∀ i x, l[i]? = some x → At w g (i * 2) (pc x)
theorem Rl.heap {w w' : World} {g : Nat} {l : List PL} (h : Rl w g l) (e : w'.heap[g]? = w.heap[g]?) : Rl w' g l := fun i x hx => (h i x hx).heap e
theorem Rl.lt {w : World} {g : Nat} {l : List PL} (h : Rl w g l) (hl : 0 < l.length) : g < w.heap.size := (h 0 _ (List.getElem?_eq_getElem hl)).lt (Nat.succ_pos _)
theorem Rl.below {w w' : World} {g : Nat} {l : List PL} (h : Rl w g l) (hb : Below w.heap.size w w') : Rl w' g l := fun i x hx => (h i x hx).heap (hb.block g ((h i x hx).lt (Nat.succ_pos _)))
theorem Rl.nil (w : World) (g : Nat) : Rl w g [] := fun i x hx => by simp at hx
theorem Rl.take {w : World} {g : Nat} {l : List PL} (h : Rl w g l) (n : Nat) : Rl w g (l.take n) := fun i x hx => h i x (by
  rw [List.getElem?_take] at hx
  split at hx
  · exact hx
  · cases hx)
theorem pc_len (x : PL) : (pc x).length = 2 := rfl
theorem Rl.set {w w' : World} {g : Nat} {l : List PL} (h : Rl w g l) (k : Nat) (x : PL) (hx : At w' g (k * 2) (pc x)) (hw : Wrt 2 g (k * 2) w w') : Rl w' g (l.set k x) := by
  intro i y hy
  rw [List.getElem?_set] at hy
  by_cases e : k = i
  · subst e
    rw [if_pos rfl] at hy
    split at hy
    · cases hy; exact hx
    · cases hy
  · rw [if_neg e] at hy
    have hi := h i y hy
    have ap : ∀ j, j < 2 → (i * 2 + j < k * 2 ∨ k * 2 + 2 ≤ i * 2 + j) := fun j hj => by omega
    refine ⟨fun j v hv => ?_, fun j hj => ?_⟩
    · have hj : j < 2 := (List.getElem?_eq_some_iff.1 hv).1
      rw [(hw.2 _ (ap j hj)).1]; exact hi.1 j v hv
    · rw [(hw.2 _ (ap j hj)).1, (hw.2 _ (ap j hj)).2]; exact hi.2 j hj
theorem Rl.put {w : World} {g : Nat} {l : List PL} (h : Rl w g l) (k : Nat) (x : PL) (hk : k < l.length) : Rl (w.setCells g (k * 2) (pc x)) g (l.set k x) := by
  have ht : w.there g (k * 2) 2 := (h k _ (List.getElem?_eq_getElem hk)).2
  exact h.set k x ⟨World.rangeAt_setCells_same w g (k * 2) (pc x) ht, World.there_setCells ht g _ _⟩ (wrt_cells w g (k * 2) 2 (pc x) rfl)
theorem ow_row {B : Nat} {w : World} {g n cap : Nat} {l : List PL} (h : Ow B w (.slice (some ⟨g, 0, none⟩) n cap) l) : Rl w g l ∧ B ≤ g ∧ g < w.heap.size ∧ n = l.length ∧ n ≤ cap ∧ cap ≤ maxLen := by
  obtain ⟨h1, h2⟩ := h
  rcases h2 with ⟨h2, _⟩ | ⟨g', cap', cur, e, hB, hb, hn, hm, hs, ht⟩
  · cases h2
  · cases e
    have hcell : ∀ t v, (fl l)[t]? = some v → w.cell? ⟨g, t, none⟩ = some v ∧ w.frozen? ⟨g, t, none⟩ = false := fun t v hv => by
      have hlt : t < l.length * 2 := by have := (List.getElem?_eq_some_iff.1 hv).1; rwa [fl_len] at this
      rw [← ht, List.getElem?_take, if_pos hlt] at hv
      refine ⟨?_, ?_⟩
      · rw [cell_of_row w g t cur _ (0, 0) hb]
        simpa using hv
      · simp [World.frozen?, hb]
    refine ⟨fun i x hx => ⟨fun j v hv => ?_, fun j hj => ?_⟩, hB, (Array.getElem?_eq_some_iff.1 hb).1, rfl, hn, hm⟩
    · have hj : j < 2 := (List.getElem?_eq_some_iff.1 hv).1
      exact (hcell _ v (by rw [fl_at l i j x hx hj, hv])).1
    · have hq := fl_at l i j x hx hj
      rw [List.getElem?_eq_getElem hj] at hq
      have := hcell _ _ hq
      exact ⟨by rw [this.1]; rfl, this.2⟩
/-- a row as it is handed back -/
def Pls (w : World) (v : Value) (l : List PL) : Prop := ∃ ao cap, v = .slice ao l.length cap ∧ l.length ≤ cap ∧ cap ≤ maxLen ∧ (0 < l.length → ∃ g, ao = some ⟨g, 0, none⟩ ∧ Rl w g l)
theorem Pls.below {w w' : World} {v : Value} {l : List PL} (h : Pls w v l) (hb : Below w.heap.size w w') : Pls w' v l := by
  obtain ⟨ao, cap, h1, h2, h3, h4⟩ := h
  refine ⟨ao, cap, h1, h2, h3, fun hp => ?_⟩
  obtain ⟨g, e, hr⟩ := h4 hp
  exact ⟨g, e, hr.below hb⟩
theorem Pls.nil (w : World) : Pls w (.slice none 0 0) [] := ⟨none, 0, rfl, Nat.le_refl _, by simp [maxLen], fun h => absurd h (Nat.lt_irrefl _)⟩
section
variable {ops : Array Oper} {rest : List Oper} {o : Oper} {a : Act} {Q : Exit → Act → World → Prop}
/-- '[]api.Place{}' -/
theorem nil_lawP (w : World) (hg : o.guard = none) (hop : o.op = Op.buildSlice 59 0 #[])
    (hK : ∀ w', Ow w.heap.size w' (.slice (some ⟨w.heap.size, 0, none⟩) 0 0) [] → Below w.heap.size w w' → w.heap.size < w'.heap.size → wpList Try.prog ops Q rest (a.put o.dst (.slice (some ⟨w.heap.size, 0, none⟩) 0 0)) w') : wpList Try.prog ops Q (o :: rest) a w := by
  refine wpList_plain hg fun K hK' => ?_
  have hrun : (Instr.buildSlice 59 0 #[]).run Try.prog w = .ok (.slice (some ⟨w.heap.size, 0, none⟩) 0 0) (w.alloc (.cells #[] 31)) := by kernel_rfl
  unfold Oper.wp execOp
  simp only [hop, List.map_toArray, List.map_nil, Sem.run_bind, Sem.run_pure, Result.andThen_ok, hrun]
  refine hK' _ _ (hK _ ⟨rfl, .inr ⟨w.heap.size, 0, #[], rfl, Nat.le_refl _, ?_, Nat.le_refl _, by simp [maxLen], rfl, rfl⟩⟩ ((Below.refl _ _).alloc (Nat.le_refl _) _) (by simp))
  exact heap_alloc_last w _
/-- '[]api.Place{x}' -/
theorem one_lawP (w : World) (hg : o.guard = none) (x : Operand) (p : PL) (hop : o.op = Op.buildSlice 59 1 #[(0, x)]) (hx : a.eval x = .agg (pc p).toArray)
    (hK : ∀ w', Vr w' w.heap.size (pc p) → Below w.heap.size w w' → w.heap.size < w'.heap.size → wpList Try.prog ops Q rest (a.put o.dst (.slice (some ⟨w.heap.size, 0, none⟩) 1 1)) w') : wpList Try.prog ops Q (o :: rest) a w := by
  refine wpList_plain hg fun K hK' => ?_
  have hrun : (Instr.buildSlice 59 1 #[(0, .agg (pc p).toArray)]).run Try.prog w = .ok (.slice (some ⟨w.heap.size, 0, none⟩) 1 1) (w.alloc (.cells (pc p).toArray 31)) := by kernel_rfl
  unfold Oper.wp execOp
  simp only [hop, List.map_toArray, List.map_cons, List.map_nil, hx, Sem.run_bind, Sem.run_pure, Result.andThen_ok, hrun]
  exact hK' _ _ (hK _ (Vr.new w 31 (pc p)) ((Below.refl _ _).alloc (Nat.le_refl _) _) (by simp))
/-- 'append(left, x)' -/
theorem push_lawP (w : World) (hg : o.guard = none) (s x : Operand) (hop : o.op = .call { callee := .builtin .append, args := #[s, x], argTypes := #[59, 59] })
    (B : Nat) (hB : B ≤ w.heap.size) (v : Value) (l : List PL) (g : Nat) (p : PL) (hs : a.eval s = v) (hx : a.eval x = .slice (some ⟨g, 0, none⟩) 1 1) (hown : Ow B w v l) (hV : Vr w g (pc p)) (hn : l.length ≤ 100000)
    (hK : ∀ v' w', Ow B w' v' (l ++ [p]) → w.grownBy w' v.ownBlock → wpList Try.prog ops Q rest (a.put o.dst v') w') : wpList Try.prog ops Q (o :: rest) a w := by
  obtain ⟨i0, hi, hz0, hz1, hz2⟩ := info_parts (show (Try.prog.info? 31).map (fun i => (i.zero, i.size, i.bytes)) = some (some (.agg (pc (0, 0)).toArray), 2, 16) by kernel_rfl)
  refine wpList_append_own _ hg s x 59 hop B 31 i0 _ 2 16 Try.underlying59 hi hz0 hz1 hz2 rfl (by decide) v l.length (fl l) hs hown ⟨g, 0, none⟩ 1 1 (pc p) hx rfl (fun j u hj => ?_) (pc_one p) (by simp only [maxLen]; omega) (by omega) hB fun v' w' O1 G1 _ => ?_
  · rw [Addr.add_lit]
    have := hV.cell j u hj
    simpa using this
  · refine hK v' w' ?_ G1
    show w'.ownsRow B 31 2 v' (l ++ [p]).length (fl (l ++ [p]))
    rw [fl_snoc, List.length_append]
    exact O1
end
end Go.Proofs.Ytedmmpognhpbdaa.pm
