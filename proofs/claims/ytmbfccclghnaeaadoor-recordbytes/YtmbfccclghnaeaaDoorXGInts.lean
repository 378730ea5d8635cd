/- Rows of whole numbers ([]int): what a slice of them holds, how one is made and grown. No claim of its own. -/
import Derived.Test.YtmbfccclghnaeaaDoorXGGeo
import Derived.Laws.AppendOwnNone
namespace Go.Proofs.YtmbfccclghnaeaaDoor.ge
open Go.RowKit
set_option maxRecDepth 20000

theorem info_intT : (Tryd.prog.info? 3).map (fun i => (i.zero, i.size, i.bytes)) = some (some (.int .i64 0), 1, 8) := by kernel_rfl
theorem i_int : (Tryd.prog.info? 3).map (·.size) = some 1 := by kernel_rfl
theorem und_ints : Tryd.prog.underlying 42 = some (.slice (Tryd.prog.elem 42)) := by kernel_rfl
theorem elem_ints : Tryd.prog.elem 42 = 3 := by kernel_rfl
theorem run_size_int (w : World) : (sizeOf 3).run Tryd.prog w = .ok 1 w := by
  obtain ⟨i0, hi, hz0, hz1, hz2⟩ := info_parts info_intT
  simp [sizeOf, typeInfo, hi, hz1]

/-- the slice value v holds the numbers xs in w -/
def Nums (w : World) (v : Value) (xs : List Int) : Prop :=
  ∃ ao cap, v = .slice ao xs.length cap ∧ xs.length ≤ cap ∧ cap ≤ 9223372036854775807 ∧ (ao = none → cap = 0) ∧
    (0 < xs.length → ∃ b off, ao = some ⟨b, off, none⟩ ∧ ∀ t, t < xs.length → w.cell? ⟨b, off + t, none⟩ = some (.int .i64 (gb xs t)))
theorem Nums.below {w w' : World} {v : Value} {xs : List Int} (h : Nums w v xs) (hb : Below w.heap.size w w') : Nums w' v xs := by
  obtain ⟨ao, cap, rfl, h1, h2, h4, h5⟩ := h
  refine ⟨ao, cap, rfl, h1, h2, h4, fun hp => ?_⟩
  obtain ⟨b, off, rfl, hc⟩ := h5 hp
  refine ⟨b, off, rfl, fun t ht => ?_⟩
  have := hc t ht
  rw [hb.cell (World.block_lt_of_cell? w _ this)]
  exact this
theorem Nums.nil (w : World) : Nums w (.slice none 0 0) [] :=
  ⟨none, 0, rfl, by simp, by simp, fun _ => rfl, fun h => by simp at h⟩
/-- v owns the numbers cs, in a block from B on -/
def OwnI (B : Nat) (w : World) (v : Value) (cs : List Int) : Prop := w.ownsRow B 3 1 v cs.length (cs.map (Value.int .i64))
theorem OwnI.empty (w : World) {B : Nat} (hB : B ≤ w.heap.size) : OwnI B (w.alloc (.cells #[] 3)) (.slice (some ⟨w.heap.size, 0, none⟩) 0 0) [] :=
  World.ownsRow_made w #[] 0 hB (by simp [maxLen]) (by simp)
theorem OwnI.one (w : World) {B : Nat} (hB : B ≤ w.heap.size) (x : Int) : OwnI B (w.alloc (.cells #[.int .i64 x] 3)) (.slice (some ⟨w.heap.size, 0, none⟩) 1 1) [x] :=
  World.ownsRow_lit w #[.int .i64 x] 1 hB (by simp [maxLen]) (by simp)
theorem OwnI.nums {B : Nat} {w : World} {v : Value} {xs : List Int} (h : OwnI B w v xs) : Nums w v xs := by
  rcases h.2 with ⟨rfl, hn⟩ | ⟨g, cap, cur, rfl, hg, hb, hc, hm, hs, ht⟩
  · have : xs = [] := List.eq_nil_of_length_eq_zero (by omega)
    subst this
    exact Nums.nil w
  · refine ⟨some ⟨g, 0, none⟩, cap, rfl, hc, by simpa [maxLen] using hm, (by intro h; cases h), fun hp => ⟨g, 0, rfl, fun t ht' => ?_⟩⟩
    have := h.cells (g := g) rfl t (.int .i64 (gb xs t)) (by simp [gb, List.getD, ht'])
    rw [Addr.add_lit] at this
    simpa using this
/-- as an array that may be written -/
theorem OwnI.ar {B : Nat} {w : World} {v : Value} {cs : List Int} (h : OwnI B w v cs) (hp : 0 < cs.length) : ∃ g cap, v = .slice (some ⟨g, 0, none⟩) cs.length cap ∧ cs.length ≤ cap ∧ cap ≤ 9223372036854775807 ∧ B ≤ g ∧ g < w.heap.size ∧ Ar w g 0 .i64 cs := by
  have hlt := World.ownsRow.lt h
  rcases h.2 with ⟨rfl, hn⟩ | ⟨g, cap, cur, rfl, hg, hb, hc, hm, hs, ht⟩
  · omega
  · refine ⟨g, cap, rfl, hc, by simpa [maxLen] using hm, hg, (hlt g rfl).2, Ar.mk fun i hi => ?_⟩
    rw [Nat.zero_add]
    refine ⟨?_, World.ownsRow.frozenAt h i⟩
    rw [World.ownsRow.cellAt h i (by omega)]
    simp [gb, List.getD, hi]
theorem Ar.nums {w : World} {b n c : Nat} {xs : List Int} (h : Ar w b 0 .i64 xs) (hn : xs.length = n) (hc : n ≤ c) (hm : c ≤ 9223372036854775807) : Nums w (.slice (some ⟨b, 0, none⟩) n c) xs :=
  ⟨some ⟨b, 0, none⟩, c, by rw [hn], by omega, hm, (by intro h; cases h), fun _ => ⟨b, 0, rfl, fun t ht => h.cell t ht⟩⟩

/-! ### parts -/
theorem nums_cut {w : World} {v : Value} {xs : List Int} (hb : Nums w v xs) (l h : Nat) (hl : l ≤ h) (hh : h ≤ xs.length) :
    ∃ ao cap, v = .slice ao xs.length cap ∧ h ≤ cap ∧ Nums w (sliced ao l h cap 1) ((xs.take h).drop l) := by
  obtain ⟨ao, cap, rfl, h1, h2, h4, h5⟩ := hb
  refine ⟨ao, cap, rfl, by omega, ?_⟩
  have hlen : ((xs.take h).drop l).length = h - l := by simp; omega
  refine ⟨if cap = l then ao else ao.map (·.add (l * 1)), cap - l, by rw [hlen]; rfl, by omega, by omega, ?_, ?_⟩
  · split
    · intro _; omega
    · intro hn
      have := h4 (by simpa using hn)
      omega
  · intro hp
    obtain ⟨b, off, rfl, hc⟩ := h5 (by omega)
    rw [if_neg (by omega)]
    refine ⟨b, off + l, by simp [Addr.add_lit], fun t ht => ?_⟩
    rw [gb_cut xs l h t (by omega), Nat.add_assoc]
    exact hc (l + t) (by omega)
/-- 'v[l:h]', as a value -/
def sl : Value → Nat → Nat → Value
  | .slice ao _ cap, l, h => sliced ao l h cap 1
  | _, _, _ => undef
theorem sl_nums {w : World} {v : Value} {xs : List Int} (hb : Nums w v xs) (l h : Nat) (hl : l ≤ h) (hh : h ≤ xs.length) : Nums w (sl v l h) ((xs.take h).drop l) := by
  obtain ⟨ao, cap, rfl, hc, hb'⟩ := nums_cut hb l h hl hh
  exact hb'
theorem sl_to {w : World} {v : Value} {xs : List Int} (hb : Nums w v xs) (h : Nat) (hh : h ≤ xs.length) : Nums w (sl v 0 h) (xs.take h) := by
  have := sl_nums hb 0 h (Nat.zero_le _) hh
  rwa [List.drop_zero] at this
theorem sl_from {w : World} {v : Value} {xs : List Int} (hb : Nums w v xs) (l : Nat) (hl : l ≤ xs.length) : Nums w (sl v l xs.length) (xs.drop l) := by
  have := sl_nums hb l xs.length hl (Nat.le_refl _)
  rwa [List.take_length] at this

section
variable {ops : Array Oper} {o : Oper} {a : Act}
theorem y_to (hw : Region.wanted o (yielded ops a.tmps) = true) (s x : Operand) (hop : o.op = Op.slice 42 s none (some x) none) (v : Value) (xs : List Int) (w0 : World) (hb : Nums w0 v xs) (L : Int) (h : Nat) (hs : a.eval s = v) (hx : a.eval x = .int .i64 L) (hL : L = (h : Int)) (hh : h ≤ xs.length) : Yields Tryd.prog ops o (sl v 0 h) a := by
  refine Or.inl ⟨hw, fun w => ?_⟩
  obtain ⟨ao, cap, rfl, hc, -⟩ := nums_cut hb 0 h (Nat.zero_le _) hh
  have hrun := run_slice_h (P := Tryd.prog) w 42 ao xs.length cap und_ints .i64 L (by omega) (by omega)
  rw [elem_ints, run_size_int] at hrun
  subst hL
  simp [execOp, hop, hs, hx, run_sliceAt_slice w 42 _ _ _ _ und_ints, hrun, Result.andThen, sl]
theorem y_from (hw : Region.wanted o (yielded ops a.tmps) = true) (s x : Operand) (hop : o.op = Op.slice 42 s (some x) none none) (v : Value) (xs : List Int) (w0 : World) (hb : Nums w0 v xs) (L : Int) (l : Nat) (hs : a.eval s = v) (hx : a.eval x = .int .i64 L) (hL : L = (l : Int)) (hl : l ≤ xs.length) : Yields Tryd.prog ops o (sl v l xs.length) a := by
  refine Or.inl ⟨hw, fun w => ?_⟩
  obtain ⟨ao, cap, rfl, hc, -⟩ := nums_cut hb l xs.length hl (Nat.le_refl _)
  have hrun := run_slice_l (P := Tryd.prog) w 42 ao xs.length cap und_ints .i64 L (by omega) (by omega)
  rw [elem_ints, run_size_int] at hrun
  subst hL
  simp [execOp, hop, hs, hx, run_sliceAt_slice w 42 _ _ _ _ und_ints, hrun, Result.andThen, sl]

variable {Q : Exit → Act → World → Prop} {K : Act → World → Prop} {E : Prop}
/-- '[]int{}', in a region that draws its order -/
theorem step_nilI (w : World) (hw : Region.wanted o (yielded ops a.tmps) = true) (d : Option Tmp) (hd : o.dst = d) (hop : o.op = Op.buildSlice 42 0 #[])
    (hK : ∀ w', OwnI w.heap.size w' (.slice (some ⟨w.heap.size, 0, none⟩) 0 0) [] → Below w.heap.size w w' → w.heap.size < w'.heap.size → K (a.put d (.slice (some ⟨w.heap.size, 0, none⟩) 0 0)) w') : if Region.wanted o (yielded ops a.tmps) = true then Oper.wp Tryd.prog o a w K Q else E := by
  rw [if_pos hw]
  subst hd
  have hrun : (Instr.buildSlice 42 0 #[]).run Tryd.prog w = .ok (.slice (some ⟨w.heap.size, 0, none⟩) 0 0) (w.alloc (.cells #[] 3)) := by kernel_rfl
  unfold Oper.wp execOp
  simp only [hop, List.map_toArray, List.map_nil, Sem.run_bind, Sem.run_pure, Result.andThen_ok, hrun]
  exact hK _ (OwnI.empty w (Nat.le_refl _)) ((Below.refl _ _).alloc (Nat.le_refl _) _) (by simp)
/-- '[]int{x}' -/
theorem step_oneI (w : World) (hw : Region.wanted o (yielded ops a.tmps) = true) (d : Option Tmp) (hd : o.dst = d) (x : Operand) (hop : o.op = Op.buildSlice 42 1 #[(0, x)]) (n : Int) (hx : a.eval x = .int .i64 n)
    (hK : ∀ w', OwnI w.heap.size w' (.slice (some ⟨w.heap.size, 0, none⟩) 1 1) [n] → Below w.heap.size w w' → w.heap.size < w'.heap.size → K (a.put d (.slice (some ⟨w.heap.size, 0, none⟩) 1 1)) w') : if Region.wanted o (yielded ops a.tmps) = true then Oper.wp Tryd.prog o a w K Q else E := by
  rw [if_pos hw]
  subst hd
  have hrun : (Instr.buildSlice 42 1 #[(0, .int .i64 n)]).run Tryd.prog w = .ok (.slice (some ⟨w.heap.size, 0, none⟩) 1 1) (w.alloc (.cells #[.int .i64 n] 3)) := by kernel_rfl
  unfold Oper.wp execOp
  simp only [hop, List.map_toArray, List.map_cons, List.map_nil, hx, Sem.run_bind, Sem.run_pure, Result.andThen_ok, hrun]
  exact hK _ (OwnI.one w (Nat.le_refl _) n) ((Below.refl _ _).alloc (Nat.le_refl _) _) (by simp)
/-- 'append(out, s...)', out of the call's own -/
theorem step_pushsI (w : World) (hw : Region.wanted o (yielded ops a.tmps) = true) (d : Option Tmp) (hd : o.dst = d) (s x : Operand) (hop : o.op = .call { callee := .builtin .append, args := #[s, x], argTypes := #[42, 42] })
    (B : Nat) (hB : B ≤ w.heap.size) (v vy : Value) (xs ys : List Int) (hs : a.eval s = v) (hx : a.eval x = vy) (hown : OwnI B w v xs) (hy : Nums w vy ys) (hn : xs.length ≤ 1000000) (hm : ys.length ≤ 1000000)
    (hK : ∀ v' w', OwnI B w' v' (xs ++ ys) → Below B w w' → w.grownBy w' v.ownBlock → K (a.put d v') w') : if Region.wanted o (yielded ops a.tmps) = true then Oper.wp Tryd.prog o a w K Q else E := by
  rw [if_pos hw]
  subst hd
  obtain ⟨i0, hi, hz0, hz1, hz2⟩ := info_parts info_intT
  obtain ⟨ao, cap, rfl, h1, h2, h4, h5⟩ := hy
  cases ao with
  | none =>
    have hc := h4 rfl
    subst hc
    have : ys = [] := List.eq_nil_of_length_eq_zero (by omega)
    subst this
    have hrun := run_append_owned_none (P := Tryd.prog) (w := w) B 42 o.type 3 i0 1 Tryd.underlying42 hi v xs.length _ hown
    have hx' : a.eval x = .slice none 0 0 := hx
    unfold Oper.wp
    simp [execOp, hop, resolve, invoke, builtin, hs, hx', hrun, Result.andThen]
    refine hK v w ?_ (Below.refl _ _) ?_
    · rwa [List.append_nil]
    · exact ⟨rfl, rfl, rfl, Nat.le_refl _, fun _ _ _ => rfl⟩
  | some ad =>
    refine wp_append_own _ s x 42 hop B 3 i0 (.int .i64 0) 1 8 Tryd.underlying42 hi hz0 hz1 hz2 rfl (by decide) v xs.length _ hs hown ad ys.length cap (ys.map (Value.int .i64)) hx (by simp) ?_ ?_ (by simp only [maxLen]; omega) (by omega) hB fun v' w' h1 h2 _ => ?_
    · intro j u hj
      have hjl : j < ys.length := by have := (List.getElem?_eq_some_iff.1 hj).1; simpa using this
      obtain ⟨b, off, e, hc⟩ := h5 (by omega)
      cases e
      rw [Addr.add_mid, hc j hjl, ← hj]
      simp [gb, List.getD, hjl]
    · intro u hu
      simp only [List.mem_map] at hu
      obtain ⟨y, _, rfl⟩ := hu
      rfl
    · refine hK v' w' ?_ ?_ h2
      · show w'.ownsRow B 3 1 v' (xs ++ ys).length ((xs ++ ys).map (Value.int .i64))
        simpa using h1
      · exact (Below.refl B w).grown h2 hB fun k hk => (World.ownsRow.lt hown k hk).1

variable {rest : List Oper}
/-- 'append(out, s...)' where the order is the text's -/
theorem pushs_lawI (w : World) (hg : o.guard = none) (s x : Operand) (hop : o.op = .call { callee := .builtin .append, args := #[s, x], argTypes := #[42, 42] })
    (B : Nat) (hB : B ≤ w.heap.size) (v vy : Value) (xs ys : List Int) (hs : a.eval s = v) (hx : a.eval x = vy) (hown : OwnI B w v xs) (hy : Nums w vy ys) (hn : xs.length ≤ 1000000) (hm : ys.length ≤ 1000000)
    (hK : ∀ v' w', OwnI B w' v' (xs ++ ys) → Below B w w' → wpList Tryd.prog ops Q rest (a.put o.dst v') w') : wpList Tryd.prog ops Q (o :: rest) a w := by
  refine wpList_step fun K hK' => ?_
  exact step_pushsI w (by simp [Region.wanted, hg]) o.dst rfl s x hop B hB v vy xs ys hs hx hown hy hn hm fun v' w' h1 h2 _ => hK' _ _ (hK v' w' h1 h2)
end
/-- what lies apart from the row that grows stays -/
theorem Nums.grownBy {w w' : World} {v : Value} {xs : List Int} {row : Option Nat} (h : Nums w v xs) (hg : w.grownBy w' row) (hf : v.ownBlock ≠ row) : Nums w' v xs := by
  obtain ⟨ao, cap, rfl, h1, h2, h4, h5⟩ := h
  refine ⟨ao, cap, rfl, h1, h2, h4, fun hp => ?_⟩
  obtain ⟨b, off, rfl, hc⟩ := h5 hp
  refine ⟨b, off, rfl, fun t ht => ?_⟩
  have := hc t ht
  rw [World.cell?_of_block (w := w) (w' := w') (a := ⟨b, off + t, none⟩) (hg.block b (World.block_lt_of_cell? w _ this) hf)]
  exact this
theorem OwnI.below {B : Nat} {w w' : World} {v : Value} {xs : List Int} (h : OwnI B w v xs) (hb : Below w.heap.size w w') : OwnI B w' v xs :=
  World.ownsRow.kept (row := none) h ⟨hb.os, hb.tape, hb.output, hb.size, fun j hj _ => hb.block j hj⟩ (by cases hv : v.ownBlock <;> simp)
end Go.Proofs.YtmbfccclghnaeaaDoor.ge
