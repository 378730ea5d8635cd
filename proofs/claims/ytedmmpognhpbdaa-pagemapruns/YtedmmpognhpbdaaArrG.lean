/- Numbers that lie in a row of a block: how they are read, written, and how they last; a region that draws its order and only reads, in a class of worlds. No claim of its own. -/
import Derived.Test.YtedmmpognhpbdaaBase
import Derived.Deep.WholeRow
import Derived.Deep.MidRow
import Derived.Laws.StructEq
namespace Go.Proofs.Ytedmmpognhpbdaa
open Go.RowKit
set_option maxRecDepth 20000

theorem i_u8 : (Try.prog.info? 5).map (·.size) = some 1 := by kernel_rfl

/-- what lies below stays where cells of a later block are written -/
theorem below_cells {B : Nat} {a : World} (b : Nat) (hb : B ≤ b) : ∀ (vs : List Value) (o : Nat) {w : World}, Below B a w → Below B a (w.setCells b o vs)
  | [], _, _, h => h
  | v :: r, o, _, h => below_cells b hb r (o + 1) (h.setCell (p := ⟨b, o, none⟩) hb v)

/-- numbers as values -/
def ints (k : IntKind) (xs : List Int) : Array Value := (xs.map (Value.int k)).toArray

theorem ints_size (k : IntKind) (xs : List Int) : (ints k xs).size = xs.length := by simp [ints]
theorem ints_toList (k : IntKind) (xs : List Int) : (ints k xs).toList = xs.map (Value.int k) := by simp [ints]
theorem ints_one (k : IntKind) (xs : List Int) : (ints k xs).all (·.oneCell') = true := by
  rw [Array.all_eq_true_iff_forall_mem]
  intro v hv
  simp only [ints, List.mem_toArray, List.mem_map] at hv
  obtain ⟨x, _, rfl⟩ := hv
  rfl

/-- the numbers xs lie in block b from place o on, and may be written -/
def Ar (w : World) (b o : Nat) (k : IntKind) (xs : List Int) : Prop := w.rangeAt b o (xs.map (Value.int k)) ∧ w.there b o xs.length

theorem Ar.cell {w : World} {b o : Nat} {k : IntKind} {xs : List Int} (h : Ar w b o k xs) (i : Nat) (hi : i < xs.length) : w.cell? ⟨b, o + i, none⟩ = some (.int k (gb xs i)) :=
  h.1 i _ (by simp [gb, List.getD, hi])
theorem Ar.cell0 {w : World} {b : Nat} {k : IntKind} {xs : List Int} (h : Ar w b 0 k xs) (i : Nat) (hi : i < xs.length) : w.cell? ⟨b, i, none⟩ = some (.int k (gb xs i)) := by
  have := h.cell i hi
  rwa [Nat.zero_add] at this
theorem Ar.free {w : World} {b o : Nat} {k : IntKind} {xs : List Int} (h : Ar w b o k xs) (i : Nat) (hi : i < xs.length) : w.frozen? ⟨b, o + i, none⟩ = false := (h.2 i hi).2
theorem Ar.free0 {w : World} {b : Nat} {k : IntKind} {xs : List Int} (h : Ar w b 0 k xs) (i : Nat) (hi : i < xs.length) : w.frozen? ⟨b, i, none⟩ = false := by
  have := h.free i hi
  rwa [Nat.zero_add] at this
theorem Ar.mk {w : World} {b o : Nat} {k : IntKind} {xs : List Int} (h : ∀ i, i < xs.length → w.cell? ⟨b, o + i, none⟩ = some (.int k (gb xs i)) ∧ w.frozen? ⟨b, o + i, none⟩ = false) : Ar w b o k xs := by
  refine ⟨fun j v hv => ?_, fun j hj => ?_⟩
  · have hj : j < xs.length := by have := (List.getElem?_eq_some_iff.1 hv).1; simpa using this
    rw [(h j hj).1, ← hv]
    simp [gb, List.getD, hj]
  · exact ⟨by rw [(h j hj).1]; rfl, (h j hj).2⟩
theorem Ar.lt {w : World} {b o : Nat} {k : IntKind} {xs : List Int} (h : Ar w b o k xs) (hp : 0 < xs.length) : b < w.heap.size := World.block_lt_of_cell? w _ (h.cell 0 hp)
theorem Ar.heap {w w' : World} {b o : Nat} {k : IntKind} {xs : List Int} (h : Ar w b o k xs) (e : w'.heap[b]? = w.heap[b]?) : Ar w' b o k xs :=
  Ar.mk fun i hi => ⟨by rw [World.cell?_of_block (w := w) (w' := w') (a := ⟨b, o + i, none⟩) e]; exact h.cell i hi, by rw [World.frozen?_of_block (w := w) (w' := w') (a := ⟨b, o + i, none⟩) e]; exact h.free i hi⟩
theorem Ar.below {w w' : World} {b o B : Nat} {k : IntKind} {xs : List Int} (h : Ar w b o k xs) (hb : Below B w w') (hB : b < B) : Ar w' b o k xs := h.heap (hb.block b hB)
theorem Ar.alloc {w : World} {b o : Nat} {k : IntKind} {xs : List Int} (h : Ar w b o k xs) (ob : Obj) : Ar (w.alloc ob) b o k xs := ⟨World.rangeAt_alloc h.1 ob, World.there_alloc h.2 ob⟩
theorem Ar.drewN {w : World} {b o : Nat} {k : IntKind} {xs : List Int} (h : Ar w b o k xs) (n : Nat) : Ar (w.drewN n) b o k xs := h.heap rfl
theorem Ar.other {w : World} {b o : Nat} {k : IntKind} {xs : List Int} (h : Ar w b o k xs) {p : Addr} (hp : b ≠ p.block) (u : Value) : Ar (w.setCell p u) b o k xs := h.heap (Below.heap_setCell w p u b hp)
theorem Ar.new (w : World) (t : TypeId) (k : IntKind) (xs : List Int) : Ar (w.alloc (.cells (ints k xs) t)) w.heap.size 0 k xs :=
  Ar.mk fun i hi => by
    have e := cell_of_row (w.alloc (.cells (ints k xs) t)) w.heap.size (0 + i) _ t (0, 0) (heap_alloc_last w _)
    refine ⟨by rw [e]; simp [ints, gb, List.getD, hi], ?_⟩
    exact World.frozen?_alloc_at _ _ _ _ rfl
theorem Ar.set {w : World} {b o : Nat} {k : IntKind} {xs : List Int} (h : Ar w b o k xs) (i : Nat) (hi : i < xs.length) (x : Int) : Ar (w.setCell ⟨b, o + i, none⟩ (.int k x)) b o k (xs.set i x) :=
  Ar.mk fun j hj => by
    rw [List.length_set] at hj
    refine ⟨?_, by rw [World.frozen?_setCell]; exact h.free j hj⟩
    by_cases e : i = j
    · subst e
      rw [World.cell?_setCell_same _ _ _ (h.cell i hi)]
      simp [gb, List.getD, hi]
    · rw [World.cell?_setCell_other _ _ _ _ (by intro hh; injection hh with _ h2; omega), h.cell j hj]
      simp [gb, List.getD, e]
theorem Ar.set0 {w : World} {b : Nat} {k : IntKind} {xs : List Int} (h : Ar w b 0 k xs) (i : Nat) (hi : i < xs.length) (x : Int) : Ar (w.setCell ⟨b, i, none⟩ (.int k x)) b 0 k (xs.set i x) := by
  have := h.set i hi x
  rwa [Nat.zero_add] at this
/-- what lies apart in the same block -/
theorem Ar.apart {w : World} {b o : Nat} {k : IntKind} {xs : List Int} (h : Ar w b o k xs) (b' o' : Nat) (vs : List Value) (hap : b ≠ b' ∨ o + xs.length ≤ o' ∨ o' + vs.length ≤ o) : Ar (w.setCells b' o' vs) b o k xs :=
  ⟨World.rangeAt_setCells_apart h.1 b' o' vs (by simpa using hap), World.there_setCells h.2 b' o' vs⟩
/-- a part is written -/
def laid (xs : List Int) (s : Nat) (ys : List Int) : List Int := xs.take s ++ ys ++ xs.drop (s + ys.length)
theorem laid_len (xs : List Int) (s : Nat) (ys : List Int) (h : s + ys.length ≤ xs.length) : (laid xs s ys).length = xs.length := by simp [laid]; omega
theorem gb_laid (xs : List Int) (s : Nat) (ys : List Int) (hs : s + ys.length ≤ xs.length) (j : Nat) : gb (laid xs s ys) j = if j < s then gb xs j else if j < s + ys.length then gb ys (j - s) else gb xs j := by
  have hm : (xs.take s).length = s := by simp; omega
  unfold gb laid
  by_cases h1 : j < s
  · rw [if_pos h1, List.append_assoc, List.getD_eq_getElem?_getD, List.getElem?_append_left (by omega), List.getElem?_take, if_pos h1]; rfl
  · rw [if_neg h1, List.append_assoc, List.getD_eq_getElem?_getD, List.getElem?_append_right (by omega), hm]
    by_cases h2 : j < s + ys.length
    · rw [if_pos h2, List.getElem?_append_left (by omega)]; rfl
    · rw [if_neg h2, List.getElem?_append_right (by omega), List.getElem?_drop, show s + ys.length + (j - s - ys.length) = j by omega]; rfl
theorem Ar.lay {w : World} {b o : Nat} {k : IntKind} {xs : List Int} (h : Ar w b o k xs) (s : Nat) (ys : List Int) (hs : s + ys.length ≤ xs.length) : Ar (w.setCells b (o + s) (ys.map (Value.int k))) b o k (laid xs s ys) :=
  Ar.mk fun j hj => by
    rw [laid_len xs s ys hs] at hj
    refine ⟨?_, by rw [World.frozen?_setCells]; exact h.free j hj⟩
    by_cases h1 : j < s
    · rw [World.cell?_setCells_out _ _ _ _ _ (fun _ _ => by left; show o + j < o + s; omega), h.cell j hj, gb_laid xs s ys hs, if_pos h1]
    · by_cases h2 : j < s + ys.length
      · have e := World.cell?_setCells_in b (ys.map (Value.int k)) (o + s) w (fun i hi => by
          simp only [List.length_map] at hi
          rw [show o + s + i = o + (s + i) by omega, h.cell (s + i) (by omega)]; rfl) (j - s) (by simp; omega)
        rw [show o + s + (j - s) = o + j by omega] at e
        rw [e, gb_laid xs s ys hs, if_neg h1, if_pos h2]
        simp [gb, List.getD, show j - s < ys.length by omega]
      · rw [World.cell?_setCells_out _ _ _ _ _ (fun _ _ => by right; simp; omega), h.cell j hj, gb_laid xs s ys hs, if_neg h1, if_neg h2]
/-- all of it is written -/
theorem Ar.whole {w : World} {b o : Nat} {k : IntKind} {xs : List Int} (ht : w.there b o xs.length) : Ar (w.setCells b o (xs.map (Value.int k))) b o k xs :=
  ⟨World.rangeAt_setCells_same w b o _ (by simpa using ht), World.there_setCells ht b o _⟩
theorem results_ar {fn : Func} {p : Tmp} {ty : TypeId} (h : fn.results = #[.cell p ty]) (tmps : Array Value) (w : World) (b o : Nat) (k : IntKind) (xs : List Int) (hp : tmps.getD p undef = .pointer (some ⟨b, o, none⟩)) (ha : Ar w b o k xs)
    (n : Nat) (e : TypeId) (hu : Try.prog.underlying ty = some (.array n e)) (hi : (Try.prog.info? ty).map (·.size) = some n) (hn : xs.length = n) : (results fn tmps).run Try.prog w = .ok (.agg (ints k xs)) w := by
  have hp' : tmps[p]?.getD undef = .pointer (some ⟨b, o, none⟩) := by simpa using hp
  have hl := run_loadVar_mid (P := Try.prog) w b o ty _ _ ha.1 hu rfl (by rw [hi]; simp [hn])
  simp [results, h, hp', asAddr, hl, ints]

section
variable {ops : Array Oper} {rest : List Oper} {o : Oper} {a : Act} {Q : Exit → Act → World → Prop}
/-- a parameter that is an array gets a place -/
theorem box_law (w : World) (hg : o.guard = none) (x : Operand) (t : TypeId) (hop : o.op = Op.box t x) (k : IntKind) (xs : List Int) (hx : a.eval x = .agg (ints k xs))
    (hK : wpList Try.prog ops Q rest (a.put o.dst (.pointer (some ⟨w.heap.size, 0, none⟩))) (w.alloc (.cells (ints k xs) t))) :
    wpList Try.prog ops Q (o :: rest) a w := by
  refine wpList_plain hg fun K hK' => ?_
  unfold Oper.wp
  simp [execOp, hop, hx, Instr.box, newVar, newRow, Value.cells, Result.andThen]
  exact hK' _ _ hK
/-- a variable that is an array gets a place: noughts -/
theorem new_law (w : World) (hg : o.guard = none) (t : TypeId) (hop : o.op = Op.alloc t) (k : IntKind) (xs : List Int) (hz : (Try.prog.info? t).map (fun i => (i.zero, i.size)) = some (some (.agg (ints k xs)), xs.length))
    (hK : wpList Try.prog ops Q rest (a.put o.dst (.pointer (some ⟨w.heap.size, 0, none⟩))) (w.alloc (.cells (ints k xs) t))) :
    wpList Try.prog ops Q (o :: rest) a w := by
  refine wpList_plain hg fun K hK' => ?_
  have hz' := (zero_of_info hz).1
  unfold Oper.wp
  simp [execOp, hop, Instr.alloc, hz', newVar, newRow, Value.cells, Result.andThen]
  exact hK' _ _ hK
/-- a whole array is read -/
theorem load_law (w : World) (hg : o.guard = none) (x : Operand) (t : TypeId) (hop : o.op = Op.load t x) (k : IntKind) (xs : List Int) (b p : Nat) (hx : a.eval x = .pointer (some ⟨b, p, none⟩)) (h : Ar w b p k xs)
    (n : Nat) (e : TypeId) (hu : Try.prog.underlying t = some (.array n e)) (hi : (Try.prog.info? t).map (·.size) = some n) (hn : xs.length = n)
    (hK : wpList Try.prog ops Q rest (a.put o.dst (.agg (ints k xs))) w) :
    wpList Try.prog ops Q (o :: rest) a w :=
  wpList_load_mid hg t x hop b p hx _ _ h.1 hu rfl (by rw [hi]; simp [hn]) hK
/-- a whole array is written -/
theorem store_law (w : World) (hg : o.guard = none) (x y : Operand) (t : TypeId) (hop : o.op = Op.store t x y) (k : IntKind) (ys : List Int) (b p : Nat) (hx : a.eval x = .pointer (some ⟨b, p, none⟩)) (hy : a.eval y = .agg (ints k ys))
    (ht : w.there b p ys.length) (n : Nat) (hi : (Try.prog.info? t).map (·.size) = some n) (hn : ys.length = n)
    (hK : wpList Try.prog ops Q rest (a.put o.dst undef) (w.setCells b p (ys.map (Value.int k)))) :
    wpList Try.prog ops Q (o :: rest) a w :=
  wpList_store_mid hg t x y hop b p (ints k ys) hx hy (by rw [ints_size]; exact ht) (by rw [hi, ints_size, hn]) (ints_one k ys) (by rw [ints_toList]; exact hK)
/-- an array's literal -/
theorem build_law (w : World) (hg : o.guard = none) (t : TypeId) (parts : Array (Nat × Operand)) (hop : o.op = Op.build t parts) (v : Value) (hrun : (Instr.build t (parts.map fun (i, x) => (i, a.eval x))).run Try.prog w = .ok v w)
    (hK : wpList Try.prog ops Q rest (a.put o.dst v) w) : wpList Try.prog ops Q (o :: rest) a w := by
  refine wpList_plain hg fun K hK' => ?_
  unfold Oper.wp execOp
  simp only [hop, Sem.run_bind, Sem.run_pure, Result.andThen_ok, hrun]
  exact hK' _ _ hK
/-- a variable that is an array gets a place; the world gets a name -/
theorem new_lawF (w : World) (hg : o.guard = none) (t : TypeId) (hop : o.op = Op.alloc t) (k : IntKind) (xs : List Int) (hz : (Try.prog.info? t).map (fun i => (i.zero, i.size)) = some (some (.agg (ints k xs)), xs.length))
    (hK : ∀ w', Ar w' w.heap.size 0 k xs → Below w.heap.size w w' → w.heap.size < w'.heap.size → wpList Try.prog ops Q rest (a.put o.dst (.pointer (some ⟨w.heap.size, 0, none⟩))) w') :
    wpList Try.prog ops Q (o :: rest) a w :=
  new_law w hg t hop k xs hz (hK _ (Ar.new w t k xs) ((Below.refl _ _).alloc (Nat.le_refl _) _) (by simp))
/-- a whole array is written; the world gets a name -/
theorem store_lawF (w : World) (hg : o.guard = none) (x y : Operand) (t : TypeId) (hop : o.op = Op.store t x y) (k : IntKind) (xs ys : List Int) (b : Nat) (hx : a.eval x = .pointer (some ⟨b, 0, none⟩)) (hy : a.eval y = .agg (ints k ys))
    (hA : Ar w b 0 k xs) (n : Nat) (hi : (Try.prog.info? t).map (·.size) = some n) (hl : xs.length = n) (hn : ys.length = n)
    (hK : ∀ w', Ar w' b 0 k ys → Below b w w' → wpList Try.prog ops Q rest (a.put o.dst undef) w') :
    wpList Try.prog ops Q (o :: rest) a w := by
  have ht : w.there b 0 ys.length := by rw [hn, ← hl]; exact hA.2
  exact store_law w hg x y t hop k ys b 0 hx hy ht n hi hn (hK _ (Ar.whole ht) (below_cells _ (Nat.le_refl _) _ _ (Below.refl _ _)))
/-- a value gets a place; the world gets a name -/
theorem box_lawF (w : World) (hg : o.guard = none) (x : Operand) (t : TypeId) (hop : o.op = Op.box t x) (k : IntKind) (xs : List Int) (hx : a.eval x = .agg (ints k xs))
    (hK : ∀ w', Ar w' w.heap.size 0 k xs → Below w.heap.size w w' → w.heap.size < w'.heap.size → wpList Try.prog ops Q rest (a.put o.dst (.pointer (some ⟨w.heap.size, 0, none⟩))) w') :
    wpList Try.prog ops Q (o :: rest) a w :=
  box_law w hg x t hop k xs hx (hK _ (Ar.new w t k xs) ((Below.refl _ _).alloc (Nat.le_refl _) _) (by simp))
end

section
variable {ops : Array Oper} {o : Oper} {a : Act} {Q : Exit → Act → World → Prop} {K : Act → World → Prop} {E : Prop}
/-- one number of an array is written, in a region that draws its order -/
theorem step_set (w : World) (hg : o.guard = none) (d : Option Tmp) (hd : o.dst = d) (x y : Operand) (t : TypeId) (hop : o.op = Op.store t x y) (k : IntKind) (n : Int) (b p : Nat) (hx : a.eval x = .pointer (some ⟨b, p, none⟩)) (hy : a.eval y = .int k n)
    (hc : (w.cell? ⟨b, p, none⟩).isSome = true) (hf : w.frozen? ⟨b, p, none⟩ = false) (hi : (Try.prog.info? t).map (·.size) = some 1)
    (hK : K (a.put d undef) (w.setCell ⟨b, p, none⟩ (.int k n))) :
    if Region.wanted o (yielded ops a.tmps) = true then Oper.wp Try.prog o a w K Q else E := by
  have hw : Region.wanted o (yielded ops a.tmps) = true := by simp [Region.wanted, hg]
  rw [if_pos hw]
  subst hd
  have hr : (storeVar t ⟨b, p, none⟩ (.int k n)).run Try.prog w = .ok () (w.setCell ⟨b, p, none⟩ (.int k n)) := by
    have e0 : ∀ j, j < [Value.int k n].length → j = 0 := fun j hj => by simpa using hj
    have := run_storeCells_cells (P := Try.prog) b p [.int k n] 0 w (fun j hj => by rw [e0 j hj]; simpa using hc) (fun j hj => by rw [e0 j hj]; simpa using hf) (fun v hv => by simp at hv; subst hv; rfl)
    cases hq : Try.prog.info? t with
    | none => simp [hq] at hi
    | some i =>
      have hs : i.size = 1 := by simpa [hq] using hi
      simp only [Nat.add_zero] at this
      simp [storeVar, sizeOf, typeInfo, hq, Value.cells, hs]
      simpa [World.setCells] using this
  unfold Oper.wp execOp
  simp only [hop, hx, hy, Instr.storeAt, Instr.sureAddr, Sem.run_bind, Sem.run_pure, Result.andThen_ok, hr]
  exact hK
end

section
variable {ops : Array Oper} {C : World → Prop} {K : Act → Prop} {o : Oper} {a : Act}
/-- an operation that yields a value, in every world of the class -/
theorem q_val (hw : Region.wanted o (yielded ops a.tmps) = true) (d : Option Tmp) (hd : o.dst = d) (v : Value) (hr : ∀ w, C w → (execOp a.eval o).run Try.prog w = .ok (.value v) w) (hK : K (a.put d v)) :
    if Region.wanted o (yielded ops a.tmps) = true then o.quiet Try.prog a C K else K (a.put o.dst undef) := by
  rw [if_pos hw]
  subst hd
  refine ⟨v, fun w hC => ?_, hK⟩
  unfold Oper.quietAt
  rw [hr w hC]
  exact ⟨rfl, rfl⟩
/-- a whole array is read -/
theorem q_load (hw : Region.wanted o (yielded ops a.tmps) = true) (d : Option Tmp) (hd : o.dst = d) (x : Operand) (t : TypeId) (hop : o.op = Op.load t x) (k : IntKind) (xs : List Int) (b : Nat) (hx : a.eval x = .pointer (some ⟨b, 0, none⟩)) (h : ∀ w, C w → Ar w b 0 k xs)
    (n : Nat) (e : TypeId) (hu : Try.prog.underlying t = some (.array n e)) (hi : (Try.prog.info? t).map (·.size) = some n) (hn : xs.length = n) (hK : K (a.put d (.agg (ints k xs)))) :
    if Region.wanted o (yielded ops a.tmps) = true then o.quiet Try.prog a C K else K (a.put o.dst undef) := by
  refine q_val hw d hd _ (fun w hC => ?_) hK
  have := run_loadVar_mid (P := Try.prog) w b 0 t _ _ (h w hC).1 hu rfl (by rw [hi]; simp [hn])
  unfold execOp
  simp only [hop, hx, Instr.loadAt, Instr.sureAddr, Sem.run_bind, Sem.run_pure, Result.andThen_ok, this]
  rfl
/-- two arrays that are the same -/
theorem q_eql (hw : Region.wanted o (yielded ops a.tmps) = true) (d : Option Tmp) (hd : o.dst = d) (x y : Operand) (t e t' : TypeId) (n : Nat) (hop : o.op = Op.binOp .eql t x y t') (k : IntKind) (xs : List Int) (hx : a.eval x = .agg (ints k xs)) (hy : a.eval y = .agg (ints k xs)) (hl : xs.length = n)
    (hu : Try.prog.underlying t = some (.array n e)) (he : Try.prog.underlying e = some (.int k)) (hsz : ∀ w, (sizeOf e).run Try.prog w = .ok 1 w) (hm : Try.prog.eqGuardType Try.prog.depth t = false) (hK : K (a.put d (.bool true))) :
    if Region.wanted o (yielded ops a.tmps) = true then o.quiet Try.prog a C K else K (a.put o.dst undef) := by
  refine q_val hw d hd _ (fun w _ => ?_) hK
  have hr : (Op.equalIn 10000 t (.agg (ints k xs)) (.agg (ints k xs))).run Try.prog w = .ok true w := by
    rw [show (10000 : Nat) = 9998 + 1 + 1 from rfl, Op.equalIn]
    simp only [Sem.run_bind, run_underlying hu, Result.andThen_ok, hsz, Std.Legacy.Range.forIn_eq_forIn_range', Std.Legacy.Range.size, Nat.sub_zero, Nat.add_sub_cancel, Nat.div_one]
    have hl' : ∀ i ∈ List.range' 0 n 1, i < n := fun i hi => by simpa using (List.mem_range'_1.1 hi).2
    generalize List.range' 0 n 1 = l at hl' ⊢
    induction l with
    | nil => simp
    | cons i l ih =>
      have hi : i < n := hl' i (by simp)
      have px : (Go.part e (ints k xs) (i * 1)).run Try.prog w = .ok (.int k (gb xs i)) w := by
        simp [Go.part, isAgg, run_underlying he, ints, gb, List.getD, List.getElem?_eq_getElem (show i < xs.length by omega)]
      have pe : (Op.equalIn (9998 + 1) e (.int k (gb xs i)) (.int k (gb xs i))).run Try.prog w = .ok true w := by
        rw [run_equalIn_int w 9998 e k k _ _ he]; simp
      simp only [List.forIn_cons, Sem.run_bind, px, pe, Result.andThen_ok, Bool.not_true, Bool.false_eq_true, if_false, Sem.run_pure]
      exact ih fun j hj => hl' j (by simp [hj])
  unfold execOp
  simp only [hop, hx, hy, Sem.run_bind, run_eqGuard_agg w .eql t x y _ _ hm, Result.andThen_ok, run_eql_struct, hr]
  rfl
/-- a call that hands back the same in every world of the class -/
theorem q_call (hw : Region.wanted o (yielded ops a.tmps) = true) (d : Option Tmp) (hd : o.dst = d) (f : FuncId) (xs : Array Operand) (ats : Array TypeId) (hop : o.op = .call { callee := .value (.func f), args := xs, argTypes := ats })
    (hcf : ∀ (q : Array Value) (w : World), (callFunc f q).run Try.prog w = .ok (.enter f q) w) (vs : Array Value) (hx : xs.map a.eval = vs) (v : Value) (hc : ∀ w, C w → Calls Try.prog f vs w fun e w' => e = .returned v ∧ C w') (hK : K (a.put d v)) :
    if Region.wanted o (yielded ops a.tmps) = true then o.quiet Try.prog a C K else K (a.put o.dst undef) := by
  rw [if_pos hw]
  subst hd
  refine ⟨v, fun w hC => ?_, hK⟩
  unfold Oper.quietAt
  simp only [execOp, hop]
  go_simp
  exact hc w hC
end
end Go.Proofs.Ytedmmpognhpbdaa
