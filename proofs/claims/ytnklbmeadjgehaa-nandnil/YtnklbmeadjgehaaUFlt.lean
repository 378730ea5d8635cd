/- Faults as values: how one lies in memory, is read, written, laid in a place of its own. No claim of its own. -/
import Derived.Test.YtnklbmeadjgehaaUOwn
namespace Go.Proofs.Ytnklbmeadjgehaa.fa
open Go.RowKit
set_option maxRecDepth 20000

/-- a fault's cells: its number, does the power go, its mask -/
def fl (f : Int × Bool × Value) : List Value := [.int .i64 f.1, .bool f.2.1, f.2.2]
/-- a fault as a value -/
def fv (f : Int × Bool × Value) : Value := .agg (fl f).toArray
/-- no fault -/
def f0 : Int × Bool × Value := (0, false, .slice none 0 0)
/-- the fault f lies in block b from place p on -/
def FlA (w : World) (b p : Nat) (f : Int × Bool × Value) : Prop := w.cell? ⟨b, p, none⟩ = some (.int .i64 f.1) ∧ w.cell? ⟨b, p + 1, none⟩ = some (.bool f.2.1) ∧ w.cell? ⟨b, p + 2, none⟩ = some f.2.2
theorem FlA.range {w : World} {b p : Nat} {f : Int × Bool × Value} (h : FlA w b p f) : w.rangeAt b p (fl f) := fun j v hv => by
  match j, hv with
  | 0, hv => simp [fl] at hv; subst hv; exact h.1
  | 1, hv => simp [fl] at hv; subst hv; exact h.2.1
  | 2, hv => simp [fl] at hv; subst hv; exact h.2.2
  | j + 3, hv => simp [fl] at hv
theorem FlA.of {w : World} {b p : Nat} {f : Int × Bool × Value} (h : w.rangeAt b p (fl f)) : FlA w b p f := ⟨h 0 _ rfl, h 1 _ rfl, h 2 _ rfl⟩
theorem FlA.lt {w : World} {b p : Nat} {f : Int × Bool × Value} (h : FlA w b p f) : b < w.heap.size := World.block_lt_of_cell? w _ h.1
theorem FlA.heap {w w' : World} {b p : Nat} {f : Int × Bool × Value} (h : FlA w b p f) (e : w'.heap[b]? = w.heap[b]?) : FlA w' b p f :=
  ⟨by rw [World.cell?_of_block (w := w) (w' := w') (a := ⟨b, p, none⟩) e]; exact h.1, by rw [World.cell?_of_block (w := w) (w' := w') (a := ⟨b, p + 1, none⟩) e]; exact h.2.1, by rw [World.cell?_of_block (w := w) (w' := w') (a := ⟨b, p + 2, none⟩) e]; exact h.2.2⟩
theorem FlA.below {w w' : World} {b p B : Nat} {f : Int × Bool × Value} (h : FlA w b p f) (hb : Below B w w') (hB : b < B) : FlA w' b p f := h.heap (hb.block b hB)

/-- a variable that holds a fault -/
def FlV (w : World) (c : Nat) (f : Int × Bool × Value) : Prop := FlA w c 0 f ∧ w.there c 0 3
theorem FlV.heap {w w' : World} {c : Nat} {f : Int × Bool × Value} (h : FlV w c f) (e : w'.heap[c]? = w.heap[c]?) : FlV w' c f :=
  ⟨h.1.heap e, fun j hj => by
    rw [World.cell?_of_block (w := w) (w' := w') (a := ⟨c, 0 + j, none⟩) e, World.frozen?_of_block (w := w) (w' := w') (a := ⟨c, 0 + j, none⟩) e]
    exact h.2 j hj⟩
theorem FlV.below {w w' : World} {c B : Nat} {f : Int × Bool × Value} (h : FlV w c f) (hb : Below B w w') (hc : c < B) : FlV w' c f := h.heap (hb.block c hc)
theorem flv_other {w : World} {c b o : Nat} {f : Int × Bool × Value} (h : FlV w c f) (u : Value) (hp : c ≠ b) : FlV (w.setCell ⟨b, o, none⟩ u) c f := h.heap (Below.heap_setCell w ⟨b, o, none⟩ u c hp)
theorem FlV.new (w : World) (f : Int × Bool × Value) : FlV (w.alloc (.cells (fl f).toArray 67)) w.heap.size f := by
  have e := fun j => cell_of_row (w.alloc (.cells (fl f).toArray 67)) w.heap.size j _ 67 (0, 0) (heap_alloc_last w _)
  refine ⟨⟨by rw [e]; rfl, by rw [e]; rfl, by rw [e]; rfl⟩, fun j hj => ⟨?_, World.frozen?_alloc_at _ _ _ _ rfl⟩⟩
  rw [e]
  have : j = 0 ∨ j = 1 ∨ j = 2 := by omega
  rcases this with rfl | rfl | rfl <;> rfl
/-- its mask is written -/
theorem FlV.mask {w : World} {c : Nat} {f : Int × Bool × Value} (h : FlV w c f) (m : Value) : FlV (w.setCell ⟨c, 2, none⟩ m) c (f.1, f.2.1, m) := by
  refine ⟨⟨?_, ?_, ?_⟩, fun j hj => ?_⟩
  · rw [World.cell?_setCell_other _ _ _ _ (by intro e; injection e with _ e2; omega)]; exact h.1.1
  · rw [World.cell?_setCell_other _ _ _ _ (by intro e; injection e with _ e2; omega)]; exact h.1.2.1
  · exact World.cell?_setCell_same _ _ _ h.1.2.2
  · refine ⟨?_, by rw [World.frozen?_setCell]; exact (h.2 j hj).2⟩
    by_cases e : j = 2
    · subst e
      rw [show (0 + 2 : Nat) = 2 from rfl, World.cell?_setCell_same _ _ _ h.1.2.2]; rfl
    · rw [World.cell?_setCell_other _ _ _ _ (by intro q; injection q with _ e2; omega)]; exact (h.2 j hj).1

theorem size_fault : (Try.prog.info? 67).map (·.size) = some 3 := by kernel_rfl
theorem zero_fault : (Try.prog.info? 67).map (fun i => (i.zero, i.size)) = some (some (fv f0), 3) := by kernel_rfl
theorem und_fault : ∃ d, Try.prog.underlying 67 = some d ∧ d.isRow = true := ⟨_, Try.underlying67, rfl⟩
/-- a fault is read -/
theorem run_loadF {w : World} {b p : Nat} {f : Int × Bool × Value} (h : FlA w b p f) : (loadVar 67 ⟨b, p, none⟩).run Try.prog w = .ok (fv f) w := by
  obtain ⟨d, hu, hd⟩ := und_fault
  have := run_loadVar_mid (P := Try.prog) w b p 67 _ _ h.range hu hd (by rw [size_fault]; rfl)
  simpa [fv] using this
theorem load_fault {w : World} {b p : Nat} {f : Int × Bool × Value} (h : FlA w b p f) : (Instr.loadAt 67 (.pointer (some ⟨b, p, none⟩))).run Try.prog w = .ok (fv f) w := by
  simp only [Instr.loadAt, Instr.sureAddr, Sem.run_bind, Sem.run_pure, Result.andThen_ok, run_loadF h]
theorem results_flt {fn : Func} {p : Tmp} (h : fn.results = #[.cell p 67]) (tmps : Array Value) (w : World) (b : Nat) (f : Int × Bool × Value) (hp : tmps.getD p undef = .pointer (some ⟨b, 0, none⟩)) (ha : FlA w b 0 f) : (results fn tmps).run Try.prog w = .ok (fv f) w := by
  have hp' : tmps[p]?.getD undef = .pointer (some ⟨b, 0, none⟩) := by simpa using hp
  simp [results, h, hp', asAddr, run_loadF ha]
theorem results_fltB {fn : Func} {p q : Tmp} (h : fn.results = #[.cell p 67, .tmp q]) (tmps : Array Value) (w : World) (b : Nat) (f : Int × Bool × Value) (t : Bool) (hp : tmps.getD p undef = .pointer (some ⟨b, 0, none⟩)) (hq : tmps.getD q undef = .bool t) (ha : FlA w b 0 f) : (results fn tmps).run Try.prog w = .ok (.tuple #[fv f, .bool t]) w := by
  have hp' : tmps[p]?.getD undef = .pointer (some ⟨b, 0, none⟩) := by simpa using hp
  have hq' : tmps[q]?.getD undef = .bool t := by simpa using hq
  simp [results, h, hp', hq', asAddr, run_loadF ha]

section
variable {ops : Array Oper} {rest : List Oper} {a : Act} {Q : Exit → Act → World → Prop}
/-- a struct is read -/
theorem load_lawS {d : Option Tmp} {t : TypeId} {x : Operand} {ty : TypeId} {pos : String} {af : Array Edge} {gd : Option (Nat × Bool)} (w : World) (hw : Region.wanted ⟨d, Op.load t x, ty, pos, af, gd⟩ (yielded ops a.tmps) = true) (p v : Value) (hx : a.eval x = p) (h : (Instr.loadAt t p).run Try.prog w = .ok v w)
    (hK : wpList Try.prog ops Q rest (a.put d v) w) : wpList Try.prog ops Q (⟨d, Op.load t x, ty, pos, af, gd⟩ :: rest) a w := by
  refine wpList_step fun K hK' => ?_
  rw [if_pos hw]
  unfold Oper.wp execOp
  simp only [hx, Sem.run_bind, Result.andThen_ok, h]
  exact hK' _ _ hK
/-- a fault gets a place -/
theorem box_lawV {d : Option Tmp} {x : Operand} {ty : TypeId} {pos : String} {af : Array Edge} (w : World) (f : Int × Bool × Value) (hx : a.eval x = fv f)
    (hK : ∀ w', FlV w' w.heap.size f → Below w.heap.size w w' → w.heap.size < w'.heap.size → wpList Try.prog ops Q rest (a.put d (.pointer (some ⟨w.heap.size, 0, none⟩))) w') :
    wpList Try.prog ops Q (⟨d, Op.box 67 x, ty, pos, af, none⟩ :: rest) a w := by
  refine wpList_plain rfl fun K hK' => ?_
  unfold Oper.wp
  simp [execOp, hx, Instr.box, newVar, newRow, fv, Value.cells, Result.andThen]
  exact hK' _ _ (hK _ (FlV.new w f) ((Below.refl _ _).alloc (Nat.le_refl _) _) (by simp))
/-- a variable for a fault -/
theorem new_lawV {d : Option Tmp} {ty : TypeId} {pos : String} {af : Array Edge} (w : World)
    (hK : ∀ w', FlV w' w.heap.size f0 → Below w.heap.size w w' → w.heap.size < w'.heap.size → wpList Try.prog ops Q rest (a.put d (.pointer (some ⟨w.heap.size, 0, none⟩))) w') :
    wpList Try.prog ops Q (⟨d, Op.alloc 67, ty, pos, af, none⟩ :: rest) a w := by
  refine wpList_plain rfl fun K hK' => ?_
  have hz' := (zero_of_info zero_fault).1
  unfold Oper.wp
  simp [execOp, Instr.alloc, hz', newVar, newRow, fv, Value.cells, Result.andThen]
  exact hK' _ _ (hK _ (FlV.new w f0) ((Below.refl _ _).alloc (Nat.le_refl _) _) (by simp))
/-- a fault is written -/
theorem store_lawV {d : Option Tmp} {x y : Operand} {ty : TypeId} {pos : String} {af : Array Edge} (w : World) (f : Int × Bool × Value) (b p : Nat) (hx : a.eval x = .pointer (some ⟨b, p, none⟩)) (hy : a.eval y = fv f) (ht : w.there b p 3) (hm : f.2.2.oneCell' = true)
    (hK : ∀ w', Hid (w' = w.setCells b p (fl f)) → FlA w' b p f → w'.there b p 3 → Below b w w' → wpList Try.prog ops Q rest (a.put d undef) w') :
    wpList Try.prog ops Q (⟨d, Op.store 67 x y, ty, pos, af, none⟩ :: rest) a w := by
  refine wpList_store_mid rfl 67 x y rfl b p (fl f).toArray hx hy ht (by rw [size_fault]; rfl) (all_oneCell_toArray fun v hv => ?_) ?_
  · simp [fl] at hv
    rcases hv with rfl | rfl | rfl
    · rfl
    · rfl
    · exact hm
  · exact hK _ rfl (FlA.of (World.rangeAt_setCells_same w b p (fl f) ht)) (World.there_setCells ht b p _) (below_cells _ (Nat.le_refl _) _ _ (Below.refl _ _))
end
end Go.Proofs.Ytnklbmeadjgehaa.fa
