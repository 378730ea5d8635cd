/- Structs of any cells in a place of their own: read, written. No claim of its own. -/
import Derived.Test.YtedmmpognhpbdaaStepG
import Derived.Test.YtedmmpognhpbdaaUOwn
namespace Go.Proofs.Ytedmmpognhpbdaa.he
open Go.RowKit Go.Proofs.Ytedmmpognhpbdaa.fa
set_option maxRecDepth 20000

/-- a variable at c that holds the cells cs -/
def Vr (w : World) (c : Nat) (cs : List Value) : Prop := w.rangeAt c 0 cs ∧ w.there c 0 cs.length
theorem range_heap {w w' : World} {b p : Nat} {cs : List Value} (h : w.rangeAt b p cs) (e : w'.heap[b]? = w.heap[b]?) : w'.rangeAt b p cs := fun j v hv => by
  rw [World.cell?_of_block (w := w) (w' := w') (a := ⟨b, p + j, none⟩) e]; exact h j v hv
theorem there_heap {w w' : World} {b p n : Nat} (h : w.there b p n) (e : w'.heap[b]? = w.heap[b]?) : w'.there b p n := fun j hj => by
  rw [World.cell?_of_block (w := w) (w' := w') (a := ⟨b, p + j, none⟩) e, World.frozen?_of_block (w := w) (w' := w') (a := ⟨b, p + j, none⟩) e]
  exact h j hj
theorem range_lt {w : World} {b p : Nat} {cs : List Value} (h : w.rangeAt b p cs) (hp : 0 < cs.length) : b < w.heap.size := World.block_lt_of_cell? w _ (h 0 _ (List.getElem?_eq_getElem hp))
theorem Vr.heap {w w' : World} {c : Nat} {cs : List Value} (h : Vr w c cs) (e : w'.heap[c]? = w.heap[c]?) : Vr w' c cs := ⟨range_heap h.1 e, there_heap h.2 e⟩
theorem Vr.below {w w' : World} {c B : Nat} {cs : List Value} (h : Vr w c cs) (hb : Below B w w') (hc : c < B) : Vr w' c cs := h.heap (hb.block c hc)
theorem Vr.drewN {w : World} {c : Nat} {cs : List Value} (h : Vr w c cs) (n : Nat) : Vr (w.drewN n) c cs := h.heap rfl
theorem Vr.other {w : World} {c b o : Nat} {cs : List Value} (h : Vr w c cs) (u : Value) (hp : c ≠ b) : Vr (w.setCell ⟨b, o, none⟩ u) c cs := h.heap (Below.heap_setCell w ⟨b, o, none⟩ u c hp)
theorem Vr.cell {w : World} {c : Nat} {cs : List Value} (h : Vr w c cs) (j : Nat) (v : Value) (hv : cs[j]? = some v) : w.cell? ⟨c, j, none⟩ = some v := by
  have := h.1 j v hv
  rwa [Nat.zero_add] at this
theorem Vr.free {w : World} {c : Nat} {cs : List Value} (h : Vr w c cs) (j : Nat) (hj : j < cs.length) : w.frozen? ⟨c, j, none⟩ = false := by
  have := (h.2 j hj).2
  rwa [Nat.zero_add] at this
theorem Vr.set {w : World} {c : Nat} {cs : List Value} (h : Vr w c cs) (j : Nat) (hj : j < cs.length) (u : Value) : Vr (w.setCell ⟨c, j, none⟩ u) c (cs.set j u) := by
  have hc := h.cell j _ (List.getElem?_eq_getElem hj)
  refine ⟨fun i v hv => ?_, fun i hi => ?_⟩
  · rw [Nat.zero_add]
    rw [List.getElem?_set] at hv
    by_cases e : j = i
    · subst e
      rw [if_pos rfl, if_pos hj] at hv
      cases hv
      exact World.cell?_setCell_same _ _ _ hc
    · rw [if_neg e] at hv
      rw [World.cell?_setCell_other _ _ _ _ (by intro q; injection q with _ q2; omega)]
      exact h.cell i v hv
  · rw [List.length_set] at hi
    rw [Nat.zero_add]
    refine ⟨?_, by rw [World.frozen?_setCell]; exact h.free i hi⟩
    by_cases e : j = i
    · subst e
      rw [World.cell?_setCell_same _ _ _ hc]; rfl
    · rw [World.cell?_setCell_other _ _ _ _ (by intro q; injection q with _ q2; omega), h.cell i _ (List.getElem?_eq_getElem hi)]; rfl
theorem Vr.new (w : World) (t : TypeId) (cs : List Value) : Vr (w.alloc (.cells cs.toArray t)) w.heap.size cs := by
  have e := fun j => cell_of_row (w.alloc (.cells cs.toArray t)) w.heap.size j _ t (0, 0) (heap_alloc_last w _)
  refine ⟨fun j v hv => by rw [Nat.zero_add, e]; simpa using hv, fun j hj => ⟨?_, World.frozen?_alloc_at _ _ _ _ rfl⟩⟩
  rw [Nat.zero_add, e]
  simp [hj]

/-- a type of structs (or of arrays) of n cells -/
def Rowy (t : TypeId) (n : Nat) : Prop := (∃ d, Try.prog.underlying t = some d ∧ d.isRow = true) ∧ (Try.prog.info? t).map (·.size) = some n
theorem run_loadC {w : World} {b p : Nat} {t : TypeId} {cs : List Value} (ht : Rowy t cs.length) (h : w.rangeAt b p cs) : (loadVar t ⟨b, p, none⟩).run Try.prog w = .ok (.agg cs.toArray) w := by
  obtain ⟨⟨d, hu, hd⟩, hs⟩ := ht
  exact run_loadVar_mid (P := Try.prog) w b p t _ _ h hu hd hs
theorem load_cells {w : World} {b p : Nat} {t : TypeId} {cs : List Value} (ht : Rowy t cs.length) (h : w.rangeAt b p cs) : (Instr.loadAt t (.pointer (some ⟨b, p, none⟩))).run Try.prog w = .ok (.agg cs.toArray) w := by
  simp only [Instr.loadAt, Instr.sureAddr, Sem.run_bind, Sem.run_pure, Result.andThen_ok, run_loadC ht h]
theorem results_c {fn : Func} {p : Tmp} {t : TypeId} (h : fn.results = #[.cell p t]) (tmps : Array Value) (w : World) (b : Nat) (cs : List Value) (ht : Rowy t cs.length) (hp : tmps.getD p undef = .pointer (some ⟨b, 0, none⟩)) (ha : w.rangeAt b 0 cs) : (results fn tmps).run Try.prog w = .ok (.agg cs.toArray) w := by
  have hp' : tmps[p]?.getD undef = .pointer (some ⟨b, 0, none⟩) := by simpa using hp
  simp [results, h, hp', asAddr, run_loadC ht ha]
theorem results_cv {fn : Func} {p q : Tmp} {t : TypeId} (h : fn.results = #[.cell p t, .tmp q]) (tmps : Array Value) (w : World) (b : Nat) (cs : List Value) (v : Value) (ht : Rowy t cs.length) (hp : tmps.getD p undef = .pointer (some ⟨b, 0, none⟩)) (hq : tmps.getD q undef = v) (ha : w.rangeAt b 0 cs) : (results fn tmps).run Try.prog w = .ok (.tuple #[.agg cs.toArray, v]) w := by
  have hp' : tmps[p]?.getD undef = .pointer (some ⟨b, 0, none⟩) := by simpa using hp
  have hq' : tmps[q]?.getD undef = v := by simpa using hq
  simp [results, h, hp', hq', asAddr, run_loadC ht ha]

section
variable {ops : Array Oper} {rest : List Oper} {a : Act} {Q : Exit → Act → World → Prop}
/-- a struct gets a place -/
theorem box_lawC {d : Option Tmp} {x : Operand} {t ty : TypeId} {pos : String} {af : Array Edge} (w : World) (cs : List Value) (hx : a.eval x = .agg cs.toArray)
    (hK : ∀ w', Vr w' w.heap.size cs → Below w.heap.size w w' → w.heap.size < w'.heap.size → wpList Try.prog ops Q rest (a.put d (.pointer (some ⟨w.heap.size, 0, none⟩))) w') :
    wpList Try.prog ops Q (⟨d, Op.box t x, ty, pos, af, none⟩ :: rest) a w := by
  refine wpList_plain rfl fun K hK' => ?_
  unfold Oper.wp
  simp [execOp, hx, Instr.box, newVar, newRow, Value.cells, Result.andThen]
  exact hK' _ _ (hK _ (Vr.new w t cs) ((Below.refl _ _).alloc (Nat.le_refl _) _) (by simp))
/-- a variable for a struct -/
theorem new_lawC {d : Option Tmp} {t ty : TypeId} {pos : String} {af : Array Edge} (w : World) (cs : List Value) (hz : (Try.prog.info? t).map (fun i => (i.zero, i.size)) = some (some (.agg cs.toArray), cs.length))
    (hK : ∀ w', Vr w' w.heap.size cs → Below w.heap.size w w' → w.heap.size < w'.heap.size → wpList Try.prog ops Q rest (a.put d (.pointer (some ⟨w.heap.size, 0, none⟩))) w') :
    wpList Try.prog ops Q (⟨d, Op.alloc t, ty, pos, af, none⟩ :: rest) a w := by
  refine wpList_plain rfl fun K hK' => ?_
  have hz' := (zero_of_info hz).1
  unfold Oper.wp
  simp [execOp, Instr.alloc, hz', newVar, newRow, Value.cells, Result.andThen]
  exact hK' _ _ (hK _ (Vr.new w t cs) ((Below.refl _ _).alloc (Nat.le_refl _) _) (by simp))
/-- a struct is written -/
theorem store_lawC {d : Option Tmp} {x y : Operand} {t ty : TypeId} {pos : String} {af : Array Edge} (w : World) (cs : List Value) (b p : Nat) (hx : a.eval x = .pointer (some ⟨b, p, none⟩)) (hy : a.eval y = .agg cs.toArray) (ht : w.there b p cs.length) (hs : (Try.prog.info? t).map (·.size) = some cs.length) (h1 : ∀ v ∈ cs, v.oneCell' = true)
    (hK : ∀ w', Hid (w' = w.setCells b p cs) → w'.rangeAt b p cs → w'.there b p cs.length → Below b w w' → wpList Try.prog ops Q rest (a.put d undef) w') :
    wpList Try.prog ops Q (⟨d, Op.store t x y, ty, pos, af, none⟩ :: rest) a w := by
  refine wpList_store_mid rfl t x y rfl b p cs.toArray hx hy (by simpa using ht) (by simpa using hs) (all_oneCell_toArray h1) ?_
  exact hK _ rfl (World.rangeAt_setCells_same w b p cs ht) (World.there_setCells ht b p _) (below_cells _ (Nat.le_refl _) _ _ (Below.refl _ _))
end

theorem results_cvv {fn : Func} {p q r : Tmp} {t : TypeId} (h : fn.results = #[.cell p t, .tmp q, .tmp r]) (tmps : Array Value) (w : World) (b : Nat) (cs : List Value) (v u : Value) (ht : Rowy t cs.length) (hp : tmps.getD p undef = .pointer (some ⟨b, 0, none⟩)) (hq : tmps.getD q undef = v) (hr : tmps.getD r undef = u) (ha : w.rangeAt b 0 cs) : (results fn tmps).run Try.prog w = .ok (.tuple #[.agg cs.toArray, v, u]) w := by
  have hp' : tmps[p]?.getD undef = .pointer (some ⟨b, 0, none⟩) := by simpa using hp
  have hq' : tmps[q]?.getD undef = v := by simpa using hq
  have hr' : tmps[r]?.getD undef = u := by simpa using hr
  simp [results, h, hp', hq', hr', asAddr, run_loadC ht ha]

/-- a head's cells -/
def hv (k n c l e t : Int) : List Value := [.int .i64 k, .int .i64 n, .int .i64 c, .int .u32 l, .int .u64 e, .int .u64 t]

theorem rowy_head : Rowy 35 6 := ⟨⟨_, Try.underlying35, rfl⟩, by kernel_rfl⟩
theorem zero_head : (Try.prog.info? 35).map (fun i => (i.zero, i.size)) = some (some (.agg (hv 0 0 0 0 0 0).toArray), 6) := by kernel_rfl

theorem hv_one (k n c l e t : Int) : ∀ v ∈ hv k n c l e t, v.oneCell' = true := fun v hv' => by
  simp [hv] at hv'
  rcases hv' with rfl | rfl | rfl | rfl | rfl | rfl <;> rfl

/-- an array's element -/
theorem idx_law {ops : Array Oper} {rest : List Oper} {o : Oper} {a : Act} {Q : Exit → Act → World → Prop} (w : World) (hg : o.guard = none) (x y : Operand) (t : TypeId) (hop : o.op = Op.index t x y) (v i q : Value) (hx : a.eval x = v) (hy : a.eval y = i)
    (hr : (Instr.index t v i).run Try.prog w = .ok q w) (hK : wpList Try.prog ops Q rest (a.put o.dst q) w) : wpList Try.prog ops Q (o :: rest) a w := by
  refine wpList_plain hg fun K hK' => ?_
  unfold Oper.wp execOp
  simp only [hop, hx, hy, Sem.run_bind, Sem.run_pure, Result.andThen_ok, hr]
  exact hK' _ _ hK
end Go.Proofs.Ytedmmpognhpbdaa.he
