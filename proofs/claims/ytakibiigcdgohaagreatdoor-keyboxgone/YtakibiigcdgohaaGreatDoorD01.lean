/- Parts of the proof: what KeyboxGone reaches. No claim of its own. -/
import Derived.Laws.AppendOwnNone
import Derived.Deep.WholeRow
import Derived.Deep.MidRow
import Derived.Laws.StructEq
import Derived.WalkKit
import Derived.Deep.QuietTactic
import Derived.Deep.RegionHeld3
import Derived.WalkSmall
import Derived.ProofKit
import Derived.OpenShut
import Derived.BigQuiet
import Derived.Lib.SliceRun
import Derived.Test.YtakibiigcdgohaaGreatDoorD00
set_option maxHeartbeats 8000000
namespace Go.Proofs.YtakibiigcdgohaaGreatDoor.fa
open Go.RowKit
set_option maxRecDepth 20000
def OwnC (B : Nat) (w : World) (g n cap : Nat) (xs : List Int) : Prop := xs.length = n ∧ B ≤ g ∧ w.ownsRow B 5 1 (.slice (some ⟨g, 0, none⟩) n cap) n (xs.map (Value.int .u8))
theorem OwnC.free {B : Nat} {w : World} {g n cap : Nat} {xs : List Int} (h : OwnC B w g n cap xs) (k : Nat) : w.frozen? ⟨g, k, none⟩ = false := h.2.2.frozenAt k
theorem own_row {B : Nat} {w : World} {v : Value} {xs : List Int} (h : Own B w v xs) (hp : 0 < xs.length) : ∃ g cap, v = .slice (some ⟨g, 0, none⟩) xs.length cap ∧ OwnC B w g xs.length cap xs := by
  rcases h.2 with ⟨_, hn⟩ | ⟨g, cap, cur, rfl, hg, hr⟩
  · omega
  · exact ⟨g, cap, rfl, rfl, hg, h⟩
theorem pushs_law {ops : Array Oper} {rest : List Oper} {o : Oper} {a : Act} {Q : Exit → Act → World → Prop} (w : World) (hg : o.guard = none) (s x : Operand) (hop : o.op = .call { callee := .builtin .append, args := #[s, x], argTypes := #[35, 35] })
    (B : Nat) (hB : B ≤ w.heap.size) (v vy : Value) (xs ys : List Int) (hs : a.eval s = v) (hx : a.eval x = vy) (hown : Own B w v xs) (hy : Byt w vy ys) (hm : xs.length + ys.length ≤ 140737488355328)
    (hK : ∀ v' w', Own B w' v' (xs ++ ys) → Below B w w' → wpList Tryz.prog ops Q rest (a.put o.dst v') w') :
    wpList Tryz.prog ops Q (o :: rest) a w := by
  obtain ⟨i0, hi, hz0, hz1, hz2⟩ := info_parts info_u8
  obtain ⟨ao, cap, rfl, h1, h2, h3, h4, h5⟩ := hy
  cases ao with
  | none =>
    have hc := h4 rfl
    subst hc
    have : ys = [] := List.eq_nil_of_length_eq_zero (by omega)
    subst this
    refine wpList_append_own_none hg s x 35 hop B 5 i0 1 Tryz.underlying35 hi v xs.length _ hs hown hx (hK v w ?_ (Below.refl _ _))
    rwa [List.append_nil]
  | some ad =>
    refine wpList_append_own _ hg s x 35 hop B 5 i0 (.int .u8 0) 1 1 Tryz.underlying35 hi hz0 hz1 hz2 rfl (by decide) v xs.length _ hs hown ad ys.length cap (ys.map (Value.int .u8)) hx (by simp) ?_ ?_ (by simp only [maxLen]; omega) (by omega) hB fun v' w' h1 h2 _ => ?_
    · intro j u hj
      have hjl : j < ys.length := by have := (List.getElem?_eq_some_iff.1 hj).1; simpa using this
      obtain ⟨b, off, e, hc⟩ := h5 (by omega)
      cases e
      rw [Addr.add_mid, hc j hjl, ← hj]
      simp [gb, List.getD, hjl]
    · intro u hu
      simp only [List.mem_map] at hu
      obtain ⟨y, _, rfl⟩ := hu
      rfl
    · refine hK v' w' ?_ ?_
      · show w'.ownsRow B 5 1 v' (xs ++ ys).length ((xs ++ ys).map (Value.int .u8))
        simpa using h1
      · exact (Below.refl B w).grown h2 hB fun k hk => (World.ownsRow.lt hown k hk).1
end Go.Proofs.YtakibiigcdgohaaGreatDoor.fa
namespace Go.Proofs.YtakibiigcdgohaaGreatDoor.fa
open Go.RowKit
set_option maxRecDepth 20000
def fl (f : Int × Bool × Value) : List Value := [.int .i64 f.1, .bool f.2.1, f.2.2]
def fv (f : Int × Bool × Value) : Value := .agg (fl f).toArray
def f0 : Int × Bool × Value := (0, false, .slice none 0 0)
def FlA (w : World) (b p : Nat) (f : Int × Bool × Value) : Prop := w.cell? ⟨b, p, none⟩ = some (.int .i64 f.1) ∧ w.cell? ⟨b, p + 1, none⟩ = some (.bool f.2.1) ∧ w.cell? ⟨b, p + 2, none⟩ = some f.2.2
theorem FlA.range {w : World} {b p : Nat} {f : Int × Bool × Value} (h : FlA w b p f) : w.rangeAt b p (fl f) := fun j v hv => by
  match j, hv with
  | 0, hv => simp [fl] at hv; subst hv; exact h.1
  | 1, hv => simp [fl] at hv; subst hv; exact h.2.1
  | 2, hv => simp [fl] at hv; subst hv; exact h.2.2
  | j + 3, hv => simp [fl] at hv
theorem FlA.of {w : World} {b p : Nat} {f : Int × Bool × Value} (h : w.rangeAt b p (fl f)) : FlA w b p f := ⟨h 0 _ rfl, h 1 _ rfl, h 2 _ rfl⟩
theorem FlA.lt {w : World} {b p : Nat} {f : Int × Bool × Value} (h : FlA w b p f) : b < w.heap.size := World.block_lt_of_cell? w _ h.1
theorem FlA.heap {w w' : World} {b p : Nat} {f : Int × Bool × Value} (h : FlA w b p f) (e : w'.heap[b]? = w.heap[b]?) : FlA w' b p f :=
  ⟨by rw [World.cell?_of_block (w := w) (w' := w') (a := ⟨b, p, none⟩) e]; exact h.1, by rw [World.cell?_of_block (w := w) (w' := w') (a := ⟨b, p + 1, none⟩) e]; exact h.2.1, by rw [World.cell?_of_block (w := w) (w' := w') (a := ⟨b, p + 2, none⟩) e]; exact h.2.2⟩
theorem FlA.below {w w' : World} {b p B : Nat} {f : Int × Bool × Value} (h : FlA w b p f) (hb : Below B w w') (hB : b < B) : FlA w' b p f := h.heap (hb.block b hB)
def FlV (w : World) (c : Nat) (f : Int × Bool × Value) : Prop := FlA w c 0 f ∧ w.there c 0 3
theorem FlV.heap {w w' : World} {c : Nat} {f : Int × Bool × Value} (h : FlV w c f) (e : w'.heap[c]? = w.heap[c]?) : FlV w' c f :=
  ⟨h.1.heap e, fun j hj => by
    rw [World.cell?_of_block (w := w) (w' := w') (a := ⟨c, 0 + j, none⟩) e, World.frozen?_of_block (w := w) (w' := w') (a := ⟨c, 0 + j, none⟩) e]
    exact h.2 j hj⟩
theorem FlV.below {w w' : World} {c B : Nat} {f : Int × Bool × Value} (h : FlV w c f) (hb : Below B w w') (hc : c < B) : FlV w' c f := h.heap (hb.block c hc)
theorem flv_other {w : World} {c b o : Nat} {f : Int × Bool × Value} (h : FlV w c f) (u : Value) (hp : c ≠ b) : FlV (w.setCell ⟨b, o, none⟩ u) c f := h.heap (Below.heap_setCell w ⟨b, o, none⟩ u c hp)
theorem FlV.new (w : World) (f : Int × Bool × Value) : FlV (w.alloc (.cells (fl f).toArray 63)) w.heap.size f := by
  have e := fun j => cell_of_row (w.alloc (.cells (fl f).toArray 63)) w.heap.size j _ 63 (0, 0) (heap_alloc_last w _)
  refine ⟨⟨by rw [e]; rfl, by rw [e]; rfl, by rw [e]; rfl⟩, fun j hj => ⟨?_, World.frozen?_alloc_at _ _ _ _ rfl⟩⟩
  rw [e]
  have : j = 0 ∨ j = 1 ∨ j = 2 := by omega
  rcases this with rfl | rfl | rfl <;> rfl
theorem FlV.mask {w : World} {c : Nat} {f : Int × Bool × Value} (h : FlV w c f) (m : Value) : FlV (w.setCell ⟨c, 2, none⟩ m) c (f.1, f.2.1, m) := by
  refine ⟨⟨?_, ?_, ?_⟩, fun j hj => ?_⟩
  · rw [World.cell?_setCell_other _ _ _ _ (by intro e; injection e with _ e2; omega)]; exact h.1.1
  · rw [World.cell?_setCell_other _ _ _ _ (by intro e; injection e with _ e2; omega)]; exact h.1.2.1
  · exact World.cell?_setCell_same _ _ _ h.1.2.2
  · refine ⟨?_, by rw [World.frozen?_setCell]; exact (h.2 j hj).2⟩
    by_cases e : j = 2
    · subst e
      rw [show (0 + 2 : Nat) = 2 from rfl, World.cell?_setCell_same _ _ _ h.1.2.2]; rfl
    · rw [World.cell?_setCell_other _ _ _ _ (by intro q; injection q with _ e2; omega)]; exact (h.2 j hj).1
theorem size_fault : (Tryz.prog.info? 63).map (·.size) = some 3 := by kernel_rfl
theorem zero_fault : (Tryz.prog.info? 63).map (fun i => (i.zero, i.size)) = some (some (fv f0), 3) := by kernel_rfl
theorem und_fault : ∃ d, Tryz.prog.underlying 63 = some d ∧ d.isRow = true := ⟨_, Tryz.underlying63, rfl⟩
theorem run_loadF {w : World} {b p : Nat} {f : Int × Bool × Value} (h : FlA w b p f) : (loadVar 63 ⟨b, p, none⟩).run Tryz.prog w = .ok (fv f) w := by
  obtain ⟨d, hu, hd⟩ := und_fault
  have := run_loadVar_mid (P := Tryz.prog) w b p 63 _ _ h.range hu hd (by rw [size_fault]; rfl)
  simpa [fv] using this
theorem load_fault {w : World} {b p : Nat} {f : Int × Bool × Value} (h : FlA w b p f) : (Instr.loadAt 63 (.pointer (some ⟨b, p, none⟩))).run Tryz.prog w = .ok (fv f) w := by
  simp only [Instr.loadAt, Instr.sureAddr, Sem.run_bind, Sem.run_pure, Result.andThen_ok, run_loadF h]
theorem results_flt {fn : Func} {p : Tmp} (h : fn.results = #[.cell p 63]) (tmps : Array Value) (w : World) (b : Nat) (f : Int × Bool × Value) (hp : tmps.getD p undef = .pointer (some ⟨b, 0, none⟩)) (ha : FlA w b 0 f) : (results fn tmps).run Tryz.prog w = .ok (fv f) w := by
  have hp' : tmps[p]?.getD undef = .pointer (some ⟨b, 0, none⟩) := by simpa using hp
  simp [results, h, hp', asAddr, run_loadF ha]
theorem results_fltB {fn : Func} {p q : Tmp} (h : fn.results = #[.cell p 63, .tmp q]) (tmps : Array Value) (w : World) (b : Nat) (f : Int × Bool × Value) (t : Bool) (hp : tmps.getD p undef = .pointer (some ⟨b, 0, none⟩)) (hq : tmps.getD q undef = .bool t) (ha : FlA w b 0 f) : (results fn tmps).run Tryz.prog w = .ok (.tuple #[fv f, .bool t]) w := by
  have hp' : tmps[p]?.getD undef = .pointer (some ⟨b, 0, none⟩) := by simpa using hp
  have hq' : tmps[q]?.getD undef = .bool t := by simpa using hq
  simp [results, h, hp', hq', asAddr, run_loadF ha]
section
variable {ops : Array Oper} {rest : List Oper} {a : Act} {Q : Exit → Act → World → Prop}
theorem load_lawS {d : Option Tmp} {t : TypeId} {x : Operand} {ty : TypeId} {pos : String} {af : Array Edge} {gd : Option (Nat × Bool)} (w : World) (hw : Region.wanted ⟨d, Op.load t x, ty, pos, af, gd⟩ (yielded ops a.tmps) = true) (p v : Value) (hx : a.eval x = p) (h : (Instr.loadAt t p).run Tryz.prog w = .ok v w)
    (hK : wpList Tryz.prog ops Q rest (a.put d v) w) : wpList Tryz.prog ops Q (⟨d, Op.load t x, ty, pos, af, gd⟩ :: rest) a w := by
  refine wpList_step fun K hK' => ?_
  rw [if_pos hw]
  unfold Oper.wp execOp
  simp only [hx, Sem.run_bind, Result.andThen_ok, h]
  exact hK' _ _ hK
theorem box_lawV {d : Option Tmp} {x : Operand} {ty : TypeId} {pos : String} {af : Array Edge} (w : World) (f : Int × Bool × Value) (hx : a.eval x = fv f)
    (hK : ∀ w', FlV w' w.heap.size f → Below w.heap.size w w' → w.heap.size < w'.heap.size → wpList Tryz.prog ops Q rest (a.put d (.pointer (some ⟨w.heap.size, 0, none⟩))) w') :
    wpList Tryz.prog ops Q (⟨d, Op.box 63 x, ty, pos, af, none⟩ :: rest) a w := by
  refine wpList_plain rfl fun K hK' => ?_
  unfold Oper.wp
  simp [execOp, hx, Instr.box, newVar, newRow, fv, Value.cells, Result.andThen]
  exact hK' _ _ (hK _ (FlV.new w f) ((Below.refl _ _).alloc (Nat.le_refl _) _) (by simp))
theorem new_lawV {d : Option Tmp} {ty : TypeId} {pos : String} {af : Array Edge} (w : World)
    (hK : ∀ w', FlV w' w.heap.size f0 → Below w.heap.size w w' → w.heap.size < w'.heap.size → wpList Tryz.prog ops Q rest (a.put d (.pointer (some ⟨w.heap.size, 0, none⟩))) w') :
    wpList Tryz.prog ops Q (⟨d, Op.alloc 63, ty, pos, af, none⟩ :: rest) a w := by
  refine wpList_plain rfl fun K hK' => ?_
  have hz' := (zero_of_info zero_fault).1
  unfold Oper.wp
  simp [execOp, Instr.alloc, hz', newVar, newRow, fv, Value.cells, Result.andThen]
  exact hK' _ _ (hK _ (FlV.new w f0) ((Below.refl _ _).alloc (Nat.le_refl _) _) (by simp))
theorem store_lawV {d : Option Tmp} {x y : Operand} {ty : TypeId} {pos : String} {af : Array Edge} (w : World) (f : Int × Bool × Value) (b p : Nat) (hx : a.eval x = .pointer (some ⟨b, p, none⟩)) (hy : a.eval y = fv f) (ht : w.there b p 3) (hm : f.2.2.oneCell' = true)
    (hK : ∀ w', Hid (w' = w.setCells b p (fl f)) → FlA w' b p f → w'.there b p 3 → Below b w w' → wpList Tryz.prog ops Q rest (a.put d undef) w') :
    wpList Tryz.prog ops Q (⟨d, Op.store 63 x y, ty, pos, af, none⟩ :: rest) a w := by
  refine wpList_store_mid rfl 63 x y rfl b p (fl f).toArray hx hy ht (by rw [size_fault]; rfl) (all_oneCell_toArray fun v hv => ?_) ?_
  · simp [fl] at hv
    rcases hv with rfl | rfl | rfl
    · rfl
    · rfl
    · exact hm
  · exact hK _ rfl (FlA.of (World.rangeAt_setCells_same w b p (fl f) ht)) (World.there_setCells ht b p _) (below_cells _ (Nat.le_refl _) _ _ (Below.refl _ _))
end
end Go.Proofs.YtakibiigcdgohaaGreatDoor.fa
namespace Go.Proofs.YtakibiigcdgohaaGreatDoor.na
open Go.RowKit Go.Proofs.YtakibiigcdgohaaGreatDoor.fa
set_option maxRecDepth 20000
def Vr (w : World) (c : Nat) (cs : List Value) : Prop := w.rangeAt c 0 cs ∧ w.there c 0 cs.length
theorem range_heap {w w' : World} {b p : Nat} {cs : List Value} (h : w.rangeAt b p cs) (e : w'.heap[b]? = w.heap[b]?) : w'.rangeAt b p cs := fun j v hv => by
  rw [World.cell?_of_block (w := w) (w' := w') (a := ⟨b, p + j, none⟩) e]; exact h j v hv
theorem there_heap {w w' : World} {b p n : Nat} (h : w.there b p n) (e : w'.heap[b]? = w.heap[b]?) : w'.there b p n := fun j hj => by
  rw [World.cell?_of_block (w := w) (w' := w') (a := ⟨b, p + j, none⟩) e, World.frozen?_of_block (w := w) (w' := w') (a := ⟨b, p + j, none⟩) e]
  exact h j hj
theorem range_lt {w : World} {b p : Nat} {cs : List Value} (h : w.rangeAt b p cs) (hp : 0 < cs.length) : b < w.heap.size := World.block_lt_of_cell? w _ (h 0 _ (List.getElem?_eq_getElem hp))
theorem Vr.heap {w w' : World} {c : Nat} {cs : List Value} (h : Vr w c cs) (e : w'.heap[c]? = w.heap[c]?) : Vr w' c cs := ⟨range_heap h.1 e, there_heap h.2 e⟩
theorem Vr.below {w w' : World} {c B : Nat} {cs : List Value} (h : Vr w c cs) (hb : Below B w w') (hc : c < B) : Vr w' c cs := h.heap (hb.block c hc)
theorem Vr.other {w : World} {c b o : Nat} {cs : List Value} (h : Vr w c cs) (u : Value) (hp : c ≠ b) : Vr (w.setCell ⟨b, o, none⟩ u) c cs := h.heap (Below.heap_setCell w ⟨b, o, none⟩ u c hp)
theorem Vr.cell {w : World} {c : Nat} {cs : List Value} (h : Vr w c cs) (j : Nat) (v : Value) (hv : cs[j]? = some v) : w.cell? ⟨c, j, none⟩ = some v := by
  have := h.1 j v hv
  rwa [Nat.zero_add] at this
theorem Vr.free {w : World} {c : Nat} {cs : List Value} (h : Vr w c cs) (j : Nat) (hj : j < cs.length) : w.frozen? ⟨c, j, none⟩ = false := by
  have := (h.2 j hj).2
  rwa [Nat.zero_add] at this
theorem Vr.set {w : World} {c : Nat} {cs : List Value} (h : Vr w c cs) (j : Nat) (hj : j < cs.length) (u : Value) : Vr (w.setCell ⟨c, j, none⟩ u) c (cs.set j u) := by
  have hc := h.cell j _ (List.getElem?_eq_getElem hj)
  refine ⟨fun i v hv => ?_, fun i hi => ?_⟩
  · rw [Nat.zero_add]
    rw [List.getElem?_set] at hv
    by_cases e : j = i
    · subst e
      rw [if_pos rfl, if_pos hj] at hv
      cases hv
      exact World.cell?_setCell_same _ _ _ hc
    · rw [if_neg e] at hv
      rw [World.cell?_setCell_other _ _ _ _ (by intro q; injection q with _ q2; omega)]
      exact h.cell i v hv
  · rw [List.length_set] at hi
    rw [Nat.zero_add]
    refine ⟨?_, by rw [World.frozen?_setCell]; exact h.free i hi⟩
    by_cases e : j = i
    · subst e
      rw [World.cell?_setCell_same _ _ _ hc]; rfl
    · rw [World.cell?_setCell_other _ _ _ _ (by intro q; injection q with _ q2; omega), h.cell i _ (List.getElem?_eq_getElem hi)]; rfl
theorem Vr.new (w : World) (t : TypeId) (cs : List Value) : Vr (w.alloc (.cells cs.toArray t)) w.heap.size cs := by
  have e := fun j => cell_of_row (w.alloc (.cells cs.toArray t)) w.heap.size j _ t (0, 0) (heap_alloc_last w _)
  refine ⟨fun j v hv => by rw [Nat.zero_add, e]; simpa using hv, fun j hj => ⟨?_, World.frozen?_alloc_at _ _ _ _ rfl⟩⟩
  rw [Nat.zero_add, e]
  simp [hj]
def Rowy (t : TypeId) (n : Nat) : Prop := (∃ d, Tryz.prog.underlying t = some d ∧ d.isRow = true) ∧ (Tryz.prog.info? t).map (·.size) = some n
theorem run_loadC {w : World} {b p : Nat} {t : TypeId} {cs : List Value} (ht : Rowy t cs.length) (h : w.rangeAt b p cs) : (loadVar t ⟨b, p, none⟩).run Tryz.prog w = .ok (.agg cs.toArray) w := by
  obtain ⟨⟨d, hu, hd⟩, hs⟩ := ht
  exact run_loadVar_mid (P := Tryz.prog) w b p t _ _ h hu hd hs
theorem load_cells {w : World} {b p : Nat} {t : TypeId} {cs : List Value} (ht : Rowy t cs.length) (h : w.rangeAt b p cs) : (Instr.loadAt t (.pointer (some ⟨b, p, none⟩))).run Tryz.prog w = .ok (.agg cs.toArray) w := by
  simp only [Instr.loadAt, Instr.sureAddr, Sem.run_bind, Sem.run_pure, Result.andThen_ok, run_loadC ht h]
theorem results_c {fn : Func} {p : Tmp} {t : TypeId} (h : fn.results = #[.cell p t]) (tmps : Array Value) (w : World) (b : Nat) (cs : List Value) (ht : Rowy t cs.length) (hp : tmps.getD p undef = .pointer (some ⟨b, 0, none⟩)) (ha : w.rangeAt b 0 cs) : (results fn tmps).run Tryz.prog w = .ok (.agg cs.toArray) w := by
  have hp' : tmps[p]?.getD undef = .pointer (some ⟨b, 0, none⟩) := by simpa using hp
  simp [results, h, hp', asAddr, run_loadC ht ha]
section
variable {ops : Array Oper} {rest : List Oper} {a : Act} {Q : Exit → Act → World → Prop}
theorem box_lawC {d : Option Tmp} {x : Operand} {t ty : TypeId} {pos : String} {af : Array Edge} (w : World) (cs : List Value) (hx : a.eval x = .agg cs.toArray)
    (hK : ∀ w', Vr w' w.heap.size cs → Below w.heap.size w w' → w.heap.size < w'.heap.size → wpList Tryz.prog ops Q rest (a.put d (.pointer (some ⟨w.heap.size, 0, none⟩))) w') :
    wpList Tryz.prog ops Q (⟨d, Op.box t x, ty, pos, af, none⟩ :: rest) a w := by
  refine wpList_plain rfl fun K hK' => ?_
  unfold Oper.wp
  simp [execOp, hx, Instr.box, newVar, newRow, Value.cells, Result.andThen]
  exact hK' _ _ (hK _ (Vr.new w t cs) ((Below.refl _ _).alloc (Nat.le_refl _) _) (by simp))
theorem new_lawC {d : Option Tmp} {t ty : TypeId} {pos : String} {af : Array Edge} (w : World) (cs : List Value) (hz : (Tryz.prog.info? t).map (fun i => (i.zero, i.size)) = some (some (.agg cs.toArray), cs.length))
    (hK : ∀ w', Vr w' w.heap.size cs → Below w.heap.size w w' → w.heap.size < w'.heap.size → wpList Tryz.prog ops Q rest (a.put d (.pointer (some ⟨w.heap.size, 0, none⟩))) w') :
    wpList Tryz.prog ops Q (⟨d, Op.alloc t, ty, pos, af, none⟩ :: rest) a w := by
  refine wpList_plain rfl fun K hK' => ?_
  have hz' := (zero_of_info hz).1
  unfold Oper.wp
  simp [execOp, Instr.alloc, hz', newVar, newRow, Value.cells, Result.andThen]
  exact hK' _ _ (hK _ (Vr.new w t cs) ((Below.refl _ _).alloc (Nat.le_refl _) _) (by simp))
theorem store_lawC {d : Option Tmp} {x y : Operand} {t ty : TypeId} {pos : String} {af : Array Edge} (w : World) (cs : List Value) (b p : Nat) (hx : a.eval x = .pointer (some ⟨b, p, none⟩)) (hy : a.eval y = .agg cs.toArray) (ht : w.there b p cs.length) (hs : (Tryz.prog.info? t).map (·.size) = some cs.length) (h1 : ∀ v ∈ cs, v.oneCell' = true)
    (hK : ∀ w', Hid (w' = w.setCells b p cs) → w'.rangeAt b p cs → w'.there b p cs.length → Below b w w' → wpList Tryz.prog ops Q rest (a.put d undef) w') :
    wpList Tryz.prog ops Q (⟨d, Op.store t x y, ty, pos, af, none⟩ :: rest) a w := by
  refine wpList_store_mid rfl t x y rfl b p cs.toArray hx hy (by simpa using ht) (by simpa using hs) (all_oneCell_toArray h1) ?_
  exact hK _ rfl (World.rangeAt_setCells_same w b p cs ht) (World.there_setCells ht b p _) (below_cells _ (Nat.le_refl _) _ _ (Below.refl _ _))
end
def el (ess : List (List Value)) (t : Nat) : List Value := ess.getD t []
def Rws (w : World) (v : Value) (k : Nat) (ess : List (List Value)) : Prop := ∃ ao cap, v = .slice ao ess.length cap ∧ ess.length ≤ cap ∧ cap ≤ 9223372036854775807 ∧ (ao = none → cap = 0) ∧ (∀ t, t < ess.length → (el ess t).length = k) ∧ (0 < ess.length → ∃ b off, ao = some ⟨b, off, none⟩ ∧ ∀ t, t < ess.length → w.rangeAt b (off + t * k) (el ess t))
theorem Rws.below {w w' : World} {v : Value} {k : Nat} {ess : List (List Value)} (h : Rws w v k ess) (hk : 0 < k) (hb : Below w.heap.size w w') : Rws w' v k ess := by
  obtain ⟨ao, cap, rfl, h1, h2, h3, h4, h5⟩ := h
  refine ⟨ao, cap, rfl, h1, h2, h3, h4, fun hp => ?_⟩
  obtain ⟨b, off, rfl, hc⟩ := h5 hp
  refine ⟨b, off, rfl, fun t ht => range_heap (hc t ht) (hb.block b (range_lt (hc t ht) (by rw [h4 t ht]; exact hk)))⟩
theorem Rws.nil (w : World) (k : Nat) : Rws w (.slice none 0 0) k [] := ⟨none, 0, rfl, by simp, by simp, fun _ => rfl, fun t ht => by simp at ht, fun h => by simp at h⟩
theorem Rws.form {w : World} {v : Value} {k : Nat} {ess : List (List Value)} (h : Rws w v k ess) : ∃ ao cap, v = .slice ao ess.length cap := by
  obtain ⟨ao, cap, rfl, _⟩ := h
  exact ⟨ao, cap, rfl⟩
theorem flat_len {k : Nat} {ess : List (List Value)} (h : ∀ t, t < ess.length → (el ess t).length = k) : ess.flatten.length = ess.length * k := by
  induction ess with
  | nil => simp
  | cons e ess ih =>
    have h0 : e.length = k := h 0 (by simp)
    have := ih fun t ht => by have := h (t + 1) (by simpa using ht); simpa [el] using this
    rw [List.flatten_cons, List.length_append, this, h0, List.length_cons, Nat.succ_mul]; omega
theorem flat_get {k : Nat} : ∀ {ess : List (List Value)}, (∀ t, t < ess.length → (el ess t).length = k) → ∀ t i, t < ess.length → i < k → ess.flatten[t * k + i]? = (el ess t)[i]?
  | [], _, t, i, ht, _ => by simp at ht
  | e :: ess, h, t, i, ht, hi => by
    have h0 : e.length = k := h 0 (by simp)
    rw [List.flatten_cons]
    match t, ht with
    | 0, _ => rw [Nat.zero_mul, Nat.zero_add, List.getElem?_append_left (by omega)]; rfl
    | t + 1, ht =>
      rw [List.getElem?_append_right (by rw [Nat.succ_mul]; omega), h0, show (t + 1) * k + i - k = t * k + i by rw [Nat.succ_mul]; omega]
      exact flat_get (fun t ht => by have := h (t + 1) (by simpa using ht); simpa [el] using this) t i (by simpa using ht) hi
def OwR (B : Nat) (w : World) (v : Value) (e : TypeId) (k : Nat) (ess : List (List Value)) : Prop := w.ownsRow B e k v ess.length ess.flatten ∧ ∀ t, t < ess.length → (el ess t).length = k
theorem OwR.nil (w : World) (e : TypeId) (k : Nat) (B : Nat) : OwR B w (.slice none 0 0) e k [] := ⟨⟨by simp, Or.inl ⟨rfl, rfl⟩⟩, fun t ht => by simp at ht⟩
theorem OwR.row {B : Nat} {w : World} {v : Value} {e : TypeId} {k : Nat} {ess : List (List Value)} (h : OwR B w v e k ess) (hp : 0 < ess.length) : ∃ g cap, v = .slice (some ⟨g, 0, none⟩) ess.length cap ∧ B ≤ g ∧ ∀ t, t < ess.length → w.rangeAt g (t * k) (el ess t) ∧ w.there g (t * k) k := by
  have hx := h.1
  rcases h.1.2 with ⟨_, hn⟩ | ⟨g, cap, cur, rfl, hg, hr⟩
  · omega
  refine ⟨g, cap, rfl, hg, fun t ht => ?_⟩
  have hlt : t * k + k ≤ ess.length * k := by have := Nat.mul_le_mul_right k (show t + 1 ≤ ess.length by omega); rw [Nat.succ_mul] at this; exact this
  refine ⟨fun j u hj => ?_, fun j hj => ⟨?_, hx.frozenAt _⟩⟩
  · have hjk : j < k := by rw [← h.2 t ht]; exact (List.getElem?_eq_some_iff.1 hj).1
    rw [hx.cellAt (t * k + j) (by omega), flat_get h.2 t j ht hjk]; exact hj
  · rw [hx.cellAt (t * k + j) (by omega), flat_get h.2 t j ht hj, List.getElem?_eq_getElem (by rw [h.2 t ht]; exact hj)]; rfl
theorem OwR.rws {B : Nat} {w : World} {v : Value} {e : TypeId} {k : Nat} {ess : List (List Value)} (h : OwR B w v e k ess) : Rws w v k ess := by
  rcases h.1.2 with ⟨rfl, hn⟩ | ⟨g, cap, cur, rfl, hg, hh, hc, hm, hs, ht⟩
  · have : ess = [] := List.eq_nil_of_length_eq_zero hn
    subst this
    exact Rws.nil w k
  · refine ⟨some ⟨g, 0, none⟩, cap, rfl, hc, by simpa [maxLen] using hm, (by intro q; cases q), h.2, fun hp => ⟨g, 0, rfl, fun t ht => ?_⟩⟩
    obtain ⟨g', cap', e', _, hr⟩ := h.row hp
    cases e'
    rw [Nat.zero_add]
    exact (hr t ht).1
theorem el_app (xs ys : List (List Value)) (t : Nat) : el (xs ++ ys) t = if t < xs.length then el xs t else el ys (t - xs.length) := by
  unfold el
  rw [List.getD_eq_getElem?_getD]
  by_cases h : t < xs.length
  · rw [if_pos h, List.getElem?_append_left h]; rfl
  · rw [if_neg h, List.getElem?_append_right (by omega)]; rfl
end Go.Proofs.YtakibiigcdgohaaGreatDoor.na
namespace Go.Proofs.YtakibiigcdgohaaGreatDoor.fa
open Go.RowKit
set_option maxRecDepth 20000
def Bow (B : Nat) (w : World) (v : Value) (xs : List Int) : Prop := Byt w v xs ∧ (0 < xs.length → ∃ b off cap, v = .slice (some ⟨b, off, none⟩) xs.length cap ∧ B ≤ b ∧ ∀ j, j < xs.length → w.frozen? ⟨b, off + j, none⟩ = false)
theorem Bow.nil (B : Nat) (w : World) : Bow B w (.slice none 0 0) [] := ⟨Byt.nil w, fun h => by simp at h⟩
theorem bow_own {B : Nat} {w : World} {v : Value} {xs : List Int} (h : Own B w v xs) (ha : AllB xs) : Bow B w v xs := by
  refine ⟨h.byt ha, fun hp => ?_⟩
  obtain ⟨g, cap, rfl, oc⟩ := own_row h hp
  exact ⟨g, 0, cap, rfl, oc.2.1, fun j _ => by rw [Nat.zero_add]; exact oc.free j⟩
theorem Bow.below {B : Nat} {w w' : World} {v : Value} {xs : List Int} (h : Bow B w v xs) (hb : Below w.heap.size w w') : Bow B w' v xs := by
  refine ⟨h.1.below hb, fun hp => ?_⟩
  obtain ⟨b, off, cap, rfl, h1, h2⟩ := h.2 hp
  obtain ⟨ao, cap', e, _, _, _, _, h5⟩ := h.1
  cases e
  obtain ⟨b', off', e', hc⟩ := h5 hp
  cases e'
  exact ⟨b, off, cap, rfl, h1, fun j hj => by rw [hb.frozen (World.block_lt_of_cell? w _ (hc j hj))]; exact h2 j hj⟩
theorem Bow.mono {B B' : Nat} {w : World} {v : Value} {xs : List Int} (h : Bow B w v xs) (hb : B' ≤ B) : Bow B' w v xs := ⟨h.1, fun hp => by
  obtain ⟨b, off, cap, rfl, h1, h2⟩ := h.2 hp
  exact ⟨b, off, cap, rfl, by omega, h2⟩⟩
theorem Bow.other {B : Nat} {w : World} {v u old : Value} {xs : List Int} {p : Addr} (h : Bow B w v xs) (hc : w.cell? p = some old) (ho : ∀ x, old ≠ .int .u8 x) : Bow B (w.setCell p u) v xs := by
  refine ⟨byt_other h.1 hc ho, fun hp => ?_⟩
  obtain ⟨b, off, cap, rfl, h1, h2⟩ := h.2 hp
  exact ⟨b, off, cap, rfl, h1, fun j hj => by rw [World.frozen?_setCell]; exact h2 j hj⟩
theorem byt_one_cell {w : World} {v : Value} {xs : List Int} (h : Byt w v xs) : v.oneCell' = true := by
  obtain ⟨ao, cap, rfl, _⟩ := h
  rfl
theorem byt_no_u8 {w : World} {v : Value} {xs : List Int} (h : Byt w v xs) : ∀ x, v ≠ .int .u8 x := by
  obtain ⟨ao, cap, rfl, _⟩ := h
  intro x e
  cases e
theorem bow_cells {B : Nat} {w : World} {v : Value} {xs : List Int} {b p : Nat} {f f' : Int × Bool × Value} (hf : FlA w b p f) (hm : ∀ x, f.2.2 ≠ .int .u8 x) (h : Bow B w v xs) : Bow B (w.setCells b p (fl f')) v xs := by
  have h1 := h.other (u := .int .i64 f'.1) hf.1 (by intro x e; cases e)
  have c1 : (w.setCell ⟨b, p, none⟩ (.int .i64 f'.1)).cell? ⟨b, p + 1, none⟩ = some (.bool f.2.1) := by
    rw [World.cell?_setCell_other _ _ _ _ (by intro e; injection e with _ e2; omega)]; exact hf.2.1
  have h2 := h1.other (u := .bool f'.2.1) c1 (by intro x e; cases e)
  have c2 : ((w.setCell ⟨b, p, none⟩ (.int .i64 f'.1)).setCell ⟨b, p + 1, none⟩ (.bool f'.2.1)).cell? ⟨b, p + 2, none⟩ = some f.2.2 := by
    rw [World.cell?_setCell_other _ _ _ _ (by intro e; injection e with _ e2; omega), World.cell?_setCell_other _ _ _ _ (by intro e; injection e with _ e2; omega)]; exact hf.2.2
  exact h2.other (u := f'.2.2) c2 hm
theorem bclone_any (v : Value) (xs : List Int) (w : World) (h : Byt w v xs) (hl : xs.length ≤ 140737488355328) :
    Calls Tryz.prog 48 #[v] w fun e w' => ∃ v', e = .returned v' ∧ Bow w.heap.size w' v' xs ∧ Below w.heap.size w w' := by
  have hall := h.all
  have HA : Hid (AllB xs) := hall
  have HV : Hid (Byt (w.alloc (.cells #[] 5)) v xs) := h.below ((Below.refl _ _).alloc (Nat.le_refl _) _)
  obtain ⟨ao, cap, rfl, h1, h2, h3, h4, h5⟩ := h
  cases ao with
  | none =>
    have hc := h4 rfl
    subst hc
    have e : xs = [] := List.eq_nil_of_length_eq_zero (by omega)
    subst e
    have qn : ∀ w : World, (binOp .eql 35 (.slice none 0 0) (.slice none 0 0)).run Tryz.prog w = .ok (.bool true) w := fun w => Lib.run_eql_slice_nil w _ _ none 0 0 0 0 Tryz.underlying35
    clear h1 h2 h3 h4 h5 hall HV
    go_enter Tryz.func48, Tryz.ntmps48
    go_wp2
    go_ret
    exact ⟨_, rfl, Bow.nil _ _, Below.refl _ _⟩
  | some ad =>
    have HO : Hid (Own w.heap.size (w.alloc (.cells #[] 5)) (.slice (some ⟨w.heap.size, 0, none⟩) 0 0) []) := Own.empty w (Nat.le_refl _)
    have B0 : Below w.heap.size w (w.alloc (.cells #[] 5)) := (Below.refl _ _).alloc (Nat.le_refl _) _
    have z0 := B0.size
    have qn : ∀ w : World, (binOp .eql 35 (.slice (some ad) xs.length cap) (.slice none 0 0)).run Tryz.prog w = .ok (.bool false) w := fun w => Lib.run_eql_slice_nil w _ _ (some ad) xs.length cap 0 0 Tryz.underlying35
    clear h3 h4 h5 hall
    go_enter Tryz.func48, Tryz.ntmps48
    go_wp2_with (refine pushs_law _ rfl (.tmp 5) (.tmp 6) rfl w.heap.size z0 _ _ [] xs rfl rfl HO.out HV.out (by simp only [List.length_nil]; omega) ?_; intro v1 w1 O1 b1; rw [List.nil_append] at O1; have HO1 : Hid (Own w.heap.size w1 v1 xs) := O1; clear O1; have c1 : Below w.heap.size w w1 := B0.trans b1)
    go_ret
    exact ⟨_, rfl, bow_own HO1.out HA.out, c1⟩
theorem copyOf_any (f : Int × Bool × Value) (xs : List Int) (w : World) (h : Byt w f.2.2 xs) (hl : xs.length ≤ 140737488355328) :
    Calls Tryz.prog 59 #[fv f] w fun e w' => ∃ m', e = .returned (fv (f.1, f.2.1, m')) ∧ Bow w.heap.size w' m' xs ∧ Below w.heap.size w w' := by
  have H : Hid (Byt w f.2.2 xs) := h
  have S : Hid (∀ w0, Below w.heap.size w w0 → Calls Tryz.prog 48 #[f.2.2] w0 fun e w' => ∃ v', e = .returned v' ∧ Bow w0.heap.size w' v' xs ∧ Below w0.heap.size w0 w') := fun w0 hb => bclone_any f.2.2 xs w0 (h.below hb) hl
  clear h hl
  have t0 := tR
  go_enter Tryz.func59, Tryz.ntmps59
  go_wp2_with (first
    | (have q0 := t0; refine box_lawV _ f rfl ?_; intro w1 V1 B1 l1; have HV1 : Hid (FlV w1 w.heap.size f) := V1; clear V1 t0; have t1 := tR)
    | (have q1 := t1; refine new_lawV _ ?_; intro w2 V2 B2 l2; have HV2 : Hid (FlV w2 w1.heap.size f0) := V2; have HV1 : Hid (FlV w2 w.heap.size f) := HV1.out.below B2 l1; have c2 := HV1.out.1.2.2; clear V2 t1; have t2 := tR)
    | (have q4 := t4; refine store_lawV _ (f.1, f.2.1, .slice ao3 xs.length cap3) w1.heap.size 0 rfl rfl HV2.out.2 rfl ?_; intro w5 E5 A5 T5 B5; have HA5 : Hid (FlA w5 w1.heap.size 0 (f.1, f.2.1, .slice ao3 xs.length cap3)) := A5; clear A5 T5 t4)
    | (have q3 := t3; refine load_lawS _ (by rfl) _ _ rfl (load_fault HV4.out.1) ?_; clear t3; have t4 := tR)
    | (have q2 := t2; go_at_call 48; refine (S.out _ (B1.trans (B2.mono (by omega)))).mono ?_; rintro e w3 ⟨m3, rfl, y3, B3⟩; obtain ⟨ao3, cap3, rfl⟩ := byt_form y3.1
       have Y3 : Hid (Bow w2.heap.size w3 (.slice ao3 xs.length cap3) xs) := y3
       have HV1 : Hid (FlV w3 w.heap.size f) := HV1.out.below B3 (by omega)
       have HV2 : Hid (FlV w3 w1.heap.size f0) := HV2.out.below B3 (by omega)
       have d2 := HV1.out.1.2.2
       have e2 : w3.frozen? ⟨w.heap.size, 2, none⟩ = false := (HV1.out.2 2 (by omega)).2
       have HV4 : Hid (FlV (w3.setCell ⟨w.heap.size, 2, none⟩ (.slice ao3 xs.length cap3)) w.heap.size (f.1, f.2.1, .slice ao3 xs.length cap3)) := HV1.out.mask _
       have HV2 : Hid (FlV (w3.setCell ⟨w.heap.size, 2, none⟩ (.slice ao3 xs.length cap3)) w1.heap.size f0) := flv_other HV2.out _ (by omega)
       clear y3 t2; have t3 := tR))
  have C3 : Below w.heap.size w w3 := B1.trans ((B2.mono (by omega)).trans (B3.mono (by omega)))
  refine bodyPost_ret (v := fv (f.1, f.2.1, .slice ao3 xs.length cap3)) (results_flt rfl _ _ w1.heap.size _ rfl HA5.out) rfl ⟨_, rfl, ?_, ?_⟩
  · have Z3 := (Y3.out.mono (show w.heap.size ≤ w2.heap.size by omega)).other (u := .slice ao3 xs.length cap3) d2 (byt_no_u8 H.out)
    rw [E5.out]
    exact bow_cells HV2.out.1 (by intro x e; cases e) Z3
  · exact (C3.setCell (Nat.le_refl _) _).trans (B5.mono (by omega))
end Go.Proofs.YtakibiigcdgohaaGreatDoor.fa
namespace Go.Proofs.YtakibiigcdgohaaGreatDoor.fa
open Go.RowKit
set_option maxRecDepth 20000
def gf (fs : List (Int × Bool × Value)) (k : Nat) : Int × Bool × Value := fs.getD k f0
def Fls (w : World) (v : Value) (fs : List (Int × Bool × Value)) : Prop := ∃ ao cap, v = .slice ao fs.length cap ∧ fs.length ≤ cap ∧ cap ≤ 9223372036854775807 ∧ (ao = none → cap = 0) ∧ (0 < fs.length → ∃ b off, ao = some ⟨b, off, none⟩ ∧ ∀ t, t < fs.length → FlA w b (off + t * 3) (gf fs t))
theorem Fls.below {w w' : World} {v : Value} {fs : List (Int × Bool × Value)} (h : Fls w v fs) (hb : Below w.heap.size w w') : Fls w' v fs := by
  obtain ⟨ao, cap, rfl, h1, h2, h3, h4⟩ := h
  refine ⟨ao, cap, rfl, h1, h2, h3, fun hp => ?_⟩
  obtain ⟨b, off, rfl, hc⟩ := h4 hp
  exact ⟨b, off, rfl, fun t ht => (hc t ht).below hb (hc t ht).lt⟩
def Mks (w : World) (fs : List (Int × Bool × Value)) (ms : Nat → List Int) : Prop := ∀ t, t < fs.length → Byt w (gf fs t).2.2 (ms t) ∧ (ms t).length ≤ 140737488355328
theorem Mks.below {w w' : World} {fs : List (Int × Bool × Value)} {ms : Nat → List Int} (h : Mks w fs ms) (hb : Below w.heap.size w w') : Mks w' fs ms := fun t ht => ⟨(h t ht).1.below hb, (h t ht).2⟩
def Okp (fs : List (Int × Bool × Value)) (ms : Nat → List Int) (n : Nat) : Prop := ∀ t, t < n → 0 ≤ (gf fs t).1 ∧ (ms t).length ≤ 64
theorem okp_more {fs : List (Int × Bool × Value)} {ms : Nat → List Int} {k : Nat} (h : Okp fs ms k) (h0 : 0 ≤ (gf fs k).1) (h1 : (ms k).length ≤ 64) : Okp fs ms (k + 1) := fun t ht => by
  by_cases e : t < k
  · exact h t e
  · have : t = k := by omega
    subst this; exact ⟨h0, h1⟩
theorem split_flt {w : World} {fs : List (Int × Bool × Value)} {ms : Nat → List Int} (h : Mks w fs ms) {k : Nat} (hk : k < fs.length) : ∃ x cr mo mc, gf fs k = (x, cr, .slice mo (ms k).length mc) := by
  obtain ⟨mo, mc, e⟩ := byt_form (h k hk).1
  exact ⟨(gf fs k).1, (gf fs k).2.1, mo, mc, by rw [← e]⟩
theorem check_any (v : Value) (fs : List (Int × Bool × Value)) (ms : Nat → List Int) (w : World) (h : Fls w v fs) (hm : Mks w fs ms) (c : Int) (h0 : fs.length ≤ 64 → Okp fs ms fs.length → c = 0) (h2 : ¬ (fs.length ≤ 64 ∧ Okp fs ms fs.length) → c = 2) :
    Calls Tryz.prog 34 #[v] w fun e w' => e = .returned (.int .i64 c) ∧ Below w.heap.size w w' := by
  obtain ⟨ao, cap, rfl, a1, a2, a3, a4⟩ := h
  have HM : Hid (Mks w fs ms) := hm
  have H0 : Hid (fs.length ≤ 64 → Okp fs ms fs.length → c = 0) := h0
  have H2 : Hid (¬ (fs.length ≤ 64 ∧ Okp fs ms fs.length) → c = 2) := h2
  have H4 : Hid (0 < fs.length → ∃ b off, ao = some ⟨b, off, none⟩ ∧ ∀ t, t < fs.length → FlA w b (off + t * 3) (gf fs t)) := a4
  clear hm h0 h2 a3 a4
  by_cases hl : fs.length ≤ 64
  · have l1 : (fs.length : Int) ≤ 64 := by omega
    go_enter Tryz.func34, Tryz.ntmps34
    go_wp2
    go_loopw [10] (fun i wr => ∃ k : Nat, k ≤ fs.length ∧ i = .int .i64 k ∧ Hid (Okp fs ms k) ∧ Hid (Below w.heap.size w wr)) (fun i _ => fs.length - (intOf i).toNat)
    case atStart => exact ⟨0, Nat.zero_le _, rfl, fun t ht => by omega, Below.refl _ _⟩
    case round =>
      obtain ⟨k, hk, rfl, HK, HB⟩ := hrel
      obtain ⟨wa, rfl⟩ : ∃ wx, wx = wr := ⟨_, rfl⟩
      have k0 : (0 : Int) ≤ (k : Int) := by omega
      by_cases hlt : k < fs.length
      · have k1 : (k : Int) < (fs.length : Int) := by omega
        obtain ⟨b, off, rfl, hc⟩ := H4.out (by omega)
        obtain ⟨x, cr, mo, mc, hf⟩ := split_flt HM.out hlt
        have hfa : FlA w b (off + k * 3) (gf fs k) := hc k hlt
        have HX : Hid ((gf fs k).1 = x) := by show _ = _; rw [hf]
        rw [hf] at hfa
        have HF : Hid (FlA wa b (off + k * 3) (x, cr, .slice mo (ms k).length mc)) := hfa.below HB.out hfa.lt
        have HL : Hid ((ms k).length ≤ 9223372036854775807) := (HM.out k hlt).1.len
        have LL : ((ms k).length : Int) ≤ 9223372036854775807 := by have := HL.out; omega
        have HK1 : Hid (0 ≤ x → (ms k).length ≤ 64 → Okp fs ms (k + 1)) := fun q1 q2 => okp_more HK.out (by rw [HX.out]; exact q1) q2
        have HN : Hid (¬ (0 ≤ x ∧ (ms k).length ≤ 64) → c = 2) := fun q => H2.out fun ⟨_, q2⟩ => q (by have := q2 k hlt; rw [HX.out] at this; exact this)
        clear hc hf hfa
        generalize (ms k).length = L at *
        have t0 := tR
        by_cases hx : x < 0
        · have e := HN.out (by omega)
          subst e
          go_wp2_with (first
            | (have q2 := t2; refine store_lawV _ (x, cr, .slice mo L mc) wa.heap.size 0 rfl rfl HV2.out.2 rfl ?_; intro w3 E3 A3 T3 B3; have c0 := A3.1; have c2 := A3.2.2; have BB : Hid (Below w.heap.size w w3) := HB.out.trans ((B2.trans B3).mono HB.out.size); clear A3 T3 E3 t2)
            | (have q1 := t1; refine new_lawV _ ?_; intro w2 V2 B2 l2; have HV2 : Hid (FlV w2 wa.heap.size f0) := V2; clear V2 t1; have t2 := tR)
            | (have q0 := t0; refine load_lawS _ (by rfl) _ _ rfl (load_fault HF.out) ?_; clear t0; have t1 := tR))
          go_ret
          exact ⟨rfl, BB.out⟩
        · by_cases hL : 64 < L
          · have e := HN.out (by omega)
            subst e
            have L1 : (64 : Int) < (L : Int) := by omega
            go_wp2_with (first
              | (have q2 := t2; refine store_lawV _ (x, cr, .slice mo L mc) wa.heap.size 0 rfl rfl HV2.out.2 rfl ?_; intro w3 E3 A3 T3 B3; have c0 := A3.1; have c2 := A3.2.2; have BB : Hid (Below w.heap.size w w3) := HB.out.trans ((B2.trans B3).mono HB.out.size); clear A3 T3 E3 t2)
              | (have q1 := t1; refine new_lawV _ ?_; intro w2 V2 B2 l2; have HV2 : Hid (FlV w2 wa.heap.size f0) := V2; clear V2 t1; have t2 := tR)
              | (have q0 := t0; refine load_lawS _ (by rfl) _ _ rfl (load_fault HF.out) ?_; clear t0; have t1 := tR))
            go_ret
            exact ⟨rfl, BB.out⟩
          · have HK2 : Hid (Okp fs ms (k + 1)) := HK1.out (by omega) (by omega)
            have L1 : (L : Int) ≤ 64 := by omega
            go_wp2_with (first
              | (have q2 := t2; refine store_lawV _ (x, cr, .slice mo L mc) wa.heap.size 0 rfl rfl HV2.out.2 rfl ?_; intro w3 E3 A3 T3 B3; have c0 := A3.1; have c2 := A3.2.2; have BB : Hid (Below w.heap.size w w3) := HB.out.trans ((B2.trans B3).mono HB.out.size); clear A3 T3 E3 t2)
              | (have q1 := t1; refine new_lawV _ ?_; intro w2 V2 B2 l2; have HV2 : Hid (FlV w2 wa.heap.size f0) := V2; clear V2 t1; have t2 := tR)
              | (have q0 := t0; refine load_lawS _ (by rfl) _ _ rfl (load_fault HF.out) ?_; clear t0; have t1 := tR))
            go_roundw
            case rel => exact ⟨k + 1, by omega, by go_num, HK2, BB⟩
            case measure => simp [intOf]; omega
      · have e : k = fs.length := by omega
        have e2 := H0.out hl (by rw [← e]; exact HK.out)
        subst e2
        go_wp2
        go_ret
        exact ⟨rfl, HB.out⟩
  · have e := H2.out (fun q => hl q.1)
    subst e
    have l1 : (64 : Int) < (fs.length : Int) := by omega
    go_enter Tryz.func34, Tryz.ntmps34
    go_wp2
    go_ret
    exact ⟨rfl, Below.refl _ _⟩
end Go.Proofs.YtakibiigcdgohaaGreatDoor.fa
namespace Go.Proofs.YtakibiigcdgohaaGreatDoor.fa
open Go.RowKit
set_option maxRecDepth 20000
theorem rright_any (v : Value) (fs : List (Int × Bool × Value)) (ms : Nat → List Int) (w : World) (h : Fls w v fs) (hm : Mks w fs ms) (c : Bool) (h0 : c = true ↔ (fs.length ≤ 64 ∧ Okp fs ms fs.length)) :
    Calls Tryz.prog 21 #[v] w fun e w' => e = .returned (.bool c) ∧ ∃ n, w' = w.drewN n := by
  obtain ⟨ao, cap, rfl, a1, a2, a3, a4⟩ := h
  have HM : Hid (Mks w fs ms) := hm
  have H0 : Hid (c = true ↔ (fs.length ≤ 64 ∧ Okp fs ms fs.length)) := h0
  have H4 : Hid (0 < fs.length → ∃ b off, ao = some ⟨b, off, none⟩ ∧ ∀ t, t < fs.length → FlA w b (off + t * 3) (gf fs t)) := a4
  clear hm h0 a3 a4
  go_enter Tryz.func21, Tryz.ntmps21
  go_wp2
  go_loopw [3] (fun i wr => ∃ k n : Nat, k ≤ fs.length ∧ i = .int .i64 k ∧ Hid (Okp fs ms k) ∧ wr = w.drewN n) (fun i _ => fs.length - (intOf i).toNat)
  case atStart => exact ⟨0, 0, Nat.zero_le _, rfl, fun t ht => by omega, rfl⟩
  case round =>
    obtain ⟨k, n, hk, rfl, HK, rfl⟩ := hrel
    have k0 : (0 : Int) ≤ (k : Int) := by omega
    by_cases hlt : k < fs.length
    · have k1 : (k : Int) < (fs.length : Int) := by omega
      obtain ⟨b, off, rfl, hc⟩ := H4.out (by omega)
      obtain ⟨x, cr, mo, mc, hf⟩ := split_flt HM.out hlt
      have hfa : FlA w b (off + k * 3) (gf fs k) := hc k hlt
      have HX : Hid ((gf fs k).1 = x) := by show _ = _; rw [hf]
      rw [hf] at hfa
      have c0 := hfa.1
      have c2 := hfa.2.2
      have HL : Hid ((ms k).length ≤ 9223372036854775807) := (HM.out k hlt).1.len
      have LL : ((ms k).length : Int) ≤ 9223372036854775807 := by have := HL.out; omega
      have HK1 : Hid (0 ≤ x → (ms k).length ≤ 64 → Okp fs ms (k + 1)) := fun q1 q2 => okp_more HK.out (by rw [HX.out]; exact q1) q2
      have HN : Hid (¬ (0 ≤ x ∧ (ms k).length ≤ 64) → c = false) := fun q => Bool.eq_false_iff.2 fun hc => q (by have := (H0.out.1 hc).2 k hlt; rw [HX.out] at this; exact this)
      clear hc hf hfa
      generalize (ms k).length = L at *
      by_cases hx : x < 0
      · have e := HN.out (by omega)
        subst e
        go_wp2
        go_ret
        exact ⟨rfl, n, rfl⟩
      · by_cases hL : 64 < L
        · have e := HN.out (by omega)
          subst e
          have L1 : (64 : Int) < (L : Int) := by omega
          go_wp2
          go_ret
          exact ⟨rfl, n, rfl⟩
        · have HK2 : Hid (Okp fs ms (k + 1)) := HK1.out (by omega) (by omega)
          have L1 : (L : Int) ≤ 64 := by omega
          go_wp2
          go_roundw
          case rel => exact ⟨k + 1, n, by omega, by go_num, HK2, rfl⟩
          case measure => simp [intOf]; omega
    · have e : k = fs.length := by omega
      have HE : Hid (c = decide ((fs.length : Int) ≤ 64)) := by
        show _ = _
        have hk2 := HK.out
        rw [e] at hk2
        by_cases q : fs.length ≤ 64
        · rw [H0.out.2 ⟨q, hk2⟩]; exact (decide_eq_true (by omega)).symm
        · rw [Bool.eq_false_iff.2 fun hc => q (H0.out.1 hc).1]; exact (decide_eq_false (by omega)).symm
      go_wp2
      go_ret
      exact ⟨ret_bool HE.out.symm, n, rfl⟩
def Fst (fs : List (Int × Bool × Value)) (n : Int) (t : Nat) : Prop := t < fs.length ∧ (gf fs t).1 = n ∧ ∀ s, s < t → (gf fs s).1 ≠ n
theorem fst_or (fs : List (Int × Bool × Value)) (n : Int) : (∃ t, Fst fs n t) ∨ ∀ s, s < fs.length → (gf fs s).1 ≠ n := by
  have key : ∀ k, k ≤ fs.length → (∃ t, Fst fs n t) ∨ ∀ s, s < k → (gf fs s).1 ≠ n := fun k => by
    induction k with
    | zero => exact fun _ => Or.inr fun s hs => by omega
    | succ k ih =>
      intro hk
      rcases ih (by omega) with h | h
      · exact Or.inl h
      · by_cases e : (gf fs k).1 = n
        · exact Or.inl ⟨k, hk, e, h⟩
        · refine Or.inr fun s hs => ?_
          by_cases q : s < k
          · exact h s q
          · have : s = k := by omega
            subst this; exact e
  exact key _ (Nat.le_refl _)
def AtIs (fs : List (Int × Bool × Value)) (ms : Nat → List Int) (n : Int) (w : World) (e : Ending) (w' : World) : Prop := ∃ f ok, e = .returned (.tuple #[fv f, .bool ok]) ∧ Below w.heap.size w w' ∧ (∀ t, Fst fs n t → ok = true ∧ f.1 = n ∧ f.2.1 = (gf fs t).2.1 ∧ Byt w' f.2.2 (ms t)) ∧ ((∀ s, s < fs.length → (gf fs s).1 ≠ n) → ok = false ∧ f = f0)
theorem at_any (v : Value) (fs : List (Int × Bool × Value)) (ms : Nat → List Int) (n : Int) (w : World) (h : Fls w v fs) (hm : Mks w fs ms) :
    Calls Tryz.prog 118 #[v, .int .i64 n] w fun e w' => AtIs fs ms n w e w' := by
  obtain ⟨ao, cap, rfl, a1, a2, a3, a4⟩ := h
  have HM : Hid (Mks w fs ms) := hm
  have H4 : Hid (0 < fs.length → ∃ b off, ao = some ⟨b, off, none⟩ ∧ ∀ t, t < fs.length → FlA w b (off + t * 3) (gf fs t)) := a4
  clear a3 a4 hm
  have t0 := tR
  go_enter Tryz.func118, Tryz.ntmps118
  go_wp2_with (have q0 := t0; refine new_lawV _ ?_; intro w1 V1 B1 l1; have HV1 : Hid (FlV w1 w.heap.size f0) := V1; clear V1 t0)
  go_loopw [10] (fun i wr => ∃ k : Nat, k ≤ fs.length ∧ i = .int .i64 k ∧ Hid (∀ s, s < k → (gf fs s).1 ≠ n) ∧ Hid (Below w1.heap.size w1 wr)) (fun i _ => fs.length - (intOf i).toNat)
  case atStart => exact ⟨0, Nat.zero_le _, rfl, fun t ht => by omega, Below.refl _ _⟩
  case round =>
    obtain ⟨k, hk, rfl, HK, HB⟩ := hrel
    obtain ⟨wa, rfl⟩ : ∃ wx, wx = wr := ⟨_, rfl⟩
    have k0 : (0 : Int) ≤ (k : Int) := by omega
    have BW : Hid (Below w.heap.size w wa) := B1.trans (HB.out.mono (by omega))
    have HVa : Hid (FlV wa w.heap.size f0) := HV1.out.below HB.out l1
    have la : w.heap.size < wa.heap.size := by have := HB.out.size; omega
    by_cases hlt : k < fs.length
    · have k1 : (k : Int) < (fs.length : Int) := by omega
      obtain ⟨b, off, rfl, hc⟩ := H4.out (by omega)
      obtain ⟨x, cr, mo, mc, hf⟩ := split_flt HM.out hlt
      have hfa : FlA w b (off + k * 3) (gf fs k) := hc k hlt
      have HG : Hid (gf fs k = (x, cr, .slice mo (ms k).length mc)) := hf
      rw [hf] at hfa
      have HF : Hid (FlA wa b (off + k * 3) (x, cr, .slice mo (ms k).length mc)) := hfa.below BW.out hfa.lt
      have HY : Hid (Byt w (.slice mo (ms k).length mc) (ms k) ∧ (ms k).length ≤ 140737488355328) := by have := HM.out k hlt; rw [hf] at this; exact this
      clear hc hf hfa
      have t1 := tR
      by_cases e : x = n
      · subst e
        have S : Hid (∀ w0, Below w.heap.size w w0 → Calls Tryz.prog 59 #[fv (x, cr, .slice mo (ms k).length mc)] w0 fun e w' => ∃ m', e = .returned (fv (x, cr, m')) ∧ Bow w0.heap.size w' m' (ms k) ∧ Below w0.heap.size w0 w') := fun w0 hb => copyOf_any (x, cr, .slice mo (ms k).length mc) (ms k) w0 (HY.out.1.below hb) HY.out.2
        go_wp2_with (first
          | (have q5 := t5; refine store_lawV _ (x, cr, .slice ao6 (ms k).length cap6) w.heap.size 0 rfl rfl HV6.out.2 rfl ?_; intro w7 E7 A7 T7 B7; have HA7 : Hid (FlA w7 w.heap.size 0 (x, cr, .slice ao6 (ms k).length cap6)) := A7; clear A7 T7 t5)
          | (have q4 := t4; go_at_call 59; refine (S.out _ BB.out).mono ?_; rintro e w6 ⟨m6, rfl, y6, B6⟩; obtain ⟨ao6, cap6, rfl⟩ := byt_form y6.1
             have Y6 : Hid (Bow w3.heap.size w6 (.slice ao6 (ms k).length cap6) (ms k)) := y6
             have HV6 : Hid (FlV w6 w.heap.size f0) := HV3.out.below B6 (by omega)
             have B6' : Hid (Below w.heap.size w w6) := BB.out.trans (B6.mono BB.out.size)
             clear y6 t4; have t5 := tR)
          | (have q4 := t3; refine load_lawS _ (by rfl) _ _ rfl (load_fault HA3.out) ?_; clear t3; have t4 := tR)
          | (have q2 := t2'; refine store_lawV _ (x, cr, .slice mo (ms k).length mc) wa.heap.size 0 rfl rfl HV2.out.2 rfl ?_; intro w3 E3 A3 T3 B3; have c0 := A3.1; have HA3 : Hid (FlA w3 wa.heap.size 0 (x, cr, .slice mo (ms k).length mc)) := A3; have BA : Below wa.heap.size wa w3 := B2.trans B3; have lb := BA.size; have HV3 : Hid (FlV w3 w.heap.size f0) := HVa.out.below BA la; have BB : Hid (Below w.heap.size w w3) := BW.out.trans (BA.mono BW.out.size); clear A3 T3 E3 t2'; have t3 := tR)
          | (have q1 := t2; refine new_lawV _ ?_; intro w2 V2 B2 l2; have HV2 : Hid (FlV w2 wa.heap.size f0) := V2; clear V2 t2; have t2' : (2 : Nat) = 2 := rfl)
          | (have q0 := t1; refine load_lawS _ (by rfl) _ _ rfl (load_fault HF.out) ?_; clear t1; have t2 := tR))
        (try simp only [Exit.inBlock, Exit.then])
        refine bodyPost_ret (v := .tuple #[fv (x, cr, .slice ao6 (ms k).length cap6), .bool true]) (results_fltB rfl _ _ w.heap.size _ true rfl rfl HA7.out) rfl ⟨_, true, rfl, ?_, ?_, ?_⟩
        · exact B6'.out.trans (B7.mono (Nat.le_refl _))
        · rintro t ⟨ht1, ht2, ht3⟩
          have e : t = k := by
            rcases Nat.lt_trichotomy t k with q | q | q
            · exact absurd ht2 (HK.out t q)
            · exact q
            · exact absurd (by rw [HG.out]) (ht3 k q)
          subst e
          refine ⟨rfl, rfl, by rw [HG.out], ?_⟩
          have Z := bow_cells (f' := (x, cr, .slice ao6 (ms t).length cap6)) HV6.out.1 (by intro x e; cases e) Y6.out
          rw [← E7.out] at Z
          exact Z.1
        · intro q
          exact absurd (by rw [HG.out]) (q k hlt)
      · have e2 : (x == n) = false := by simpa using e
        have HK2 : Hid (∀ s, s < k + 1 → (gf fs s).1 ≠ n) := fun s hs => by
          by_cases q : s < k
          · exact HK.out s q
          · have : s = k := by omega
            subst this; rw [HG.out]; exact e
        go_wp2_with (first
          | (have q2 := t2'; refine store_lawV _ (x, cr, .slice mo (ms k).length mc) wa.heap.size 0 rfl rfl HV2.out.2 rfl ?_; intro w3 E3 A3 T3 B3; have c0 := A3.1; have BB : Hid (Below w1.heap.size w1 w3) := HB.out.trans ((B2.trans B3).mono HB.out.size); clear A3 T3 E3 t2')
          | (have q1 := t2; refine new_lawV _ ?_; intro w2 V2 B2 l2; have HV2 : Hid (FlV w2 wa.heap.size f0) := V2; clear V2 t2; have t2' : (2 : Nat) = 2 := rfl)
          | (have q0 := t1; refine load_lawS _ (by rfl) _ _ rfl (load_fault HF.out) ?_; clear t1; have t2 := tR))
        go_roundw
        case rel => exact ⟨k + 1, by omega, by go_num, HK2, BB⟩
        case measure => simp [intOf]; omega
    · have e : k = fs.length := by omega
      have HKK : Hid (∀ s, s < fs.length → (gf fs s).1 ≠ n) := by rw [← e]; exact HK
      have t1 := tR
      go_wp2_with (have q1 := t1; refine store_lawV _ f0 w.heap.size 0 rfl rfl HVa.out.2 rfl ?_; intro w3 E3 A3 T3 B3; have HA3 : Hid (FlA w3 w.heap.size 0 f0) := A3; clear A3 T3 E3 t1)
      (try simp only [Exit.inBlock, Exit.then])
      refine bodyPost_ret (v := .tuple #[fv f0, .bool false]) (results_fltB rfl _ _ w.heap.size _ false rfl rfl HA3.out) rfl ⟨_, false, rfl, ?_, ?_, ?_⟩
      · exact BW.out.trans B3
      · rintro t ⟨ht1, ht2, ht3⟩
        exact absurd ht2 (HKK.out t ht1)
      · exact fun _ => ⟨rfl, rfl⟩
end Go.Proofs.YtakibiigcdgohaaGreatDoor.fa
