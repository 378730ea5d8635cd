/- Texts put together (a claim holds few files). No claim of its own. -/
import Derived.Test.YtahfcpdekjdceaaDoorPackA
import Derived.Laws.AppendOwnNone
import Derived.Deep.RegionHeld3
/- What a mask says of a bit: fault's closure over a mask and Bit, and the reference's power, Has and Bit. No claim of its own. -/
namespace Go.Proofs.YtahfcpdekjdceaaDoor.fa
open Go.RowKit
set_option maxRecDepth 20000

theorem byt_drawn {w : World} {v : Value} {xs : List Int} (h : Byt w v xs) (m : Nat) : Byt (w.drewN m) v xs := h
theorem below_drawn {B : Nat} {w w' : World} (h : Below B w w') (n : Nat) : Below B w (w'.drewN n) := ⟨h.os, h.tape, h.output, h.size, h.block⟩

/-- a variable: one value has a place of its own at c -/
def Var (w : World) (c : Nat) (v : Value) : Prop := w.cell? ⟨c, 0, none⟩ = some v ∧ w.frozen? ⟨c, 0, none⟩ = false
theorem Var.new (w : World) (v : Value) (t : TypeId) : Var (w.alloc (.cells #[v] t)) w.heap.size v := ⟨World.cell?_alloc_at _ _ _ _ rfl, World.frozen?_alloc_at _ _ _ _ rfl⟩
theorem Var.lt {w : World} {c : Nat} {v : Value} (h : Var w c v) : c < w.heap.size := World.block_lt_of_cell? w _ h.1
theorem Var.below {w w' : World} {c B : Nat} {v : Value} (h : Var w c v) (hb : Below B w w') (hc : c < B) : Var w' c v := ⟨by rw [hb.cell hc]; exact h.1, by rw [hb.frozen hc]; exact h.2⟩
theorem Var.set {w : World} {c : Nat} {v : Value} (h : Var w c v) (u : Value) : Var (w.setCell ⟨c, 0, none⟩ u) c u := ⟨World.cell?_setCell_same _ _ _ h.1, by rw [World.frozen?_setCell]; exact h.2⟩
theorem byt_form {w : World} {v : Value} {xs : List Int} (h : Byt w v xs) : ∃ ao cap, v = .slice ao xs.length cap := by
  obtain ⟨ao, cap, rfl, _⟩ := h
  exact ⟨ao, cap, rfl⟩
/-- bytes last where a cell is written that is no byte -/
theorem byt_other {w : World} {v u old : Value} {xs : List Int} {p : Addr} (h : Byt w v xs) (hc : w.cell? p = some old) (ho : ∀ x, old ≠ .int .u8 x) : Byt (w.setCell p u) v xs := by
  obtain ⟨ao, cap, rfl, h1, h2, h3, h4, h5⟩ := h
  refine ⟨ao, cap, rfl, h1, h2, h3, h4, fun hp => ?_⟩
  obtain ⟨b, off, rfl, hb⟩ := h5 hp
  refine ⟨b, off, rfl, fun t ht => ?_⟩
  rw [World.cell?_setCell_other _ _ _ _ (by intro e; rw [e] at hc; rw [hb t ht] at hc; injection hc with hc; exact ho _ hc.symm)]
  exact hb t ht

/-- the bytes of a mask; of an empty one a byte of ones -/
def ms (m : List Int) : List Int := if m.length = 0 then [255] else m
theorem ms_pos (m : List Int) : 0 < (ms m).length := by
  unfold ms
  split
  · decide
  · omega
theorem ms_all {m : List Int} (h : AllB m) : AllB (ms m) := by
  unfold ms
  split
  · exact allB_mem fun x hx => by simp at hx; omega
  · exact h
/-- what a mask says of byte i -/
def mb (m : List Int) (i : Nat) : Int := gb (ms m) (i % (ms m).length)
theorem mb_bd {m : List Int} (h : AllB m) (i : Nat) : 0 ≤ mb m i ∧ mb m i ≤ 255 := ms_all h _
theorem bit255 : ∀ t, t < 8 → bit 255 t = true := by decide
theorem mb_mk (m : List Int) (i : Nat) : mk m i = bit (mb m (i / 8)).toNat (i % 8) := by
  unfold mk mb ms
  by_cases h : m.length = 0
  · rw [if_pos h, h, show [(255 : Int)].length = 1 from rfl, Nat.mod_one]
    show (true || _) = bit 255 (i % 8)
    rw [bit255 _ (by omega), Bool.true_or]
  · rw [if_neg h, show (m.length == 0) = false by simpa using h, Bool.false_or]

/-- the variable at c tells of the mask m -/
def Say (w : World) (c : Nat) (m : List Int) : Prop := ∃ sv, w.cell? ⟨c, 0, none⟩ = some sv ∧ Byt w sv (ms m)
theorem Say.lt {w : World} {c : Nat} {m : List Int} (h : Say w c m) : c < w.heap.size := by
  obtain ⟨sv, h1, _⟩ := h
  exact World.block_lt_of_cell? w _ h1
theorem Say.below {w w' : World} {c : Nat} {m : List Int} (h : Say w c m) (hb : Below w.heap.size w w') : Say w' c m := by
  have hl := h.lt
  obtain ⟨sv, h1, h2⟩ := h
  exact ⟨sv, by rw [hb.cell hl]; exact h1, h2.below hb⟩
end Go.Proofs.YtahfcpdekjdceaaDoor.fa

/- Rows of bytes of the call's own, with room behind: read, written, appended to. No claim of its own. -/
namespace Go.Proofs.YtahfcpdekjdceaaDoor.fa
open Go.RowKit
set_option maxRecDepth 20000

/-- the row g owns n bytes, and has room for cap -/
def OwnC (B : Nat) (w : World) (g n cap : Nat) (xs : List Int) : Prop := xs.length = n ∧ B ≤ g ∧ w.ownsRow B 5 1 (.slice (some ⟨g, 0, none⟩) n cap) n (xs.map (Value.int .u8))
theorem OwnC.cell {B : Nat} {w : World} {g n cap : Nat} {xs : List Int} (h : OwnC B w g n cap xs) {k : Nat} (hk : k < n) : w.cell? ⟨g, k, none⟩ = some (.int .u8 (gb xs k)) := by
  rw [h.2.2.cellAt k (by omega)]
  have := h.1
  simp [gb, List.getD, show k < xs.length by omega]
theorem OwnC.free {B : Nat} {w : World} {g n cap : Nat} {xs : List Int} (h : OwnC B w g n cap xs) (k : Nat) : w.frozen? ⟨g, k, none⟩ = false := h.2.2.frozenAt k
theorem OwnC.set {B : Nat} {w : World} {g n cap : Nat} {xs : List Int} (h : OwnC B w g n cap xs) (k : Nat) (x : Int) : OwnC B (w.setCell ⟨g, k, none⟩ (.int .u8 x)) g n cap (xs.set k x) :=
  ⟨by simpa using h.1, h.2.1, by have := (h.2.2.stored k (.int .u8 x)).1; rwa [← List.map_set] at this⟩
theorem OwnC.drewN {B : Nat} {w : World} {g n cap : Nat} {xs : List Int} (h : OwnC B w g n cap xs) (m : Nat) : OwnC B (w.drewN m) g n cap xs := h
theorem OwnC.own {B : Nat} {w : World} {g n cap : Nat} {xs : List Int} (h : OwnC B w g n cap xs) : Own B w (.slice (some ⟨g, 0, none⟩) n cap) xs := by
  have h1 := h.1
  subst h1
  exact h.2.2
theorem own_row {B : Nat} {w : World} {v : Value} {xs : List Int} (h : Own B w v xs) (hp : 0 < xs.length) : ∃ g cap, v = .slice (some ⟨g, 0, none⟩) xs.length cap ∧ OwnC B w g xs.length cap xs := by
  rcases h.2 with ⟨_, hn⟩ | ⟨g, cap, cur, rfl, hg, hr⟩
  · omega
  · exact ⟨g, cap, rfl, rfl, hg, h⟩
theorem own_drewN {B : Nat} {w : World} {v : Value} {xs : List Int} (h : Own B w v xs) (m : Nat) : Own B (w.drewN m) v xs := h

/-- 'append(s, x...)', s of the call's own -/
theorem pushs_law {ops : Array Oper} {rest : List Oper} {o : Oper} {a : Act} {Q : Exit → Act → World → Prop} (w : World) (hg : o.guard = none) (s x : Operand) (hop : o.op = .call { callee := .builtin .append, args := #[s, x], argTypes := #[24, 24] })
    (B : Nat) (hB : B ≤ w.heap.size) (v vy : Value) (xs ys : List Int) (hs : a.eval s = v) (hx : a.eval x = vy) (hown : Own B w v xs) (hy : Byt w vy ys) (hm : xs.length + ys.length ≤ 140737488355328)
    (hK : ∀ v' w', Own B w' v' (xs ++ ys) → Below B w w' → wpList Tryd.prog ops Q rest (a.put o.dst v') w') :
    wpList Tryd.prog ops Q (o :: rest) a w := by
  obtain ⟨i0, hi, hz0, hz1, hz2⟩ := info_parts info_u8
  obtain ⟨ao, cap, rfl, h1, h2, h3, h4, h5⟩ := hy
  cases ao with
  | none =>
    have hc := h4 rfl
    subst hc
    have : ys = [] := List.eq_nil_of_length_eq_zero (by omega)
    subst this
    refine wpList_append_own_none hg s x 24 hop B 5 i0 1 Tryd.underlying24 hi v xs.length _ hs hown hx (hK v w ?_ (Below.refl _ _))
    rwa [List.append_nil]
  | some ad =>
    refine wpList_append_own _ hg s x 24 hop B 5 i0 (.int .u8 0) 1 1 Tryd.underlying24 hi hz0 hz1 hz2 rfl (by decide) v xs.length _ hs hown ad ys.length cap (ys.map (Value.int .u8)) hx (by simp) ?_ ?_ (by simp only [maxLen]; omega) (by omega) hB fun v' w' h1 h2 _ => ?_
    · intro j u hj
      have hjl : j < ys.length := by have := (List.getElem?_eq_some_iff.1 hj).1; simpa using this
      obtain ⟨b, off, e, hc⟩ := h5 (by omega)
      cases e
      rw [Addr.add_mid, hc j hjl, ← hj]
      simp [gb, List.getD, hjl]
    · intro u hu
      simp only [List.mem_map] at hu
      obtain ⟨y, _, rfl⟩ := hu
      rfl
    · refine hK v' w' ?_ ?_
      · show w'.ownsRow B 5 1 v' (xs ++ ys).length ((xs ++ ys).map (Value.int .u8))
        simpa using h1
      · exact (Below.refl B w).grown h2 hB fun k hk => (World.ownsRow.lt hown k hk).1
end Go.Proofs.YtahfcpdekjdceaaDoor.fa

/- Structs of any cells in a place of their own: read, written. No claim of its own. -/
namespace Go.Proofs.YtahfcpdekjdceaaDoor.he
open Go.RowKit Go.Proofs.YtahfcpdekjdceaaDoor.fa
set_option maxRecDepth 20000

/-- a variable at c that holds the cells cs -/
def Vr (w : World) (c : Nat) (cs : List Value) : Prop := w.rangeAt c 0 cs ∧ w.there c 0 cs.length
theorem range_heap {w w' : World} {b p : Nat} {cs : List Value} (h : w.rangeAt b p cs) (e : w'.heap[b]? = w.heap[b]?) : w'.rangeAt b p cs := fun j v hv => by
  rw [World.cell?_of_block (w := w) (w' := w') (a := ⟨b, p + j, none⟩) e]; exact h j v hv
theorem there_heap {w w' : World} {b p n : Nat} (h : w.there b p n) (e : w'.heap[b]? = w.heap[b]?) : w'.there b p n := fun j hj => by
  rw [World.cell?_of_block (w := w) (w' := w') (a := ⟨b, p + j, none⟩) e, World.frozen?_of_block (w := w) (w' := w') (a := ⟨b, p + j, none⟩) e]
  exact h j hj
theorem range_lt {w : World} {b p : Nat} {cs : List Value} (h : w.rangeAt b p cs) (hp : 0 < cs.length) : b < w.heap.size := World.block_lt_of_cell? w _ (h 0 _ (List.getElem?_eq_getElem hp))
theorem Vr.heap {w w' : World} {c : Nat} {cs : List Value} (h : Vr w c cs) (e : w'.heap[c]? = w.heap[c]?) : Vr w' c cs := ⟨range_heap h.1 e, there_heap h.2 e⟩
theorem Vr.below {w w' : World} {c B : Nat} {cs : List Value} (h : Vr w c cs) (hb : Below B w w') (hc : c < B) : Vr w' c cs := h.heap (hb.block c hc)
theorem Vr.drewN {w : World} {c : Nat} {cs : List Value} (h : Vr w c cs) (n : Nat) : Vr (w.drewN n) c cs := h.heap rfl
theorem Vr.other {w : World} {c b o : Nat} {cs : List Value} (h : Vr w c cs) (u : Value) (hp : c ≠ b) : Vr (w.setCell ⟨b, o, none⟩ u) c cs := h.heap (Below.heap_setCell w ⟨b, o, none⟩ u c hp)
theorem Vr.cell {w : World} {c : Nat} {cs : List Value} (h : Vr w c cs) (j : Nat) (v : Value) (hv : cs[j]? = some v) : w.cell? ⟨c, j, none⟩ = some v := by
  have := h.1 j v hv
  rwa [Nat.zero_add] at this
theorem Vr.free {w : World} {c : Nat} {cs : List Value} (h : Vr w c cs) (j : Nat) (hj : j < cs.length) : w.frozen? ⟨c, j, none⟩ = false := by
  have := (h.2 j hj).2
  rwa [Nat.zero_add] at this
theorem Vr.set {w : World} {c : Nat} {cs : List Value} (h : Vr w c cs) (j : Nat) (hj : j < cs.length) (u : Value) : Vr (w.setCell ⟨c, j, none⟩ u) c (cs.set j u) := by
  have hc := h.cell j _ (List.getElem?_eq_getElem hj)
  refine ⟨fun i v hv => ?_, fun i hi => ?_⟩
  · rw [Nat.zero_add]
    rw [List.getElem?_set] at hv
    by_cases e : j = i
    · subst e
      rw [if_pos rfl, if_pos hj] at hv
      cases hv
      exact World.cell?_setCell_same _ _ _ hc
    · rw [if_neg e] at hv
      rw [World.cell?_setCell_other _ _ _ _ (by intro q; injection q with _ q2; omega)]
      exact h.cell i v hv
  · rw [List.length_set] at hi
    rw [Nat.zero_add]
    refine ⟨?_, by rw [World.frozen?_setCell]; exact h.free i hi⟩
    by_cases e : j = i
    · subst e
      rw [World.cell?_setCell_same _ _ _ hc]; rfl
    · rw [World.cell?_setCell_other _ _ _ _ (by intro q; injection q with _ q2; omega), h.cell i _ (List.getElem?_eq_getElem hi)]; rfl
theorem Vr.new (w : World) (t : TypeId) (cs : List Value) : Vr (w.alloc (.cells cs.toArray t)) w.heap.size cs := by
  have e := fun j => cell_of_row (w.alloc (.cells cs.toArray t)) w.heap.size j _ t (0, 0) (heap_alloc_last w _)
  refine ⟨fun j v hv => by rw [Nat.zero_add, e]; simpa using hv, fun j hj => ⟨?_, World.frozen?_alloc_at _ _ _ _ rfl⟩⟩
  rw [Nat.zero_add, e]
  simp [hj]

/-- a type of structs (or of arrays) of n cells -/
def Rowy (t : TypeId) (n : Nat) : Prop := (∃ d, Tryd.prog.underlying t = some d ∧ d.isRow = true) ∧ (Tryd.prog.info? t).map (·.size) = some n
theorem run_loadC {w : World} {b p : Nat} {t : TypeId} {cs : List Value} (ht : Rowy t cs.length) (h : w.rangeAt b p cs) : (loadVar t ⟨b, p, none⟩).run Tryd.prog w = .ok (.agg cs.toArray) w := by
  obtain ⟨⟨d, hu, hd⟩, hs⟩ := ht
  exact run_loadVar_mid (P := Tryd.prog) w b p t _ _ h hu hd hs
theorem load_cells {w : World} {b p : Nat} {t : TypeId} {cs : List Value} (ht : Rowy t cs.length) (h : w.rangeAt b p cs) : (Instr.loadAt t (.pointer (some ⟨b, p, none⟩))).run Tryd.prog w = .ok (.agg cs.toArray) w := by
  simp only [Instr.loadAt, Instr.sureAddr, Sem.run_bind, Sem.run_pure, Result.andThen_ok, run_loadC ht h]
theorem results_c {fn : Func} {p : Tmp} {t : TypeId} (h : fn.results = #[.cell p t]) (tmps : Array Value) (w : World) (b : Nat) (cs : List Value) (ht : Rowy t cs.length) (hp : tmps.getD p undef = .pointer (some ⟨b, 0, none⟩)) (ha : w.rangeAt b 0 cs) : (results fn tmps).run Tryd.prog w = .ok (.agg cs.toArray) w := by
  have hp' : tmps[p]?.getD undef = .pointer (some ⟨b, 0, none⟩) := by simpa using hp
  simp [results, h, hp', asAddr, run_loadC ht ha]
theorem results_cv {fn : Func} {p q : Tmp} {t : TypeId} (h : fn.results = #[.cell p t, .tmp q]) (tmps : Array Value) (w : World) (b : Nat) (cs : List Value) (v : Value) (ht : Rowy t cs.length) (hp : tmps.getD p undef = .pointer (some ⟨b, 0, none⟩)) (hq : tmps.getD q undef = v) (ha : w.rangeAt b 0 cs) : (results fn tmps).run Tryd.prog w = .ok (.tuple #[.agg cs.toArray, v]) w := by
  have hp' : tmps[p]?.getD undef = .pointer (some ⟨b, 0, none⟩) := by simpa using hp
  have hq' : tmps[q]?.getD undef = v := by simpa using hq
  simp [results, h, hp', hq', asAddr, run_loadC ht ha]

section
variable {ops : Array Oper} {rest : List Oper} {a : Act} {Q : Exit → Act → World → Prop}
/-- a struct gets a place -/
theorem box_lawC {d : Option Tmp} {x : Operand} {t ty : TypeId} {pos : String} {af : Array Edge} (w : World) (cs : List Value) (hx : a.eval x = .agg cs.toArray)
    (hK : ∀ w', Vr w' w.heap.size cs → Below w.heap.size w w' → w.heap.size < w'.heap.size → wpList Tryd.prog ops Q rest (a.put d (.pointer (some ⟨w.heap.size, 0, none⟩))) w') :
    wpList Tryd.prog ops Q (⟨d, Op.box t x, ty, pos, af, none⟩ :: rest) a w := by
  refine wpList_plain rfl fun K hK' => ?_
  unfold Oper.wp
  simp [execOp, hx, Instr.box, newVar, newRow, Value.cells, Result.andThen]
  exact hK' _ _ (hK _ (Vr.new w t cs) ((Below.refl _ _).alloc (Nat.le_refl _) _) (by simp))
/-- a variable for a struct -/
theorem new_lawC {d : Option Tmp} {t ty : TypeId} {pos : String} {af : Array Edge} (w : World) (cs : List Value) (hz : (Tryd.prog.info? t).map (fun i => (i.zero, i.size)) = some (some (.agg cs.toArray), cs.length))
    (hK : ∀ w', Vr w' w.heap.size cs → Below w.heap.size w w' → w.heap.size < w'.heap.size → wpList Tryd.prog ops Q rest (a.put d (.pointer (some ⟨w.heap.size, 0, none⟩))) w') :
    wpList Tryd.prog ops Q (⟨d, Op.alloc t, ty, pos, af, none⟩ :: rest) a w := by
  refine wpList_plain rfl fun K hK' => ?_
  have hz' := (zero_of_info hz).1
  unfold Oper.wp
  simp [execOp, Instr.alloc, hz', newVar, newRow, Value.cells, Result.andThen]
  exact hK' _ _ (hK _ (Vr.new w t cs) ((Below.refl _ _).alloc (Nat.le_refl _) _) (by simp))
/-- a struct is written -/
theorem store_lawC {d : Option Tmp} {x y : Operand} {t ty : TypeId} {pos : String} {af : Array Edge} (w : World) (cs : List Value) (b p : Nat) (hx : a.eval x = .pointer (some ⟨b, p, none⟩)) (hy : a.eval y = .agg cs.toArray) (ht : w.there b p cs.length) (hs : (Tryd.prog.info? t).map (·.size) = some cs.length) (h1 : ∀ v ∈ cs, v.oneCell' = true)
    (hK : ∀ w', Hid (w' = w.setCells b p cs) → w'.rangeAt b p cs → w'.there b p cs.length → Below b w w' → wpList Tryd.prog ops Q rest (a.put d undef) w') :
    wpList Tryd.prog ops Q (⟨d, Op.store t x y, ty, pos, af, none⟩ :: rest) a w := by
  refine wpList_store_mid rfl t x y rfl b p cs.toArray hx hy (by simpa using ht) (by simpa using hs) (all_oneCell_toArray h1) ?_
  exact hK _ rfl (World.rangeAt_setCells_same w b p cs ht) (World.there_setCells ht b p _) (below_cells _ (Nat.le_refl _) _ _ (Below.refl _ _))
end

theorem results_cvv {fn : Func} {p q r : Tmp} {t : TypeId} (h : fn.results = #[.cell p t, .tmp q, .tmp r]) (tmps : Array Value) (w : World) (b : Nat) (cs : List Value) (v u : Value) (ht : Rowy t cs.length) (hp : tmps.getD p undef = .pointer (some ⟨b, 0, none⟩)) (hq : tmps.getD q undef = v) (hr : tmps.getD r undef = u) (ha : w.rangeAt b 0 cs) : (results fn tmps).run Tryd.prog w = .ok (.tuple #[.agg cs.toArray, v, u]) w := by
  have hp' : tmps[p]?.getD undef = .pointer (some ⟨b, 0, none⟩) := by simpa using hp
  have hq' : tmps[q]?.getD undef = v := by simpa using hq
  have hr' : tmps[r]?.getD undef = u := by simpa using hr
  simp [results, h, hp', hq', hr', asAddr, run_loadC ht ha]

/-- a head's cells -/
def hv (k n c l e t : Int) : List Value := [.int .i64 k, .int .i64 n, .int .i64 c, .int .u32 l, .int .u64 e, .int .u64 t]

theorem rowy_head : Rowy 57 6 := ⟨⟨_, Tryd.underlying57, rfl⟩, by kernel_rfl⟩
theorem zero_head : (Tryd.prog.info? 57).map (fun i => (i.zero, i.size)) = some (some (.agg (hv 0 0 0 0 0 0).toArray), 6) := by kernel_rfl

theorem zero_nums : (Tryd.prog.info? 93).map (fun i => (i.zero, i.size)) = some (some (.agg (ints .u64 [0, 0, 0, 0, 0, 0, 0])), 7) := by kernel_rfl

theorem hv_one (k n c l e t : Int) : ∀ v ∈ hv k n c l e t, v.oneCell' = true := fun v hv' => by
  simp [hv] at hv'
  rcases hv' with rfl | rfl | rfl | rfl | rfl | rfl <;> rfl

/-- the table of sizes lies in w -/
def Tab (w : World) : Prop := ∀ i : Nat, i < 7 → w.cell? ⟨0, i, none⟩ = some (.int .i64 (gb [1, 1, 1, 1, 4, 8, 8] i))
theorem Tab.below {w w' : World} (h : Tab w) (hb : Below w.heap.size w w') : Tab w' := fun i hi => by
  have := h i hi
  rw [hb.cell (World.block_lt_of_cell? w _ this)]; exact this
theorem Tab.lt {w : World} (h : Tab w) : 0 < w.heap.size := World.block_lt_of_cell? w _ (h 0 (by omega))
theorem Tab.low {w w' : World} {B : Nat} (h : Tab w) (hB : 0 < B) (hb : Below B w w') : Tab w' := fun i hi => by
  have := h i hi
  rw [hb.cell hB]; exact this
theorem Tab.range {w : World} (h : Tab w) : w.rangeAt 0 0 (([1, 1, 1, 1, 4, 8, 8] : List Int).map (Value.int .i64)) := fun j v hv => by
  have hj : j < 7 := by have := (List.getElem?_eq_some_iff.1 hv).1; simpa using this
  have key : ∀ (l : List Int) j, j < l.length → (l.map (Value.int .i64))[j]? = some (.int .i64 (gb l j)) := fun l j h => by simp [gb, List.getD, h]
  rw [Nat.zero_add, h j hj, ← hv, key [1, 1, 1, 1, 4, 8, 8] j hj]

theorem rowy_sizes : Rowy 100 7 := ⟨⟨_, Tryd.underlying100, rfl⟩, by kernel_rfl⟩

theorem rowy_nums : Rowy 93 7 := ⟨⟨_, Tryd.underlying93, rfl⟩, by kernel_rfl⟩

/-- an array's element -/
theorem idx_law {ops : Array Oper} {rest : List Oper} {o : Oper} {a : Act} {Q : Exit → Act → World → Prop} (w : World) (hg : o.guard = none) (x y : Operand) (t : TypeId) (hop : o.op = Op.index t x y) (v i q : Value) (hx : a.eval x = v) (hy : a.eval y = i)
    (hr : (Instr.index t v i).run Tryd.prog w = .ok q w) (hK : wpList Tryd.prog ops Q rest (a.put o.dst q) w) : wpList Tryd.prog ops Q (o :: rest) a w := by
  refine wpList_plain hg fun K hK' => ?_
  unfold Oper.wp execOp
  simp only [hop, hx, hy, Sem.run_bind, Sem.run_pure, Result.andThen_ok, hr]
  exact hK' _ _ hK
end Go.Proofs.YtahfcpdekjdceaaDoor.he

/- What octet's Num answers: the number of the last eight bytes. No claim of its own. -/
namespace Go.Proofs.YtahfcpdekjdceaaDoor
open Go.RowKit
set_option maxRecDepth 20000

/-- the number of bytes, the greatest first, of sixty-four bits -/
def num : List Int → Int := fun xs => xs.foldl (fun n x => (n * 256) % 18446744073709551616 + x) 0
theorem num_snoc (xs : List Int) (x : Int) : num (xs ++ [x]) = (num xs * 256) % 18446744073709551616 + x := by simp [num]
/-- the last eight -/
def last8 (xs : List Int) : List Int := xs.drop (xs.length - 8)
theorem last8_len (xs : List Int) : (last8 xs).length = min xs.length 8 := by simp [last8]; omega
theorem gb_drop (xs : List Int) (d k : Nat) : gb (xs.drop d) k = gb xs (d + k) := by simp [gb, List.getD]
theorem take_snoc_gb (xs : List Int) (k : Nat) (h : k < xs.length) : xs.take (k + 1) = xs.take k ++ [gb xs k] := by
  rw [List.take_succ_eq_append_getElem h]; simp [gb, List.getD, h]
theorem num_bd (xs : List Int) (h : AllB xs) (k : Nat) (hk : k ≤ xs.length) : 0 ≤ num (xs.take k) ∧ num (xs.take k) ≤ 18446744073709551615 := by
  induction k with
  | zero => simp [num]
  | succ k ih =>
    rw [take_snoc_gb xs k (by omega), num_snoc]
    have := h k
    omega
theorem shl_or (n x : Int) (hx : 0 ≤ x ∧ x ≤ 255) : bits .or .u64 (IntKind.u64.wrap (n * 256)) (IntKind.u64.wrap x) = (n * 256) % 18446744073709551616 + x := by
  have hw : IntKind.u64.wrap x = x := by rw [IntKind.wrap_u64]; omega
  rw [hw, IntKind.wrap_u64]
  have h0 : 0 ≤ n * 256 % 18446744073709551616 := Int.emod_nonneg _ (by decide)
  have h1 : n * 256 % 18446744073709551616 < 18446744073709551616 := Int.emod_lt_of_pos _ (by decide)
  rw [u64_or _ _ h0 h1 hx.1 (by omega), nat_join 8 _ _ (by omega) (by omega)]
  omega

set_option maxHeartbeats 2000000 in
theorem num_any (v : Value) (xs : List Int) (w : World) (hb : Byt w v xs) :
    Calls Tryd.prog 68 #[v] w fun e w' => e = .returned (.int .u64 (num (last8 xs))) ∧ w' = w := by
  have HB := hb
  obtain ⟨ao, cap, rfl, h1, h2, -, -, -⟩ := hb
  have HBB : Hid (Byt w (.slice ao xs.length cap) xs) := HB
  clear HB
  generalize hys : last8 xs = ys
  have hs : ((clamp (xs.length : Int) 8 : Nat) : Int) = min (max (xs.length : Int) 0) 8 := by unfold clamp; omega
  generalize hsd : clamp (xs.length : Int) 8 = s at hs
  have HS : Hid (clamp (xs.length : Int) 8 = s) := hsd
  have hs1 : s ≤ 8 := by omega
  have hs2 : s ≤ xs.length := by omega
  have HL : Hid (xs.drop (xs.length - s) = ys) := by
    show _ = _
    rw [← hys]; unfold last8; congr 1; omega
  clear hsd hs hys
  go_enter Tryd.func68, Tryd.ntmps68
  go_wp2_with (first
    | (go_at_call 51; refine (within_any _ _ _ (by omega)).mono ?_; rintro e w' ⟨rfl, hw⟩; obtain rfl := hw.symm; rw [HS.out])
    | (refine cut_from _ rfl (.tmp 6) (.tmp 12) rfl _ xs _ (xs.length - s) rfl rfl (by omega) (by omega) HBB.out ?_; intro v' hv; rw [HL.out] at hv; obtain ⟨ao', cap', rfl, k1, k2, k3, -, k5⟩ := hv; have K3 : Hid (AllB ys) := k3; have K5 : Hid (0 < ys.length → ∃ b off, ao' = some ⟨b, off, none⟩ ∧ ∀ t, t < ys.length → w.cell? ⟨b, off + t, none⟩ = some (.int .u8 (gb ys t))) := k5; clear k3 k5))
  go_loop [3, 15] (fun n i => ∃ k : Nat, k ≤ ys.length ∧ i = .int .i64 k ∧ n = .int .u64 (num (ys.take k))) (fun _ i => ys.length - (intOf i).toNat)
  case atStart => exact ⟨0, Nat.zero_le _, rfl, rfl⟩
  case round =>
    obtain ⟨k, hk, rfl, rfl⟩ := hrel
    by_cases hlt : k < ys.length
    · obtain ⟨b, off, rfl, hca⟩ := K5.out (by omega)
      have c0 := hca k hlt
      clear hca
      have SN : Hid (num (ys.take (k + 1)) = num (ys.take k) * 256 % 18446744073709551616 + gb ys k) := by
        show _ = _
        rw [take_snoc_gb ys k hlt, num_snoc]
      go_wp2
      go_round
      case rel => exact ⟨k + 1, by omega, by go_num, by rw [SN.out, shl_or _ _ (K3.out k)]⟩
      case measure => simp [intOf]; omega
    · have hks : k = ys.length := by omega
      subst hks
      rw [List.take_length]
      go_wp2
      go_ret
      exact ⟨rfl, rfl⟩
end Go.Proofs.YtahfcpdekjdceaaDoor

/- What octet's Big, Little, NumLittle and the reference's answer. No claim of its own. -/
namespace Go.Proofs.YtahfcpdekjdceaaDoor
open Go.RowKit
set_option maxRecDepth 20000

/-- n, shifted by k bytes -/
def sh (n : Int) : Nat → Int
  | 0 => n
  | k + 1 => sh n k / 256
theorem sh_succ (n : Int) (k : Nat) : sh n (k + 1) = sh n k / 256 := rfl
theorem sh_bd (n : Int) (h : 0 ≤ n ∧ n ≤ 18446744073709551615) (k : Nat) : 0 ≤ sh n k ∧ sh n k ≤ 18446744073709551615 := by
  induction k with
  | zero => exact h
  | succ k ih => rw [sh_succ]; omega
/-- the k low bytes of n, the least first -/
def le (n : Int) (k : Nat) : List Int := (List.range k).map fun i => sh n i % 256
theorem le_snoc (n : Int) (k : Nat) : le n (k + 1) = le n k ++ [sh n k % 256] := by simp [le, List.range_succ]
theorem le_len (n : Int) (k : Nat) : (le n k).length = k := by simp [le]
theorem le_all (n : Int) (k : Nat) : AllB (le n k) := allB_mem fun x hx => by
  obtain ⟨i, _, rfl⟩ := List.mem_map.1 hx
  omega
theorem allB_reverse {xs : List Int} (h : AllB xs) : AllB xs.reverse := allB_mem fun x hx => by
  obtain ⟨i, hi, rfl⟩ := List.getElem_of_mem (List.mem_reverse.1 hx)
  have := h i
  simpa [gb, List.getD, hi] using this

def leAt (n : Int) (s k : Nat) : List Int := le n k ++ List.replicate (s - k) 0
theorem leAt_set (n : Int) (s k : Nat) (h : k < s) : (leAt n s k).set k (sh n k % 256) = leAt n s (k + 1) := by
  unfold leAt
  obtain ⟨d, hd⟩ : ∃ d, s - k = d + 1 := ⟨s - k - 1, by omega⟩
  have e : s - (k + 1) = d := by omega
  rw [hd, e, List.set_append_right _ _ (by simp [le_len]), le_snoc]
  simp [le_len, List.replicate_succ]
theorem leAt_end (n : Int) (s : Nat) : leAt n s s = le n s := by simp [leAt]

def beAt (n : Int) (s k : Nat) : List Int := List.replicate (s - k) 0 ++ (le n k).reverse
theorem beAt_set (n : Int) (s k : Nat) (h : k < s) : (beAt n s k).set (s - 1 - k) (sh n k % 256) = beAt n s (k + 1) := by
  unfold beAt
  obtain ⟨d, hd⟩ : ∃ d, s - k = d + 1 := ⟨s - k - 1, by omega⟩
  have e : s - (k + 1) = d := by omega
  have e' : s - 1 - k = d := by omega
  rw [hd, e, e', List.set_append_left _ _ (by simp), le_snoc, List.replicate_succ', List.set_append_right _ _ (by simp)]
  simp
theorem beAt_end (n : Int) (s : Nat) : beAt n s s = (le n s).reverse := by simp [beAt]

set_option maxHeartbeats 2000000 in
theorem big_any (n k0 : Int) (w : World) (hn : 0 ≤ n ∧ n ≤ 18446744073709551615) :
    Calls Tryd.prog 65 #[.int .u64 n, .int .i64 k0] w fun e w' => ∃ v, e = .returned v ∧ Byt w' v (le n (clamp k0 8)).reverse ∧ Below w.heap.size w w' := by
  have hs := clamp_le k0 8 (by omega)
  generalize hsd : clamp k0 8 = s at hs
  have HS : Hid (clamp k0 8 = s) := hsd
  have hn' : Hid (0 ≤ n ∧ n ≤ 18446744073709551615) := hn
  clear hsd hn
  go_enter Tryd.func65, Tryd.ntmps65
  go_wp2_with (first
    | (go_at_call 51; refine (within_any _ _ _ (by omega)).mono ?_; rintro e w' ⟨rfl, hw⟩; obtain rfl := hw.symm; rw [HS.out])
    | (at_make; refine make_law _ rfl _ _ rfl w.heap.size (Nat.le_refl _) _ s rfl rfl rfl (by omega) ?_; intro w1 hown hbel hlt))
  go_loopw [0, 13] (fun m i wr => ∃ k : Nat, k ≤ s ∧ i = .int .i64 k ∧ m = .int .u64 (sh n k) ∧ OwnN w.heap.size wr w.heap.size s (beAt n s k) ∧ Below w.heap.size w wr) (fun _ i _ => s - (intOf i).toNat)
  case atStart => exact ⟨0, Nat.zero_le _, rfl, rfl, by simpa [beAt, le] using hown, hbel⟩
  case round =>
    clear hown hbel
    obtain ⟨k, hk, rfl, rfl, hown, hbel⟩ := hrel
    by_cases hlt' : k < s
    · have c1 := hown.cell (show s - 1 - k < s by omega)
      have c2 := hown.free (s - 1 - k)
      have hown' := hown.set (s - 1 - k) (sh n k % 256)
      rw [beAt_set n s k hlt'] at hown'
      have bd := sh_bd n hn'.out k
      have e1 : IntKind.u8.wrap (sh n k) = sh n k % 256 := IntKind.wrap_u8' _
      have e2 : ((s : Int) - 1 - (k : Int)).toNat = s - 1 - k := by omega
      go_wp2
      go_roundw
      case rel => exact ⟨k + 1, by omega, by go_num, rfl, hown', hbel.setCell (Nat.le_refl _) _⟩
      case measure => simp [intOf]; omega
    · have : k = s := by omega
      subst this
      rw [beAt_end] at hown
      go_wp2
      go_ret
      exact ⟨_, rfl, hown.byt (allB_reverse (le_all _ _)), hbel⟩
end Go.Proofs.YtahfcpdekjdceaaDoor

/- What octet's NumLittle and the reference's Back, Little, Big, NumLittle and Num answer. No claim of its own. -/
namespace Go.Proofs.YtahfcpdekjdceaaDoor
open Go.RowKit
set_option maxRecDepth 20000

theorem rev_snoc (xs : List Int) (k : Nat) (h : k < xs.length) : xs.reverse.take (k + 1) = xs.reverse.take k ++ [gb xs (xs.length - 1 - k)] := by
  rw [List.take_succ_eq_append_getElem (by simpa using h)]
  simp [gb, List.getD, show xs.length - 1 - k < xs.length by omega]
theorem allB_take {xs : List Int} (h : AllB xs) (k : Nat) : AllB (xs.take k) := allB_mem fun x hx => by
  obtain ⟨i, hi, rfl⟩ := List.getElem_of_mem (List.mem_of_mem_take hx)
  have := h i
  simpa [gb, List.getD, hi] using this

set_option maxHeartbeats 2000000 in
theorem rlittle_any (n k0 : Int) (w : World) (hn : 0 ≤ n ∧ n ≤ 18446744073709551615) :
    Calls Tryd.prog 71 #[.int .u64 n, .int .i64 k0] w fun e w' => ∃ v, e = .returned v ∧ Byt w' v (le n (clamp k0 8)) ∧ Below w.heap.size w w' := by
  have hs : ((clamp k0 8 : Nat) : Int) = min (max k0 0) 8 := by unfold clamp; omega
  generalize hsd : clamp k0 8 = s at hs
  have HS : Hid ((s : Int) = min (max k0 0) 8) := hs
  have hs1 : s ≤ 8 := by omega
  have hn' : Hid (0 ≤ n ∧ n ≤ 18446744073709551615) := hn
  clear hsd hs hn
  go_enter Tryd.func71, Tryd.ntmps71
  go_wp2
  go_loopw [0, 5, 6] (fun m v i wr => ∃ k : Nat, k ≤ s ∧ i = .int .i64 k ∧ m = .int .u64 (sh n k) ∧ Own w.heap.size wr v (le n k) ∧ Below w.heap.size w wr) (fun _ _ i _ => s - (intOf i).toNat)
  case atStart => exact ⟨0, Nat.zero_le _, rfl, rfl, Own.empty w (Nat.le_refl _), (Below.refl _ _).alloc (Nat.le_refl _) _⟩
  case round =>
    obtain ⟨k, hk, rfl, rfl, hown, hbel⟩ := hrel
    have hsz := hbel.size
    by_cases hlt : k < s
    · have h1 : (k : Int) < k0 := by have := HS.out; omega
      have h2 : (k : Int) < 8 := by omega
      have bd := sh_bd n hn'.out k
      have e1 : IntKind.u8.wrap (sh n k % 256) = sh n k % 256 := by rw [IntKind.wrap_u8']; omega
      go_wp2_with (at_builtin; refine push_law wr rfl (.tmp 17) (.tmp 21) rfl w.heap.size (by omega) _ _ (sh n k % 256) rfl rfl hown (by rw [le_len]; omega) ?_; intro v' w1 hown' hbel')
      rw [← le_snoc] at hown'
      go_roundw
      case rel => exact ⟨k + 1, by omega, by go_num, rfl, hown', hbel.trans hbel'⟩
      case measure => simp [intOf]; omega
    · have hks : k = s := by omega
      subst hks
      by_cases h1 : (k : Int) < k0
      · have h2 : ¬ (k : Int) < 8 := by have := HS.out; omega
        go_wp2
        go_ret
        exact ⟨_, rfl, hown.byt (le_all _ _), hbel⟩
      · go_wp2
        go_ret
        exact ⟨_, rfl, hown.byt (le_all _ _), hbel⟩

set_option maxHeartbeats 2000000 in
theorem bak_any (v : Value) (xs : List Int) (w : World) (hb : Byt w v xs) (hl : xs.length ≤ 1048576) :
    Calls Tryd.prog 70 #[v] w fun e w' => ∃ v', e = .returned v' ∧ Byt w' v' xs.reverse ∧ Below w.heap.size w w' := by
  obtain ⟨ao, cap, rfl, h1, h2, h3, -, h5⟩ := hb
  have H5 : Hid (0 < xs.length → ∃ b off, ao = some ⟨b, off, none⟩ ∧ ∀ t, t < xs.length → w.cell? ⟨b, off + t, none⟩ = some (.int .u8 (gb xs t))) := h5
  have HA : Hid (AllB xs) := h3
  clear h5 h3
  go_enter Tryd.func70, Tryd.ntmps70
  go_wp2
  go_loopw [3, 4] (fun v i wr => ∃ k : Nat, k ≤ xs.length ∧ i = .int .i64 ((xs.length : Int) - 1 - k) ∧ Own w.heap.size wr v (xs.reverse.take k) ∧ Below w.heap.size w wr) (fun _ i _ => (intOf i + 1).toNat)
  case atStart => exact ⟨0, Nat.zero_le _, by simp, Own.empty w (Nat.le_refl _), (Below.refl _ _).alloc (Nat.le_refl _) _⟩
  case round =>
    obtain ⟨k, hk, rfl, hown, hbel⟩ := hrel
    have hsz := hbel.size
    by_cases hlt : k < xs.length
    · obtain ⟨b, off, rfl, hca⟩ := H5.out (by omega)
      have c0 := hca (xs.length - 1 - k) (by omega)
      have c1 : wr.cell? ⟨b, off + (xs.length - 1 - k), none⟩ = some (.int .u8 (gb xs (xs.length - 1 - k))) := by rw [hbel.cell (World.block_lt_of_cell? w _ c0)]; exact c0
      have e2 : ((xs.length : Int) - 1 - (k : Int)).toNat = xs.length - 1 - k := by omega
      clear c0 hca
      go_wp2_with (at_builtin; refine push_law wr rfl (.tmp 13) (.tmp 18) rfl w.heap.size (by omega) _ _ (gb xs (xs.length - 1 - k)) rfl rfl hown (by simp; omega) ?_; intro v' w1 hown' hbel')
      rw [← rev_snoc xs k hlt] at hown'
      go_roundw
      case rel => exact ⟨k + 1, by omega, by go_num, hown', hbel.trans hbel'⟩
      case measure => simp [intOf]; omega
    · have hks : k = xs.length := by omega
      subst hks
      rw [List.take_of_length_le (by simp)] at hown
      go_wp2
      go_ret
      exact ⟨_, rfl, hown.byt (allB_reverse HA.out), hbel⟩

/-- the number of the first eight bytes, the least first -/
def numL (xs : List Int) : Int := num (xs.take 8).reverse
theorem numL_rev (xs : List Int) : numL xs.reverse = num (last8 xs) := by
  unfold numL last8; rw [List.take_reverse, List.reverse_reverse]
theorem take8_snoc (xs : List Int) (s k : Nat) (hs : s = min xs.length 8) (h : k < s) : (xs.take 8).reverse.take (k + 1) = (xs.take 8).reverse.take k ++ [gb xs (s - 1 - k)] := by
  have hl : (xs.take 8).length = s := by simp; omega
  rw [rev_snoc (xs.take 8) k (by omega), hl]
  have : gb (xs.take 8) (s - 1 - k) = gb xs (s - 1 - k) := by simp [gb, List.getD, show s - 1 - k < 8 by omega]
  rw [this]

theorem mul_add (n x : Int) (hx : 0 ≤ x ∧ x ≤ 255) : IntKind.u64.wrap (IntKind.u64.wrap (n * 256) + x) = n * 256 % 18446744073709551616 + x := by
  rw [IntKind.wrap_u64, IntKind.wrap_u64]; omega

set_option maxHeartbeats 2000000 in
theorem rnumLittle_any (v : Value) (xs : List Int) (w : World) (hb : Byt w v xs) :
    Calls Tryd.prog 69 #[v] w fun e w' => e = .returned (.int .u64 (numL xs)) ∧ w' = w := by
  obtain ⟨ao, cap, rfl, h1, h2, h3, -, h5⟩ := hb
  have H5 : Hid (0 < xs.length → ∃ b off, ao = some ⟨b, off, none⟩ ∧ ∀ t, t < xs.length → w.cell? ⟨b, off + t, none⟩ = some (.int .u8 (gb xs t))) := h5
  have HA : Hid (AllB xs) := h3
  clear h5 h3
  obtain ⟨s, hs⟩ : ∃ s, s = min xs.length 8 := ⟨_, rfl⟩
  have HS2 : Hid (s = min xs.length 8) := hs
  have hs1 : s ≤ 8 := by omega
  have hs2 : s ≤ xs.length := by omega
  clear hs
  go_enter Tryd.func69, Tryd.ntmps69
  go_wp2
  all_goals
    go_loop [3, 4] (fun n i => ∃ k : Nat, k ≤ s ∧ i = .int .i64 ((s : Int) - 1 - k) ∧ n = .int .u64 (num ((xs.take 8).reverse.take k))) (fun _ i => (intOf i + 1).toNat)
    case atStart => exact ⟨0, Nat.zero_le _, by have := HS2.out; congr 1; omega, rfl⟩
    case round =>
      obtain ⟨k, hk, rfl, rfl⟩ := hrel
      by_cases hlt : k < s
      · obtain ⟨b, off, rfl, hca⟩ := H5.out (by omega)
        have c0 := hca (s - 1 - k) (by omega)
        have e2 : ((s : Int) - 1 - (k : Int)).toNat = s - 1 - k := by omega
        clear hca
        have SN : Hid (num ((xs.take 8).reverse.take (k + 1)) = num ((xs.take 8).reverse.take k) * 256 % 18446744073709551616 + gb xs (s - 1 - k)) := by
          show _ = _
          rw [take8_snoc xs s k HS2.out hlt, num_snoc]
        have gbd := HA.out (s - 1 - k)
        go_wp2
        go_round
        case rel => exact ⟨k + 1, by omega, by go_num, by rw [SN.out, mul_add _ _ (HA.out _)]⟩
        case measure => simp [intOf]; omega
      · have hks : k = s := by omega
        have e : Hid ((xs.take 8).reverse.take k = (xs.take 8).reverse) := List.take_of_length_le (by have := HS2.out; simp; omega)
        rw [e.out]
        go_wp2
        go_ret
        exact ⟨rfl, rfl⟩

set_option maxHeartbeats 2000000 in
theorem rbig_any (n k0 : Int) (w : World) (hn : 0 ≤ n ∧ n ≤ 18446744073709551615) :
    Calls Tryd.prog 66 #[.int .u64 n, .int .i64 k0] w fun e w' => ∃ v, e = .returned v ∧ Byt w' v (le n (clamp k0 8)).reverse ∧ Below w.heap.size w w' := by
  have hs := clamp_le k0 8 (by omega)
  have hn' : Hid (0 ≤ n ∧ n ≤ 18446744073709551615) := hn
  clear hn
  go_enter Tryd.func66, Tryd.ntmps66
  go_wp2_with (first
    | (go_at_call 71; refine (rlittle_any n k0 _ hn'.out).mono ?_; rintro e w1 ⟨v1, rfl, hv1, hb1⟩; have hz1 := hb1.size)
    | (go_at_call 70; refine (bak_any v1 _ _ hv1 (by rw [le_len]; omega)).mono ?_; rintro e w2 ⟨v2, rfl, hv2, hb2⟩))
  go_ret
  exact ⟨_, rfl, hv2, hb1.trans (hb2.mono hz1)⟩

set_option maxHeartbeats 2000000 in
theorem rnum_any (v : Value) (xs : List Int) (w : World) (hb : Byt w v xs) (hl : xs.length ≤ 1048576) :
    Calls Tryd.prog 61 #[v] w fun e w' => e = .returned (.int .u64 (num (last8 xs))) ∧ Below w.heap.size w w' := by
  rw [← numL_rev]
  go_enter Tryd.func61, Tryd.ntmps61
  go_wp2_with (first
    | (go_at_call 70; refine (bak_any v _ _ hb hl).mono ?_; rintro e w2 ⟨v2, rfl, hv2, hb2⟩)
    | (go_at_call 69; refine (rnumLittle_any v2 _ _ hv2).mono ?_; rintro e w3 ⟨rfl, hw⟩; obtain rfl := hw.symm))
  go_ret
  exact ⟨rfl, hb2⟩

theorem num_le (n : Int) (hn : 0 ≤ n ∧ n ≤ 18446744073709551615) : num (le n 8).reverse = n := by
  simp only [num, le, List.range, List.range.loop, List.map_cons, List.map_nil, List.reverse_cons, List.reverse_nil, List.nil_append, List.cons_append, List.foldl_cons, List.foldl_nil, sh]
  omega
theorem clamp88 : clamp 8 8 = 8 := by decide
theorem numL_le (n : Int) (hn : 0 ≤ n ∧ n ≤ 18446744073709551615) : numL (le n 8) = n := by
  unfold numL; rw [List.take_of_length_le (by rw [le_len]; omega)]; exact num_le n hn
theorem last8_le (n : Int) (hn : 0 ≤ n ∧ n ≤ 18446744073709551615) : num (last8 (le n 8).reverse) = n := by
  unfold last8; rw [List.length_reverse, le_len]; exact num_le n hn
end Go.Proofs.YtahfcpdekjdceaaDoor

/- What octet's Xor, Same and Invert and the reference's Xor and Invert answer. No claim of its own. -/
namespace Go.Proofs.YtahfcpdekjdceaaDoor
open Go.RowKit
set_option maxRecDepth 20000

/-- zs, filled as far as place k -/
def part (zs : List Int) (k : Nat) : List Int := zs.take k ++ List.replicate (zs.length - k) 0
theorem part_zero (zs : List Int) : part zs 0 = List.replicate zs.length 0 := by simp [part]
theorem part_end (zs : List Int) : part zs zs.length = zs := by simp [part]
theorem part_set (zs : List Int) (k : Nat) (h : k < zs.length) : (part zs k).set k (gb zs k) = part zs (k + 1) := by
  unfold part
  obtain ⟨d, hd⟩ : ∃ d, zs.length - k = d + 1 := ⟨zs.length - k - 1, by omega⟩
  have e : zs.length - (k + 1) = d := by omega
  have hm : min k zs.length = k := by omega
  rw [hd, e, List.set_append_right _ _ (by simp; omega), List.take_succ_eq_append_getElem h, List.append_assoc]
  simp only [List.length_take, hm, Nat.sub_self, List.replicate_succ, List.set_cons_zero, gb, List.getD, List.getElem?_eq_getElem h, Option.getD_some, List.cons_append, List.nil_append]

/-- two bytes, xored -/
def xr (a b : Int) : Int := ((a.toNat ^^^ b.toNat : Nat) : Int)
theorem xr_of (a b : Int) (ha : 0 ≤ a ∧ a ≤ 255) (hb : 0 ≤ b ∧ b ≤ 255) : bits .xor .u8 a b = xr a b := u8_xor a b ha.1 (by omega) hb.1 (by omega)
theorem xr_bd (a b : Int) (ha : 0 ≤ a ∧ a ≤ 255) (hb : 0 ≤ b ∧ b ≤ 255) : 0 ≤ xr a b ∧ xr a b ≤ 255 := by
  unfold xr
  have := Nat.xor_lt_two_pow (n := 8) (show a.toNat < 2 ^ 8 by omega) (show b.toNat < 2 ^ 8 by omega)
  omega
theorem xr_comm (a b : Int) : xr a b = xr b a := by unfold xr; rw [Nat.xor_comm]
theorem xr_back (a b : Int) (ha : 0 ≤ a) : xr (xr a b) b = a := by
  unfold xr
  rw [Int.toNat_natCast, Nat.xor_assoc, Nat.xor_self, Nat.xor_zero, Int.toNat_of_nonneg ha]
theorem xr_zero (a b : Int) (ha : 0 ≤ a) (hb : 0 ≤ b) : xr a b = 0 ↔ a = b := by
  unfold xr
  constructor
  · intro h
    have h1 : a.toNat ^^^ b.toNat = 0 := by omega
    have h2 : a.toNat = b.toNat := by
      have := congrArg (· ^^^ b.toNat) h1
      simpa [Nat.xor_assoc] using this
    omega
  · rintro rfl; simp

/-- two lists, xored byte by byte -/
def xorl (xs ys : List Int) : List Int := List.zipWith xr xs ys
theorem xorl_len (xs ys : List Int) (h : xs.length = ys.length) : (xorl xs ys).length = xs.length := by simp [xorl]; omega
theorem xorl_gb (xs ys : List Int) (h : xs.length = ys.length) (k : Nat) (hk : k < xs.length) : gb (xorl xs ys) k = xr (gb xs k) (gb ys k) := by
  simp [gb, xorl, List.getD, List.getElem?_zipWith, hk, show k < ys.length by omega]
theorem xorl_all (xs ys : List Int) (h : xs.length = ys.length) (ha : AllB xs) (hb : AllB ys) : AllB (xorl xs ys) := by
  intro k
  by_cases hk : k < xs.length
  · rw [xorl_gb xs ys h k hk]; exact xr_bd _ _ (ha k) (hb k)
  · have : gb (xorl xs ys) k = 0 := by simp only [gb, List.getD, List.getElem?_eq_none (show (xorl xs ys).length ≤ k by rw [xorl_len xs ys h]; omega)]; rfl
    omega
theorem xorl_back (xs ys : List Int) (h : xs.length = ys.length) (ha : AllB xs) : xorl (xorl xs ys) ys = xs := by
  have hl := xorl_len xs ys h
  refine ext_gb (by rw [xorl_len _ _ (by omega)]; omega) fun t ht => ?_
  rw [xorl_len _ _ (by omega)] at ht
  rw [xorl_gb _ _ (by omega) t (by omega), xorl_gb _ _ h t (by omega), xr_back _ _ (ha t).1]
theorem xorl_take (xs ys : List Int) (h : xs.length = ys.length) (k : Nat) (hk : k < xs.length) : (xorl xs ys).take (k + 1) = (xorl xs ys).take k ++ [xr (gb xs k) (gb ys k)] := by
  have hl := xorl_len xs ys h
  rw [List.take_succ_eq_append_getElem (by omega), ← xorl_gb xs ys h k hk]
  simp [gb, List.getD, show k < (xorl xs ys).length by omega]

/-- what is unlike so far, or-ed -/
def unl : List Int → Int := fun zs => zs.foldl (fun u z => bits .or .u8 u z) 0
theorem unl_snoc (zs : List Int) (z : Int) : unl (zs ++ [z]) = bits .or .u8 (unl zs) z := by simp [unl]
theorem or_zero (u z : Int) (hu : 0 ≤ u ∧ u ≤ 255) (hz : 0 ≤ z ∧ z ≤ 255) : (0 ≤ bits .or .u8 u z ∧ bits .or .u8 u z ≤ 255) ∧ (bits .or .u8 u z = 0 ↔ u = 0 ∧ z = 0) := by
  rw [u8_or _ _ hu.1 (by omega) hz.1 (by omega)]
  have hlt := Nat.or_lt_two_pow (n := 8) (show u.toNat < 2 ^ 8 by omega) (show z.toNat < 2 ^ 8 by omega)
  have h0 : (u.toNat ||| z.toNat) = 0 ↔ u.toNat = 0 ∧ z.toNat = 0 := Nat.or_eq_zero_iff
  omega
theorem unl_from (zs : List Int) : ∀ u : Int, (0 ≤ u ∧ u ≤ 255) → (∀ z ∈ zs, 0 ≤ z ∧ z ≤ 255) → (zs.foldl (fun u z => bits .or .u8 u z) u = 0 ↔ u = 0 ∧ ∀ z ∈ zs, z = 0) := by
  induction zs with
  | nil => intro u hu h; simp
  | cons z zs ih =>
    intro u hu h
    have o := or_zero u z hu (h z (by simp))
    rw [List.foldl_cons, ih _ o.1 (fun y hy => h y (by simp [hy])), o.2]
    simp [and_assoc]
theorem unl_zero (zs : List Int) (h : ∀ z ∈ zs, 0 ≤ z ∧ z ≤ 255) : unl zs = 0 ↔ ∀ z ∈ zs, z = 0 := by
  unfold unl; rw [unl_from zs 0 (by decide) h]; simp
theorem mem_gb {xs : List Int} {z : Int} (h : z ∈ xs) : ∃ i, i < xs.length ∧ gb xs i = z := by
  obtain ⟨i, hi, rfl⟩ := List.getElem_of_mem h
  exact ⟨i, hi, by simp [gb, List.getD, hi]⟩
theorem gb_mem {xs : List Int} {i : Nat} (h : i < xs.length) : gb xs i ∈ xs := by
  simp [gb, List.getD, h]
theorem unl_same (xs ys : List Int) (h : xs.length = ys.length) (ha : AllB xs) (hb : AllB ys) : (unl (xorl xs ys) == 0) = decide (xs = ys) := by
  have hall : ∀ z ∈ xorl xs ys, 0 ≤ z ∧ z ≤ 255 := fun z hz => by
    obtain ⟨i, hi, rfl⟩ := mem_gb hz
    exact xorl_all xs ys h ha hb i
  rw [Bool.eq_iff_iff]
  simp only [beq_iff_eq, decide_eq_true_eq]
  rw [unl_zero _ hall]
  constructor
  · intro hz
    refine ext_gb h fun t ht => ?_
    have := hz (gb (xorl xs ys) t) (gb_mem (by rw [xorl_len xs ys h]; exact ht))
    rw [xorl_gb xs ys h t ht] at this
    exact (xr_zero _ _ (ha t).1 (hb t).1).1 this
  · rintro rfl z hz
    obtain ⟨i, hi, rfl⟩ := mem_gb hz
    rw [xorl_len xs xs rfl] at hi
    rw [xorl_gb xs xs rfl i hi]
    exact (xr_zero _ _ (ha i).1 (ha i).1).2 rfl

set_option maxHeartbeats 2000000 in
theorem oSame_any (va vb : Value) (xs ys : List Int) (w : World) (ha : Byt w va xs) (hb : Byt w vb ys) :
    Calls Tryd.prog 60 #[va, vb] w fun e w' => e = .returned (.bool (decide (xs = ys))) ∧ ∃ n, w' = w.drewN n := by
  obtain ⟨ao, ca, rfl, ha1, ha2, ha3, -, ha5⟩ := ha
  obtain ⟨bo, cb, rfl, hb1, hb2, hb3, -, hb5⟩ := hb
  by_cases hl : xs.length = ys.length
  · have HL : Hid (xs.length = ys.length) := hl
    have HA5 : Hid (0 < xs.length → ∃ b off, ao = some ⟨b, off, none⟩ ∧ ∀ t, t < xs.length → w.cell? ⟨b, off + t, none⟩ = some (.int .u8 (gb xs t))) := ha5
    have HB5 : Hid (0 < xs.length → ∃ b off, bo = some ⟨b, off, none⟩ ∧ ∀ t, t < xs.length → w.cell? ⟨b, off + t, none⟩ = some (.int .u8 (gb ys t))) := by
      rw [hl]; exact hb5
    have HA : Hid (AllB xs) := ha3
    have HB : Hid (AllB ys) := hb3
    rw [← hl] at hb1 ⊢
    clear hb5 ha5 ha3 hb3 hl
    rw [← unl_same xs ys HL.out HA.out HB.out]
    go_enter Tryd.func60, Tryd.ntmps60
    go_wp2
    go_loopw [5, 14] (fun u i wr => ∃ k n : Nat, k ≤ xs.length ∧ i = .int .i64 k ∧ u = .int .u8 (unl ((xorl xs ys).take k)) ∧ wr = w.drewN n) (fun _ i _ => xs.length - (intOf i).toNat)
    case atStart => exact ⟨0, 0, Nat.zero_le _, rfl, rfl, rfl⟩
    case round =>
      obtain ⟨k, n, hk, rfl, rfl, rfl⟩ := hrel
      by_cases hlt : k < xs.length
      · obtain ⟨b, off, rfl, hca⟩ := HA5.out (by omega)
        obtain ⟨b', off', rfl, hcb⟩ := HB5.out (by omega)
        have c1 : w.cell? ⟨b, off + k, none⟩ = some (.int .u8 (gb xs k)) := hca k hlt
        have c2 : w.cell? ⟨b', off' + k, none⟩ = some (.int .u8 (gb ys k)) := hcb k hlt
        have lk : (k : Int) < (xs.length : Int) := by omega
        have hx : bits .xor .u8 (gb xs k) (gb ys k) = xr (gb xs k) (gb ys k) := xr_of _ _ (HA.out k) (HB.out k)
        have SN : Hid (unl ((xorl xs ys).take (k + 1)) = bits .or .u8 (unl ((xorl xs ys).take k)) (xr (gb xs k) (gb ys k))) := by
          show _ = _
          rw [xorl_take xs ys HL.out k hlt, unl_snoc]
        clear hca hcb
        go_wp2
        go_quiet (fail)
        go_wp2
        go_roundw
        case rel => exact ⟨k + 1, n + nq, by omega, by go_num, by rw [SN.out], rfl⟩
        case measure => simp [intOf]; omega
      · have hks : k = xs.length := by omega
        have e : Hid ((xorl xs ys).take k = xorl xs ys) := List.take_of_length_le (by rw [xorl_len xs ys HL.out]; omega)
        rw [e.out]
        go_wp2
        go_ret
        exact ⟨rfl, n, rfl⟩
  · have : decide (xs = ys) = false := by simp only [decide_eq_false_iff_not]; intro e; exact hl (by rw [e])
    rw [this]
    have h2 : ((xs.length : Int) != (ys.length : Int)) = true := by simp; omega
    go_enter Tryd.func60, Tryd.ntmps60
    go_wp2
    go_ret
    exact ⟨rfl, 0, rfl⟩

def inv (xs : List Int) : List Int := xs.map fun x => xr 255 x
theorem inv_len (xs : List Int) : (inv xs).length = xs.length := by simp [inv]
theorem inv_gb (xs : List Int) (k : Nat) (hk : k < xs.length) : gb (inv xs) k = xr 255 (gb xs k) := by simp [gb, inv, List.getD, hk]
theorem inv_all (xs : List Int) (ha : AllB xs) : AllB (inv xs) := allB_mem fun z hz => by
  obtain ⟨i, hi, rfl⟩ := mem_gb hz
  rw [inv_len] at hi
  rw [inv_gb xs i hi]
  exact xr_bd _ _ (by decide) (ha i)
theorem inv_xorl (xs : List Int) : inv xs = xorl xs (List.replicate xs.length 255) := by
  refine ext_gb (by rw [inv_len, xorl_len _ _ (by simp)]) fun t ht => ?_
  rw [inv_len] at ht
  rw [inv_gb xs t ht, xorl_gb _ _ (by simp) t ht, xr_comm]
  simp [gb, List.getD, ht]

set_option maxHeartbeats 2000000 in
theorem invert_any (va : Value) (xs : List Int) (w : World) (ha : Byt w va xs) (hmax : xs.length ≤ 1048576) :
    Calls Tryd.prog 53 #[va] w fun e w' => ∃ v, e = .returned v ∧ Byt w' v (inv xs) ∧ Below w.heap.size w w' := by
  obtain ⟨ao, ca, rfl, ha1, ha2, ha3, -, ha5⟩ := ha
  have HA5 : Hid (0 < xs.length → ∃ b off, ao = some ⟨b, off, none⟩ ∧ ∀ t, t < xs.length → w.cell? ⟨b, off + t, none⟩ = some (.int .u8 (gb xs t))) := ha5
  have HA : Hid (AllB xs) := ha3
  clear ha5 ha3
  have HZ : Hid ((inv xs).length = xs.length) := inv_len xs
  go_enter Tryd.func53, Tryd.ntmps53
  go_wp2_with (at_make; refine make_law _ rfl (.tmp 6) (.tmp 6) rfl w.heap.size (Nat.le_refl _) _ xs.length rfl rfl rfl (by omega) ?_; intro w1 hown hbel hlt)
  go_loopw [10] (fun i wr => ∃ k : Nat, k ≤ xs.length ∧ i = .int .i64 k ∧ OwnN w.heap.size wr w.heap.size xs.length (part (inv xs) k) ∧ Below w.heap.size w wr) (fun i _ => xs.length - (intOf i).toNat)
  case atStart => exact ⟨0, Nat.zero_le _, rfl, by rw [part_zero, HZ.out]; exact hown, hbel⟩
  case round =>
    clear hown hbel
    obtain ⟨k, hk, rfl, hown, hbel⟩ := hrel
    by_cases hlt' : k < xs.length
    · obtain ⟨b, off, rfl, hca⟩ := HA5.out (by omega)
      have n1 := World.block_lt_of_cell? w _ (hca k hlt')
      have c1 : wr.cell? ⟨b, off + k, none⟩ = some (.int .u8 (gb xs k)) := (hbel.cell n1).trans (hca k hlt')
      have c3 := hown.cell hlt'
      have c4 := hown.free k
      have HX : Hid (bits .xor .u8 (if IntKind.u8.signed = true then -1 else IntKind.u8.max) (gb xs k) = xr 255 (gb xs k)) := xr_of 255 _ (by decide) (HA.out k)
      have hown' : OwnN w.heap.size (wr.setCell ⟨w.heap.size, k, none⟩ (.int .u8 (xr 255 (gb xs k)))) w.heap.size xs.length (part (inv xs) (k + 1)) := by
        have h := hown.set k (gb (inv xs) k)
        rw [part_set _ k (by rw [HZ.out]; exact hlt'), inv_gb xs k hlt'] at h
        exact h
      clear hca
      go_wp2
      go_roundw
      case rel => exact ⟨k + 1, by omega, by go_num, by rw [HX.out]; exact hown', hbel.setCell (Nat.le_refl _) _⟩
      case measure => simp [intOf]; omega
    · have hks : k = xs.length := by omega
      subst hks
      have hown2 : OwnN w.heap.size wr w.heap.size xs.length (inv xs) := by
        have := hown; rw [← HZ.out, part_end, HZ.out] at this; exact this
      go_wp2
      go_ret
      exact ⟨_, rfl, hown2.byt (inv_all _ HA.out), hbel⟩

set_option maxHeartbeats 2000000 in
theorem rxor_own (va vb : Value) (xs ys : List Int) (w : World) (ha : Byt w va xs) (hb : Byt w vb ys) (hl : xs.length = ys.length) (hmax : xs.length ≤ 1048576) :
    Calls Tryd.prog 67 #[va, vb] w fun e w' => ∃ v, e = .returned v ∧ Own w.heap.size w' v (xorl xs ys) ∧ Below w.heap.size w w' := by
  obtain ⟨ao, ca, rfl, ha1, ha2, ha3, -, ha5⟩ := ha
  obtain ⟨bo, cb, rfl, hb1, hb2, hb3, -, hb5⟩ := hb
  have HL : Hid (xs.length = ys.length) := hl
  have HA5 : Hid (0 < xs.length → ∃ b off, ao = some ⟨b, off, none⟩ ∧ ∀ t, t < xs.length → w.cell? ⟨b, off + t, none⟩ = some (.int .u8 (gb xs t))) := ha5
  have HB5 : Hid (0 < xs.length → ∃ b off, bo = some ⟨b, off, none⟩ ∧ ∀ t, t < xs.length → w.cell? ⟨b, off + t, none⟩ = some (.int .u8 (gb ys t))) := by
    rw [hl]; exact hb5
  have HA : Hid (AllB xs) := ha3
  have HB : Hid (AllB ys) := hb3
  rw [← hl] at hb1 ⊢
  clear hb5 ha5 ha3 hb3 hl
  have HZ : Hid ((xorl xs ys).length = xs.length) := xorl_len xs ys HL.out
  go_enter Tryd.func67, Tryd.ntmps67
  go_wp2
  go_loopw [5, 6] (fun v i wr => ∃ k : Nat, k ≤ xs.length ∧ i = .int .i64 k ∧ Own w.heap.size wr v ((xorl xs ys).take k) ∧ Below w.heap.size w wr) (fun _ i _ => xs.length - (intOf i).toNat)
  case atStart => exact ⟨0, Nat.zero_le _, rfl, Own.empty w (Nat.le_refl _), (Below.refl _ _).alloc (Nat.le_refl _) _⟩
  case round =>
    obtain ⟨k, hk, rfl, hown, hbel⟩ := hrel
    have hsz := hbel.size
    by_cases hlt' : k < xs.length
    · obtain ⟨b, off, rfl, hca⟩ := HA5.out (by omega)
      obtain ⟨b', off', rfl, hcb⟩ := HB5.out (by omega)
      have n1 := World.block_lt_of_cell? w _ (hca k hlt')
      have n2 := World.block_lt_of_cell? w _ (hcb k hlt')
      have c1 : wr.cell? ⟨b, off + k, none⟩ = some (.int .u8 (gb xs k)) := (hbel.cell n1).trans (hca k hlt')
      have c2 : wr.cell? ⟨b', off' + k, none⟩ = some (.int .u8 (gb ys k)) := (hbel.cell n2).trans (hcb k hlt')
      have lk : (k : Int) < (xs.length : Int) := by omega
      have lk0 : (0 : Int) ≤ (k : Int) := by omega
      have hx : bits .xor .u8 (gb xs k) (gb ys k) = xr (gb xs k) (gb ys k) := xr_of _ _ (HA.out k) (HB.out k)
      have hlen : ((xorl xs ys).take k).length ≤ 1099511627776 := by simp; omega
      have SN : Hid ((xorl xs ys).take (k + 1) = (xorl xs ys).take k ++ [xr (gb xs k) (gb ys k)]) := xorl_take xs ys HL.out k hlt'
      have HLEN : Hid (((xorl xs ys).take k).length ≤ 1099511627776) := hlen
      clear hca hcb hlen
      go_wp2
      go_region_held3 (fun w' => w'.cell? ⟨b, off + k, none⟩ = some (.int .u8 (gb xs k)) ∧ w'.cell? ⟨b', off' + k, none⟩ = some (.int .u8 (gb ys k)))
        (first
          | go_keep
          | (exact ⟨by rw [hbel'.cell n1]; simpa using c1, by rw [hbel'.cell n2]; simpa using c2⟩))
        ((refine step_push1 wr.drew rfl (.tmp 14) (.tmp 24) rfl w.heap.size (by simpa using hsz) _ _ (xr (gb xs k) (gb ys k)) rfl rfl hown HLEN.out ?_; intro v2 w2 hown' hbel'))
      go_wp2
      go_roundw
      case rel => exact ⟨k + 1, by omega, by go_num, by rw [SN.out]; exact hown', hbel.drew.trans hbel'⟩
      case measure => simp [intOf]; omega
    · have hks : k = xs.length := by omega
      have e : Hid ((xorl xs ys).take k = xorl xs ys) := List.take_of_length_le (by rw [HZ.out]; omega)
      rw [e.out] at hown
      go_wp2
      go_ret
      exact ⟨_, rfl, hown, hbel⟩

theorem rxor_any (va vb : Value) (xs ys : List Int) (w : World) (ha : Byt w va xs) (hb : Byt w vb ys) (hl : xs.length = ys.length) (hmax : xs.length ≤ 1048576) :
    Calls Tryd.prog 67 #[va, vb] w fun e w' => ∃ v, e = .returned v ∧ Byt w' v (xorl xs ys) ∧ Below w.heap.size w w' :=
  (rxor_own va vb xs ys w ha hb hl hmax).mono fun _ _ ⟨v, he, ho, hbl⟩ => ⟨v, he, ho.byt (xorl_all _ _ hl ha.all hb.all), hbl⟩

set_option maxHeartbeats 2000000 in
theorem rinvert_any (va : Value) (xs : List Int) (w : World) (ha : Byt w va xs) (hmax : xs.length ≤ 65536) :
    Calls Tryd.prog 55 #[va] w fun e w' => ∃ v, e = .returned v ∧ Byt w' v (inv xs) ∧ Below w.heap.size w w' := by
  have HA := ha
  obtain ⟨ao, ca, rfl, ha1, ha2, -, -, -⟩ := ha
  have e : clamp (xs.length : Int) 65536 = xs.length := by unfold clamp; omega
  have E : Hid (clamp (xs.length : Int) 65536 = xs.length) := e
  clear e
  rw [inv_xorl]
  go_enter Tryd.func55, Tryd.ntmps55
  go_wp2_with (first
    | (go_at_call 26; refine (rfill_any 255 _ _ (by decide)).mono ?_; rintro e w1 ⟨v1, rfl, hv1, hb1⟩; rw [E.out] at hv1; have hz1 := hb1.size)
    | (go_at_call 67; refine (rxor_any _ _ xs _ _ (HA.below hb1) hv1 (by simp) (by omega)).mono ?_; rintro e w2 ⟨v2, rfl, hv2, hb2⟩))
  go_ret
  exact ⟨_, rfl, hv2, hb1.trans (hb2.mono hz1)⟩
end Go.Proofs.YtahfcpdekjdceaaDoor

/- What fault's bitsOf and Bit, and the reference's Has and Bit answer. No claim of its own. -/
namespace Go.Proofs.YtahfcpdekjdceaaDoor.fa
open Go.RowKit
set_option maxRecDepth 20000

theorem makeFn (fn : Fn) (first cap : Array Value) (w : World) : (Instr.makeFunc fn first cap).run Tryd.prog w = .ok (.func fn first cap) w := rfl
end Go.Proofs.YtahfcpdekjdceaaDoor.fa

/- What fault's Bit, and the reference's Has and Bit answer. No claim of its own. -/
namespace Go.Proofs.YtahfcpdekjdceaaDoor.fa
open Go.RowKit
set_option maxRecDepth 20000

/-- what a mask says of the bit of any number -/
def bo (m : List Int) (i : Int) : Bool := if i < 0 then false else mk m i.toNat

theorem bit_prog (x : Int) (t : Nat) (h0 : 0 ≤ x) (h1 : x ≤ 255) : (bits .and .u8 (x / 2 ^ t) 1 != 0) = bit x.toNat t := by
  obtain ⟨X, rfl⟩ := Int.eq_ofNat_of_zero_le h0
  have e : ((X : Int) / 2 ^ t) = ((X / 2 ^ t : Nat) : Int) := by rw [Int.natCast_ediv]; norm_cast
  have l : X / 2 ^ t ≤ X := Nat.div_le_self _ _
  rw [e, Int.toNat_natCast]
  have := u8_and_nat (X / 2 ^ t) 1 (by omega) (by omega)
  rw [show ((1 : Nat) : Int) = 1 from rfl] at this
  rw [this, Nat.and_one_is_mod]
  unfold bit
  by_cases q : X / 2 ^ t % 2 = 1
  · rw [q]; decide
  · rw [show X / 2 ^ t % 2 = 0 by omega]; decide
end Go.Proofs.YtahfcpdekjdceaaDoor.fa

/- What the reference's Bit and And answer. No claim of its own. -/
namespace Go.Proofs.YtahfcpdekjdceaaDoor.fa
open Go.RowKit
set_option maxRecDepth 20000

/-- 'a & b', byte by byte -/
def andl (xs ys : List Int) : List Int := (List.range xs.length).map fun k => (((gb xs k).toNat &&& (gb ys k).toNat : Nat) : Int)
theorem andl_len (xs ys : List Int) : (andl xs ys).length = xs.length := by simp [andl]
theorem andl_gb (xs ys : List Int) (k : Nat) (h : k < xs.length) : gb (andl xs ys) k = (((gb xs k).toNat &&& (gb ys k).toNat : Nat) : Int) := by simp [gb, List.getD, andl, h]
theorem andl_ofb (xs ys : List Int) (hx : AllB xs) : andl xs ys = ofb xs.length fun i => hs xs i && hs ys i := by
  refine ext_gb (by rw [andl_len, ofb_len]) fun k hk => ?_
  rw [andl_len] at hk
  rw [andl_gb xs ys k hk, ofb_gb _ _ k hk, ands_ofb xs ys hx k]
theorem andl_all (xs ys : List Int) (hx : AllB xs) : AllB (andl xs ys) := by rw [andl_ofb xs ys hx]; exact ofb_all _ _
theorem andl_take (xs ys : List Int) (k : Nat) (hk : k < xs.length) : (andl xs ys).take (k + 1) = (andl xs ys).take k ++ [gb (andl xs ys) k] := by
  rw [List.take_succ_eq_append_getElem (by rw [andl_len]; exact hk)]
  simp [gb, List.getD, show k < (andl xs ys).length by rw [andl_len]; exact hk]

set_option maxHeartbeats 2000000 in
theorem rand_any (va vb : Value) (xs ys : List Int) (w : World) (ha : Byt w va xs) (hb : Byt w vb ys) (hl : xs.length = ys.length) (hmax : xs.length ≤ 1048576) :
    Calls Tryd.prog 18 #[va, vb] w fun e w' => ∃ v, e = .returned v ∧ Byt w' v (andl xs ys) ∧ Below w.heap.size w w' := by
  obtain ⟨ao, ca, rfl, ha1, ha2, ha3, -, ha5⟩ := ha
  obtain ⟨bo, cb, rfl, hb1, hb2, hb3, -, hb5⟩ := hb
  have HL : Hid (xs.length = ys.length) := hl
  have HA5 : Hid (0 < xs.length → ∃ b off, ao = some ⟨b, off, none⟩ ∧ ∀ t, t < xs.length → w.cell? ⟨b, off + t, none⟩ = some (.int .u8 (gb xs t))) := ha5
  have HB5 : Hid (0 < xs.length → ∃ b off, bo = some ⟨b, off, none⟩ ∧ ∀ t, t < xs.length → w.cell? ⟨b, off + t, none⟩ = some (.int .u8 (gb ys t))) := by
    rw [hl]; exact hb5
  have HA : Hid (AllB xs) := ha3
  have HB : Hid (AllB ys) := hb3
  rw [← hl] at hb1 ⊢
  clear hb5 ha5 ha3 hb3 hl
  have HZ : Hid ((andl xs ys).length = xs.length) := andl_len xs ys
  go_enter Tryd.func18, Tryd.ntmps18
  go_wp2
  go_loopw [5, 6] (fun v i wr => ∃ k : Nat, k ≤ xs.length ∧ i = .int .i64 k ∧ Own w.heap.size wr v ((andl xs ys).take k) ∧ Below w.heap.size w wr) (fun _ i _ => xs.length - (intOf i).toNat)
  case atStart => exact ⟨0, Nat.zero_le _, rfl, Own.empty w (Nat.le_refl _), (Below.refl _ _).alloc (Nat.le_refl _) _⟩
  case round =>
    obtain ⟨k, hk, rfl, hown, hbel⟩ := hrel
    have hsz := hbel.size
    by_cases hlt' : k < xs.length
    · obtain ⟨b, off, rfl, hca⟩ := HA5.out (by omega)
      obtain ⟨b', off', rfl, hcb⟩ := HB5.out (by omega)
      have n1 := World.block_lt_of_cell? w _ (hca k hlt')
      have n2 := World.block_lt_of_cell? w _ (hcb k hlt')
      have c1 : wr.cell? ⟨b, off + k, none⟩ = some (.int .u8 (gb xs k)) := (hbel.cell n1).trans (hca k hlt')
      have c2 : wr.cell? ⟨b', off' + k, none⟩ = some (.int .u8 (gb ys k)) := (hbel.cell n2).trans (hcb k hlt')
      have lk : (k : Int) < (xs.length : Int) := by omega
      have lk0 : (0 : Int) ≤ (k : Int) := by omega
      have a1 := HA.out k
      have a2 := HB.out k
      have hx : bits .and .u8 (gb xs k) (gb ys k) = gb (andl xs ys) k := by rw [andl_gb xs ys k hlt']; exact u8_and _ _ a1.1 (by omega) a2.1 (by omega)
      have SN : Hid ((andl xs ys).take (k + 1) = (andl xs ys).take k ++ [gb (andl xs ys) k]) := andl_take xs ys k hlt'
      have HLEN : Hid (((andl xs ys).take k).length ≤ 1099511627776) := by show _ ≤ _; simp; omega
      clear hca hcb a1 a2
      go_wp2
      go_region_held3 (fun w' => w'.cell? ⟨b, off + k, none⟩ = some (.int .u8 (gb xs k)) ∧ w'.cell? ⟨b', off' + k, none⟩ = some (.int .u8 (gb ys k)))
        (first
          | go_keep
          | (exact ⟨by rw [hbel'.cell n1]; simpa using c1, by rw [hbel'.cell n2]; simpa using c2⟩))
        ((refine step_push1 wr.drew rfl (.tmp 14) (.tmp 24) rfl w.heap.size (by simpa using hsz) _ _ (gb (andl xs ys) k) rfl rfl hown HLEN.out ?_; intro v2 w2 hown' hbel'))
      go_wp2
      go_roundw
      case rel => exact ⟨k + 1, by omega, by go_num, by rw [SN.out]; exact hown', hbel.drew.trans hbel'⟩
      case measure => simp [intOf]; omega
    · have hks : k = xs.length := by omega
      have e : Hid ((andl xs ys).take k = andl xs ys) := List.take_of_length_le (by rw [HZ.out]; omega)
      rw [e.out] at hown
      go_wp2
      go_ret
      exact ⟨_, rfl, hown.byt (andl_all _ _ HA.out), hbel⟩
end Go.Proofs.YtahfcpdekjdceaaDoor.fa

/- What fault's toClear and programmed answer. No claim of its own. -/
namespace Go.Proofs.YtahfcpdekjdceaaDoor.fa
open Go.RowKit
set_option maxRecDepth 20000

/-- the bits of byte i that a program is to clear -/
def tc (xs ys : List Int) (i : Nat) : Int := (((gb xs i).toNat &&& (255 - (gb ys i).toNat) : Nat) : Int)
theorem tc_bd (xs ys : List Int) (hx : AllB xs) (i : Nat) : 0 ≤ tc xs ys i ∧ tc xs ys i ≤ 255 := by
  have := hx i
  unfold tc
  have h : (gb xs i).toNat &&& (255 - (gb ys i).toNat) ≤ (gb xs i).toNat := Nat.and_le_left
  omega

/-- the function v tells D of the first n bytes, now and later -/
def Tells (w : World) (v : Value) (D : Nat → Int) (n : Nat) : Prop := ∃ K caps, v = .func (.func K) #[] caps ∧ (∀ (q : Array Value) (w : World), (callFunc K q).run Tryd.prog w = .ok (.enter K q) w) ∧ (∀ i, 0 ≤ D i ∧ D i ≤ 255) ∧
  ∀ w', Below w.heap.size w w' → ∀ i, i < n → Calls Tryd.prog K (#[.int .i64 i] ++ caps) w' fun e w'' => e = .returned (.int .u8 (D i)) ∧ ∃ m, w'' = w'.drewN m

/-- what is there behind a program of which D tells what is done -/
def pgl (xs ys : List Int) (D : Nat → Int) : List Int := (List.range xs.length).map fun k => (((gb xs k).toNat &&& (255 - ((tc xs ys k).toNat &&& (D k).toNat)) : Nat) : Int)
theorem pgl_len (xs ys : List Int) (D : Nat → Int) : (pgl xs ys D).length = xs.length := by simp [pgl]
theorem pgl_gb (xs ys : List Int) (D : Nat → Int) (k : Nat) (h : k < xs.length) : gb (pgl xs ys D) k = (((gb xs k).toNat &&& (255 - ((tc xs ys k).toNat &&& (D k).toNat)) : Nat) : Int) := by simp [gb, List.getD, pgl, h]
theorem pgl_all (xs ys : List Int) (D : Nat → Int) (hx : AllB xs) : AllB (pgl xs ys D) := allB_mem fun z hz => by
  obtain ⟨k, hk, rfl⟩ := List.mem_map.1 hz
  have := hx k
  have h : (gb xs k).toNat &&& (255 - ((tc xs ys k).toNat &&& (D k).toNat)) ≤ (gb xs k).toNat := Nat.and_le_left
  omega
/-- zs, filled as far as place k -/
def prt (zs : List Int) (k : Nat) : List Int := zs.take k ++ List.replicate (zs.length - k) 0
theorem prt_zero (zs : List Int) : prt zs 0 = List.replicate zs.length 0 := by simp [prt]
theorem prt_end (zs : List Int) : prt zs zs.length = zs := by simp [prt]
theorem prt_set (zs : List Int) (k : Nat) (h : k < zs.length) : (prt zs k).set k (gb zs k) = prt zs (k + 1) := by
  unfold prt
  obtain ⟨d, hd⟩ : ∃ d, zs.length - k = d + 1 := ⟨zs.length - k - 1, by omega⟩
  have e : zs.length - (k + 1) = d := by omega
  have hm : min k zs.length = k := by omega
  rw [hd, e, List.set_append_right _ _ (by simp; omega), List.take_succ_eq_append_getElem h, List.append_assoc]
  simp only [List.length_take, hm, Nat.sub_self, List.replicate_succ, List.set_cons_zero, gb, List.getD, List.getElem?_eq_getElem h, Option.getD_some, List.cons_append, List.nil_append]
end Go.Proofs.YtahfcpdekjdceaaDoor.fa

/- What Len8 answers: how many bits a byte has; which is the last one of it. No claim of its own. -/
namespace Go.Proofs.YtahfcpdekjdceaaDoor.fa
open Go.RowKit
set_option maxRecDepth 20000

/-- how many bits a byte has -/
def ln (x : Nat) : Nat := if x < 1 then 0 else if x < 2 then 1 else if x < 4 then 2 else if x < 8 then 3 else if x < 16 then 4 else if x < 32 then 5 else if x < 64 then 6 else if x < 128 then 7 else 8
theorem ln_top : ∀ x, x < 256 → 0 < x → 1 ≤ ln x ∧ ln x ≤ 8 ∧ bit x (ln x - 1) = true ∧ ∀ t, t < 8 → ln x ≤ t → bit x t = false := by decide +kernel
end Go.Proofs.YtahfcpdekjdceaaDoor.fa

/- What fault's lastToClear answers: the last bit that is to be cleared. No claim of its own. -/
namespace Go.Proofs.YtahfcpdekjdceaaDoor.fa
open Go.RowKit
set_option maxRecDepth 20000

theorem bit_not : ∀ y, y < 256 → ∀ t, t < 8 → bit (255 - y) t = !bit y t := by decide +kernel
theorem bit_and (a b t : Nat) : bit (a &&& b) t = (bit a t && bit b t) := by rw [bit_test, bit_test, bit_test, Nat.testBit_and]
theorem bit_or (a b t : Nat) : bit (a ||| b) t = (bit a t || bit b t) := by rw [bit_test, bit_test, bit_test, Nat.testBit_or]
theorem bit_zero (t : Nat) : bit 0 t = false := by unfold bit; simp
theorem bit_pow : ∀ k, k < 8 → ∀ t, t < 8 → bit (2 ^ k) t = decide (t = k) := by decide +kernel
theorem tc_bit (xs ys : List Int) (hy : AllB ys) (j t : Nat) (ht : t < 8) : bit (tc xs ys j).toNat t = due xs ys (8 * j + t) := by
  have b := hy j
  unfold tc due
  rw [Int.toNat_natCast, bit_and, bit_not _ (by omega) t ht, hs_at xs j t ht, hs_at ys j t ht]
theorem lst_eq (xs ys : List Int) (N p : Nat) (hp : p < N) (hd : due xs ys p = true) (h : ∀ k, p < k → k < N → due xs ys k = false) : lst xs ys N = p + 1 := by
  induction N with
  | zero => omega
  | succ N ih =>
    unfold lst
    by_cases e : p = N
    · subst e; rw [if_pos hd]
    · rw [if_neg (by rw [h N (by omega) (by omega)]; simp), ih (by omega) (fun k h1 h2 => h k h1 (by omega))]
theorem lst_none (xs ys : List Int) (N : Nat) (h : ∀ k, k < N → due xs ys k = false) : lst xs ys N = 0 := by
  induction N with
  | zero => rfl
  | succ N ih =>
    unfold lst
    rw [if_neg (by rw [h N (by omega)]; simp), ih (fun k hk => h k (by omega))]
/-- the last bit that is to be cleared is bit t of byte p, and z is it; or there is none -/
def IsL (xs ys : List Int) (p z : Nat) : Prop := (p = 0 ∧ z = 0 ∧ lst xs ys (8 * xs.length) = 0) ∨ ∃ t, t < 8 ∧ p < xs.length ∧ z = 2 ^ t ∧ lst xs ys (8 * xs.length) = 8 * p + t + 1
theorem isL_some (xs ys : List Int) (hx : AllB xs) (hy : AllB ys) (p x : Nat) (hp : p < xs.length) (hx0 : tc xs ys p = x) (h0 : 0 < x) (h : ∀ q, 8 * (p + 1) ≤ q → q < 8 * xs.length → due xs ys q = false) : IsL xs ys p (2 ^ (ln x - 1)) := by
  have hb := tc_bd xs ys hx p
  obtain ⟨l1, l2, l3, l4⟩ := ln_top x (by omega) h0
  have hbit : ∀ t, t < 8 → due xs ys (8 * p + t) = bit x t := fun t ht => by rw [← tc_bit xs ys hy p t ht, hx0, Int.toNat_natCast]
  refine Or.inr ⟨ln x - 1, by omega, hp, rfl, lst_eq xs ys _ _ (by omega) (by rw [hbit _ (by omega)]; exact l3) fun k h1 h2 => ?_⟩
  by_cases hk : 8 * (p + 1) ≤ k
  · exact h k hk h2
  · have e : k = 8 * p + (k - 8 * p) := by omega
    rw [e, hbit _ (by omega)]
    exact l4 _ (by omega) (by omega)
theorem due_byte (xs ys : List Int) (hy : AllB ys) (p : Nat) (h0 : tc xs ys p = 0) (q : Nat) (h1 : 8 * p ≤ q) (h2 : q < 8 * (p + 1)) : due xs ys q = false := by
  have := tc_bit xs ys hy p (q - 8 * p) (by omega)
  rw [h0, show (0 : Int).toNat = 0 from rfl, bit_zero, show 8 * p + (q - 8 * p) = q by omega] at this
  exact this.symm
theorem pow_ln (x : Nat) (h : 0 < x) (hx : x < 256) : 2 ^ (ln x - 1) ≤ 128 := by
  obtain ⟨l1, l2, -⟩ := ln_top x hx h
  exact Nat.pow_le_pow_right (by omega) (show ln x - 1 ≤ 7 by omega)
end Go.Proofs.YtahfcpdekjdceaaDoor.fa

/- What the reference's Program and Erase answer. No claim of its own. -/
namespace Go.Proofs.YtahfcpdekjdceaaDoor.fa
open Go.RowKit
set_option maxRecDepth 20000

/-- which bits are there behind a program: of N bits the last one to be cleared is left out, if it fails -/
def prg (xs ys m : List Int) (fl : Bool) (N i : Nat) : Bool := hs xs i && !(due xs ys i && mk m i && !(fl && (i + 1 == lst xs ys N)))
/-- the first k bits are done -/
def upb (F G : Nat → Bool) (k i : Nat) : Bool := if i < k then F i else G i
theorem upb_zero (F G : Nat → Bool) (n : Nat) : ofb n (upb F G 0) = ofb n G := ofb_congr n fun i _ => by unfold upb; rw [if_neg (by omega)]
theorem upb_end (F G : Nat → Bool) (n : Nat) : ofb n (upb F G (8 * n)) = ofb n F := ofb_congr n fun i hi => by unfold upb; rw [if_pos hi]
theorem upb_same (F G : Nat → Bool) (n k : Nat) (h : F k = G k) : ofb n (upb F G (k + 1)) = ofb n (upb F G k) := ofb_congr n fun i _ => by
  unfold upb
  by_cases h1 : i < k
  · rw [if_pos h1, if_pos (by omega)]
  · rw [if_neg h1]
    by_cases h2 : i = k
    · subst h2; rw [if_pos (by omega), h]
    · rw [if_neg (by omega)]
theorem upb_at (F G : Nat → Bool) (k : Nat) : upb F G k k = G k ∧ upb F G (k + 1) k = F k ∧ ∀ i, i ≠ k → upb F G k i = upb F G (k + 1) i := by
  unfold upb
  refine ⟨by rw [if_neg (by omega)], by rw [if_pos (by omega)], fun i hi => ?_⟩
  by_cases h1 : i < k
  · rw [if_pos h1, if_pos (by omega)]
  · rw [if_neg h1, if_neg (by omega)]
theorem bo_nat (m : List Int) (k : Nat) : bo m (k : Int) = mk m k := by unfold bo; rw [if_neg (by omega), Int.toNat_natCast]
theorem lst_succ (xs ys : List Int) (k : Nat) : lst xs ys (k + 1) = if due xs ys k then k + 1 else lst xs ys k := rfl
theorem gb_out (xs : List Int) (k : Nat) (h : xs.length ≤ k) : gb xs k = 0 := by simp [gb, List.getD, h]
end Go.Proofs.YtahfcpdekjdceaaDoor.fa

/- A head as a list of bytes: what it tells, what a mark, an erase or a program make of it. No claim of its own. -/
namespace Go.Proofs.YtahfcpdekjdceaaDoor.he
open Go.RowKit Go.Proofs.YtahfcpdekjdceaaDoor.fa
set_option maxRecDepth 20000

/-- x as s bytes, the greatest first -/
def be (x : Int) (s : Nat) : List Int := (le x s).reverse
theorem be_len (x : Int) (s : Nat) : (be x s).length = s := by simp [be, le_len]
theorem be_all (x : Int) (s : Nat) : AllB (be x s) := allB_reverse (le_all x s)
/-- the head's bytes -/
def hb (k n c l e t : Int) : List Int := [k, n, c, 0] ++ (be l 4 ++ (be e 8 ++ be t 8))
theorem hb_len (k n c l e t : Int) : (hb k n c l e t).length = 24 := by simp [hb, be_len]
/-- a head may be -/
def Rh (k n c : Int) : Prop := 1 ≤ k ∧ k ≤ 4 ∧ 0 ≤ n ∧ n ≤ 255 ∧ 0 ≤ c ∧ c ≤ 255
theorem allB_app {xs ys : List Int} (h : AllB xs) (h' : AllB ys) : AllB (xs ++ ys) := allB_mem fun x hx => by
  rcases List.mem_append.1 hx with q | q
  · obtain ⟨i, hi, rfl⟩ := mem_gb q; exact h i
  · obtain ⟨i, hi, rfl⟩ := mem_gb q; exact h' i
theorem hb_all {k n c : Int} (h : Rh k n c) (l e t : Int) : AllB (hb k n c l e t) := by
  obtain ⟨h1, h2, h3, h4, h5, h6⟩ := h
  refine allB_app (allB_mem fun x hx => ?_) (allB_app (be_all l 4) (allB_app (be_all e 8) (be_all t 8)))
  simp at hx
  rcases hx with rfl | rfl | rfl | rfl <;> omega
/-- bytes l to h of a list -/
def sub (xs : List Int) (l h : Nat) : List Int := (xs.take h).drop l
theorem sub_len (xs : List Int) (l h : Nat) (hh : h ≤ xs.length) : (sub xs l h).length = h - l := by simp [sub]; omega
theorem sub_gb (xs : List Int) (l h t : Nat) (ht : t < h - l) : gb (sub xs l h) t = gb xs (l + t) := gb_cut xs l h t ht
theorem allB_sub {xs : List Int} (h : AllB xs) (l u : Nat) : AllB (sub xs l u) := allB_mem fun x hx => by
  obtain ⟨i, hi, rfl⟩ := mem_gb (List.mem_of_mem_take (List.mem_of_mem_drop hx))
  exact h i
theorem gb_appL (xs ys : List Int) (k : Nat) : gb (xs ++ ys) k = if k < xs.length then gb xs k else gb ys (k - xs.length) := by
  unfold gb
  rw [List.getD_eq_getElem?_getD]
  by_cases h : k < xs.length
  · rw [if_pos h, List.getElem?_append_left h]; rfl
  · rw [if_neg h, List.getElem?_append_right (by omega)]; rfl
theorem sub_of (a b c : List Int) : sub (a ++ (b ++ c)) a.length (a.length + b.length) = b := by
  unfold sub
  rw [← List.append_assoc, List.take_append_of_le_length (by simp), List.take_of_length_le (by simp), List.drop_left]
theorem sub_at (a b c : List Int) (l h : Nat) (hl : a.length = l) (hh : l + b.length = h) : sub (a ++ (b ++ c)) l h = b := by
  subst hl; subst hh; exact sub_of a b c

/-! ### numbers and bytes -/
def n4 (a b c d : Int) : Int := ((a * 256 + b) * 256 + c) * 256 + d
theorem num_of4 (a b c d : Int) (ha : 0 ≤ a ∧ a ≤ 255) (hb : 0 ≤ b ∧ b ≤ 255) (hc : 0 ≤ c ∧ c ≤ 255) (_hd : 0 ≤ d ∧ d ≤ 255) : num (last8 [a, b, c, d]) = n4 a b c d := by
  simp [num, last8, n4]
  omega
theorem num_of8 (a b c d e f g h : Int) (ha : 0 ≤ a ∧ a ≤ 255) (hb : 0 ≤ b ∧ b ≤ 255) (hc : 0 ≤ c ∧ c ≤ 255) (hd : 0 ≤ d ∧ d ≤ 255) (he : 0 ≤ e ∧ e ≤ 255) (hf : 0 ≤ f ∧ f ≤ 255) (hg : 0 ≤ g ∧ g ≤ 255) (_hh : 0 ≤ h ∧ h ≤ 255) : num (last8 [a, b, c, d, e, f, g, h]) = n4 a b c d * 4294967296 + n4 e f g h := by
  simp [num, last8, n4]
  omega
theorem be4 (x : Int) : be x 4 = [x / 256 / 256 / 256 % 256, x / 256 / 256 % 256, x / 256 % 256, x % 256] := rfl
theorem be8 (x : Int) : be x 8 = [x / 256 / 256 / 256 / 256 / 256 / 256 / 256 % 256, x / 256 / 256 / 256 / 256 / 256 / 256 % 256, x / 256 / 256 / 256 / 256 / 256 % 256, x / 256 / 256 / 256 / 256 % 256, x / 256 / 256 / 256 % 256, x / 256 / 256 % 256, x / 256 % 256, x % 256] := rfl
theorem num_be4 (x : Int) (h : 0 ≤ x ∧ x ≤ 4294967295) : num (last8 (be x 4)) = x := by
  rw [be4, num_of4 _ _ _ _ (by omega) (by omega) (by omega) (by omega)]
  unfold n4; omega
theorem num_be8 (x : Int) (h : 0 ≤ x ∧ x ≤ 18446744073709551615) : num (last8 (be x 8)) = x := by
  rw [be8, num_of8 _ _ _ _ _ _ _ _ (by omega) (by omega) (by omega) (by omega) (by omega) (by omega) (by omega) (by omega)]
  unfold n4; omega
theorem list4 {xs : List Int} (h : xs.length = 4) : xs = [gb xs 0, gb xs 1, gb xs 2, gb xs 3] := by
  match xs, h with
  | [a, b, c, d], _ => rfl
theorem list8 {xs : List Int} (h : xs.length = 8) : xs = [gb xs 0, gb xs 1, gb xs 2, gb xs 3, gb xs 4, gb xs 5, gb xs 6, gb xs 7] := by
  match xs, h with
  | [a, b, c, d, e, f, g, h], _ => rfl
theorem be_num4 {xs : List Int} (h : xs.length = 4) (ha : AllB xs) : be (num (last8 xs)) 4 = xs ∧ 0 ≤ num (last8 xs) ∧ num (last8 xs) ≤ 4294967295 := by
  have h0 := ha 0; have h1 := ha 1; have h2 := ha 2; have h3 := ha 3
  rw [list4 h]
  generalize gb xs 0 = a at *; generalize gb xs 1 = b at *; generalize gb xs 2 = c at *; generalize gb xs 3 = d at *
  rw [num_of4 _ _ _ _ h0 h1 h2 h3, be4]
  unfold n4
  refine ⟨?_, by omega, by omega⟩
  have e1 : (((a * 256 + b) * 256 + c) * 256 + d) % 256 = d := by omega
  have e2 : (((a * 256 + b) * 256 + c) * 256 + d) / 256 % 256 = c := by omega
  have e3 : (((a * 256 + b) * 256 + c) * 256 + d) / 256 / 256 % 256 = b := by omega
  have e4 : (((a * 256 + b) * 256 + c) * 256 + d) / 256 / 256 / 256 % 256 = a := by omega
  rw [e1, e2, e3, e4]
theorem be_num8 {xs : List Int} (h : xs.length = 8) (ha : AllB xs) : be (num (last8 xs)) 8 = xs ∧ 0 ≤ num (last8 xs) ∧ num (last8 xs) ≤ 18446744073709551615 := by
  have h0 := ha 0; have h1 := ha 1; have h2 := ha 2; have h3 := ha 3; have h4 := ha 4; have h5 := ha 5; have h6 := ha 6; have h7 := ha 7
  rw [list8 h]
  generalize gb xs 0 = a at *; generalize gb xs 1 = b at *; generalize gb xs 2 = c at *; generalize gb xs 3 = d at *
  generalize gb xs 4 = e at *; generalize gb xs 5 = f at *; generalize gb xs 6 = g at *; generalize gb xs 7 = i at *
  rw [num_of8 _ _ _ _ _ _ _ _ h0 h1 h2 h3 h4 h5 h6 h7, be8]
  unfold n4
  refine ⟨?_, by omega, by omega⟩
  generalize hN : (((a * 256 + b) * 256 + c) * 256 + d) * 4294967296 + (((e * 256 + f) * 256 + g) * 256 + i) = N
  have e1 : N % 256 = i := by omega
  have f1 : N / 256 = (((a * 256 + b) * 256 + c) * 256 + d) * 16777216 + ((e * 256 + f) * 256 + g) := by omega
  have e2 : N / 256 % 256 = g := by omega
  have f2 : N / 256 / 256 = (((a * 256 + b) * 256 + c) * 256 + d) * 65536 + (e * 256 + f) := by omega
  have e3 : N / 256 / 256 % 256 = f := by omega
  have f3 : N / 256 / 256 / 256 = (((a * 256 + b) * 256 + c) * 256 + d) * 256 + e := by omega
  have e4 : N / 256 / 256 / 256 % 256 = e := by omega
  have f4 : N / 256 / 256 / 256 / 256 = ((a * 256 + b) * 256 + c) * 256 + d := by omega
  have e5 : N / 256 / 256 / 256 / 256 % 256 = d := by omega
  have f5 : N / 256 / 256 / 256 / 256 / 256 = (a * 256 + b) * 256 + c := by omega
  have e6 : N / 256 / 256 / 256 / 256 / 256 % 256 = c := by omega
  have f6 : N / 256 / 256 / 256 / 256 / 256 / 256 = a * 256 + b := by omega
  have e7 : N / 256 / 256 / 256 / 256 / 256 / 256 % 256 = b := by omega
  have e8 : N / 256 / 256 / 256 / 256 / 256 / 256 / 256 % 256 = a := by omega
  rw [e1, e2, e3, e4, e5, e6, e7, e8]

/-! ### what an end tells -/
def qk (xs : List Int) : Int := gb xs 0
def qn (xs : List Int) : Int := gb xs 1
def qc (xs : List Int) : Int := gb xs 2
def ql (xs : List Int) : Int := num (last8 (sub xs 4 8))
def qe (xs : List Int) : Int := num (last8 (sub xs 8 16))
def qt (xs : List Int) : Int := num (last8 (sub xs 16 24))
/-- the end tells a head -/
def Tl (xs : List Int) : Prop := inv (sub xs 0 24) = sub xs 24 48 ∧ gb xs 3 = 0 ∧ 1 ≤ gb xs 0 ∧ gb xs 0 ≤ 4
theorem ext4 (xs : List Int) (h : 24 ≤ xs.length) (ha : AllB xs) (h0 : gb xs 3 = 0) : hb (qk xs) (qn xs) (qc xs) (ql xs) (qe xs) (qt xs) = sub xs 0 24 := by
  have a1 := (be_num4 (xs := sub xs 4 8) (by rw [sub_len _ _ _ (by omega)]) (allB_sub ha 4 8)).1
  have a2 := (be_num8 (xs := sub xs 8 16) (by rw [sub_len _ _ _ (by omega)]) (allB_sub ha 8 16)).1
  have a3 := (be_num8 (xs := sub xs 16 24) (by rw [sub_len _ _ _ (by omega)]) (allB_sub ha 16 24)).1
  unfold hb ql qe qt
  rw [a1, a2, a3]
  refine ext_gb (by simp [sub_len, show 8 ≤ xs.length by omega, show 16 ≤ xs.length by omega, h]) fun t ht => ?_
  have l1 := sub_len xs 4 8 (by omega)
  have l2 := sub_len xs 8 16 (by omega)
  have l3 := sub_len xs 16 24 (by omega)
  simp only [List.length_append, List.length_cons, List.length_nil, l1, l2, l3] at ht
  rw [sub_gb xs 0 24 t (by omega), Nat.zero_add, gb_appL]
  split
  · rename_i q
    simp at q
    match t, q with
    | 0, _ => rfl
    | 1, _ => rfl
    | 2, _ => rfl
    | 3, _ => exact h0.symm
  · rename_i q
    simp at q
    simp only [List.length_cons, List.length_nil]
    rw [gb_appL, l1]
    split
    · rw [sub_gb xs 4 8 _ (by omega)]; congr 1; omega
    · rw [gb_appL, l2]
      split
      · rw [sub_gb xs 8 16 _ (by omega)]; congr 1; omega
      · rw [sub_gb xs 16 24 _ (by omega)]; congr 1; omega
theorem hb3 (k n c l e t : Int) : gb (hb k n c l e t) 3 = 0 := rfl
/-- the numbers that the head's bytes tell -/
theorem q_hb {k n c l e t : Int} (ys : List Int) (hl : 0 ≤ l ∧ l ≤ 4294967295) (he : 0 ≤ e ∧ e ≤ 18446744073709551615) (ht : 0 ≤ t ∧ t ≤ 18446744073709551615) :
    qk (hb k n c l e t ++ ys) = k ∧ qn (hb k n c l e t ++ ys) = n ∧ qc (hb k n c l e t ++ ys) = c ∧ ql (hb k n c l e t ++ ys) = l ∧ qe (hb k n c l e t ++ ys) = e ∧ qt (hb k n c l e t ++ ys) = t := by
  have e1 : hb k n c l e t ++ ys = [k, n, c, 0] ++ (be l 4 ++ (be e 8 ++ be t 8 ++ ys)) := by simp [hb]
  have e2 : hb k n c l e t ++ ys = ([k, n, c, 0] ++ be l 4) ++ (be e 8 ++ (be t 8 ++ ys)) := by simp [hb]
  have e3 : hb k n c l e t ++ ys = ([k, n, c, 0] ++ be l 4 ++ be e 8) ++ (be t 8 ++ ys) := by simp [hb]
  refine ⟨rfl, rfl, rfl, ?_, ?_, ?_⟩
  · unfold ql; rw [e1, sub_at _ _ _ 4 8 rfl (by rw [be_len]), num_be4 l hl]
  · unfold qe; rw [e2, sub_at _ _ _ 8 16 (by simp [be_len]) (by rw [be_len]), num_be8 e he]
  · unfold qt; rw [e3, sub_at _ _ _ 16 24 (by simp [be_len]) (by rw [be_len]), num_be8 t ht]

/-- an end: head, complement, tag, mark -/
def hend (hs tag mark : List Int) : List Int := hs ++ (inv hs ++ (tag ++ mark))
theorem hend_len {hs tag mark : List Int} (h : hs.length = 24) (h1 : tag.length = 32) (h2 : mark.length = 8) : (hend hs tag mark).length = 88 := by
  simp [hend, inv_len, h, h1, h2]
theorem hend_all {hs tag mark : List Int} (h : AllB hs) (h1 : AllB tag) (h2 : AllB mark) : AllB (hend hs tag mark) := allB_app h (allB_app (inv_all hs h) (allB_app h1 h2))
theorem hend_sub {hs tag mark : List Int} (h : hs.length = 24) (h1 : tag.length = 32) : sub (hend hs tag mark) 0 24 = hs ∧ sub (hend hs tag mark) 24 48 = inv hs ∧ sub (hend hs tag mark) 48 80 = tag ∧ (hend hs tag mark).drop 80 = mark := by
  refine ⟨?_, ?_, ?_, ?_⟩
  · have : hend hs tag mark = [] ++ (hs ++ (inv hs ++ (tag ++ mark))) := rfl
    rw [this, sub_at _ _ _ 0 24 rfl (by omega)]
  · unfold hend; rw [sub_at _ _ _ 24 48 h (by rw [inv_len]; omega)]
  · have : hend hs tag mark = (hs ++ inv hs) ++ (tag ++ mark) := by simp [hend]
    rw [this, sub_at _ _ _ 48 80 (by rw [List.length_append, inv_len]; omega) (by omega)]
  · have : hend hs tag mark = (hs ++ inv hs ++ tag) ++ mark := by simp [hend]
    rw [this, List.drop_append_of_le_length (by simp [inv_len]; omega), List.drop_of_length_le (by simp [inv_len]; omega), List.nil_append]
/-- a right head's end tells it -/
theorem hend_tl {k n c l e t : Int} (h : Rh k n c) (tag mark : List Int) (h1 : tag.length = 32) : Tl (hend (hb k n c l e t) tag mark) := by
  obtain ⟨s1, s2, -, -⟩ := hend_sub (mark := mark) (hb_len k n c l e t) h1
  refine ⟨by rw [s1, s2], rfl, h.1, h.2.1⟩
/-- what the reference asks of an end -/
theorem tl_ref (xs : List Int) (hx : xs.length = 88) (ha : AllB xs) : Tl xs ↔ Rh (qk xs) (qn xs) (qc xs) ∧ hb (qk xs) (qn xs) (qc xs) (ql xs) (qe xs) (qt xs) ++ inv (hb (qk xs) (qn xs) (qc xs) (ql xs) (qe xs) (qt xs)) = sub xs 0 48 := by
  have l1 := sub_len xs 0 24 (by omega)
  have l2 := sub_len xs 24 48 (by omega)
  have e0 : sub xs 0 48 = sub xs 0 24 ++ sub xs 24 48 := by
    have z := List.take_append_drop 24 (xs.take 48)
    rw [List.take_take, show min 24 48 = 24 by omega] at z
    unfold sub
    rw [List.drop_zero, List.drop_zero]
    exact z.symm
  constructor
  · rintro ⟨h1, h2, h3, h4⟩
    have b1 := ha 1; have b2 := ha 2
    refine ⟨⟨h3, h4, b1.1, b1.2, b2.1, b2.2⟩, ?_⟩
    rw [ext4 xs (by omega) ha h2, h1, e0]
  · rintro ⟨hr, h⟩
    rw [e0] at h
    obtain ⟨h1, h2⟩ := List.append_inj h (by rw [hb_len, l1])
    refine ⟨by rw [← h1, h2], ?_, hr.1, hr.2.1⟩
    have := congrArg (fun l => gb l 3) h1
    simp only [sub_gb xs 0 24 3 (by omega)] at this
    rw [hb3] at this
    exact this.symm

/-! ### bits -/
theorem bit_xr (x t : Nat) (ht : t < 8) : bit (255 ^^^ x) t = !bit x t := by
  rw [bit_test, bit_test, Nat.testBit_xor]
  have : (255 : Nat).testBit t = true := by
    match t, ht with
    | 0, _ => rfl
    | 1, _ => rfl
    | 2, _ => rfl
    | 3, _ => rfl
    | 4, _ => rfl
    | 5, _ => rfl
    | 6, _ => rfl
    | 7, _ => rfl
  rw [this]
  cases x.testBit t <;> rfl
theorem hs_inv (xs : List Int) (i : Nat) (h : i < 8 * xs.length) : hs (inv xs) i = !hs xs i := by
  unfold hs
  rw [inv_gb xs (i / 8) (by omega)]
  unfold xr
  rw [Int.toNat_natCast]
  exact bit_xr _ _ (Nat.mod_lt _ (by omega))
theorem hs_ext {xs ys : List Int} (h : xs.length = ys.length) (hx : AllB xs) (hy : AllB ys) (hb : ∀ i, i < 8 * xs.length → hs xs i = hs ys i) : xs = ys := by
  rw [← ofb_hs ys hy (hs xs) fun i hi => hb i (by omega), ← h]
  exact (ofb_hs xs hx _ fun _ _ => rfl).symm
theorem hs_app (xs ys : List Int) (i : Nat) : hs (xs ++ ys) i = if i < 8 * xs.length then hs xs i else hs ys (i - 8 * xs.length) := by
  unfold hs
  rw [gb_appL]
  by_cases h : i < 8 * xs.length
  · rw [if_pos (by omega), if_pos h]
  · rw [if_neg (by omega), if_neg h, show (i - 8 * xs.length) / 8 = i / 8 - xs.length by omega, show (i - 8 * xs.length) % 8 = i % 8 by omega]
/-- bits that were all set, or all cleared, leave no complement but where nothing changed -/
theorem bits_whole {p y z : List Int} (hp : AllB p) (hy : AllB y) (l1 : y.length = p.length) (he : inv y = z) (hm : (∀ i, i < 8 * (2 * p.length) → hs (p ++ inv p) i = true → hs (y ++ z) i = true) ∨ (∀ i, i < 8 * (2 * p.length) → hs (y ++ z) i = true → hs (p ++ inv p) i = true)) : y = p := by
  refine hs_ext l1 hy hp fun i hi => ?_
  have a1 := hs_app p (inv p) i
  have a2 := hs_app p (inv p) (8 * p.length + i)
  have a3 := hs_app y z i
  have a4 := hs_app y z (8 * y.length + i)
  rw [if_pos (by omega)] at a1 a3
  rw [if_neg (by omega), show 8 * p.length + i - 8 * p.length = i by omega, hs_inv p i (by omega)] at a2
  rw [if_neg (by omega), show 8 * y.length + i - 8 * y.length = i by omega, ← he, hs_inv y i (by omega)] at a4
  rw [l1] at a4
  rw [he] at a4
  rcases hm with hm | hm
  · have m1 := hm i (by omega)
    have m2 := hm (8 * p.length + i) (by omega)
    rw [a1, a3] at m1
    rw [a2, a4] at m2
    cases q : hs p i <;> cases r : hs y i <;> simp [q, r] at m1 m2 ⊢
  · have m1 := hm i (by omega)
    have m2 := hm (8 * p.length + i) (by omega)
    rw [a1, a3] at m1
    rw [a2, a4] at m2
    cases q : hs p i <;> cases r : hs y i <;> simp [q, r] at m1 m2 ⊢

/-! ### a mark -/
def mark (n : Nat) : List Int := List.replicate (n - 8) 255 ++ List.replicate 8 0
theorem mark_len (n : Nat) (h : 8 ≤ n) : (mark n).length = n := by simp [mark]; omega
theorem mark_all (n : Nat) : AllB (mark n) := allB_app (allB_replicate 255 _ (by omega)) (allB_replicate 0 _ (by omega))
theorem and255 (x : Nat) (h : x < 256) : x &&& 255 = x := by
  have : (255 : Nat) = 2 ^ 8 - 1 := by decide
  rw [this, Nat.and_two_pow_sub_one_eq_mod, Nat.mod_eq_of_lt (by omega)]
theorem gb_repl (k t : Nat) (x : Int) (h : t < k) : gb (List.replicate k x) t = x := by simp [gb, List.getD, h]
/-- an end, programmed with a mark -/
theorem and_mark {n : Nat} (h : 88 ≤ n) {hs tag mk : List Int} (h0 : hs.length = 24) (h1 : tag.length = 32) (h2 : mk.length = 8) (a0 : AllB hs) (a1 : AllB tag) (a2 : AllB mk) : andl (hend hs tag mk) ((mark n).drop (n - 88)) = hend hs tag (List.replicate 8 0) := by
  have l0 := hend_len (mark := mk) h0 h1 h2
  have l1 := hend_len (mark := List.replicate 8 0) h0 h1 (by simp)
  have aa := hend_all a0 a1 a2
  refine ext_gb (by rw [andl_len, l0, l1]) fun t ht => ?_
  rw [andl_len, l0] at ht
  rw [andl_gb _ _ t (by omega), gb_drop]
  have e : hend hs tag mk = (hs ++ inv hs ++ tag) ++ mk := by simp [hend]
  have e' : hend hs tag (List.replicate 8 0) = (hs ++ inv hs ++ tag) ++ List.replicate 8 0 := by simp [hend]
  have el : (hs ++ inv hs ++ tag).length = 80 := by simp [inv_len]; omega
  have b := aa t
  unfold mark
  rw [gb_appL, List.length_replicate]
  have z1 : gb (hend hs tag (List.replicate 8 0)) t = if t < 80 then gb (hs ++ inv hs ++ tag) t else 0 := by
    rw [e', gb_appL, el]
    split
    · rfl
    · exact gb_repl _ _ _ (by omega)
  by_cases q : t < 80
  · have z2 : gb (hend hs tag mk) t = gb (hs ++ inv hs ++ tag) t := by rw [e, gb_appL, if_pos (by rw [el]; exact q)]
    rw [if_pos (by omega), gb_repl _ _ _ (by omega), show (255 : Int).toNat = 255 from rfl, and255 _ (by omega), z1, if_pos q, ← z2]
    omega
  · rw [if_neg (by omega), gb_repl _ _ _ (by omega), show (0 : Int).toNat = 0 from rfl, Nat.and_zero, z1, if_neg q]; rfl
end Go.Proofs.YtahfcpdekjdceaaDoor.he

