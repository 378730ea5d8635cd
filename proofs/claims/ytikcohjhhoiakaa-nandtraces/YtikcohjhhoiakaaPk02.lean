/- Texts put together. -/
import Derived.Test.YtikcohjhhoiakaaPk01
import Derived.Lib.SliceRun
set_option maxHeartbeats 8000000
namespace Go.Proofs.Ytikcohjhhoiakaa.na
open Go.RowKit Go.Proofs.Ytikcohjhhoiakaa.fa
set_option maxRecDepth 20000
def Vr (w : World) (c : Nat) (cs : List Value) : Prop := w.rangeAt c 0 cs ∧ w.there c 0 cs.length
theorem range_heap {w w' : World} {b p : Nat} {cs : List Value} (h : w.rangeAt b p cs) (e : w'.heap[b]? = w.heap[b]?) : w'.rangeAt b p cs := fun j v hv => by
 rw [World.cell?_of_block (w := w) (w' := w') (a := ⟨b, p + j, none⟩) e]; exact h j v hv
theorem there_heap {w w' : World} {b p n : Nat} (h : w.there b p n) (e : w'.heap[b]? = w.heap[b]?) : w'.there b p n := fun j hj => by
 rw [World.cell?_of_block (w := w) (w' := w') (a := ⟨b, p + j, none⟩) e, World.frozen?_of_block (w := w) (w' := w') (a := ⟨b, p + j, none⟩) e]
 exact h j hj
theorem range_lt {w : World} {b p : Nat} {cs : List Value} (h : w.rangeAt b p cs) (hp : 0 < cs.length) : b < w.heap.size := World.block_lt_of_cell? w _ (h 0 _ (List.getElem?_eq_getElem hp))
theorem Vr.heap {w w' : World} {c : Nat} {cs : List Value} (h : Vr w c cs) (e : w'.heap[c]? = w.heap[c]?) : Vr w' c cs := ⟨range_heap h.1 e, there_heap h.2 e⟩
theorem Vr.below {w w' : World} {c B : Nat} {cs : List Value} (h : Vr w c cs) (hb : Below B w w') (hc : c < B) : Vr w' c cs := h.heap (hb.block c hc)
theorem Vr.drewN {w : World} {c : Nat} {cs : List Value} (h : Vr w c cs) (n : Nat) : Vr (w.drewN n) c cs := h.heap rfl
theorem Vr.other {w : World} {c b o : Nat} {cs : List Value} (h : Vr w c cs) (u : Value) (hp : c ≠ b) : Vr (w.setCell ⟨b, o, none⟩ u) c cs := h.heap (Below.heap_setCell w ⟨b, o, none⟩ u c hp)
theorem Vr.cell {w : World} {c : Nat} {cs : List Value} (h : Vr w c cs) (j : Nat) (v : Value) (hv : cs[j]? = some v) : w.cell? ⟨c, j, none⟩ = some v := by
 have := h.1 j v hv
 rwa [Nat.zero_add] at this
theorem Vr.free {w : World} {c : Nat} {cs : List Value} (h : Vr w c cs) (j : Nat) (hj : j < cs.length) : w.frozen? ⟨c, j, none⟩ = false := by
 have := (h.2 j hj).2
 rwa [Nat.zero_add] at this
theorem Vr.set {w : World} {c : Nat} {cs : List Value} (h : Vr w c cs) (j : Nat) (hj : j < cs.length) (u : Value) : Vr (w.setCell ⟨c, j, none⟩ u) c (cs.set j u) := by
 have hc := h.cell j _ (List.getElem?_eq_getElem hj)
 refine ⟨fun i v hv => ?_, fun i hi => ?_⟩
 ·rw [Nat.zero_add]
  rw [List.getElem?_set] at hv
  by_cases e : j = i
  ·subst e
   rw [if_pos rfl, if_pos hj] at hv
   cases hv
   exact World.cell?_setCell_same _ _ _ hc
  ·rw [if_neg e] at hv
   rw [World.cell?_setCell_other _ _ _ _ (by intro q; injection q with _ q2; omega)]
   exact h.cell i v hv
 ·rw [List.length_set] at hi
  rw [Nat.zero_add]
  refine ⟨?_, by rw [World.frozen?_setCell]; exact h.free i hi⟩
  by_cases e : j = i
  ·subst e
   rw [World.cell?_setCell_same _ _ _ hc]; rfl
  ·rw [World.cell?_setCell_other _ _ _ _ (by intro q; injection q with _ q2; omega), h.cell i _ (List.getElem?_eq_getElem hi)]; rfl
theorem Vr.new (w : World) (t : TypeId) (cs : List Value) : Vr (w.alloc (.cells cs.toArray t)) w.heap.size cs := by
 have e := fun j => cell_of_row (w.alloc (.cells cs.toArray t)) w.heap.size j _ t (0, 0) (heap_alloc_last w _)
 refine ⟨fun j v hv => by rw [Nat.zero_add, e]; simpa using hv, fun j hj => ⟨?_, World.frozen?_alloc_at _ _ _ _ rfl⟩⟩
 rw [Nat.zero_add, e]
 simp [hj]
def Rowy (t : TypeId) (n : Nat) : Prop := (∃ d, Try.prog.underlying t = some d ∧ d.isRow = true) ∧ (Try.prog.info? t).map (·.size) = some n
theorem run_loadC {w : World} {b p : Nat} {t : TypeId} {cs : List Value} (ht : Rowy t cs.length) (h : w.rangeAt b p cs) : (loadVar t ⟨b, p, none⟩).run Try.prog w = .ok (.agg cs.toArray) w := by
 obtain ⟨⟨d, hu, hd⟩, hs⟩ := ht
 exact run_loadVar_mid (P := Try.prog) w b p t _ _ h hu hd hs
theorem load_cells {w : World} {b p : Nat} {t : TypeId} {cs : List Value} (ht : Rowy t cs.length) (h : w.rangeAt b p cs) : (Instr.loadAt t (.pointer (some ⟨b, p, none⟩))).run Try.prog w = .ok (.agg cs.toArray) w := by
 simp only [Instr.loadAt, Instr.sureAddr, Sem.run_bind, Sem.run_pure, Result.andThen_ok, run_loadC ht h]
theorem results_c {fn : Func} {p : Tmp} {t : TypeId} (h : fn.results = #[.cell p t]) (tmps : Array Value) (w : World) (b : Nat) (cs : List Value) (ht : Rowy t cs.length) (hp : tmps.getD p undef = .pointer (some ⟨b, 0, none⟩)) (ha : w.rangeAt b 0 cs) : (results fn tmps).run Try.prog w = .ok (.agg cs.toArray) w := by
 have hp' : tmps[p]?.getD undef = .pointer (some ⟨b, 0, none⟩) := by simpa using hp
 simp [results, h, hp', asAddr, run_loadC ht ha]
theorem results_cv {fn : Func} {p q : Tmp} {t : TypeId} (h : fn.results = #[.cell p t, .tmp q]) (tmps : Array Value) (w : World) (b : Nat) (cs : List Value) (v : Value) (ht : Rowy t cs.length) (hp : tmps.getD p undef = .pointer (some ⟨b, 0, none⟩)) (hq : tmps.getD q undef = v) (ha : w.rangeAt b 0 cs) : (results fn tmps).run Try.prog w = .ok (.tuple #[.agg cs.toArray, v]) w := by
 have hp' : tmps[p]?.getD undef = .pointer (some ⟨b, 0, none⟩) := by simpa using hp
 have hq' : tmps[q]?.getD undef = v := by simpa using hq
 simp [results, h, hp', hq', asAddr, run_loadC ht ha]
section
variable {ops : Array Oper} {rest : List Oper} {a : Act} {Q : Exit → Act → World → Prop}
theorem box_lawC {d : Option Tmp} {x : Operand} {t ty : TypeId} {pos : String} {af : Array Edge} (w : World) (cs : List Value) (hx : a.eval x = .agg cs.toArray)
  (hK : ∀ w', Vr w' w.heap.size cs → Below w.heap.size w w' → w.heap.size < w'.heap.size → wpList Try.prog ops Q rest (a.put d (.pointer (some ⟨w.heap.size, 0, none⟩))) w') :
  wpList Try.prog ops Q (⟨d, Op.box t x, ty, pos, af, none⟩ :: rest) a w := by
 refine wpList_plain rfl fun K hK' => ?_
 unfold Oper.wp
 simp [execOp, hx, Instr.box, newVar, newRow, Value.cells, Result.andThen]
 exact hK' _ _ (hK _ (Vr.new w t cs) ((Below.refl _ _).alloc (Nat.le_refl _) _) (by simp))
theorem new_lawC {d : Option Tmp} {t ty : TypeId} {pos : String} {af : Array Edge} (w : World) (cs : List Value) (hz : (Try.prog.info? t).map (fun i => (i.zero, i.size)) = some (some (.agg cs.toArray), cs.length))
  (hK : ∀ w', Vr w' w.heap.size cs → Below w.heap.size w w' → w.heap.size < w'.heap.size → wpList Try.prog ops Q rest (a.put d (.pointer (some ⟨w.heap.size, 0, none⟩))) w') :
  wpList Try.prog ops Q (⟨d, Op.alloc t, ty, pos, af, none⟩ :: rest) a w := by
 refine wpList_plain rfl fun K hK' => ?_
 have hz' := (zero_of_info hz).1
 unfold Oper.wp
 simp [execOp, Instr.alloc, hz', newVar, newRow, Value.cells, Result.andThen]
 exact hK' _ _ (hK _ (Vr.new w t cs) ((Below.refl _ _).alloc (Nat.le_refl _) _) (by simp))
theorem store_lawC {d : Option Tmp} {x y : Operand} {t ty : TypeId} {pos : String} {af : Array Edge} (w : World) (cs : List Value) (b p : Nat) (hx : a.eval x = .pointer (some ⟨b, p, none⟩)) (hy : a.eval y = .agg cs.toArray) (ht : w.there b p cs.length) (hs : (Try.prog.info? t).map (·.size) = some cs.length) (h1 : ∀ v ∈ cs, v.oneCell' = true)
  (hK : ∀ w', Hid (w' = w.setCells b p cs) → w'.rangeAt b p cs → w'.there b p cs.length → Below b w w' → wpList Try.prog ops Q rest (a.put d undef) w') :
  wpList Try.prog ops Q (⟨d, Op.store t x y, ty, pos, af, none⟩ :: rest) a w := by
 refine wpList_store_mid rfl t x y rfl b p cs.toArray hx hy (by simpa using ht) (by simpa using hs) (all_oneCell_toArray h1) ?_
 exact hK _ rfl (World.rangeAt_setCells_same w b p cs ht) (World.there_setCells ht b p _) (below_cells _ (Nat.le_refl _) _ _ (Below.refl _ _))
end
def el (ess : List (List Value)) (t : Nat) : List Value := ess.getD t []
def Rws (w : World) (v : Value) (k : Nat) (ess : List (List Value)) : Prop := ∃ ao cap, v = .slice ao ess.length cap ∧ ess.length ≤ cap ∧ cap ≤ 9223372036854775807 ∧ (ao = none → cap = 0) ∧ (∀ t, t < ess.length → (el ess t).length = k) ∧ (0 < ess.length → ∃ b off, ao = some ⟨b, off, none⟩ ∧ ∀ t, t < ess.length → w.rangeAt b (off + t * k) (el ess t))
theorem Rws.below {w w' : World} {v : Value} {k : Nat} {ess : List (List Value)} (h : Rws w v k ess) (hk : 0 < k) (hb : Below w.heap.size w w') : Rws w' v k ess := by
 obtain ⟨ao, cap, rfl, h1, h2, h3, h4, h5⟩ := h
 refine ⟨ao, cap, rfl, h1, h2, h3, h4, fun hp => ?_⟩
 obtain ⟨b, off, rfl, hc⟩ := h5 hp
 refine ⟨b, off, rfl, fun t ht => range_heap (hc t ht) (hb.block b (range_lt (hc t ht) (by rw [h4 t ht]; exact hk)))⟩
theorem Rws.nil (w : World) (k : Nat) : Rws w (.slice none 0 0) k [] := ⟨none, 0, rfl, by simp, by simp, fun _ => rfl, fun t ht => by simp at ht, fun h => by simp at h⟩
theorem Rws.form {w : World} {v : Value} {k : Nat} {ess : List (List Value)} (h : Rws w v k ess) : ∃ ao cap, v = .slice ao ess.length cap := by
 obtain ⟨ao, cap, rfl, _⟩ := h
 exact ⟨ao, cap, rfl⟩
theorem flat_len {k : Nat} {ess : List (List Value)} (h : ∀ t, t < ess.length → (el ess t).length = k) : ess.flatten.length = ess.length * k := by
 induction ess with
 | nil => simp
 | cons e ess ih =>
  have h0 : e.length = k := h 0 (by simp)
  have := ih fun t ht => by have := h (t + 1) (by simpa using ht); simpa [el] using this
  rw [List.flatten_cons, List.length_append, this, h0, List.length_cons, Nat.succ_mul]; omega
theorem flat_get {k : Nat} : ∀ {ess : List (List Value)}, (∀ t, t < ess.length → (el ess t).length = k) → ∀ t i, t < ess.length → i < k → ess.flatten[t * k + i]? = (el ess t)[i]?
 | [], _, t, i, ht, _ => by simp at ht
 | e :: ess, h, t, i, ht, hi => by
  have h0 : e.length = k := h 0 (by simp)
  rw [List.flatten_cons]
  match t, ht with
  | 0, _ => rw [Nat.zero_mul, Nat.zero_add, List.getElem?_append_left (by omega)]; rfl
  | t + 1, ht =>
   rw [List.getElem?_append_right (by rw [Nat.succ_mul]; omega), h0, show (t + 1) * k + i - k = t * k + i by rw [Nat.succ_mul]; omega]
   exact flat_get (fun t ht => by have := h (t + 1) (by simpa using ht); simpa [el] using this) t i (by simpa using ht) hi
def OwR (B : Nat) (w : World) (v : Value) (e : TypeId) (k : Nat) (ess : List (List Value)) : Prop := w.ownsRow B e k v ess.length ess.flatten ∧ ∀ t, t < ess.length → (el ess t).length = k
theorem OwR.empty (w : World) (e : TypeId) (k : Nat) {B : Nat} (hB : B ≤ w.heap.size) : OwR B (w.alloc (.cells #[] e)) (.slice (some ⟨w.heap.size, 0, none⟩) 0 0) e k [] :=
 ⟨World.ownsRow_made w #[] 0 hB (by simp [maxLen]) (by simp), fun t ht => by simp at ht⟩
theorem OwR.nil (w : World) (e : TypeId) (k : Nat) (B : Nat) : OwR B w (.slice none 0 0) e k [] := ⟨⟨by simp, Or.inl ⟨rfl, rfl⟩⟩, fun t ht => by simp at ht⟩
theorem OwR.row {B : Nat} {w : World} {v : Value} {e : TypeId} {k : Nat} {ess : List (List Value)} (h : OwR B w v e k ess) (hp : 0 < ess.length) : ∃ g cap, v = .slice (some ⟨g, 0, none⟩) ess.length cap ∧ B ≤ g ∧ ∀ t, t < ess.length → w.rangeAt g (t * k) (el ess t) ∧ w.there g (t * k) k := by
 have hx := h.1
 rcases h.1.2 with ⟨_, hn⟩ | ⟨g, cap, cur, rfl, hg, hr⟩
 ·omega
 refine ⟨g, cap, rfl, hg, fun t ht => ?_⟩
 have hlt : t * k + k ≤ ess.length * k := by have := Nat.mul_le_mul_right k (show t + 1 ≤ ess.length by omega); rw [Nat.succ_mul] at this; exact this
 refine ⟨fun j u hj => ?_, fun j hj => ⟨?_, hx.frozenAt _⟩⟩
 ·have hjk : j < k := by rw [← h.2 t ht]; exact (List.getElem?_eq_some_iff.1 hj).1
  rw [hx.cellAt (t * k + j) (by omega), flat_get h.2 t j ht hjk]; exact hj
 ·rw [hx.cellAt (t * k + j) (by omega), flat_get h.2 t j ht hj, List.getElem?_eq_getElem (by rw [h.2 t ht]; exact hj)]; rfl
theorem OwR.rws {B : Nat} {w : World} {v : Value} {e : TypeId} {k : Nat} {ess : List (List Value)} (h : OwR B w v e k ess) : Rws w v k ess := by
 rcases h.1.2 with ⟨rfl, hn⟩ | ⟨g, cap, cur, rfl, hg, hh, hc, hm, hs, ht⟩
 ·have : ess = [] := List.eq_nil_of_length_eq_zero hn
  subst this
  exact Rws.nil w k
 ·refine ⟨some ⟨g, 0, none⟩, cap, rfl, hc, by simpa [maxLen] using hm, (by intro q; cases q), h.2, fun hp => ⟨g, 0, rfl, fun t ht => ?_⟩⟩
  obtain ⟨g', cap', e', _, hr⟩ := h.row hp
  cases e'
  rw [Nat.zero_add]
  exact (hr t ht).1
theorem el_app (xs ys : List (List Value)) (t : Nat) : el (xs ++ ys) t = if t < xs.length then el xs t else el ys (t - xs.length) := by
 unfold el
 rw [List.getD_eq_getElem?_getD]
 by_cases h : t < xs.length
 ·rw [if_pos h, List.getElem?_append_left h]; rfl
 ·rw [if_neg h, List.getElem?_append_right (by omega)]; rfl
def setL (xs : List Value) (o : Nat) : List Value → List Value
 | [] => xs
 | c :: r => setL (xs.set o c) (o + 1) r
theorem setL_get (cs : List Value) : ∀ (xs : List Value) (o i : Nat), o + cs.length ≤ xs.length → (setL xs o cs)[i]? = if o ≤ i ∧ i < o + cs.length then cs[i - o]? else xs[i]? := by
 induction cs with
 | nil => intro xs o i _; rw [if_neg (by simp)]; rfl
 | cons c r ih =>
  intro xs o i h
  rw [List.length_cons] at h
  rw [setL, ih (xs.set o c) (o + 1) i (by rw [List.length_set]; omega), List.length_cons, List.getElem?_set]
  by_cases e : o = i
  ·subst e
   rw [if_neg (by omega), if_pos rfl, if_pos (by omega), if_pos (by omega), Nat.sub_self]; rfl
  ·rw [if_neg e]
   by_cases q : o + 1 ≤ i ∧ i < o + 1 + r.length
   ·rw [if_pos q, if_pos (by omega), show i - o = i - (o + 1) + 1 by omega, List.getElem?_cons_succ]
   ·rw [if_neg q, if_neg (by omega)]
theorem ownsRow_setCells {B g n cap k : Nat} {e : TypeId} (cs : List Value) : ∀ (w : World) (xs : List Value) (o : Nat), w.ownsRow B e k (.slice (some ⟨g, 0, none⟩) n cap) n xs → (w.setCells g o cs).ownsRow B e k (.slice (some ⟨g, 0, none⟩) n cap) n (setL xs o cs) := by
 induction cs with
 | nil => intro w xs o h; exact h
 | cons c r ih => intro w xs o h; exact ih _ _ _ (h.stored o c).1
theorem el_set (ess : List (List Value)) (t s : Nat) (cs : List Value) (ht : t < ess.length) : el (ess.set t cs) s = if s = t then cs else el ess s := by
 unfold el
 rw [List.getD_eq_getElem?_getD, List.getD_eq_getElem?_getD, List.getElem?_set]
 by_cases e : t = s
 ·subst e; simp [ht]
 ·rw [if_neg e, if_neg (Ne.symm e)]
theorem OwR.put {B : Nat} {w : World} {g n cap k : Nat} {e : TypeId} {ess : List (List Value)} (h : OwR B w (.slice (some ⟨g, 0, none⟩) n cap) e k ess) (hn : ess.length = n) (t : Nat) (ht : t < n) (cs : List Value) (hc : cs.length = k) : OwR B (w.setCells g (t * k) cs) (.slice (some ⟨g, 0, none⟩) n cap) e k (ess.set t cs) := by
 subst hn
 have hl : ∀ s, s < (ess.set t cs).length → (el (ess.set t cs) s).length = k := fun s hs => by
  rw [List.length_set] at hs
  rw [el_set ess t s cs ht]
  split
  ·exact hc
  ·exact h.2 s hs
 refine ⟨?_, hl⟩
 have key : (ess.set t cs).flatten = setL ess.flatten (t * k) cs := by
  have f1 := flat_len h.2
  have f2 := flat_len hl
  rw [List.length_set] at f2
  have hlt : t * k + k ≤ ess.length * k := by have := Nat.mul_le_mul_right k (show t + 1 ≤ ess.length by omega); rw [Nat.succ_mul] at this; exact this
  apply List.ext_getElem?
  intro i
  rw [setL_get cs _ _ _ (by rw [f1, hc]; exact hlt), hc]
  rcases Nat.lt_or_ge i (ess.length * k) with hi | hi
  ·have hk : 0 < k := by
    rcases Nat.eq_zero_or_pos k with q | q
    ·subst q; omega
    ·exact q
   have ei : i = i / k * k + i % k := by rw [Nat.mul_comm]; exact (Nat.div_add_mod i k).symm
   have hd : i / k < ess.length := (Nat.div_lt_iff_lt_mul hk).2 hi
   have hm : i % k < k := Nat.mod_lt _ hk
   have g1 := flat_get hl (i / k) (i % k) (by rw [List.length_set]; exact hd) hm
   have g2 := flat_get h.2 (i / k) (i % k) hd hm
   rw [← ei] at g1 g2
   rw [g1, g2, el_set ess t _ cs ht]
   by_cases q : i / k = t
   ·rw [if_pos q, if_pos (by rw [← q]; omega), show i - t * k = i % k by rw [← q]; omega]
   ·rw [if_neg q, if_neg fun hh => q ?_]
    exact Nat.div_eq_of_lt_le (by omega) (by rw [Nat.succ_mul]; omega)
  ·rw [List.getElem?_eq_none (by omega), if_neg (by omega), List.getElem?_eq_none (by omega)]
 rw [List.length_set, key]
 exact ownsRow_setCells cs w _ _ h.1
end Go.Proofs.Ytikcohjhhoiakaa.na
namespace Go.Proofs.Ytikcohjhhoiakaa.na
open Go.RowKit
theorem vB {w w' : World} {c : Nat} {cs : List Value} (h : Hid (Vr w c cs)) (hb : Below w.heap.size w w') (hl : c < w.heap.size) : Hid (Vr w' c cs) := h.out.below hb hl
theorem vlt {w : World} {c : Nat} {a : Value} {cs : List Value} (h : Vr w c (a :: cs)) : c < w.heap.size := range_lt h.1 (Nat.succ_pos _)
theorem vK3 {w : World} {c : Nat} {a0 a1 a2 : Value} {cs : List Value} (h : Vr w c (a0 :: a1 :: a2 :: cs)) : w.cell? ⟨c, 0, none⟩ = some a0 ∧ w.cell? ⟨c, 1, none⟩ = some a1 ∧ w.cell? ⟨c, 2, none⟩ = some a2 := ⟨h.cell 0 _ rfl, h.cell 1 _ rfl, h.cell 2 _ rfl⟩
theorem vK4 {w : World} {c : Nat} {a0 a1 a2 a3 : Value} {cs : List Value} (h : Vr w c (a0 :: a1 :: a2 :: a3 :: cs)) : w.cell? ⟨c, 0, none⟩ = some a0 ∧ w.cell? ⟨c, 1, none⟩ = some a1 ∧ w.cell? ⟨c, 2, none⟩ = some a2 ∧ w.cell? ⟨c, 3, none⟩ = some a3 := ⟨h.cell 0 _ rfl, h.cell 1 _ rfl, h.cell 2 _ rfl, h.cell 3 _ rfl⟩
theorem vK5 {w : World} {c : Nat} {a0 a1 a2 a3 a4 : Value} {cs : List Value} (h : Vr w c (a0 :: a1 :: a2 :: a3 :: a4 :: cs)) : w.cell? ⟨c, 0, none⟩ = some a0 ∧ w.cell? ⟨c, 1, none⟩ = some a1 ∧ w.cell? ⟨c, 2, none⟩ = some a2 ∧ w.cell? ⟨c, 3, none⟩ = some a3 ∧ w.cell? ⟨c, 4, none⟩ = some a4 := ⟨h.cell 0 _ rfl, h.cell 1 _ rfl, h.cell 2 _ rfl, h.cell 3 _ rfl, h.cell 4 _ rfl⟩
theorem vK6 {w : World} {c : Nat} {a0 a1 a2 a3 a4 a5 : Value} {cs : List Value} (h : Vr w c (a0 :: a1 :: a2 :: a3 :: a4 :: a5 :: cs)) : w.cell? ⟨c, 0, none⟩ = some a0 ∧ w.cell? ⟨c, 1, none⟩ = some a1 ∧ w.cell? ⟨c, 2, none⟩ = some a2 ∧ w.cell? ⟨c, 3, none⟩ = some a3 ∧ w.cell? ⟨c, 4, none⟩ = some a4 ∧ w.cell? ⟨c, 5, none⟩ = some a5 := ⟨h.cell 0 _ rfl, h.cell 1 _ rfl, h.cell 2 _ rfl, h.cell 3 _ rfl, h.cell 4 _ rfl, h.cell 5 _ rfl⟩
theorem vK7 {w : World} {c : Nat} {a0 a1 a2 a3 a4 a5 a6 : Value} {cs : List Value} (h : Vr w c (a0 :: a1 :: a2 :: a3 :: a4 :: a5 :: a6 :: cs)) : w.cell? ⟨c, 0, none⟩ = some a0 ∧ w.cell? ⟨c, 1, none⟩ = some a1 ∧ w.cell? ⟨c, 2, none⟩ = some a2 ∧ w.cell? ⟨c, 3, none⟩ = some a3 ∧ w.cell? ⟨c, 4, none⟩ = some a4 ∧ w.cell? ⟨c, 5, none⟩ = some a5 ∧ w.cell? ⟨c, 6, none⟩ = some a6 := ⟨h.cell 0 _ rfl, h.cell 1 _ rfl, h.cell 2 _ rfl, h.cell 3 _ rfl, h.cell 4 _ rfl, h.cell 5 _ rfl, h.cell 6 _ rfl⟩
theorem vK8 {w : World} {c : Nat} {a0 a1 a2 a3 a4 a5 a6 a7 : Value} {cs : List Value} (h : Vr w c (a0 :: a1 :: a2 :: a3 :: a4 :: a5 :: a6 :: a7 :: cs)) : w.cell? ⟨c, 0, none⟩ = some a0 ∧ w.cell? ⟨c, 1, none⟩ = some a1 ∧ w.cell? ⟨c, 2, none⟩ = some a2 ∧ w.cell? ⟨c, 3, none⟩ = some a3 ∧ w.cell? ⟨c, 4, none⟩ = some a4 ∧ w.cell? ⟨c, 5, none⟩ = some a5 ∧ w.cell? ⟨c, 6, none⟩ = some a6 ∧ w.cell? ⟨c, 7, none⟩ = some a7 := ⟨h.cell 0 _ rfl, h.cell 1 _ rfl, h.cell 2 _ rfl, h.cell 3 _ rfl, h.cell 4 _ rfl, h.cell 5 _ rfl, h.cell 6 _ rfl, h.cell 7 _ rfl⟩
theorem vK9 {w : World} {c : Nat} {a0 a1 a2 a3 a4 a5 a6 a7 a8 : Value} {cs : List Value} (h : Vr w c (a0 :: a1 :: a2 :: a3 :: a4 :: a5 :: a6 :: a7 :: a8 :: cs)) : w.cell? ⟨c, 0, none⟩ = some a0 ∧ w.cell? ⟨c, 1, none⟩ = some a1 ∧ w.cell? ⟨c, 2, none⟩ = some a2 ∧ w.cell? ⟨c, 3, none⟩ = some a3 ∧ w.cell? ⟨c, 4, none⟩ = some a4 ∧ w.cell? ⟨c, 5, none⟩ = some a5 ∧ w.cell? ⟨c, 6, none⟩ = some a6 ∧ w.cell? ⟨c, 7, none⟩ = some a7 ∧ w.cell? ⟨c, 8, none⟩ = some a8 := ⟨h.cell 0 _ rfl, h.cell 1 _ rfl, h.cell 2 _ rfl, h.cell 3 _ rfl, h.cell 4 _ rfl, h.cell 5 _ rfl, h.cell 6 _ rfl, h.cell 7 _ rfl, h.cell 8 _ rfl⟩
theorem vK10 {w : World} {c : Nat} {a0 a1 a2 a3 a4 a5 a6 a7 a8 a9 : Value} {cs : List Value} (h : Vr w c (a0 :: a1 :: a2 :: a3 :: a4 :: a5 :: a6 :: a7 :: a8 :: a9 :: cs)) : w.cell? ⟨c, 0, none⟩ = some a0 ∧ w.cell? ⟨c, 1, none⟩ = some a1 ∧ w.cell? ⟨c, 2, none⟩ = some a2 ∧ w.cell? ⟨c, 3, none⟩ = some a3 ∧ w.cell? ⟨c, 4, none⟩ = some a4 ∧ w.cell? ⟨c, 5, none⟩ = some a5 ∧ w.cell? ⟨c, 6, none⟩ = some a6 ∧ w.cell? ⟨c, 7, none⟩ = some a7 ∧ w.cell? ⟨c, 8, none⟩ = some a8 ∧ w.cell? ⟨c, 9, none⟩ = some a9 := ⟨h.cell 0 _ rfl, h.cell 1 _ rfl, h.cell 2 _ rfl, h.cell 3 _ rfl, h.cell 4 _ rfl, h.cell 5 _ rfl, h.cell 6 _ rfl, h.cell 7 _ rfl, h.cell 8 _ rfl, h.cell 9 _ rfl⟩
theorem vK11 {w : World} {c : Nat} {a0 a1 a2 a3 a4 a5 a6 a7 a8 a9 a10 : Value} {cs : List Value} (h : Vr w c (a0 :: a1 :: a2 :: a3 :: a4 :: a5 :: a6 :: a7 :: a8 :: a9 :: a10 :: cs)) : w.cell? ⟨c, 0, none⟩ = some a0 ∧ w.cell? ⟨c, 1, none⟩ = some a1 ∧ w.cell? ⟨c, 2, none⟩ = some a2 ∧ w.cell? ⟨c, 3, none⟩ = some a3 ∧ w.cell? ⟨c, 4, none⟩ = some a4 ∧ w.cell? ⟨c, 5, none⟩ = some a5 ∧ w.cell? ⟨c, 6, none⟩ = some a6 ∧ w.cell? ⟨c, 7, none⟩ = some a7 ∧ w.cell? ⟨c, 8, none⟩ = some a8 ∧ w.cell? ⟨c, 9, none⟩ = some a9 ∧ w.cell? ⟨c, 10, none⟩ = some a10 := ⟨h.cell 0 _ rfl, h.cell 1 _ rfl, h.cell 2 _ rfl, h.cell 3 _ rfl, h.cell 4 _ rfl, h.cell 5 _ rfl, h.cell 6 _ rfl, h.cell 7 _ rfl, h.cell 8 _ rfl, h.cell 9 _ rfl, h.cell 10 _ rfl⟩
abbrev zC : List Value := [.int .i64 0, .int .i64 0, .int .i64 0, .int .i64 0, .int .i64 0, .int .i64 0, .slice none 0 0, .slice none 0 0, .bool false, .int .i64 0]
end Go.Proofs.Ytikcohjhhoiakaa.na
namespace Go.Proofs.Ytikcohjhhoiakaa.fa
open Go.RowKit
set_option maxRecDepth 20000
def Bow (B : Nat) (w : World) (v : Value) (xs : List Int) : Prop := Byt w v xs ∧ (0 < xs.length → ∃ b off cap, v = .slice (some ⟨b, off, none⟩) xs.length cap ∧ B ≤ b ∧ ∀ j, j < xs.length → w.frozen? ⟨b, off + j, none⟩ = false)
theorem Bow.nil (B : Nat) (w : World) : Bow B w (.slice none 0 0) [] := ⟨Byt.nil w, fun h => by simp at h⟩
theorem bow_own {B : Nat} {w : World} {v : Value} {xs : List Int} (h : Own B w v xs) (ha : AllB xs) : Bow B w v xs := by
 refine ⟨h.byt ha, fun hp => ?_⟩
 obtain ⟨g, cap, rfl, oc⟩ := own_row h hp
 exact ⟨g, 0, cap, rfl, oc.2.1, fun j _ => by rw [Nat.zero_add]; exact oc.free j⟩
theorem Bow.below {B : Nat} {w w' : World} {v : Value} {xs : List Int} (h : Bow B w v xs) (hb : Below w.heap.size w w') : Bow B w' v xs := by
 refine ⟨h.1.below hb, fun hp => ?_⟩
 obtain ⟨b, off, cap, rfl, h1, h2⟩ := h.2 hp
 obtain ⟨ao, cap', e, _, _, _, _, h5⟩ := h.1
 cases e
 obtain ⟨b', off', e', hc⟩ := h5 hp
 cases e'
 exact ⟨b, off, cap, rfl, h1, fun j hj => by rw [hb.frozen (World.block_lt_of_cell? w _ (hc j hj))]; exact h2 j hj⟩
theorem Bow.mono {B B' : Nat} {w : World} {v : Value} {xs : List Int} (h : Bow B w v xs) (hb : B' ≤ B) : Bow B' w v xs := ⟨h.1, fun hp => by
 obtain ⟨b, off, cap, rfl, h1, h2⟩ := h.2 hp
 exact ⟨b, off, cap, rfl, by omega, h2⟩⟩
theorem Bow.other {B : Nat} {w : World} {v u old : Value} {xs : List Int} {p : Addr} (h : Bow B w v xs) (hc : w.cell? p = some old) (ho : ∀ x, old ≠ .int .u8 x) : Bow B (w.setCell p u) v xs := by
 refine ⟨byt_other h.1 hc ho, fun hp => ?_⟩
 obtain ⟨b, off, cap, rfl, h1, h2⟩ := h.2 hp
 exact ⟨b, off, cap, rfl, h1, fun j hj => by rw [World.frozen?_setCell]; exact h2 j hj⟩
theorem byt_one_cell {w : World} {v : Value} {xs : List Int} (h : Byt w v xs) : v.oneCell' = true := by
 obtain ⟨ao, cap, rfl, _⟩ := h
 rfl
theorem byt_no_u8 {w : World} {v : Value} {xs : List Int} (h : Byt w v xs) : ∀ x, v ≠ .int .u8 x := by
 obtain ⟨ao, cap, rfl, _⟩ := h
 intro x e
 cases e
theorem bow_cells {B : Nat} {w : World} {v : Value} {xs : List Int} {b p : Nat} {f f' : Int × Bool × Value} (hf : FlA w b p f) (hm : ∀ x, f.2.2 ≠ .int .u8 x) (h : Bow B w v xs) : Bow B (w.setCells b p (fl f')) v xs := by
 have h1 := h.other (u := .int .i64 f'.1) hf.1 (by intro x e; cases e)
 have c1 : (w.setCell ⟨b, p, none⟩ (.int .i64 f'.1)).cell? ⟨b, p + 1, none⟩ = some (.bool f.2.1) := by
  rw [World.cell?_setCell_other _ _ _ _ (by intro e; injection e with _ e2; omega)]; exact hf.2.1
 have h2 := h1.other (u := .bool f'.2.1) c1 (by intro x e; cases e)
 have c2 : ((w.setCell ⟨b, p, none⟩ (.int .i64 f'.1)).setCell ⟨b, p + 1, none⟩ (.bool f'.2.1)).cell? ⟨b, p + 2, none⟩ = some f.2.2 := by
  rw [World.cell?_setCell_other _ _ _ _ (by intro e; injection e with _ e2; omega), World.cell?_setCell_other _ _ _ _ (by intro e; injection e with _ e2; omega)]; exact hf.2.2
 exact h2.other (u := f'.2.2) c2 hm
theorem bclone_any (v : Value) (xs : List Int) (w : World) (h : Byt w v xs) (hl : xs.length ≤ 140737488355328) :
  Calls Try.prog 46 #[v] w fun e w' => ∃ v', e = .returned v' ∧ Bow w.heap.size w' v' xs ∧ Below w.heap.size w w' := by
 have hall := h.all
 have HA : Hid (AllB xs) := hall
 have HV : Hid (Byt (w.alloc (.cells #[] 5)) v xs) := h.below ((Below.refl _ _).alloc (Nat.le_refl _) _)
 obtain ⟨ao, cap, rfl, h1, h2, h3, h4, h5⟩ := h
 cases ao with
 | none =>
  have hc := h4 rfl
  subst hc
  have e : xs = [] := List.eq_nil_of_length_eq_zero (by omega)
  subst e
  have qn : ∀ w : World, (binOp .eql 53 (.slice none 0 0) (.slice none 0 0)).run Try.prog w = .ok (.bool true) w := fun w => Lib.run_eql_slice_nil w _ _ none 0 0 0 0 Try.underlying53
  clear h1 h2 h3 h4 h5 hall HV
  go_enter Try.func46, Try.ntmps46
  go_wp2
  go_ret
  exact ⟨_, rfl, Bow.nil _ _, Below.refl _ _⟩
 | some ad =>
  have HO : Hid (Own w.heap.size (w.alloc (.cells #[] 5)) (.slice (some ⟨w.heap.size, 0, none⟩) 0 0) []) := Own.empty w (Nat.le_refl _)
  have B0 : Below w.heap.size w (w.alloc (.cells #[] 5)) := (Below.refl _ _).alloc (Nat.le_refl _) _
  have z0 := B0.size
  have qn : ∀ w : World, (binOp .eql 53 (.slice (some ad) xs.length cap) (.slice none 0 0)).run Try.prog w = .ok (.bool false) w := fun w => Lib.run_eql_slice_nil w _ _ (some ad) xs.length cap 0 0 Try.underlying53
  clear h3 h4 h5 hall
  go_enter Try.func46, Try.ntmps46
  go_wp2_with (refine pushs_law _ rfl (.tmp 5) (.tmp 6) rfl w.heap.size z0 _ _ [] xs rfl rfl HO.out HV.out (by simp only [List.length_nil]; omega) ?_; intro v1 w1 O1 b1; rw [List.nil_append] at O1; have HO1 := hdH (O1); clear O1; have c1 : Below w.heap.size w w1 := B0.trans b1)
  go_ret
  exact ⟨_, rfl, bow_own HO1.out HA.out, c1⟩
theorem copyOf_any (f : Int × Bool × Value) (xs : List Int) (w : World) (h : Byt w f.2.2 xs) (hl : xs.length ≤ 140737488355328) :
  Calls Try.prog 60 #[fv f] w fun e w' => ∃ m', e = .returned (fv (f.1, f.2.1, m')) ∧ Bow w.heap.size w' m' xs ∧ Below w.heap.size w w' := by
 have H := hdH (h)
 have S : Hid (∀ w0, Below w.heap.size w w0 → Calls Try.prog 46 #[f.2.2] w0 fun e w' => ∃ v', e = .returned v' ∧ Bow w0.heap.size w' v' xs ∧ Below w0.heap.size w0 w') := fun w0 hb => bclone_any f.2.2 xs w0 (h.below hb) hl
 clear h hl
 have t0 := tR
 go_enter Try.func60, Try.ntmps60
 go_wp2_with (first
  | (have q0 := t0; refine box_lawV _ f rfl ?_; intro w1 V1 B1 l1; have HV1 := hdH (V1); clear V1 t0; have t1 := tR)
  | (have q1 := t1; refine new_lawV _ ?_; intro w2 V2 B2 l2; have HV2 := hdH (V2); have HV1 := hdH (HV1.out.below B2 l1); have c2 := HV1.out.1.2.2; clear V2 t1; have t2 : (2 : Nat) = 2 := rfl)
  | (have q4 := t4; refine store_lawV _ (f.1, f.2.1, .slice ao3 xs.length cap3) w1.heap.size 0 rfl rfl HV2.out.2 rfl ?_; intro w5 E5 A5 T5 B5; have HA5 := hdH (A5); clear A5 T5 t4)
  | (have q3 := t3; refine load_lawS _ (by rfl) _ _ rfl (load_fault HV4.out.1) ?_; clear t3; have t4 : (4 : Nat) = 4 := rfl)
  | (have q2 := t2; go_at_call 46; refine (S.out _ (B1.trans (B2.mono (by omega)))).mono ?_; rintro e w3 ⟨m3, rfl, y3, B3⟩; obtain ⟨ao3, cap3, rfl⟩ := byt_form y3.1
     have Y3 := hdH (y3)
     have HV1 := hdH (HV1.out.below B3 (by omega))
     have HV2 := hdH (HV2.out.below B3 (by omega))
     have d2 := HV1.out.1.2.2
     have e2 : w3.frozen? ⟨w.heap.size, 2, none⟩ = false := (HV1.out.2 2 (by omega)).2
     have HV4 : Hid (FlV (w3.setCell ⟨w.heap.size, 2, none⟩ (.slice ao3 xs.length cap3)) w.heap.size (f.1, f.2.1, .slice ao3 xs.length cap3)) := HV1.out.mask _
     have HV2 : Hid (FlV (w3.setCell ⟨w.heap.size, 2, none⟩ (.slice ao3 xs.length cap3)) w1.heap.size f0) := flv_other HV2.out _ (by omega)
     clear y3 t2; have t3 : (3 : Nat) = 3 := rfl))
 have C3 : Below w.heap.size w w3 := B1.trans ((B2.mono (by omega)).trans (B3.mono (by omega)))
 refine bodyPost_ret (v := fv (f.1, f.2.1, .slice ao3 xs.length cap3)) (results_flt rfl _ _ w1.heap.size _ rfl HA5.out) rfl ⟨_, rfl, ?_, ?_⟩
 ·have Z3 := (Y3.out.mono (show w.heap.size ≤ w2.heap.size by omega)).other (u := .slice ao3 xs.length cap3) d2 (byt_no_u8 H.out)
  rw [E5.out]
  exact bow_cells HV2.out.1 (by intro x e; cases e) Z3
 ·exact (C3.setCell (Nat.le_refl _) _).trans (B5.mono (by omega))
def gf (fs : List (Int × Bool × Value)) (k : Nat) : Int × Bool × Value := fs.getD k f0
def Fls (w : World) (v : Value) (fs : List (Int × Bool × Value)) : Prop := ∃ ao cap, v = .slice ao fs.length cap ∧ fs.length ≤ cap ∧ cap ≤ 9223372036854775807 ∧ (ao = none → cap = 0) ∧ (0 < fs.length → ∃ b off, ao = some ⟨b, off, none⟩ ∧ ∀ t, t < fs.length → FlA w b (off + t * 3) (gf fs t))
theorem Fls.below {w w' : World} {v : Value} {fs : List (Int × Bool × Value)} (h : Fls w v fs) (hb : Below w.heap.size w w') : Fls w' v fs := by
 obtain ⟨ao, cap, rfl, h1, h2, h3, h4⟩ := h
 refine ⟨ao, cap, rfl, h1, h2, h3, fun hp => ?_⟩
 obtain ⟨b, off, rfl, hc⟩ := h4 hp
 exact ⟨b, off, rfl, fun t ht => (hc t ht).below hb (hc t ht).lt⟩
def Mks (w : World) (fs : List (Int × Bool × Value)) (ms : Nat → List Int) : Prop := ∀ t, t < fs.length → Byt w (gf fs t).2.2 (ms t) ∧ (ms t).length ≤ 140737488355328
theorem Mks.below {w w' : World} {fs : List (Int × Bool × Value)} {ms : Nat → List Int} (h : Mks w fs ms) (hb : Below w.heap.size w w') : Mks w' fs ms := fun t ht => ⟨(h t ht).1.below hb, (h t ht).2⟩
def Okp (fs : List (Int × Bool × Value)) (ms : Nat → List Int) (n : Nat) : Prop := ∀ t, t < n → 0 ≤ (gf fs t).1 ∧ (ms t).length ≤ 64
theorem okp_more {fs : List (Int × Bool × Value)} {ms : Nat → List Int} {k : Nat} (h : Okp fs ms k) (h0 : 0 ≤ (gf fs k).1) (h1 : (ms k).length ≤ 64) : Okp fs ms (k + 1) := fun t ht => by
 by_cases e : t < k
 ·exact h t e
 ·have : t = k := by omega
  subst this; exact ⟨h0, h1⟩
theorem split_flt {w : World} {fs : List (Int × Bool × Value)} {ms : Nat → List Int} (h : Mks w fs ms) {k : Nat} (hk : k < fs.length) : ∃ x cr mo mc, gf fs k = (x, cr, .slice mo (ms k).length mc) := by
 obtain ⟨mo, mc, e⟩ := byt_form (h k hk).1
 exact ⟨(gf fs k).1, (gf fs k).2.1, mo, mc, by rw [← e]⟩
theorem check_any (v : Value) (fs : List (Int × Bool × Value)) (ms : Nat → List Int) (w : World) (h : Fls w v fs) (hm : Mks w fs ms) (c : Int) (h0 : fs.length ≤ 64 → Okp fs ms fs.length → c = 0) (h2 : ¬ (fs.length ≤ 64 ∧ Okp fs ms fs.length) → c = 2) :
  Calls Try.prog 34 #[v] w fun e w' => e = .returned (.int .i64 c) ∧ Below w.heap.size w w' := by
 obtain ⟨ao, cap, rfl, a1, a2, a3, a4⟩ := h
 have HM := hdH (hm)
 have H0 := hdH (h0)
 have H2 := hdH (h2)
 have H4 := hdH (a4)
 clear hm h0 h2 a3 a4
 by_cases hl : fs.length ≤ 64
 ·have l1 : (fs.length : Int) ≤ 64 := by omega
  go_enter Try.func34, Try.ntmps34
  go_wp2
  go_loopw [10] (fun i wr => ∃ k : Nat, k ≤ fs.length ∧ i = .int .i64 k ∧ Hid (Okp fs ms k) ∧ Hid (Below w.heap.size w wr)) (fun i _ => fs.length - (intOf i).toNat)
  case atStart => exact ⟨0, Nat.zero_le _, rfl, fun t ht => by omega, Below.refl _ _⟩
  case round =>
   obtain ⟨k, hk, rfl, HK, HB⟩ := hrel
   obtain ⟨wa, rfl⟩ : ∃ wx, wx = wr := ⟨_, rfl⟩
   have k0 : (0 : Int) ≤ (k : Int) := by omega
   by_cases hlt : k < fs.length
   ·have k1 : (k : Int) < (fs.length : Int) := by omega
    obtain ⟨b, off, rfl, hc⟩ := H4.out (by omega)
    obtain ⟨x, cr, mo, mc, hf⟩ := split_flt HM.out hlt
    have hfa : FlA w b (off + k * 3) (gf fs k) := hc k hlt
    have HX : Hid ((gf fs k).1 = x) := by show _ = _; rw [hf]
    rw [hf] at hfa
    have HF : Hid (FlA wa b (off + k * 3) (x, cr, .slice mo (ms k).length mc)) := hfa.below HB.out hfa.lt
    have HL : Hid ((ms k).length ≤ 9223372036854775807) := (HM.out k hlt).1.len
    have LL : ((ms k).length : Int) ≤ 9223372036854775807 := by have := HL.out; omega
    have HK1 : Hid (0 ≤ x → (ms k).length ≤ 64 → Okp fs ms (k + 1)) := fun q1 q2 => okp_more HK.out (by rw [HX.out]; exact q1) q2
    have HN : Hid (¬ (0 ≤ x ∧ (ms k).length ≤ 64) → c = 2) := fun q => H2.out fun ⟨_, q2⟩ => q (by have := q2 k hlt; rw [HX.out] at this; exact this)
    clear hc hf hfa
    generalize (ms k).length = L at *
    have t0 := tR
    by_cases hx : x < 0
    ·have e := HN.out (by omega)
     subst e
     go_wp2_with (first
      | (have q2 := t2; refine store_lawV _ (x, cr, .slice mo L mc) wa.heap.size 0 rfl rfl HV2.out.2 rfl ?_; intro w3 E3 A3 T3 B3; have c0 := A3.1; have c2 := A3.2.2; have BB := hdH (HB.out.trans ((B2.trans B3).mono HB.out.size)); clear A3 T3 E3 t2)
      | (have q1 := t1; refine new_lawV _ ?_; intro w2 V2 B2 l2; have HV2 := hdH (V2); clear V2 t1; have t2 : (2 : Nat) = 2 := rfl)
      | (have q0 := t0; refine load_lawS _ (by rfl) _ _ rfl (load_fault HF.out) ?_; clear t0; have t1 := tR))
     go_ret
     exact ⟨rfl, BB.out⟩
    ·by_cases hL : 64 < L
     ·have e := HN.out (by omega)
      subst e
      have L1 : (64 : Int) < (L : Int) := by omega
      go_wp2_with (first
       | (have q2 := t2; refine store_lawV _ (x, cr, .slice mo L mc) wa.heap.size 0 rfl rfl HV2.out.2 rfl ?_; intro w3 E3 A3 T3 B3; have c0 := A3.1; have c2 := A3.2.2; have BB := hdH (HB.out.trans ((B2.trans B3).mono HB.out.size)); clear A3 T3 E3 t2)
       | (have q1 := t1; refine new_lawV _ ?_; intro w2 V2 B2 l2; have HV2 := hdH (V2); clear V2 t1; have t2 : (2 : Nat) = 2 := rfl)
       | (have q0 := t0; refine load_lawS _ (by rfl) _ _ rfl (load_fault HF.out) ?_; clear t0; have t1 := tR))
      go_ret
      exact ⟨rfl, BB.out⟩
     ·have HK2 : Hid (Okp fs ms (k + 1)) := HK1.out (by omega) (by omega)
      have L1 : (L : Int) ≤ 64 := by omega
      go_wp2_with (first
       | (have q2 := t2; refine store_lawV _ (x, cr, .slice mo L mc) wa.heap.size 0 rfl rfl HV2.out.2 rfl ?_; intro w3 E3 A3 T3 B3; have c0 := A3.1; have c2 := A3.2.2; have BB := hdH (HB.out.trans ((B2.trans B3).mono HB.out.size)); clear A3 T3 E3 t2)
       | (have q1 := t1; refine new_lawV _ ?_; intro w2 V2 B2 l2; have HV2 := hdH (V2); clear V2 t1; have t2 : (2 : Nat) = 2 := rfl)
       | (have q0 := t0; refine load_lawS _ (by rfl) _ _ rfl (load_fault HF.out) ?_; clear t0; have t1 := tR))
      go_roundw
      case rel => exact ⟨k + 1, by omega, by go_num, HK2, BB⟩
      case measure => simp [intOf]; omega
   ·have e : k = fs.length := by omega
    have e2 := H0.out hl (by rw [← e]; exact HK.out)
    subst e2
    go_wp2
    go_ret
    exact ⟨rfl, HB.out⟩
 ·have e := H2.out (fun q => hl q.1)
  subst e
  have l1 : (64 : Int) < (fs.length : Int) := by omega
  go_enter Try.func34, Try.ntmps34
  go_wp2
  go_ret
  exact ⟨rfl, Below.refl _ _⟩
end Go.Proofs.Ytikcohjhhoiakaa.fa
