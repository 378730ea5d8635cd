/- The reference's cells: how they lie, are made, grown, read; its maps as values. No claim of its own. -/
import Derived.Test.YtedmmpognhpbdaaJOb
import Derived.Test.YtedmmpognhpbdaaJRfS
namespace Go.Proofs.Ytedmmpognhpbdaa.pm
open Go.RowKit Go.Proofs.Ytedmmpognhpbdaa.he
set_option maxRecDepth 20000

/-- a sector and its spot -/
structure Ce where
  n : Int
  l : Int
  s : Sp
def Ce.cs (x : Ce) : List Value := .int .i64 x.n :: .int .i64 x.l :: x.s.cs
def ce0 : Ce := ⟨0, 0, sp0⟩
theorem Ce.one (x : Ce) : ∀ v ∈ x.cs, v.oneCell' = true := by
  intro v hv
  rcases List.mem_cons.1 hv with rfl | hv
  · rfl
  · rcases List.mem_cons.1 hv with rfl | hv
    · rfl
    · exact x.s.one v hv
theorem Ce.len (x : Ce) : x.cs.length = 16 := rfl
theorem rowy_cell : Rowy 51 16 := ⟨⟨_, Try.underlying51, rfl⟩, by kernel_rfl⟩
theorem zero_cell : (Try.prog.info? 51).map (fun i => (i.zero, i.size)) = some (some (.agg ce0.cs.toArray), ce0.cs.length) := by kernel_rfl
theorem size_cell : (Try.prog.info? 51).map (·.size) = some 16 := by kernel_rfl
/-- a map as a value: its sizes, its cells -/
def rmc (s : Nat → Nat) (v : Value) : List Value := [.int .i64 (s 0 : Int), .int .i64 (s 1 : Int), .int .i64 (s 2 : Int), .int .i64 (s 3 : Int), v]
def sz4 (s : Nat → Nat) : List Value := [.int .i64 (s 0 : Int), .int .i64 (s 1 : Int), .int .i64 (s 2 : Int), .int .i64 (s 3 : Int)]
theorem rowy_rmap : Rowy 28 5 := ⟨⟨_, Try.underlying28, rfl⟩, by kernel_rfl⟩
theorem zero_rmap : (Try.prog.info? 28).map (fun i => (i.zero, i.size)) = some (some (.agg (rmc (fun _ => 0) (.slice none 0 0)).toArray), (rmc (fun _ => 0) (.slice none 0 0)).length) := by kernel_rfl
theorem size_rmap : (Try.prog.info? 28).map (·.size) = some 5 := by kernel_rfl
theorem cells16 {w : World} {b q : Nat} {x : Ce} (h : w.rangeAt b q x.cs) : w.cell? ⟨b, q, none⟩ = some (.int .i64 x.n) ∧ w.cell? ⟨b, q + 1, none⟩ = some (.int .i64 x.l) ∧ w.cell? ⟨b, q + 2, none⟩ = some (.int .i64 x.s.p.1) ∧ w.cell? ⟨b, q + 3, none⟩ = some (.int .i64 x.s.p.2) ∧ w.cell? ⟨b, q + 4, none⟩ = some (.int .i64 x.s.h.k) ∧ w.cell? ⟨b, q + 5, none⟩ = some (.int .i64 x.s.h.n) ∧ w.cell? ⟨b, q + 6, none⟩ = some (.int .i64 x.s.h.c) ∧ w.cell? ⟨b, q + 7, none⟩ = some (.int .u32 x.s.h.l) ∧ w.cell? ⟨b, q + 8, none⟩ = some (.int .u64 x.s.h.e) ∧ w.cell? ⟨b, q + 9, none⟩ = some (.int .u64 x.s.h.t) ∧ w.cell? ⟨b, q + 10, none⟩ = some (.int .i64 x.s.o.k) ∧ w.cell? ⟨b, q + 11, none⟩ = some (.int .i64 x.s.o.n) ∧ w.cell? ⟨b, q + 12, none⟩ = some (.int .i64 x.s.o.c) ∧ w.cell? ⟨b, q + 13, none⟩ = some (.int .u32 x.s.o.l) ∧ w.cell? ⟨b, q + 14, none⟩ = some (.int .u64 x.s.o.e) ∧ w.cell? ⟨b, q + 15, none⟩ = some (.int .u64 x.s.o.t) :=
  ⟨h 0 _ rfl, h 1 _ rfl, h 2 _ rfl, h 3 _ rfl, h 4 _ rfl, h 5 _ rfl, h 6 _ rfl, h 7 _ rfl, h 8 _ rfl, h 9 _ rfl, h 10 _ rfl, h 11 _ rfl, h 12 _ rfl, h 13 _ rfl, h 14 _ rfl, h 15 _ rfl⟩
theorem spot_in {w : World} {b q : Nat} {x : Ce} (h : w.rangeAt b q x.cs) : w.rangeAt b (q + 2) x.s.cs := fun j v hv => by
  have := h (j + 2) v (by
    show (Value.int .i64 x.n :: Value.int .i64 x.l :: x.s.cs)[j + 2]? = some v
    rw [List.getElem?_cons_succ, List.getElem?_cons_succ]
    exact hv)
  rwa [show q + (j + 2) = q + 2 + j by omega] at this
/-- cells' cells, one behind the other -/
def fc (l : List Ce) : List Value := l.flatMap Ce.cs
theorem fc_len (l : List Ce) : (fc l).length = l.length * 16 := by
  induction l with
  | nil => rfl
  | cons x r ih => simp only [fc, List.flatMap_cons, List.length_append, List.length_cons] at ih ⊢; rw [ih]; show 16 + _ = _; omega
theorem fc_snoc (l : List Ce) (x : Ce) : fc (l ++ [x]) = fc l ++ x.cs := by simp [fc]
theorem fc_at : ∀ (l : List Ce) (i j : Nat) (x : Ce), l[i]? = some x → j < 16 → (fc l)[i * 16 + j]? = (x.cs)[j]?
  | [], i, j, x, h, _ => by simp at h
  | y :: r, 0, j, x, h, hj => by
    simp at h
    subst h
    simp only [fc, List.flatMap_cons]
    rw [List.getElem?_append_left (by show 0 * 16 + j < 16; omega), Nat.zero_mul, Nat.zero_add]
  | y :: r, i + 1, j, x, h, hj => by
    simp at h
    have := fc_at r i j x h hj
    simp only [fc, List.flatMap_cons]
    rw [List.getElem?_append_right (by show 16 ≤ _; omega), ← this]
    congr 1
    show (i + 1) * 16 + j - 16 = _
    omega
/-- a row of the call's own -/
def Og (B : Nat) (w : World) (v : Value) (l : List Ce) : Prop := w.ownsRow B 51 16 v l.length (fc l)
/-- cells in block g from its first cell on -/
def Rc (w : World) (g : Nat) (l : List Ce) : Prop := ∀ i x, l[i]? = some x → At w g (i * 16) (x.cs)
theorem Rc.heap {w w' : World} {g : Nat} {l : List Ce} (h : Rc w g l) (e : w'.heap[g]? = w.heap[g]?) : Rc w' g l := fun i x hx => (h i x hx).heap e
theorem Rc.lt {w : World} {g : Nat} {l : List Ce} (h : Rc w g l) (hl : 0 < l.length) : g < w.heap.size := (h 0 _ (List.getElem?_eq_getElem hl)).lt (Nat.succ_pos _)
theorem Rc.below {w w' : World} {g : Nat} {l : List Ce} (h : Rc w g l) (hb : Below w.heap.size w w') : Rc w' g l := fun i x hx => (h i x hx).heap (hb.block g ((h i x hx).lt (Nat.succ_pos _)))
theorem Rc.nil (w : World) (g : Nat) : Rc w g [] := fun i x hx => by simp at hx
theorem Rc.take {w : World} {g : Nat} {l : List Ce} (h : Rc w g l) (n : Nat) : Rc w g (l.take n) := fun i x hx => h i x (by
  rw [List.getElem?_take] at hx
  split at hx
  · exact hx
  · cases hx)
theorem og_row {B : Nat} {w : World} {g n cap : Nat} {l : List Ce} (h : Og B w (.slice (some ⟨g, 0, none⟩) n cap) l) : Rc w g l ∧ B ≤ g ∧ g < w.heap.size ∧ n = l.length ∧ n ≤ cap ∧ cap ≤ maxLen := by
  obtain ⟨h1, h2⟩ := h
  rcases h2 with ⟨h2, _⟩ | ⟨g', cap', cur, e, hB, hb, hn, hm, hs, ht⟩
  · cases h2
  · cases e
    have hcell : ∀ t v, (fc l)[t]? = some v → w.cell? ⟨g, t, none⟩ = some v ∧ w.frozen? ⟨g, t, none⟩ = false := fun t v hv => by
      have hlt : t < l.length * 16 := by have := (List.getElem?_eq_some_iff.1 hv).1; rwa [fc_len] at this
      rw [← ht, List.getElem?_take, if_pos hlt] at hv
      refine ⟨?_, ?_⟩
      · rw [cell_of_row w g t cur _ (0, 0) hb]
        simpa using hv
      · simp [World.frozen?, hb]
    refine ⟨fun i x hx => ⟨fun j v hv => ?_, fun j hj => ?_⟩, hB, (Array.getElem?_eq_some_iff.1 hb).1, rfl, hn, hm⟩
    · have hj : j < 16 := (List.getElem?_eq_some_iff.1 hv).1
      exact (hcell _ v (by rw [fc_at l i j x hx hj, hv])).1
    · have hq := fc_at l i j x hx hj
      rw [List.getElem?_eq_getElem hj] at hq
      have := hcell _ _ hq
      exact ⟨by rw [this.1]; rfl, this.2⟩
/-- the slice v holds the cells L -/
def Cl (w : World) (v : Value) (L : List Ce) : Prop := ∃ ao cap, v = .slice ao L.length cap ∧ (0 < L.length → ∃ g, ao = some ⟨g, 0, none⟩ ∧ Rc w g L)
theorem Cl.nil (w : World) : Cl w (.slice none 0 0) [] := ⟨none, 0, rfl, fun h => absurd h (Nat.lt_irrefl _)⟩
theorem Cl.below {w w' : World} {v : Value} {L : List Ce} (h : Cl w v L) (hb : Below w.heap.size w w') : Cl w' v L := by
  obtain ⟨ao, cap, h1, h4⟩ := h
  refine ⟨ao, cap, h1, fun hp => ?_⟩
  obtain ⟨g, e, hr⟩ := h4 hp
  exact ⟨g, e, hr.below hb⟩
theorem Cl.ch {P : Nat → Prop} {w w' : World} {v : Value} {L : List Ce} (h : Cl w v L) (hb : Ch P w w') (hp : ∀ k, Blk v k → ¬ P k) : Cl w' v L := by
  obtain ⟨ao, cap, rfl, h4⟩ := h
  refine ⟨ao, cap, rfl, fun hl => ?_⟩
  obtain ⟨g, rfl, hr⟩ := h4 hl
  exact ⟨g, rfl, hr.heap (hb.block g (hr.lt hl) (hp g rfl))⟩
theorem Og.cl {B : Nat} {w : World} {v : Value} {L : List Ce} (h : Og B w v L) : Cl w v L ∧ ∀ k, Blk v k → B ≤ k ∧ k < w.heap.size := by
  have h0 := h
  obtain ⟨h1, h2⟩ := h
  rcases h2 with ⟨rfl, h2⟩ | ⟨g, cap, cur, e, _⟩
  · have : L = [] := List.eq_nil_of_length_eq_zero h2
    subst this
    exact ⟨Cl.nil w, fun k hk => by cases hk⟩
  · subst e
    have z := og_row h0
    refine ⟨⟨_, _, rfl, fun _ => ⟨g, rfl, z.1⟩⟩, fun k hk => ?_⟩
    cases hk
    exact ⟨z.2.1, z.2.2.1⟩
theorem Og.nil (B : Nat) (w : World) : Og B w (.slice none 0 0) [] := ⟨rfl, .inl ⟨rfl, rfl⟩⟩
theorem Og.below {B : Nat} {w w' : World} {v : Value} {l : List Ce} (h : Og B w v l) (hb : Below w.heap.size w w') : Og B w' v l := by
  obtain ⟨h1, h2⟩ := h
  refine ⟨h1, ?_⟩
  rcases h2 with h2 | ⟨g', cap', cur, e', hB, hh, h3⟩
  · exact .inl h2
  · exact .inr ⟨g', cap', cur, e', hB, (hb.block g' (Array.getElem?_eq_some_iff.1 hh).1).trans hh, h3⟩
theorem Og.ch {B : Nat} {w w' : World} {v : Value} {l : List Ce} {P : Nat → Prop} (h : Og B w v l) (hb : Ch P w w') (hp : ∀ k, Blk v k → ¬ P k) : Og B w' v l := by
  obtain ⟨h1, h2⟩ := h
  refine ⟨h1, ?_⟩
  rcases h2 with h2 | ⟨g', cap', cur, e', hB, hh, h3⟩
  · exact .inl h2
  · exact .inr ⟨g', cap', cur, e', hB, (hb.block g' (Array.getElem?_eq_some_iff.1 hh).1 (hp g' (by rw [e']; rfl))).trans hh, h3⟩
section
variable {ops : Array Oper} {rest : List Oper} {o : Oper} {a : Act} {Q : Exit → Act → World → Prop}
/-- '[]Cell{x}' -/
theorem one_lawG (w : World) (hg : o.guard = none) (x : Operand) (p : Ce) (hop : o.op = Op.buildSlice 26 1 #[(0, x)]) (hx : a.eval x = .agg p.cs.toArray)
    (hK : ∀ w', Vr w' w.heap.size p.cs → Below w.heap.size w w' → w.heap.size < w'.heap.size → wpList Try.prog ops Q rest (a.put o.dst (.slice (some ⟨w.heap.size, 0, none⟩) 1 1)) w') : wpList Try.prog ops Q (o :: rest) a w := by
  refine wpList_plain hg fun K hK' => ?_
  have hrun : (Instr.buildSlice 26 1 #[(0, .agg p.cs.toArray)]).run Try.prog w = .ok (.slice (some ⟨w.heap.size, 0, none⟩) 1 1) (w.alloc (.cells p.cs.toArray 51)) := by kernel_rfl
  unfold Oper.wp execOp
  simp only [hop, List.map_toArray, List.map_cons, List.map_nil, hx, Sem.run_bind, Sem.run_pure, Result.andThen_ok, hrun]
  exact hK' _ _ (hK _ (Vr.new w 51 p.cs) ((Below.refl _ _).alloc (Nat.le_refl _) _) (by simp))
theorem info_cell : (Try.prog.info? 51).map (fun i => (i.zero, i.size, i.bytes)) = some (some (.agg ce0.cs.toArray), 16, 128) := by kernel_rfl
/-- 'append(out.L, c)' -/
theorem push_lawG (w : World) (hg : o.guard = none) (s x : Operand) (hop : o.op = .call { callee := .builtin .append, args := #[s, x], argTypes := #[26, 26] })
    (B : Nat) (hB : B ≤ w.heap.size) (v : Value) (l : List Ce) (g : Nat) (p : Ce) (hs : a.eval s = v) (hx : a.eval x = .slice (some ⟨g, 0, none⟩) 1 1) (hown : Og B w v l) (hV : Vr w g p.cs) (hn : l.length ≤ 100000)
    (hK : ∀ v' w', Og B w' v' (l ++ [p]) → w.grownBy w' v.ownBlock → wpList Try.prog ops Q rest (a.put o.dst v') w') : wpList Try.prog ops Q (o :: rest) a w := by
  obtain ⟨i0, hi, hz0, hz1, hz2⟩ := info_parts info_cell
  refine wpList_append_own _ hg s x 26 hop B 51 i0 _ 16 128 Try.underlying26 hi hz0 hz1 hz2 rfl (by decide) v l.length (fc l) hs hown ⟨g, 0, none⟩ 1 1 p.cs hx rfl (fun j u hj => ?_) p.one (by simp only [maxLen]; omega) (by omega) hB fun v' w' O1 G1 _ => ?_
  · rw [Addr.add_lit]
    have := hV.cell j u hj
    simpa using this
  · refine hK v' w' ?_ G1
    show w'.ownsRow B 51 16 v' (l ++ [p]).length (fc (l ++ [p]))
    rw [fc_snoc, List.length_append]
    exact O1
end
/-- how many of some cells are at a place -/
def atp (p : PL) (c : Ce) : Bool := decide (c.s.p = p)
/-- a namespace's data -/
def dat (n : Int) (c : Ce) : Bool := decide (c.n = n) && decide (c.s.h.k = 1)
/-- where a sector's cell is -/
def plc (n l : Int) : List Ce → Nat → Int
  | [], _ => -1
  | c :: t, k => if c.n = n ∧ c.l = l then k else plc n l t (k + 1)
theorem take_more {α : Type} {L : List α} {k : Nat} {x : α} (h : L[k]? = some x) : L.take (k + 1) = L.take k ++ [x] := by
  rw [List.take_add_one, h]; rfl
theorem drop_this {α : Type} {L : List α} {k : Nat} {x : α} (h : L[k]? = some x) : L.drop k = x :: L.drop (k + 1) := by
  obtain ⟨hk, rfl⟩ := List.getElem?_eq_some_iff.1 h
  exact List.drop_eq_getElem_cons hk
end Go.Proofs.Ytedmmpognhpbdaa.pm
