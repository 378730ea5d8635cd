/- Blocks as data; how they lie in memory, are read, written, and how they last. No claim of its own. -/
import Derived.Test.YtnmofigidlmcaaaHRow
namespace Go.Proofs.Ytnmofigidlmcaaa.le
open Go.RowKit Go.Proofs.Ytnmofigidlmcaaa.he
set_option maxRecDepth 20000

/-- what is known of a block -/
structure Bk where
  o : Int
  u : Int
  l : Int
  e : Int
  h : Bool
  c : Bool
  b : Bool
  g : Bool
  k : Bool
def Bk.cs (x : Bk) : List Value := [.int .i64 x.o, .int .i64 x.u, .int .i64 x.l, .int .i64 x.e, .bool x.h, .bool x.c, .bool x.b, .bool x.g, .bool x.k]
theorem Bk.one (x : Bk) : ∀ v ∈ x.cs, v.oneCell' = true := by
  intro v hv
  simp [Bk.cs] at hv
  rcases hv with rfl | rfl | rfl | rfl | rfl | rfl | rfl | rfl | rfl <;> rfl
def b0 : Bk := ⟨0, 0, 0, 0, false, false, false, false, false⟩
/-- what is known of a new ledger's blocks -/
def bn : Bk := ⟨-1, 0, 0, 0, false, false, false, false, false⟩
def up (f : Nat → Bk) (k : Nat) (x : Bk) : Nat → Bk := fun i => if i = k then x else f i
section
variable {ops : Array Oper} {rest : List Oper} {a : Act} {Q : Exit → Act → World → Prop} {w : World} {d : Option Tmp} {ty : TypeId} {pos : String} {af : Array Edge} {gd : Option (Nat × Bool)}
theorem at_store {t : TypeId} {x y : Operand} (h : wpList Try.prog ops Q (⟨d, Op.store t x y, ty, pos, af, gd⟩ :: rest) a w) : wpList Try.prog ops Q (⟨d, Op.store t x y, ty, pos, af, gd⟩ :: rest) a w := h
theorem at_alloc {t : TypeId} (h : wpList Try.prog ops Q (⟨d, Op.alloc t, ty, pos, af, gd⟩ :: rest) a w) : wpList Try.prog ops Q (⟨d, Op.alloc t, ty, pos, af, gd⟩ :: rest) a w := h
end
theorem hdE {p : Prop} (h : p) : Hid p := h
/-- cells in the midst of a block, which may be written -/
def At (w : World) (d q : Nat) (cs : List Value) : Prop := w.rangeAt d q cs ∧ w.there d q cs.length
theorem At.heap {w w' : World} {d q : Nat} {cs : List Value} (h : At w d q cs) (e : w'.heap[d]? = w.heap[d]?) : At w' d q cs := ⟨range_heap h.1 e, there_heap h.2 e⟩
theorem At.cell {w : World} {d q : Nat} {cs : List Value} (h : At w d q cs) (j : Nat) (v : Value) (hv : cs[j]? = some v) : w.cell? ⟨d, q + j, none⟩ = some v := h.1 j v hv
theorem At.free {w : World} {d q : Nat} {cs : List Value} (h : At w d q cs) (j : Nat) (hj : j < cs.length) : w.frozen? ⟨d, q + j, none⟩ = false := (h.2 j hj).2
theorem At.lt {w : World} {d q : Nat} {cs : List Value} (h : At w d q cs) (hl : 0 < cs.length) : d < w.heap.size := range_lt h.1 hl
theorem At.set {w : World} {d q : Nat} {cs : List Value} (h : At w d q cs) (j : Nat) (hj : j < cs.length) (u : Value) : At (w.setCell ⟨d, q + j, none⟩ u) d q (cs.set j u) := by
  have hc := h.cell j _ (List.getElem?_eq_getElem hj)
  refine ⟨fun i v hv => ?_, fun i hi => ?_⟩
  · rw [List.getElem?_set] at hv
    by_cases e : j = i
    · subst e
      rw [if_pos rfl, if_pos hj] at hv
      cases hv
      exact World.cell?_setCell_same _ _ _ hc
    · rw [if_neg e] at hv
      rw [World.cell?_setCell_other _ _ _ _ (by intro q; injection q with _ q2; omega)]
      exact h.cell i v hv
  · rw [List.length_set] at hi
    refine ⟨?_, by rw [World.frozen?_setCell]; exact h.free i hi⟩
    by_cases e : j = i
    · subst e
      rw [World.cell?_setCell_same _ _ _ hc]; rfl
    · rw [World.cell?_setCell_other _ _ _ _ (by intro q; injection q with _ q2; omega), h.cell i _ (List.getElem?_eq_getElem hi)]; rfl
/-- a block's cells, one by one -/
theorem nine {w : World} {d q : Nat} {x : Bk} (h : w.rangeAt d q x.cs) : w.cell? ⟨d, q, none⟩ = some (.int .i64 x.o) ∧ w.cell? ⟨d, q + 1, none⟩ = some (.int .i64 x.u) ∧ w.cell? ⟨d, q + 2, none⟩ = some (.int .i64 x.l) ∧ w.cell? ⟨d, q + 3, none⟩ = some (.int .i64 x.e) ∧ w.cell? ⟨d, q + 4, none⟩ = some (.bool x.h) ∧ w.cell? ⟨d, q + 5, none⟩ = some (.bool x.c) ∧ w.cell? ⟨d, q + 6, none⟩ = some (.bool x.b) ∧ w.cell? ⟨d, q + 7, none⟩ = some (.bool x.g) ∧ w.cell? ⟨d, q + 8, none⟩ = some (.bool x.k) :=
  ⟨h 0 _ rfl, h 1 _ rfl, h 2 _ rfl, h 3 _ rfl, h 4 _ rfl, h 5 _ rfl, h 6 _ rfl, h 7 _ rfl, h 8 _ rfl⟩
theorem nine0 {w : World} {d : Nat} {x : Bk} (h : w.rangeAt d 0 x.cs) : w.cell? ⟨d, 0, none⟩ = some (.int .i64 x.o) ∧ w.cell? ⟨d, 1, none⟩ = some (.int .i64 x.u) ∧ w.cell? ⟨d, 2, none⟩ = some (.int .i64 x.l) ∧ w.cell? ⟨d, 3, none⟩ = some (.int .i64 x.e) ∧ w.cell? ⟨d, 4, none⟩ = some (.bool x.h) ∧ w.cell? ⟨d, 5, none⟩ = some (.bool x.c) ∧ w.cell? ⟨d, 6, none⟩ = some (.bool x.b) ∧ w.cell? ⟨d, 7, none⟩ = some (.bool x.g) ∧ w.cell? ⟨d, 8, none⟩ = some (.bool x.k) :=
  ⟨h 0 _ rfl, h 1 _ rfl, h 2 _ rfl, h 3 _ rfl, h 4 _ rfl, h 5 _ rfl, h 6 _ rfl, h 7 _ rfl, h 8 _ rfl⟩
/-- only the nine cells of block d from q on were written -/
def Wrt (d q : Nat) (w w' : World) : Prop := w.grownBy w' (some d) ∧ ∀ j, (j < q ∨ q + 9 ≤ j) → w'.cell? ⟨d, j, none⟩ = w.cell? ⟨d, j, none⟩ ∧ w'.frozen? ⟨d, j, none⟩ = w.frozen? ⟨d, j, none⟩
theorem Wrt.refl (d q : Nat) (w : World) : Wrt d q w w := ⟨⟨rfl, rfl, rfl, Nat.le_refl _, fun _ _ _ => rfl⟩, fun _ _ => ⟨rfl, rfl⟩⟩
theorem grown_trans {a b c : World} {r : Option Nat} (h : a.grownBy b r) (h' : b.grownBy c r) : a.grownBy c r :=
  ⟨h'.os.trans h.os, h'.tape.trans h.tape, h'.output.trans h.output, Nat.le_trans h.size h'.size, fun k hk hr => (h'.block k (Nat.lt_of_lt_of_le hk h.size) hr).trans (h.block k hk hr)⟩
theorem grown_below {a b : World} {r : Option Nat} (h : Below a.heap.size a b) : a.grownBy b r := ⟨h.os, h.tape, h.output, h.size, fun k hk _ => h.block k hk⟩
theorem grown_cell (w : World) (d j : Nat) (u : Value) : w.grownBy (w.setCell ⟨d, j, none⟩ u) (some d) := by
  have hb := (Below.refl 0 w).setCell (p := ⟨d, j, none⟩) (Nat.zero_le _) u
  exact ⟨hb.os, hb.tape, hb.output, hb.size, fun k _ hr => Below.heap_setCell w ⟨d, j, none⟩ u k (fun e => hr (by rw [e]))⟩
theorem Wrt.set {d q : Nat} {w w' : World} (h : Wrt d q w w') (j : Nat) (hj : j < 9) (u : Value) : Wrt d q w (w'.setCell ⟨d, q + j, none⟩ u) := by
  refine ⟨grown_trans h.1 (grown_cell w' d (q + j) u), fun i hi => ?_⟩
  rw [World.cell?_setCell_other _ _ _ _ (by intro e; injection e with _ e2; omega), World.frozen?_setCell]
  exact h.2 i hi
theorem Wrt.drewN {d q : Nat} {w w' : World} (h : Wrt d q w w') (n : Nat) : Wrt d q w (w'.drewN n) := ⟨⟨h.1.os, h.1.tape, h.1.output, h.1.size, h.1.block⟩, h.2⟩

/-- n blocks' cells, one behind the other, in block d -/
def Rws (w : World) (d n : Nat) (f : Nat → Bk) : Prop := ∀ i, i < n → At w d (i * 9) (f i).cs
theorem Rws.heap {w w' : World} {d n : Nat} {f : Nat → Bk} (h : Rws w d n f) (e : w'.heap[d]? = w.heap[d]?) : Rws w' d n f := fun i hi => (h i hi).heap e
theorem Rws.below {w w' : World} {d n : Nat} {f : Nat → Bk} (h : Rws w d n f) (hb : Below w.heap.size w w') : Rws w' d n f := fun i hi => (h i hi).heap (hb.block d ((h i hi).lt (Nat.succ_pos _)))
theorem Rws.kept {w w' : World} {d n : Nat} {f : Nat → Bk} {r : Option Nat} (h : Rws w d n f) (hb : w.grownBy w' r) (hr : some d ≠ r) : Rws w' d n f := fun i hi => (h i hi).heap (hb.block d ((h i hi).lt (Nat.succ_pos _)) hr)
theorem Rws.put {w w' : World} {d n : Nat} {f : Nat → Bk} (h : Rws w d n f) (k : Nat) (x : Bk) (hx : At w' d (k * 9) x.cs) (hw : Wrt d (k * 9) w w') : Rws w' d n (up f k x) := by
  intro i hi
  by_cases e : i = k
  · subst e
    rw [show up f i x i = x by simp [up]]
    exact hx
  · rw [show up f k x i = f i by simp [up, e]]
    have hl : ∀ y : Bk, y.cs.length = 9 := fun y => rfl
    have ap : ∀ j, j < 9 → (i * 9 + j < k * 9 ∨ k * 9 + 9 ≤ i * 9 + j) := fun j hj => by omega
    refine ⟨fun j v hv => ?_, fun j hj => ?_⟩
    · have hj : j < 9 := by have := (List.getElem?_eq_some_iff.1 hv).1; rwa [hl] at this
      rw [(hw.2 _ (ap j hj)).1]; exact (h i hi).1 j v hv
    · rw [hl] at hj
      rw [(hw.2 _ (ap j hj)).1, (hw.2 _ (ap j hj)).2]; exact (h i hi).2 j (by rw [hl]; exact hj)
/-- a ledger: its place c, its blocks in d -/
def Led (w : World) (c d n : Nat) (f : Nat → Bk) : Prop := Vr w c [.slice (some ⟨d, 0, none⟩) n n] ∧ Rws w d n f ∧ c ≠ d
abbrev pt (c : Nat) : Value := .pointer (some ⟨c, 0, none⟩)
theorem Led.lt {w : World} {c d n : Nat} {f : Nat → Bk} (h : Led w c d n f) : c < w.heap.size := range_lt h.1.1 (Nat.succ_pos _)
theorem Led.cell {w : World} {c d n : Nat} {f : Nat → Bk} (h : Led w c d n f) : w.cell? ⟨c, 0, none⟩ = some (.slice (some ⟨d, 0, none⟩) n n) := h.1.cell 0 _ rfl
theorem Led.below {w w' : World} {c d n : Nat} {f : Nat → Bk} (h : Led w c d n f) (hb : Below w.heap.size w w') : Led w' c d n f := ⟨h.1.below hb h.lt, h.2.1.below hb, h.2.2⟩
theorem Led.put {w w' : World} {c d n : Nat} {f : Nat → Bk} (h : Led w c d n f) (k : Nat) (x : Bk) (hx : At w' d (k * 9) x.cs) (hw : Wrt d (k * 9) w w') : Led w' c d n (up f k x) :=
  ⟨h.1.heap (hw.1.block c h.lt (by intro e; exact h.2.2 (Option.some.inj e))), h.2.1.put k x hx hw, h.2.2⟩
/-- a ledger that is read, or none -/
def Lq (w : World) (v : Value) (n : Nat) (f : Nat → Bk) : Prop := (v = .pointer none ∧ n = 0) ∨ ∃ c d, v = pt c ∧ Led w c d n f
theorem Lq.below {w w' : World} {v : Value} {n : Nat} {f : Nat → Bk} (h : Lq w v n f) (hb : Below w.heap.size w w') : Lq w' v n f := by
  rcases h with h | ⟨c, d, e, h⟩
  · exact .inl h
  · exact .inr ⟨c, d, e, h.below hb⟩
theorem lq_nil (w : World) (f : Nat → Bk) : Lq w (.pointer none) 0 f := .inl ⟨rfl, rfl⟩
/-- is k ahead of what was found? -/
def ah (A : Nat → Nat → Bool) (k : Nat) : Option Nat → Bool
  | none => true
  | some j => A k j
/-- the first of those that are meant ahead of which none is -/
def fm (P : Nat → Bool) (A : Nat → Nat → Bool) : Nat → Option Nat
  | 0 => none
  | k + 1 => if P k && ah A k (fm P A k) then some k else fm P A k
def oi : Option Nat → Int
  | none => -1
  | some j => (j : Int)
/-- how many are meant -/
def cn (P : Nat → Bool) : Nat → Nat
  | 0 => 0
  | k + 1 => cn P k + (if P k then 1 else 0)
theorem cn_le (P : Nat → Bool) : ∀ k, cn P k ≤ k
  | 0 => Nat.le_refl _
  | k + 1 => by have := cn_le P k; unfold cn; split <;> omega
theorem fm_lt {P : Nat → Bool} {A : Nat → Nat → Bool} : ∀ {n j : Nat}, fm P A n = some j → j < n
  | k + 1, j, h => by
    unfold fm at h
    split at h
    · cases h; omega
    · have := fm_lt h; omega
theorem fm_yes {P : Nat → Bool} {A : Nat → Nat → Bool} : ∀ {n j : Nat}, fm P A n = some j → P j = true
  | k + 1, j, h => by
    unfold fm at h
    split at h
    · rename_i q
      cases h
      exact (Bool.and_eq_true _ _ ▸ q).1
    · exact fm_yes h
end Go.Proofs.Ytnmofigidlmcaaa.le
