/- Spots as data; how they lie in memory. No claim of its own. -/
import Derived.Test.YtedmmpognhpbdaaHRow
import Derived.Laws.StructEq
namespace Go.Proofs.Ytedmmpognhpbdaa.pm
open Go.RowKit Go.Proofs.Ytedmmpognhpbdaa.he
set_option maxRecDepth 20000

/-- a head -/
structure Hd where
  k : Int
  n : Int
  c : Int
  l : Int
  e : Int
  t : Int
def Hd.cs (x : Hd) : List Value := [.int .i64 x.k, .int .i64 x.n, .int .i64 x.c, .int .u32 x.l, .int .u64 x.e, .int .u64 x.t]
/-- a place's cells -/
def pc (p : Int × Int) : List Value := [.int .i64 p.1, .int .i64 p.2]
/-- a spot -/
structure Sp where
  p : Int × Int
  h : Hd
  o : Hd
def Sp.cs (x : Sp) : List Value := [.int .i64 x.p.1, .int .i64 x.p.2, .int .i64 x.h.k, .int .i64 x.h.n, .int .i64 x.h.c, .int .u32 x.h.l, .int .u64 x.h.e, .int .u64 x.h.t, .int .i64 x.o.k, .int .i64 x.o.n, .int .i64 x.o.c, .int .u32 x.o.l, .int .u64 x.o.e, .int .u64 x.o.t]
def h0 : Hd := ⟨0, 0, 0, 0, 0, 0⟩
def sp0 : Sp := ⟨(0, 0), h0, h0⟩
theorem Hd.one (x : Hd) : ∀ v ∈ x.cs, v.oneCell' = true := by
  intro v hv
  simp [Hd.cs] at hv
  rcases hv with rfl | rfl | rfl | rfl | rfl | rfl <;> rfl
theorem pc_one (x : Int × Int) : ∀ v ∈ pc x, v.oneCell' = true := by
  intro v hv
  simp [pc] at hv
  rcases hv with rfl | rfl <;> rfl
theorem Sp.one (x : Sp) : ∀ v ∈ x.cs, v.oneCell' = true := by
  intro v hv
  simp [Sp.cs] at hv
  rcases hv with rfl | rfl | rfl | rfl | rfl | rfl | rfl | rfl | rfl | rfl | rfl | rfl | rfl | rfl <;> rfl
/-- does a head speak of sectors? -/
def lk (k : Int) : Bool := decide (k = 1) || decide (k = 2)
def lv (x : Sp) : Bool := lk x.h.k
/-- is a head ahead of another one? -/
def hl (a b : Hd) : Bool := if a.e = b.e then decide (a.t < b.t) else decide (a.e < b.e)
/-- is a spot newer than another one? -/
def nw (a b : Sp) : Bool := hl b.h a.h || (!hl a.h b.h && hl b.o a.o)
def up {α : Type} (f : Nat → α) (k : Nat) (x : α) : Nat → α := fun i => if i = k then x else f i
theorem up_eq {α : Type} (f : Nat → α) (k : Nat) (x : α) : up f k x k = x := by simp [up]
theorem up_ne {α : Type} (f : Nat → α) {k i : Nat} (x : α) (h : i ≠ k) : up f k x i = f i := by simp [up, h]
/-- cells in the midst of a block, which may be written -/
def At (w : World) (d q : Nat) (cs : List Value) : Prop := w.rangeAt d q cs ∧ w.there d q cs.length
theorem At.heap {w w' : World} {d q : Nat} {cs : List Value} (h : At w d q cs) (e : w'.heap[d]? = w.heap[d]?) : At w' d q cs := ⟨range_heap h.1 e, there_heap h.2 e⟩
theorem At.cell {w : World} {d q : Nat} {cs : List Value} (h : At w d q cs) (j : Nat) (v : Value) (hv : cs[j]? = some v) : w.cell? ⟨d, q + j, none⟩ = some v := h.1 j v hv
theorem At.free {w : World} {d q : Nat} {cs : List Value} (h : At w d q cs) (j : Nat) (hj : j < cs.length) : w.frozen? ⟨d, q + j, none⟩ = false := (h.2 j hj).2
theorem At.lt {w : World} {d q : Nat} {cs : List Value} (h : At w d q cs) (hl : 0 < cs.length) : d < w.heap.size := range_lt h.1 hl
/-- only n cells of block d from q on were written -/
def Wrt (n d q : Nat) (w w' : World) : Prop := w.grownBy w' (some d) ∧ ∀ j, (j < q ∨ q + n ≤ j) → w'.cell? ⟨d, j, none⟩ = w.cell? ⟨d, j, none⟩ ∧ w'.frozen? ⟨d, j, none⟩ = w.frozen? ⟨d, j, none⟩
theorem grown_trans {a b c : World} {r : Option Nat} (h : a.grownBy b r) (h' : b.grownBy c r) : a.grownBy c r :=
  ⟨h'.os.trans h.os, h'.tape.trans h.tape, h'.output.trans h.output, Nat.le_trans h.size h'.size, fun k hk hr => (h'.block k (Nat.lt_of_lt_of_le hk h.size) hr).trans (h.block k hk hr)⟩
theorem heap_cells (d : Nat) : ∀ (vs : List Value) (o : Nat) (w : World) (k : Nat), k ≠ d → (w.setCells d o vs).heap[k]? = w.heap[k]?
  | [], _, _, _, _ => rfl
  | v :: r, o, w, k, h => (heap_cells d r (o + 1) (w.setCell ⟨d, o, none⟩ v) k h).trans (Below.heap_setCell w ⟨d, o, none⟩ v k h)
theorem wrt_cells (w : World) (d q n : Nat) (cs : List Value) (hn : cs.length = n) : Wrt n d q w (w.setCells d q cs) := by
  have hb := below_cells (B := 0) d (Nat.zero_le _) cs q (Below.refl 0 w)
  refine ⟨⟨hb.os, hb.tape, hb.output, hb.size, fun k _ hr => heap_cells d cs q w k (fun e => hr (by rw [e]))⟩, fun j hj => ⟨?_, World.frozen?_setCells ..⟩⟩
  exact World.cell?_setCells_out d cs q w ⟨d, j, none⟩ (fun _ _ => by show j < q ∨ q + cs.length ≤ j; omega)
/-- n things of s cells each, one behind the other, in block d from z on -/
def Rw (s : Nat) {α : Type} (enc : α → List Value) (w : World) (d z n : Nat) (f : Nat → α) : Prop := ∀ i, i < n → At w d (z + i * s) (enc (f i))
theorem Rw.heap {s : Nat} {α : Type} {enc : α → List Value} {w w' : World} {d z n : Nat} {f : Nat → α} (h : Rw s enc w d z n f) (e : w'.heap[d]? = w.heap[d]?) : Rw s enc w' d z n f := fun i hi => (h i hi).heap e
theorem Rw.put {s : Nat} {α : Type} {enc : α → List Value} (hs : ∀ x, (enc x).length = s) {w w' : World} {d z n : Nat} {f : Nat → α} (h : Rw s enc w d z n f) (k : Nat) (x : α) (hx : At w' d (z + k * s) (enc x)) (hw : Wrt s d (z + k * s) w w') : Rw s enc w' d z n (up f k x) := by
  intro i hi
  by_cases e : i = k
  · subst e
    rw [up_eq]
    exact hx
  · rw [up_ne f x e]
    have ap : ∀ j, j < s → (z + i * s + j < z + k * s ∨ z + k * s + s ≤ z + i * s + j) := fun j hj => by
      rcases Nat.lt_or_gt_of_ne e with h1 | h1
      · left
        have := Nat.mul_le_mul_right s (show i + 1 ≤ k from h1)
        rw [Nat.add_mul, Nat.one_mul] at this
        omega
      · right
        have := Nat.mul_le_mul_right s (show k + 1 ≤ i from h1)
        rw [Nat.add_mul, Nat.one_mul] at this
        omega
    refine ⟨fun j v hv => ?_, fun j hj => ?_⟩
    · have hj : j < s := by have := (List.getElem?_eq_some_iff.1 hv).1; rwa [hs] at this
      rw [(hw.2 _ (ap j hj)).1]; exact (h i hi).1 j v hv
    · rw [hs] at hj
      rw [(hw.2 _ (ap j hj)).1, (hw.2 _ (ap j hj)).2]; exact (h i hi).2 j (by rw [hs]; exact hj)
/-- only blocks that P names were written, beside new ones -/
structure Ch (P : Nat → Prop) (w w' : World) : Prop where
  os : w'.os = w.os
  tape : w'.tape = w.tape
  output : w'.output = w.output
  size : w.heap.size ≤ w'.heap.size
  block : ∀ k, k < w.heap.size → ¬ P k → w'.heap[k]? = w.heap[k]?
theorem Ch.refl (P : Nat → Prop) (w : World) : Ch P w w := ⟨rfl, rfl, rfl, Nat.le_refl _, fun _ _ _ => rfl⟩
theorem Ch.trans {P : Nat → Prop} {a b c : World} (h : Ch P a b) (h' : Ch P b c) : Ch P a c :=
  ⟨h'.os.trans h.os, h'.tape.trans h.tape, h'.output.trans h.output, Nat.le_trans h.size h'.size, fun k hk hp => (h'.block k (Nat.lt_of_lt_of_le hk h.size) hp).trans (h.block k hk hp)⟩
theorem Ch.weak {P Q : Nat → Prop} {a b : World} (h : Ch P a b) (hq : ∀ k, k < a.heap.size → P k → Q k) : Ch Q a b :=
  ⟨h.os, h.tape, h.output, h.size, fun k hk hp => h.block k hk fun p => hp (hq k hk p)⟩
theorem Ch.of_below {P : Nat → Prop} {a b : World} (h : Below a.heap.size a b) : Ch P a b := ⟨h.os, h.tape, h.output, h.size, fun k hk _ => h.block k hk⟩
theorem Ch.below {P : Nat → Prop} {a b : World} {B : Nat} (h : Ch P a b) (hB : B ≤ a.heap.size) (hp : ∀ k, P k → B ≤ k) : Below B a b :=
  ⟨h.os, h.tape, h.output, h.size, fun k hk => h.block k (Nat.lt_of_lt_of_le hk hB) fun p => by have := hp k p; omega⟩
theorem Ch.of_wrt {P : Nat → Prop} {n d q : Nat} {a b : World} (h : Wrt n d q a b) (hp : P d) : Ch P a b :=
  ⟨h.1.os, h.1.tape, h.1.output, h.1.size, fun k hk hn => h.1.block k hk (fun e => hn (by cases e; exact hp))⟩
theorem Ch.of_grown {P : Nat → Prop} {d : Nat} {a b : World} (h : a.grownBy b (some d)) (hp : P d) : Ch P a b :=
  ⟨h.os, h.tape, h.output, h.size, fun k hk hn => h.block k hk (fun e => hn (by cases e; exact hp))⟩
/-- what was new ahead may be written -/
theorem Ch.join {P Q : Nat → Prop} {a b c : World} (h : Ch P a b) (h' : Ch Q b c) (hq : ∀ k, k < a.heap.size → Q k → P k) : Ch P a c :=
  ⟨h'.os.trans h.os, h'.tape.trans h.tape, h'.output.trans h.output, Nat.le_trans h.size h'.size, fun k hk hp => (h'.block k (Nat.lt_of_lt_of_le hk h.size) (fun q => hp (hq k hk q))).trans (h.block k hk hp)⟩
theorem Vr.ch {P : Nat → Prop} {w w' : World} {c : Nat} {cs : List Value} (h : Vr w c cs) (hb : Ch P w w') (hc : c < w.heap.size) (hp : ¬ P c) : Vr w' c cs := h.heap (hb.block c hc hp)
theorem eql_place (p q : Int × Int) (w : World) : (binOp .eql 31 (.agg #[.int .i64 p.1, .int .i64 p.2]) (.agg #[.int .i64 q.1, .int .i64 q.2])).run Try.prog w = .ok (.bool (decide (p = q))) w := by
  have u3 := Try.underlying3
  have hS : Try.prog.underlying 31 = some (.struct (Try.prog.fieldsOf 31)) := by kernel_rfl
  have hp : Try.prog.stoodInHeld 31 = false := by kernel_rfl
  have e : decide (p = q) = (p.1 == q.1 && p.2 == q.2) := by
    obtain ⟨a, b⟩ := p
    obtain ⟨c, d⟩ := q
    by_cases h1 : a = c <;> by_cases h2 : b = d <;> simp [h1, h2]
  rw [e, run_eql_struct, show (10000 : Nat) = 9999 + 1 from rfl, run_equalIn_agg w 9999 31 _ _ hS hp]
  simp only [Program.fieldsOf, Try.underlying31]
  go_simp
  by_cases h1 : p.1 = q.1 <;> by_cases h2 : p.2 = q.2 <;> simp [h1, h2]
theorem rowy_place : Rowy 31 2 := ⟨⟨_, Try.underlying31, rfl⟩, by kernel_rfl⟩
theorem rowy_spot : Rowy 37 14 := ⟨⟨_, Try.underlying37, rfl⟩, by kernel_rfl⟩
theorem zero_spot : (Try.prog.info? 37).map (fun i => (i.zero, i.size)) = some (some (.agg sp0.cs.toArray), sp0.cs.length) := by kernel_rfl
theorem zero_place : (Try.prog.info? 31).map (fun i => (i.zero, i.size)) = some (some (.agg (pc (0, 0)).toArray), 2) := by kernel_rfl
theorem size_spot : (Try.prog.info? 37).map (·.size) = some 14 := by kernel_rfl
theorem size_place : (Try.prog.info? 31).map (·.size) = some 2 := by kernel_rfl
theorem hdE {p : Prop} (h : p) : Hid p := h
end Go.Proofs.Ytedmmpognhpbdaa.pm
