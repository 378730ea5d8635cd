/- What lasts while a spot is put. No claim of its own. -/
import Derived.Test.YtedmmpognhpbdaaJSpo
namespace Go.Proofs.Ytedmmpognhpbdaa.pm
open Go.RowKit Go.Proofs.Ytedmmpognhpbdaa.he
set_option maxRecDepth 20000

theorem Pm.mp {w w' : World} {c b : Nat} {d s : Nat → Nat} {f : Nat → Nat → Sp} {g g' : PL → Int} (h : Pm w c d s f (some b) g) (hg : w.grownBy w' (some b)) (hM : Mp w' b g') : Pm w' c d s f (some b) g' where
  v := h.v.heap (hg.block c h.lt (fun e => h.rbc rfl (Option.some.inj e).symm))
  r i hi := by
    intro k hk
    exact (h.r i hi k hk).heap (hg.block (d i) (h.dlt hi (by omega)) (fun e => h.rbd rfl hi (by omega) (Option.some.inj e).symm))
  m b' e := by cases e; exact hM
  z e := by cases e
  dc := h.dc
  dd := h.dd
theorem Pm.row {w w' : World} {c b : Nat} {d s : Nat → Nat} {f : Nat → Nat → Sp} {g : PL → Int} (h : Pm w c d s f (some b) g) (i k : Nat) (hi : i < 4) (hk : k < s i) (x : Sp) (hx : At w' (d i) (k * 14) x.cs) (hw : Wrt 14 (d i) (k * 14) w w') : Pm w' c d s (up f i (up (f i) k x)) (some b) g where
  v := h.v.heap (hw.1.block c h.lt (fun e => h.dc i hi (by omega) (Option.some.inj e).symm))
  r j hj := by
    by_cases e : j = i
    · subst e
      rw [up_eq]
      have := Rw.put (s := 14) (enc := Sp.cs) (fun _ => rfl) (h.r j hj) k x (by rw [Nat.zero_add]; exact hx) (by rw [Nat.zero_add]; exact hw)
      exact this
    · rw [up_ne f _ e]
      intro t ht
      exact (h.r j hj t ht).heap (hw.1.block (d j) (h.dlt hj (by omega)) (fun e' => h.dd j i hj hi e (by omega) (by omega) (Option.some.inj e')))
  m b' e := by
    cases e
    exact (h.m b rfl).heap (hw.1.block b (h.m b rfl).lt (fun e' => h.rbd rfl hi (by omega) (Option.some.inj e')))
  z e := by cases e
  dc := h.dc
  dd := h.dd
/-- all that a Put has in memory -/
structure Bd (w wr : World) (c b xb B : Nat) (i : Nat) (d s : Nat → Nat) (F : Nat → Nat → Sp) (g : PL → Int) (x : Sp) (v : Value) (l : List PL) : Prop where
  p : Pm wr c d s F (some b) g
  x : Vr wr xb x.cs
  o : Os B wr v l
  ch : Ch (fun j => j = d i ∨ j = b) w wr
  wx : w.heap.size ≤ xb
  xB : xb < B
  own : ∀ k, Own4 c d s (some b) k → k < w.heap.size
  i4 : i < 4
  si : 0 < s i
section
variable {w wr w' : World} {c b xb B i : Nat} {d s : Nat → Nat} {F : Nat → Nat → Sp} {g g' : PL → Int} {x : Sp} {v v' : Value} {l l' : List PL}
theorem Bd.xlt (h : Bd w wr c b xb B i d s F g x v l) : xb < wr.heap.size := range_lt h.x.1 (Nat.succ_pos _)
theorem Bd.below (h : Bd w wr c b xb B i d s F g x v l) (hb : Below wr.heap.size wr w') : Bd w w' c b xb B i d s F g x v l :=
  ⟨h.p.below hb, h.x.below hb h.xlt, h.o.below hb, h.ch.trans (Ch.of_below hb), h.wx, h.xB, h.own, h.i4, h.si⟩
theorem Bd.blt (h : Bd w wr c b xb B i d s F g x v l) : b < w.heap.size := h.own b (.inr (.inr rfl))
theorem Bd.dlt (h : Bd w wr c b xb B i d s F g x v l) : d i < w.heap.size := h.own _ (.inr (.inl ⟨i, h.i4, h.si, rfl⟩))
theorem Bd.mp (h : Bd w wr c b xb B i d s F g x v l) (hg : wr.grownBy w' (some b)) (hM : Mp w' b g') : Bd w w' c b xb B i d s F g' x v l :=
  ⟨h.p.mp hg hM, h.x.heap (hg.block xb h.xlt (fun e => by have := h.blt; have := h.wx; have := Option.some.inj e; omega)), h.o.ch (Ch.of_grown (P := fun k => k = b) hg rfl) (fun k hk e => by have := h.o.low hk; have := h.blt; have := h.wx; have := h.xB; omega), h.ch.trans (Ch.of_grown hg (.inr rfl)), h.wx, h.xB, h.own, h.i4, h.si⟩
theorem Bd.row (h : Bd w wr c b xb B i d s F g x v l) (k : Nat) (hk : k < s i) (z : Sp) (hx : At w' (d i) (k * 14) z.cs) (hw : Wrt 14 (d i) (k * 14) wr w') : Bd w w' c b xb B i d s (up F i (up (F i) k z)) g x v l :=
  ⟨h.p.row i k h.i4 hk z hx hw, h.x.heap (hw.1.block xb h.xlt (fun e => by have := h.dlt; have := h.wx; have := Option.some.inj e; omega)), h.o.ch (Ch.of_wrt (P := fun k => k = d i) hw rfl) (fun k hk e => by have := h.o.low hk; have := h.dlt; have := h.wx; have := h.xB; omega), h.ch.trans (Ch.of_wrt hw (.inl rfl)), h.wx, h.xB, h.own, h.i4, h.si⟩
theorem Bd.push (h : Bd w wr c b xb B i d s F g x v l) (hg : wr.grownBy w' v.ownBlock) (ho : Os B w' v' l') : Bd w w' c b xb B i d s F g x v' l' := by
  obtain ⟨G, cap, rfl, h1⟩ := h.o
  have hB := (ow_row h1).2.1
  have hg' : wr.grownBy w' (some G) := hg
  exact ⟨h.p.ch (Ch.of_grown (P := fun k => k = G) hg' rfl) (fun k hk e => by have := h.own k hk; have := h.wx; have := h.xB; omega), h.x.heap (hg'.block xb h.xlt (fun e => by have := h.xB; have := Option.some.inj e; omega)), ho, h.ch.join (Ch.of_grown (P := fun k => k = G) hg' rfl) (fun k hk e => by have := h.wx; have := h.xB; omega), h.wx, h.xB, h.own, h.i4, h.si⟩
end
theorem Os.nil {w : World} {g : Nat} {B : Nat} (h : Ow B w (.slice (some ⟨g, 0, none⟩) 0 0) []) : Os B w (.slice (some ⟨g, 0, none⟩) 0 0) [] := ⟨g, 0, rfl, h⟩
/-- 'append(left, x)' of a row that is not nil -/
theorem push_lawO {ops : Array Oper} {rest : List Oper} {o : Oper} {a : Act} {Q : Exit → Act → World → Prop} (w : World) (hg : o.guard = none) (s x : Operand) (hop : o.op = .call { callee := .builtin .append, args := #[s, x], argTypes := #[59, 59] })
    (B : Nat) (hB : B ≤ w.heap.size) (v : Value) (l : List PL) (g : Nat) (p : PL) (hs : a.eval s = v) (hx : a.eval x = .slice (some ⟨g, 0, none⟩) 1 1) (hown : Os B w v l) (hV : Vr w g (pc p)) (hn : l.length ≤ 100000)
    (hK : ∀ v' w', Os B w' v' (l ++ [p]) → w.grownBy w' v.ownBlock → wpList Try.prog ops Q rest (a.put o.dst v') w') : wpList Try.prog ops Q (o :: rest) a w := by
  obtain ⟨G, cap, rfl, ho⟩ := hown
  refine push_lawP w hg s x hop B hB _ l g p hs hx ho hV hn fun v' w' h1 h2 => hK v' w' ?_ h2
  have h1' := h1
  obtain ⟨q1, q2⟩ := h1'
  rcases q2 with ⟨_, q3⟩ | ⟨g', cap', cur, e, _⟩
  · rw [List.length_append] at q3
    simp at q3
  · exact ⟨g', cap', e, h1⟩
/-- what a sector has behind a Put -/
def pn (x y : Sp) : Sp := if lv y && !nw x y then y else x
/-- a row behind t rounds of a Put -/
def ft (f : Nat → Sp) (x : Sp) (l t : Nat) : Nat → Sp := fun j => if l ≤ j ∧ j < l + t then pn x (f j) else f j
/-- the places that were left -/
def lf (f : Nat → Sp) (x : Sp) (l : Nat) : Nat → List PL
  | 0 => []
  | t + 1 => lf f x l t ++ (if lv (f (l + t)) && nw x (f (l + t)) then [(f (l + t)).p] else [])
theorem lf_len (f : Nat → Sp) (x : Sp) (l : Nat) : ∀ t, (lf f x l t).length ≤ t
  | 0 => Nat.le_refl _
  | t + 1 => by
    have := lf_len f x l t
    unfold lf
    rw [List.length_append]
    split <;> simp <;> omega
theorem ft_zero (f : Nat → Sp) (x : Sp) (l : Nat) : ft f x l 0 = f := by
  funext j
  unfold ft
  rw [if_neg (by omega)]
theorem ft_succ (f : Nat → Sp) (x : Sp) (l t : Nat) : ft f x l (t + 1) = up (ft f x l t) (l + t) (pn x (f (l + t))) := by
  funext j
  unfold ft up
  by_cases e : j = l + t
  · subst e
    rw [if_pos (by omega), if_pos rfl]
  · rw [if_neg e]
    by_cases h : l ≤ j ∧ j < l + t
    · rw [if_pos (by omega)]
      show _ = if l ≤ j ∧ j < l + t then _ else _
      rw [if_pos h]
    · rw [if_neg (by omega)]
      show _ = if l ≤ j ∧ j < l + t then _ else _
      rw [if_neg h]
theorem ft_at (f : Nat → Sp) (x : Sp) (l t : Nat) : ft f x l t (l + t) = f (l + t) := by
  unfold ft
  rw [if_neg (by omega)]
theorem up_self {α : Type} (f : Nat → α) (k : Nat) : up f k (f k) = f := by
  funext j
  unfold up
  split
  · rename_i e; rw [e]
  · rfl
theorem up_up {α : Type} (f : Nat → α) (k : Nat) (x y : α) : up (up f k x) k y = up f k y := by
  funext j
  unfold up
  split <;> rfl
end Go.Proofs.Ytedmmpognhpbdaa.pm
