/- A map of pages in memory: its place, its sectors' spots, its counts. No claim of its own. -/
import Derived.Test.YtedmmpognhpbdaaJMap
namespace Go.Proofs.Ytedmmpognhpbdaa.pm
open Go.RowKit Go.Proofs.Ytedmmpognhpbdaa.he
set_option maxRecDepth 20000

abbrev pt (c : Nat) : Value := .pointer (some ⟨c, 0, none⟩)
abbrev pq (d q : Nat) : Value := .pointer (some ⟨d, q, none⟩)
/-- a namespace's sectors, as a value -/
def sv (d n : Nat) : Value := if n = 0 then .slice none 0 0 else .slice (some ⟨d, 0, none⟩) n n
def mc (d s : Nat → Nat) (rb : Option Nat) : List Value := [sv (d 0) (s 0), sv (d 1) (s 1), sv (d 2) (s 2), sv (d 3) (s 3), .map rb]
/-- a map: its place c, each namespace's sectors in block d i, s i of them, their spots f i, the counts in rb -/
structure Pm (w : World) (c : Nat) (d s : Nat → Nat) (f : Nat → Nat → Sp) (rb : Option Nat) (g : Int × Int → Int) : Prop where
  v : Vr w c (mc d s rb)
  r : ∀ i, i < 4 → Rw 14 Sp.cs w (d i) 0 (s i) (f i)
  m : ∀ b, rb = some b → Mp w b g
  z : rb = none → (∀ p, g p = 0) ∧ ∀ i, i < 4 → s i = 0
  dc : ∀ i, i < 4 → 0 < s i → d i ≠ c
  dd : ∀ i j, i < 4 → j < 4 → i ≠ j → 0 < s i → 0 < s j → d i ≠ d j
/-- which blocks are a map's -/
def Own4 (c : Nat) (d s : Nat → Nat) (rb : Option Nat) (k : Nat) : Prop := k = c ∨ (∃ i, i < 4 ∧ 0 < s i ∧ k = d i) ∨ rb = some k
section
variable {w w' : World} {c : Nat} {d s : Nat → Nat} {f : Nat → Nat → Sp} {rb : Option Nat} {g : Int × Int → Int}
theorem Pm.lt (h : Pm w c d s f rb g) : c < w.heap.size := range_lt h.v.1 (Nat.succ_pos _)
theorem Pm.dlt (h : Pm w c d s f rb g) {i : Nat} (hi : i < 4) (hs : 0 < s i) : d i < w.heap.size := (h.r i hi 0 hs).lt (Nat.succ_pos _)
theorem Pm.olt (h : Pm w c d s f rb g) {k : Nat} (hk : Own4 c d s rb k) : k < w.heap.size := by
  rcases hk with rfl | ⟨i, hi, hs, rfl⟩ | e
  · exact h.lt
  · exact h.dlt hi hs
  · exact (h.m k e).lt
theorem Pm.same (h : Pm w c d s f rb g) (hb : ∀ k, Own4 c d s rb k → w'.heap[k]? = w.heap[k]?) : Pm w' c d s f rb g where
  v := h.v.heap (hb c (.inl rfl))
  r i hi := by
    intro k hk
    exact (h.r i hi k hk).heap (hb (d i) (.inr (.inl ⟨i, hi, by omega, rfl⟩)))
  m b e := (h.m b e).heap (hb b (.inr (.inr e)))
  z := h.z
  dc := h.dc
  dd := h.dd
theorem Pm.ch {P : Nat → Prop} (h : Pm w c d s f rb g) (hb : Ch P w w') (hp : ∀ k, Own4 c d s rb k → ¬ P k) : Pm w' c d s f rb g :=
  h.same fun k hk => hb.block k (h.olt hk) (hp k hk)
theorem Pm.below (h : Pm w c d s f rb g) (hb : Below w.heap.size w w') : Pm w' c d s f rb g := h.same fun k hk => hb.block k (h.olt hk)
theorem Pm.rbc (h : Pm w c d s f rb g) {b : Nat} (e : rb = some b) : b ≠ c := by
  intro q
  subst q
  exact (h.m b e).row (h.v.cell 4 _ rfl)
theorem Pm.rbd (h : Pm w c d s f rb g) {b i : Nat} (e : rb = some b) (hi : i < 4) (hs : 0 < s i) : b ≠ d i := by
  intro q
  subst q
  exact (h.m _ e).row ((h.r i hi 0 hs).cell 0 _ rfl)
theorem Pm.rbs (h : Pm w c d s f rb g) {i : Nat} (hi : i < 4) (hs : 0 < s i) : ∃ b, rb = some b := by
  cases e : rb with
  | none => have := (h.z e).2 i hi; omega
  | some b => exact ⟨b, rfl⟩
end
/-- a map that is read, or none -/
def Pq (w : World) (v : Value) (s : Nat → Nat) (d : Nat → Nat) (f : Nat → Nat → Sp) (g : Int × Int → Int) : Prop := (v = .pointer none ∧ (∀ i, s i = 0) ∧ ∀ p, g p = 0) ∨ ∃ c rb, v = pt c ∧ Pm w c d s f rb g
theorem Pq.below {w w' : World} {v : Value} {s d : Nat → Nat} {f : Nat → Nat → Sp} {g : Int × Int → Int} (h : Pq w v s d f g) (hb : Below w.heap.size w w') : Pq w' v s d f g := by
  rcases h with h | ⟨c, rb, e, h⟩
  · exact .inl h
  · exact .inr ⟨c, rb, e, h.below hb⟩
/-- how many live spots of one namespace are at p -/
def cn1 (f : Nat → Sp) (p : Int × Int) : Nat → Int
  | 0 => 0
  | k + 1 => cn1 f p k + (if lv (f k) && decide ((f k).p = p) then 1 else 0)
def cnt (s : Nat → Nat) (f : Nat → Nat → Sp) (p : Int × Int) : Int := cn1 (f 0) p (s 0) + cn1 (f 1) p (s 1) + cn1 (f 2) p (s 2) + cn1 (f 3) p (s 3)
theorem cn1_le (f : Nat → Sp) (p : Int × Int) : ∀ n : Nat, 0 ≤ cn1 f p n ∧ cn1 f p n ≤ n
  | 0 => by simp [cn1]
  | k + 1 => by have := cn1_le f p k; unfold cn1; split <;> omega
/-- one spot is put -/
def lc (x : Sp) (p : Int × Int) : Int := if lv x && decide (x.p = p) then 1 else 0
theorem cn1_up (f : Nat → Sp) (p : Int × Int) (k : Nat) (x : Sp) : ∀ n : Nat, k < n → cn1 (up f k x) p n = cn1 f p n - lc (f k) p + lc x p
  | n + 1, h => by
    unfold cn1
    by_cases e : k = n
    · subst e
      rw [up_eq]
      have : ∀ m, m ≤ k → cn1 (up f k x) p m = cn1 f p m := by
        intro m
        induction m with
        | zero => intro _; rfl
        | succ m ih =>
          intro hm
          unfold cn1
          rw [ih (by omega), up_ne f x (show m ≠ k by omega)]
      rw [this k (Nat.le_refl _)]
      simp only [lc]
      omega
    · rw [cn1_up f p k x n (by omega), up_ne f x (show n ≠ k from Ne.symm e)]
      omega
theorem cn1_pos (f : Nat → Sp) (k : Nat) : ∀ n : Nat, k < n → lv (f k) = true → 1 ≤ cn1 f (f k).p n
  | n + 1, h, hl => by
    have h1 := cn1_le f (f k).p n
    unfold cn1
    by_cases e : k = n
    · subst e
      simp only [hl, decide_true, Bool.and_self, if_true]
      omega
    · have := cn1_pos f k n (by omega) hl
      split <;> omega
theorem cnt_le {s : Nat → Nat} (hs : ∀ i, i < 4 → s i ≤ 65535) (f : Nat → Nat → Sp) (p : Int × Int) : 0 ≤ cnt s f p ∧ cnt s f p ≤ 262140 := by
  have h0 := cn1_le (f 0) p (s 0)
  have h1 := cn1_le (f 1) p (s 1)
  have h2 := cn1_le (f 2) p (s 2)
  have h3 := cn1_le (f 3) p (s 3)
  have q0 := hs 0 (by omega)
  have q1 := hs 1 (by omega)
  have q2 := hs 2 (by omega)
  have q3 := hs 3 (by omega)
  unfold cnt
  omega
theorem four {i : Nat} (h : i < 4) : i = 0 ∨ i = 1 ∨ i = 2 ∨ i = 3 := by omega
theorem cnt_up (s : Nat → Nat) (f : Nat → Nat → Sp) (p : Int × Int) (i k : Nat) (x : Sp) (hi : i < 4) (hk : k < s i) : cnt s (up f i (up (f i) k x)) p = cnt s f p - lc (f i k) p + lc x p := by
  have h := cn1_up (f i) p k x (s i) hk
  rcases four hi with rfl | rfl | rfl | rfl <;> (simp only [cnt, up, if_pos, show (1 : Nat) ≠ 0 by omega, show (2 : Nat) ≠ 0 by omega, show (3 : Nat) ≠ 0 by omega, show (0 : Nat) ≠ 1 by omega, show (2 : Nat) ≠ 1 by omega, show (3 : Nat) ≠ 1 by omega, show (0 : Nat) ≠ 2 by omega, show (1 : Nat) ≠ 2 by omega, show (3 : Nat) ≠ 2 by omega, show (0 : Nat) ≠ 3 by omega, show (1 : Nat) ≠ 3 by omega, show (2 : Nat) ≠ 3 by omega, if_false] at h ⊢; omega)
theorem cnt_pos {s : Nat → Nat} (f : Nat → Nat → Sp) {i k : Nat} (hi : i < 4) (hk : k < s i) (hl : lv (f i k) = true) : 1 ≤ cnt s f (f i k).p := by
  have h := cn1_pos (f i) k (s i) hk hl
  have h0 := cn1_le (f 0) (f i k).p (s 0)
  have h1 := cn1_le (f 1) (f i k).p (s 1)
  have h2 := cn1_le (f 2) (f i k).p (s 2)
  have h3 := cn1_le (f 3) (f i k).p (s 3)
  unfold cnt
  rcases four hi with rfl | rfl | rfl | rfl <;> omega
end Go.Proofs.Ytedmmpognhpbdaa.pm
