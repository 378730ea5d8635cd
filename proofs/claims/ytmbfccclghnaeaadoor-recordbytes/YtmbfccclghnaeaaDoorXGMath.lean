/- Geometries in numbers: how many blocks sectors take, quotas, their sum, whether namespaces fit, room for one more. No claim of its own. -/
import Derived.Test.YtmbfccclghnaeaaDoorPackA
namespace Go.Proofs.YtmbfccclghnaeaaDoor.ge
open Go.RowKit
set_option maxRecDepth 20000

/-- the quota of s sectors, u of them a block -/
def qt (u s : Nat) : Nat := (s + u - 1) / u + 2
theorem qt_le (u s k : Nat) (hu : 0 < u) : qt u s ≤ k + 2 ↔ s ≤ k * u := by
  unfold qt
  constructor
  · intro h
    have h1 : (s + u - 1) / u ≤ k := by omega
    have h2 : s + u - 1 < (k + 1) * u := by
      rcases Nat.lt_or_ge (s + u - 1) ((k + 1) * u) with h | h
      · exact h
      · have := (Nat.le_div_iff_mul_le hu).2 h
        omega
    rw [Nat.add_mul] at h2
    omega
  · intro h
    have h2 : (s + u - 1) / u < k + 1 := by
      rw [Nat.div_lt_iff_lt_mul hu, Nat.add_mul]
      omega
    omega
theorem qt_two (u s : Nat) : 2 ≤ qt u s := Nat.le_add_left 2 _
theorem qt_pos (u s : Nat) (hu : 0 < u) (hs : 0 < s) : 3 ≤ qt u s := by
  rcases Nat.lt_or_ge (qt u s) 3 with h | h
  · have := (qt_le u s 0 hu).1 (by omega)
    omega
  · exact h
theorem qt_mono (u s t : Nat) (hu : 0 < u) (h : s ≤ t) : qt u s ≤ qt u t := by
  have h2 := qt_two u t
  have := (qt_le u s (qt u t - 2) hu).2 (Nat.le_trans h ((qt_le u t (qt u t - 2) hu).1 (by omega)))
  omega
/-- a loop that counts blocks till they hold s sectors is done at its quota's -/
theorem qt_count (u s n : Nat) (hu : 0 < u) (h1 : s ≤ n * u) (h2 : ∀ m, m < n → m * u < s) : qt u s = n + 2 := by
  have a := (qt_le u s n hu).2 h1
  rcases Nat.lt_or_ge (qt u s) (n + 2) with h | h
  · have h3 := qt_two u s
    have := (qt_le u s (qt u s - 2) hu).1 (by omega)
    have := h2 (qt u s - 2) (by omega)
    omega
  · omega

/-- the quotas' sum -/
def sumq (u : Nat) : List Int → Nat
  | [] => 0
  | s :: r => qt u s.toNat + sumq u r
theorem sumq_app (u : Nat) (l r : List Int) : sumq u (l ++ r) = sumq u l + sumq u r := by
  induction l with
  | nil => simp [sumq]
  | cons s l ih => simp [sumq, ih]; omega
/-- all sizes are in range -/
def InR (l : List Int) : Prop := ∀ s ∈ l, 1 ≤ s ∧ s ≤ 65535
theorem inr_app (l r : List Int) : InR (l ++ r) ↔ InR l ∧ InR r := by
  constructor
  · intro h
    exact ⟨fun s hs => h s (List.mem_append.2 (.inl hs)), fun s hs => h s (List.mem_append.2 (.inr hs))⟩
  · rintro ⟨h1, h2⟩ s hs
    rcases List.mem_append.1 hs with h | h
    · exact h1 s h
    · exact h2 s h
theorem inr_one (s : Int) : InR [s] ↔ 1 ≤ s ∧ s ≤ 65535 := ⟨fun h => h s (by simp), fun h t ht => by rw [List.mem_singleton.1 ht]; exact h⟩
/-- the sum of quotas that stops growing above 64 -/
def csum (u : Nat) (a : Nat) : List Int → Nat
  | [] => a
  | s :: r => csum u (if a ≤ 64 then a + qt u s.toNat else a) r
theorem csum_big (u : Nat) (a : Nat) (l : List Int) (h : 64 < a) : csum u a l = a := by
  induction l with
  | nil => rfl
  | cons s r ih => rw [csum, if_neg (by omega)]; exact ih
theorem csum_le (u D : Nat) (hD : D ≤ 64) (l : List Int) : ∀ a, csum u a l ≤ D ↔ a + sumq u l ≤ D := by
  induction l with
  | nil => intro a; simp [csum, sumq]
  | cons s r ih =>
    intro a
    rw [csum, sumq]
    by_cases h : a ≤ 64
    · rw [if_pos h, ih]; omega
    · rw [if_neg h, csum_big u a r (by omega)]
      omega
theorem csum_snoc (u : Nat) (l : List Int) (s : Int) : ∀ a, csum u a (l ++ [s]) = if csum u a l ≤ 64 then csum u a l + qt u s.toNat else csum u a l := by
  induction l with
  | nil => intro a; rfl
  | cons t r ih => intro a; exact ih _
/-- namespaces fit: D data blocks, sp spare -/
def Fits (D sp u : Nat) (l : List Int) : Prop := InR l ∧ l.length ≤ 4 ∧ sp + sumq u l ≤ D
/-- room for one more -/
def room (D sp u : Nat) (l : List Int) : Nat := if l.length < 4 ∧ sp + sumq u l + 3 ≤ D then min 65535 ((D - sp - sumq u l - 2) * u) else 0
theorem room_le (D sp u : Nat) (l : List Int) : room D sp u l ≤ 65535 := by unfold room; split <;> omega
theorem fits_snoc (D sp u : Nat) (hu : 0 < u) (l : List Int) (h : Fits D sp u l) (s : Nat) (hs : 1 ≤ s) (hs' : s ≤ 65535) : Fits D sp u (l ++ [(s : Int)]) ↔ s ≤ room D sp u l := by
  have hq := qt_pos u s hu (by omega)
  unfold Fits room
  rw [inr_app, inr_one, sumq_app, List.length_append]
  have e : sumq u [(s : Int)] = qt u s := by simp [sumq]
  rw [e]
  have key := qt_le u s (D - sp - sumq u l - 2) hu
  constructor
  · rintro ⟨-, h2, h3⟩
    have h2' : l.length + 1 ≤ 4 := h2
    rw [if_pos ⟨by omega, by omega⟩]
    have := key.1 (by omega)
    omega
  · intro h5
    split at h5
    · next h6 =>
      have := key.2 (by omega)
      exact ⟨⟨h.1, by omega⟩, show l.length + 1 ≤ 4 by omega, by omega⟩
    · omega
/-- what room tells fits, and one more does not -/
theorem room_fits (D sp u : Nat) (hu : 0 < u) (l : List Int) (h : Fits D sp u l) (hp : 0 < room D sp u l) : Fits D sp u (l ++ [((room D sp u l : Nat) : Int)]) :=
  (fits_snoc D sp u hu l h _ hp (room_le D sp u l)).2 (Nat.le_refl _)
theorem room_more (D sp u : Nat) (hu : 0 < u) (l : List Int) (h : Fits D sp u l) (hp : room D sp u l < 65535) : ¬ Fits D sp u (l ++ [((room D sp u l + 1 : Nat) : Int)]) := fun hf => by
  have := (fits_snoc D sp u hu l h _ (by omega) (by omega)).1 hf
  omega
/-- fewer, and smaller ones -/
theorem fits_mid (D sp u : Nat) (a b : List Int) (s : Int) (h : Fits D sp u (a ++ s :: b)) : Fits D sp u (a ++ b) := by
  obtain ⟨h1, h2, h3⟩ := h
  rw [inr_app] at h1
  rw [sumq_app] at h3
  refine ⟨(inr_app a b).2 ⟨h1.1, fun t ht => h1.2 t (List.mem_cons_of_mem _ ht)⟩, ?_, ?_⟩
  · rw [List.length_append] at h2 ⊢
    rw [List.length_cons] at h2
    omega
  · rw [sumq_app]
    have : sumq u (s :: b) = qt u s.toNat + sumq u b := rfl
    omega
theorem fits_less (D sp u : Nat) (hu : 0 < u) (a b : List Int) (s t : Int) (ht : 1 ≤ t) (hts : t ≤ s) (h : Fits D sp u (a ++ s :: b)) : Fits D sp u (a ++ t :: b) := by
  obtain ⟨h1, h2, h3⟩ := h
  rw [inr_app] at h1
  rw [sumq_app] at h3
  have hs := h1.2 s (by simp)
  have hq := qt_mono u t.toNat s.toNat hu (by omega)
  refine ⟨(inr_app a (t :: b)).2 ⟨h1.1, fun x hx => ?_⟩, ?_, ?_⟩
  · rcases List.mem_cons.1 hx with rfl | hx
    · omega
    · exact h1.2 x (List.mem_cons_of_mem _ hx)
  · rw [List.length_append] at h2 ⊢
    exact h2
  · rw [sumq_app]
    have e1 : sumq u (s :: b) = qt u s.toNat + sumq u b := rfl
    have e2 : sumq u (t :: b) = qt u t.toNat + sumq u b := rfl
    omega
end Go.Proofs.YtmbfccclghnaeaaDoor.ge
