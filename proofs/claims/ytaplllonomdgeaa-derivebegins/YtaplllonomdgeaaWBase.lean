/- What it means that a slice value holds a list of words, and how that lasts: no claim of its own. -/
import Derived.Test.YtaplllonomdgeaaSum
namespace Go.Proofs.Ytaplllonomdgeaa
open Go.RowKit

/-- the slice value v holds the words xs in w -/
def Wrd (w : World) (v : Value) (xs : List Int) : Prop :=
  ∃ ao cap, v = .slice ao xs.length cap ∧ xs.length ≤ cap ∧ cap ≤ 9223372036854775807 ∧ AllW xs ∧ (ao = none → cap = 0) ∧
    (0 < xs.length → ∃ b off, ao = some ⟨b, off, none⟩ ∧ ∀ t, t < xs.length → w.cell? ⟨b, off + t, none⟩ = some (.int .u32 (gb xs t)))

theorem Wrd.below {w w' : World} {v : Value} {xs : List Int} (h : Wrd w v xs) (hb : Below w.heap.size w w') : Wrd w' v xs := by
  obtain ⟨ao, cap, rfl, h1, h2, h3, h4, h5⟩ := h
  refine ⟨ao, cap, rfl, h1, h2, h3, h4, fun hp => ?_⟩
  obtain ⟨b, off, rfl, hc⟩ := h5 hp
  refine ⟨b, off, rfl, fun t ht => ?_⟩
  have := hc t ht
  rw [hb.cell (World.block_lt_of_cell? w _ this)]
  exact this

theorem Wrd.nil (w : World) : Wrd w (.slice none 0 0) [] :=
  ⟨none, 0, rfl, by simp, by simp, fun j => by simp [gb, W32], fun _ => rfl, fun h => by simp at h⟩

theorem Wrd.all {w : World} {v : Value} {xs : List Int} (h : Wrd w v xs) : AllW xs := by
  obtain ⟨ao, cap, rfl, h1, h2, h3, h4, h5⟩ := h
  exact h3

theorem Wrd.len {w : World} {v : Value} {xs : List Int} (h : Wrd w v xs) : xs.length ≤ 9223372036854775807 := by
  obtain ⟨ao, cap, rfl, h1, h2, h3, h4, h5⟩ := h
  omega

/-- a row of the call's own, as bytes -/
theorem Wrd.own {w : World} {base : Nat} {v : Value} {n : Nat} {xs : List Int} (h : w.ownsRow base 59 1 v n (xs.map (Value.int .u32))) (ha : AllW xs) : Wrd w v xs := by
  have hl : xs.length = n := by have := h.1; simpa using this
  rcases h.2 with ⟨rfl, hn⟩ | ⟨g, cap, cur, rfl, hg, hb, hc, hm, hs, ht⟩
  · have : xs = [] := List.eq_nil_of_length_eq_zero (by omega)
    subst this
    exact Wrd.nil w
  · subst hl
    refine ⟨some ⟨g, 0, none⟩, cap, rfl, hc, by simpa [maxLen] using hm, ha, (by intro h; cases h), fun hp => ⟨g, 0, rfl, fun t ht' => ?_⟩⟩
    have := h.cells (g := g) rfl t (.int .u32 (gb xs t)) (by simp [gb, List.getD, ht'])
    rw [Addr.add_lit] at this
    simpa using this

/-- v owns the words xs, in a block from B on -/
def OwnW (B : Nat) (w : World) (v : Value) (xs : List Int) : Prop := w.ownsRow B 59 1 v xs.length (xs.map (Value.int .u32))
theorem OwnW.wrd {B : Nat} {w : World} {v : Value} {xs : List Int} (h : OwnW B w v xs) (ha : AllW xs) : Wrd w v xs := Wrd.own h ha
theorem OwnW.empty (w : World) {B : Nat} (hB : B ≤ w.heap.size) : OwnW B (w.alloc (.cells #[] 59)) (.slice (some ⟨w.heap.size, 0, none⟩) 0 0) [] :=
  World.ownsRow_made w #[] 0 hB (by simp [maxLen]) (by simp)

theorem OwnW.drew {B : Nat} {w : World} {v : Value} {xs : List Int} (h : OwnW B w v xs) (m : Nat) : OwnW B (w.drewN m) v xs := h

section
variable {ops : Array Oper} {rest : List Oper} {o : Oper} {a : Act} {Q : Exit → Act → World → Prop}
/-- 'out = append(out, c)', out of the call's own -/
theorem push_lawW (w0 : World) (hg : o.guard = none) (s x : Operand) (hop : o.op = .call { callee := .builtin .append, args := #[s, x], argTypes := #[56, 56] })
    (B : Nat) (hB : B ≤ w0.heap.size) (v : Value) (xs : List Int) (c : Int) (hs : a.eval s = v) (hx : a.eval x = .slice (some ⟨w0.heap.size, 0, none⟩) 1 1) (hown : OwnW B w0 v xs) (hn : xs.length ≤ 1099511627776)
    (hK : ∀ v' w', OwnW B w' v' (xs ++ [c]) → Below B w0 w' → wpList Try.prog ops Q rest (a.put o.dst v') w') :
    wpList Try.prog ops Q (o :: rest) a (w0.alloc (.cells #[.int .u32 c] 59)) := by
  obtain ⟨i0, hi, hz0, hz1, hz2⟩ := info_parts info_u32
  refine wpList_append_own _ hg s x 56 hop B 59 i0 (.int .u32 0) 1 4 Try.underlying56 hi hz0 hz1 hz2 rfl (by decide) v xs.length _ hs (World.ownsRow.alloc hown _) ⟨w0.heap.size, 0, none⟩ 1 1 [.int .u32 c] hx rfl ?_ ?_ (by simp only [maxLen]; omega) (by omega) (by simp; omega) fun v' w' h1 h2 _ => ?_
  · intro j u hj
    match j, hj with
    | 0, hj => simp at hj; subst hj; simp [Addr.add]
  · intro u hu; simp at hu; subst hu; rfl
  · refine hK v' w' ?_ ?_
    · show w'.ownsRow B 59 1 v' (xs ++ [c]).length ((xs ++ [c]).map (Value.int .u32))
      simpa using h1
    · refine ((Below.refl B w0).alloc hB _).grown h2 (by simp; omega) fun k hk => ?_
      exact (World.ownsRow.lt hown k hk).1

/-- 'out = append(out, c)', out of the call's own, in a region that draws its order -/
theorem step_push1W {K : Act → World → Prop} {E : Prop} (w0 : World) (hg : o.guard = none) (s x : Operand) (hop : o.op = .call { callee := .builtin .append, args := #[s, x], argTypes := #[56, 56] })
    (B : Nat) (hB : B ≤ w0.heap.size) (v : Value) (xs : List Int) (c : Int) (hs : a.eval s = v) (hx : a.eval x = .slice (some ⟨w0.heap.size, 0, none⟩) 1 1) (hown : OwnW B w0 v xs) (hn : xs.length ≤ 1099511627776)
    (hK : ∀ v' w', OwnW B w' v' (xs ++ [c]) → Below B w0 w' → K (a.put o.dst v') w') :
    if Region.wanted o (yielded ops a.tmps) = true then Oper.wp Try.prog o a (w0.alloc (.cells #[.int .u32 c] 59)) K Q else E := by
  have hw : Region.wanted o (yielded ops a.tmps) = true := by simp [Region.wanted, hg]
  rw [if_pos hw]
  obtain ⟨i0, hi, hz0, hz1, hz2⟩ := info_parts info_u32
  refine wp_append_own _ s x 56 hop B 59 i0 (.int .u32 0) 1 4 Try.underlying56 hi hz0 hz1 hz2 rfl (by decide) v xs.length _ hs (World.ownsRow.alloc hown _) ⟨w0.heap.size, 0, none⟩ 1 1 [.int .u32 c] hx rfl ?_ ?_ (by simp only [maxLen]; omega) (by omega) (by simp; omega) fun v' w' h1 h2 _ => ?_
  · intro j u hj
    match j, hj with
    | 0, hj => simp at hj; subst hj; simp [Addr.add]
  · intro u hu; simp at hu; subst hu; rfl
  · refine hK v' w' ?_ ?_
    · show w'.ownsRow B 59 1 v' (xs ++ [c]).length ((xs ++ [c]).map (Value.int .u32))
      simpa using h1
    · refine ((Below.refl B w0).alloc hB _).grown h2 (by simp; omega) fun k hk => ?_
      exact (World.ownsRow.lt hown k hk).1

end
end Go.Proofs.Ytaplllonomdgeaa
