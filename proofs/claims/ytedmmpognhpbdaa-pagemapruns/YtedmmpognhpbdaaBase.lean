/- What it means that a slice value holds a list of bytes, and how that lasts: no claim of its own. -/
import Derived.Test.YtedmmpognhpbdaaRows
import Derived.WalkKit
import Derived.WalkSmall
import Derived.ProofKit
import Derived.OpenShut
import Derived.BigQuiet
import Derived.Deep.QuietTactic
namespace Go.Proofs.Ytedmmpognhpbdaa
open Go.RowKit
set_option maxRecDepth 20000

/-- the byte at place j: a name of its own, so that the walk leaves it as it is -/
def gb (xs : List Int) (j : Nat) : Int := xs.getD j 0
theorem gb_def (xs : List Int) (j : Nat) : gb xs j = xs.getD j 0 := rfl

/-- the numbers of xs are bytes -/
def AllB (xs : List Int) : Prop := ∀ j : Nat, 0 ≤ gb xs j ∧ gb xs j ≤ 255

/-- the slice value v holds the bytes xs in w -/
def Byt (w : World) (v : Value) (xs : List Int) : Prop :=
  ∃ ao cap, v = .slice ao xs.length cap ∧ xs.length ≤ cap ∧ cap ≤ 9223372036854775807 ∧ AllB xs ∧ (ao = none → cap = 0) ∧
    (0 < xs.length → ∃ b off, ao = some ⟨b, off, none⟩ ∧ ∀ t, t < xs.length → w.cell? ⟨b, off + t, none⟩ = some (.int .u8 (gb xs t)))

theorem Byt.below {w w' : World} {v : Value} {xs : List Int} (h : Byt w v xs) (hb : Below w.heap.size w w') : Byt w' v xs := by
  obtain ⟨ao, cap, rfl, h1, h2, h3, h4, h5⟩ := h
  refine ⟨ao, cap, rfl, h1, h2, h3, h4, fun hp => ?_⟩
  obtain ⟨b, off, rfl, hc⟩ := h5 hp
  refine ⟨b, off, rfl, fun t ht => ?_⟩
  have := hc t ht
  rw [hb.cell (World.block_lt_of_cell? w _ this)]
  exact this

theorem Byt.nil (w : World) : Byt w (.slice none 0 0) [] :=
  ⟨none, 0, rfl, by simp, by simp, fun j => by simp [gb], fun _ => rfl, fun h => by simp at h⟩

theorem Byt.all {w : World} {v : Value} {xs : List Int} (h : Byt w v xs) : AllB xs := by
  obtain ⟨ao, cap, rfl, h1, h2, h3, h4, h5⟩ := h
  exact h3

theorem Byt.len {w : World} {v : Value} {xs : List Int} (h : Byt w v xs) : xs.length ≤ 9223372036854775807 := by
  obtain ⟨ao, cap, rfl, h1, h2, h3, h4, h5⟩ := h
  omega

/-- a row of the call's own, as bytes -/
theorem Byt.own {w : World} {base : Nat} {v : Value} {n : Nat} {xs : List Int} (h : w.ownsRow base 5 1 v n (xs.map (Value.int .u8))) (ha : AllB xs) : Byt w v xs := by
  have hl : xs.length = n := by have := h.1; simpa using this
  rcases h.2 with ⟨rfl, hn⟩ | ⟨g, cap, cur, rfl, hg, hb, hc, hm, hs, ht⟩
  · have : xs = [] := List.eq_nil_of_length_eq_zero (by omega)
    subst this
    exact Byt.nil w
  · subst hl
    refine ⟨some ⟨g, 0, none⟩, cap, rfl, hc, by simpa [maxLen] using hm, ha, (by intro h; cases h), fun hp => ⟨g, 0, rfl, fun t ht' => ?_⟩⟩
    have := h.cells (g := g) rfl t (.int .u8 (gb xs t)) (by simp [gb, List.getD, ht'])
    rw [Addr.add_lit] at this
    simpa using this

theorem ext_gb {xs ys : List Int} (h : xs.length = ys.length) (h' : ∀ t, t < xs.length → gb xs t = gb ys t) : xs = ys := by
  refine List.ext_getElem h fun t h1 h2 => ?_
  have := h' t h1
  simpa [gb, List.getD, h1, h2] using this

theorem allB_mem {xs : List Int} (h : ∀ x ∈ xs, 0 ≤ x ∧ x ≤ 255) : AllB xs := by
  intro j
  by_cases hj : j < xs.length
  · have := h (xs[j]) (List.getElem_mem hj)
    simpa [gb, List.getD, hj] using this
  · simp [gb, List.getD, Nat.le_of_not_lt hj]

theorem ret_bool {a b : Bool} (h : a = b) : Ending.returned (.bool a) = .returned (.bool b) := by rw [h]
theorem ret_int {k : IntKind} {a b : Int} (h : a = b) : Ending.returned (.int k a) = .returned (.int k b) := by rw [h]
theorem info_u8 : (Try.prog.info? 5).map (fun i => (i.zero, i.size, i.bytes)) = some (some (.int .u8 0), 1, 1) := by kernel_rfl
theorem own : ownKnob Try.prog.godebug = none := by kernel_rfl
theorem cells_u8 : Try.prog.cellsOf 5 = 1 := by kernel_rfl

/-! ### bytes that the call itself has made -/
/-- v owns the bytes xs, in a block from B on -/
def Own (B : Nat) (w : World) (v : Value) (xs : List Int) : Prop := w.ownsRow B 5 1 v xs.length (xs.map (Value.int .u8))
/-- the whole row g owns n bytes -/
def OwnN (B : Nat) (w : World) (g n : Nat) (xs : List Int) : Prop := xs.length = n ∧ B ≤ g ∧ w.ownsRow B 5 1 (.slice (some ⟨g, 0, none⟩) n n) n (xs.map (Value.int .u8))

theorem Own.byt {B : Nat} {w : World} {v : Value} {xs : List Int} (h : Own B w v xs) (ha : AllB xs) : Byt w v xs := Byt.own h ha
theorem OwnN.byt {B : Nat} {w : World} {g n : Nat} {xs : List Int} (h : OwnN B w g n xs) (ha : AllB xs) : Byt w (.slice (some ⟨g, 0, none⟩) n n) xs := Byt.own h.2.2 ha
theorem Own.empty (w : World) {B : Nat} (hB : B ≤ w.heap.size) : Own B (w.alloc (.cells #[] 5)) (.slice (some ⟨w.heap.size, 0, none⟩) 0 0) [] :=
  World.ownsRow_made w #[] 0 hB (by simp [maxLen]) (by simp)

theorem OwnN.cell {B : Nat} {w : World} {g n : Nat} {xs : List Int} (h : OwnN B w g n xs) {k : Nat} (hk : k < n) : w.cell? ⟨g, k, none⟩ = some (.int .u8 (gb xs k)) := by
  rw [h.2.2.cellAt k (by omega)]
  have := h.1
  simp [gb, List.getD, show k < xs.length by omega]
theorem OwnN.free {B : Nat} {w : World} {g n : Nat} {xs : List Int} (h : OwnN B w g n xs) (k : Nat) : w.frozen? ⟨g, k, none⟩ = false := h.2.2.frozenAt k
theorem OwnN.set {B : Nat} {w : World} {g n : Nat} {xs : List Int} (h : OwnN B w g n xs) (k : Nat) (x : Int) : OwnN B (w.setCell ⟨g, k, none⟩ (.int .u8 x)) g n (xs.set k x) :=
  ⟨by simpa using h.1, h.2.1, by have := (h.2.2.stored k (.int .u8 x)).1; rwa [← List.map_set] at this⟩
theorem OwnN.drew {B : Nat} {w : World} {g n : Nat} {xs : List Int} (h : OwnN B w g n xs) (m : Nat) : OwnN B (w.drewN m) g n xs := h
theorem Own.drew {B : Nat} {w : World} {v : Value} {xs : List Int} (h : Own B w v xs) (m : Nat) : Own B (w.drewN m) v xs := h

section
variable {ops : Array Oper} {rest : List Oper} {o : Oper} {a : Act} {Q : Exit → Act → World → Prop}

theorem gb_cut (xs : List Int) (l h t : Nat) (ht : t < h - l) : gb ((xs.take h).drop l) t = gb xs (l + t) := by
  simp [gb, List.getD, show l + t < h by omega]

/-- 'b[l:h]' -/
theorem byt_cut {w : World} {v : Value} {xs : List Int} (hb : Byt w v xs) (l h : Nat) (hl : l ≤ h) (hh : h ≤ xs.length) :
    ∃ ao cap, v = .slice ao xs.length cap ∧ h ≤ cap ∧ Byt w (sliced ao l h cap 1) ((xs.take h).drop l) := by
  obtain ⟨ao, cap, rfl, h1, h2, h3, h4, h5⟩ := hb
  refine ⟨ao, cap, rfl, by omega, ?_⟩
  have hlen : ((xs.take h).drop l).length = h - l := by simp; omega
  refine ⟨if cap = l then ao else ao.map (·.add (l * 1)), cap - l, by rw [hlen]; rfl, by omega, by omega, ?_, ?_, ?_⟩
  · intro t
    by_cases ht : t < h - l
    · rw [gb_cut xs l h t ht]; exact h3 _
    · have : gb ((xs.take h).drop l) t = 0 := by
        simp only [gb, List.getD, List.getElem?_eq_none (show ((xs.take h).drop l).length ≤ t by omega)]; rfl
      omega
  · split
    · intro _; omega
    · intro hn
      have := h4 (by simpa using hn)
      omega
  · intro hp
    obtain ⟨b, off, rfl, hc⟩ := h5 (by omega)
    rw [if_neg (by omega)]
    refine ⟨b, off + l, by simp [Addr.add_lit], fun t ht => ?_⟩
    rw [gb_cut xs l h t (by omega), Nat.add_assoc]
    exact hc (l + t) (by omega)

/-- 'b[:m]', the value as the walk spells it -/
theorem Byt.take {w : World} {ao : Option Addr} {n cap : Nat} {xs : List Int} (hb : Byt w (.slice ao n cap) xs) (m : Nat) (hm : m ≤ xs.length) : Byt w (.slice ao m cap) (xs.take m) := by
  obtain ⟨ao', cap', e, h1, h2, h3, h4, h5⟩ := hb
  cases e
  have hlen : (xs.take m).length = m := by simp; omega
  refine ⟨ao, cap, by rw [hlen], by omega, h2, ?_, h4, ?_⟩
  · intro t
    by_cases ht : t < m
    · have := gb_cut xs 0 m t (by omega)
      rw [List.drop_zero, Nat.zero_add] at this
      rw [this]; exact h3 t
    · have : gb (xs.take m) t = 0 := by
        simp only [gb, List.getD, List.getElem?_eq_none (show (xs.take m).length ≤ t by omega)]; rfl
      omega
  · intro hp
    obtain ⟨b, off, rfl, hc⟩ := h5 (by omega)
    refine ⟨b, off, rfl, fun t ht => ?_⟩
    have e := gb_cut xs 0 m t (by omega)
    rw [List.drop_zero, Nat.zero_add] at e
    rw [e]; exact hc t (by omega)

theorem run_size_u8 (w : World) : (sizeOf 5).run Try.prog w = .ok 1 w := by
  obtain ⟨i0, hi, hz0, hz1, hz2⟩ := info_parts info_u8
  simp [sizeOf, typeInfo, hi, hz1]

end
end Go.Proofs.Ytedmmpognhpbdaa
