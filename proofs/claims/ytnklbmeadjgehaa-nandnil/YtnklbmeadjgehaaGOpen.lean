/- What arguments that are geometries, places, pairs of numbers and lists of numbers hold. No claim of its own. -/
import Derived.Test.YtnklbmeadjgehaaLawG
import Derived.Test.YtnklbmeadjgehaaGInts
namespace Go.Proofs.Ytnklbmeadjgehaa.ge
open Go.ChangeShapes Go.WideShapes Go.ChangeAt Go.RowKit
set_option maxRecDepth 20000

theorem cells_int : Try.prog.cellsOf 3 = 1 := by kernel_rfl
theorem cells_geo : Try.prog.cellsOf 23 = 6 := by kernel_rfl

theorem cells_place : Try.prog.cellsOf 43 = 2 := by kernel_rfl

/-- one cell that is read as a number -/
theorem int_cell {H : Type} {enc : TypeId × Value → H} {W : World} {fuel : Nat} {c : Value} {x : DataW H × List MemPlace}
    (hf : DataW.trod enc Try.prog W 0 (fun _ => true) true fuel 3 [c] = some x) : ∃ n, c = .int .i64 n := by
  obtain ⟨y, hy, -⟩ := DataW.trod_int Try.underlying3 hf
  exact ⟨y, by simpa using hy⟩

/-- an argument that is a geometry -/
theorem geo_open {H : Type} {enc : TypeId × Value → H} {W : World} {base : Nat} {v : Value} {d : DataW H} {ps : List MemPlace}
    (ok : Value.okWide Try.prog W .any base 23 v) (h : DataW.Trod enc Try.prog W 0 (fun _ => true) true 23 v d ps) : ∃ g : List Int, v = .agg (ints .i64 g) ∧ g.length = 6 := by
  simp only [Value.okWide, Try.underlying23] at ok
  obtain ⟨cs, rfl, h2, _⟩ := ok
  rw [cells_geo] at h2
  obtain ⟨l⟩ := cs
  obtain ⟨c0, c1, c2, c3, c4, c5, rfl⟩ : ∃ c0 c1 c2 c3 c4 c5, l = [c0, c1, c2, c3, c4, c5] := by
    match l, h2 with
    | [c0, c1, c2, c3, c4, c5], _ => exact ⟨c0, c1, c2, c3, c4, c5, rfl⟩
  obtain ⟨fuel, hf⟩ := h
  obtain ⟨xs, n, -, -, -, hlen, hall⟩ := DataW.trod_struct Try.underlying23 hf
  match xs, hlen with
  | [y0, y1, y2, y3, y4, y5], _ =>
    have a0 := hall 0 _ rfl
    have a1 := hall 1 _ rfl
    have a2 := hall 2 _ rfl
    have a3 := hall 3 _ rfl
    have a4 := hall 4 _ rfl
    have a5 := hall 5 _ rfl
    simp [cells_int, Value.cells] at a0 a1 a2 a3 a4 a5
    obtain ⟨n0, rfl⟩ := int_cell a0
    obtain ⟨n1, rfl⟩ := int_cell a1
    obtain ⟨n2, rfl⟩ := int_cell a2
    obtain ⟨n3, rfl⟩ := int_cell a3
    obtain ⟨n4, rfl⟩ := int_cell a4
    obtain ⟨n5, rfl⟩ := int_cell a5
    exact ⟨[n0, n1, n2, n3, n4, n5], rfl, rfl⟩

/-- an argument that is a place -/
theorem place_open {H : Type} {enc : TypeId × Value → H} {W : World} {base : Nat} {v : Value} {d : DataW H} {ps : List MemPlace}
    (ok : Value.okWide Try.prog W .any base 43 v) (h : DataW.Trod enc Try.prog W 0 (fun _ => true) true 43 v d ps) : ∃ g : List Int, v = .agg (ints .i64 g) ∧ g.length = 2 := by
  simp only [Value.okWide, Try.underlying43] at ok
  obtain ⟨cs, rfl, h2, _⟩ := ok
  rw [cells_place] at h2
  obtain ⟨l⟩ := cs
  obtain ⟨c0, c1, rfl⟩ : ∃ c0 c1, l = [c0, c1] := by
    match l, h2 with
    | [c0, c1], _ => exact ⟨c0, c1, rfl⟩
  obtain ⟨fuel, hf⟩ := h
  obtain ⟨xs, n, -, -, -, hlen, hall⟩ := DataW.trod_struct Try.underlying43 hf
  match xs, hlen with
  | [y0, y1], _ =>
    have a0 := hall 0 _ rfl
    have a1 := hall 1 _ rfl
    simp [cells_int, Value.cells] at a0 a1
    obtain ⟨n0, rfl⟩ := int_cell a0
    obtain ⟨n1, rfl⟩ := int_cell a1
    exact ⟨[n0, n1], rfl, rfl⟩

/-- an argument that is a list of numbers -/
theorem ints_open {H : Type} {enc : TypeId × Value → H} {W : World} {base : Nat} {v : Value} {d : DataW H} {ps : List MemPlace}
    (ok : Value.okWide Try.prog W .any base 48 v) (h : DataW.Trod enc Try.prog W 0 (fun _ => true) true 48 v d ps) : ∃ xs, Nums W v xs := by
  obtain ⟨a0, len, cap, rfl⟩ := okWide_slice Try.underlying48 ok
  obtain ⟨fuel, hf⟩ := h
  rcases open_ints Try.underlying48 Try.underlying3 cells_int hf with ⟨hcs, hx⟩ | ⟨a, len', cap', zs, hcs, _, hl, hm, hz, hx, hcell, hwz⟩
  · simp [Value.cells] at hcs
    obtain ⟨rfl, rfl, rfl⟩ := hcs
    exact ⟨[], Nums.nil W⟩
  · simp [Value.cells] at hcs
    obtain ⟨rfl, rfl, rfl⟩ := hcs
    simp at hz
    have hlen : (zs.take len).length = len := by simp; omega
    have hgb : ∀ t, t < len → gb (zs.take len) t = zs.getD t 0 := fun t ht => by simp [gb, List.getD, ht]
    refine ⟨zs.take len, some a, cap, by rw [hlen], by omega, by simpa [maxLen] using hm, (by intro h; cases h), fun hp => ?_⟩
    obtain ⟨b, off, rfl, hc⟩ := ints_at hcell (by omega)
    refine ⟨b, off, rfl, fun t ht => ?_⟩
    rw [hgb t (by omega)]
    exact hc t (by omega)
end Go.Proofs.Ytnklbmeadjgehaa.ge
