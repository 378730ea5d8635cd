/- What arguments that are a geometry or an array of two slices of bytes hold. No claim of its own. -/
import Derived.Test.YtpmakkjcpoillaaDoorHOpn
namespace Go.Proofs.YtpmakkjcpoillaaDoor.ge
open Go.ChangeShapes Go.WideShapes Go.ChangeAt Go.RowKit
set_option maxRecDepth 20000

theorem cells_int : Tryd.prog.cellsOf 3 = 1 := by kernel_rfl
theorem cells_geo : Tryd.prog.cellsOf 23 = 6 := by kernel_rfl

/-- one cell that is read as a number -/
theorem int_cell {H : Type} {enc : TypeId × Value → H} {W : World} {fuel : Nat} {c : Value} {x : DataW H × List MemPlace}
    (hf : DataW.trod enc Tryd.prog W 0 (fun _ => true) true fuel 3 [c] = some x) : ∃ n, c = .int .i64 n := by
  obtain ⟨y, hy, -⟩ := DataW.trod_int Tryd.underlying3 hf
  exact ⟨y, by simpa using hy⟩

/-- an argument that is a geometry -/
theorem geo_open {H : Type} {enc : TypeId × Value → H} {W : World} {base : Nat} {v : Value} {d : DataW H} {ps : List MemPlace}
    (ok : Value.okWide Tryd.prog W .any base 23 v) (h : DataW.Trod enc Tryd.prog W 0 (fun _ => true) true 23 v d ps) : ∃ g : List Int, v = .agg (ints .i64 g) ∧ g.length = 6 := by
  simp only [Value.okWide, Tryd.underlying23] at ok
  obtain ⟨cs, rfl, h2, _⟩ := ok
  rw [cells_geo] at h2
  obtain ⟨l⟩ := cs
  obtain ⟨c0, c1, c2, c3, c4, c5, rfl⟩ : ∃ c0 c1 c2 c3 c4 c5, l = [c0, c1, c2, c3, c4, c5] := by
    match l, h2 with
    | [c0, c1, c2, c3, c4, c5], _ => exact ⟨c0, c1, c2, c3, c4, c5, rfl⟩
  obtain ⟨fuel, hf⟩ := h
  obtain ⟨xs, n, -, -, -, hlen, hall⟩ := DataW.trod_struct Tryd.underlying23 hf
  match xs, hlen with
  | [y0, y1, y2, y3, y4, y5], _ =>
    have a0 := hall 0 _ rfl
    have a1 := hall 1 _ rfl
    have a2 := hall 2 _ rfl
    have a3 := hall 3 _ rfl
    have a4 := hall 4 _ rfl
    have a5 := hall 5 _ rfl
    simp [cells_int, Value.cells] at a0 a1 a2 a3 a4 a5
    obtain ⟨n0, rfl⟩ := int_cell a0
    obtain ⟨n1, rfl⟩ := int_cell a1
    obtain ⟨n2, rfl⟩ := int_cell a2
    obtain ⟨n3, rfl⟩ := int_cell a3
    obtain ⟨n4, rfl⟩ := int_cell a4
    obtain ⟨n5, rfl⟩ := int_cell a5
    exact ⟨[n0, n1, n2, n3, n4, n5], rfl, rfl⟩
end Go.Proofs.YtpmakkjcpoillaaDoor.ge

namespace Go.Proofs.YtpmakkjcpoillaaDoor.pa
open Go.ChangeShapes Go.WideShapes Go.ChangeAt Go.RowKit

theorem cells_bytes : Tryd.prog.cellsOf 28 = 1 := by kernel_rfl
/-- one cell that is read as a slice of bytes -/
theorem byt_cells {H : Type} {enc : TypeId × Value → H} {W : World} {fuel : Nat} {v : Value} {x : DataW H × List MemPlace}
    (hf : DataW.trod enc Tryd.prog W 0 (fun _ => true) true fuel 28 [v] = some x) : ∃ xs, Byt W v xs := by
  rcases open_ints Tryd.underlying28 Tryd.underlying5 cells_u8 hf with ⟨hcs, hx⟩ | ⟨a, len, cap, zs, hcs, _, hl, hm, hz, hx, hcell, hwz⟩
  · obtain rfl : v = .slice none 0 0 := by simpa using hcs
    exact ⟨[], Byt.nil W⟩
  · obtain rfl : v = .slice (some a) len cap := by simpa using hcs
    simp at hz
    have hlen : (zs.take len).length = len := by simp; omega
    have hgb : ∀ t, t < len → gb (zs.take len) t = zs.getD t 0 := fun t ht => by simp [gb, List.getD, ht]
    refine ⟨zs.take len, some a, cap, by rw [hlen], by omega, by simpa [maxLen] using hm, allB_mem fun x hx => bounds_u8 (hwz x (List.mem_of_mem_take hx)), (by intro h; cases h), fun hp => ?_⟩
    obtain ⟨b, off, rfl, hc⟩ := ints_at hcell (by omega)
    refine ⟨b, off, rfl, fun t ht => ?_⟩
    rw [hgb t (by omega)]
    exact hc t (by omega)

theorem cells_arr2 : Tryd.prog.cellsOf 29 = 2 := by kernel_rfl
/-- an argument that is an array of two slices of bytes -/
theorem pair_open {H : Type} {enc : TypeId × Value → H} {W : World} {base : Nat} {v : Value} {d : DataW H} {ps : List MemPlace}
    (ok : Value.okWide Tryd.prog W .any base 29 v) (h : DataW.Trod enc Tryd.prog W 0 (fun _ => true) true 29 v d ps) : ∃ v0 v1 xs ys, v = .agg #[v0, v1] ∧ Byt W v0 xs ∧ Byt W v1 ys := by
  simp only [Value.okWide, Tryd.underlying29] at ok
  obtain ⟨cs, rfl, h2, _⟩ := ok
  rw [cells_arr2] at h2
  obtain ⟨l⟩ := cs
  obtain ⟨c0, c1, rfl⟩ : ∃ c0 c1, l = [c0, c1] := by
    match l, h2 with
    | [c0, c1], _ => exact ⟨c0, c1, rfl⟩
  obtain ⟨fuel, hf⟩ := h
  obtain ⟨xs, m, rfl, hx, hcl, hxl, hall⟩ := DataW.trod_array Tryd.underlying29 hf
  have a0 := hall 0 (by omega)
  have a1 := hall 1 (by omega)
  rw [cells_bytes] at a0 a1
  obtain ⟨y0, y1, rfl⟩ : ∃ y0 y1, xs = [y0, y1] := by
    match xs, hxl with
    | [y0, y1], _ => exact ⟨y0, y1, rfl⟩
  simp [Value.cells] at a0 a1
  obtain ⟨xs0, b0⟩ := byt_cells a0
  obtain ⟨xs1, b1⟩ := byt_cells a1
  exact ⟨c0, c1, xs0, xs1, rfl, b0, b1⟩
end Go.Proofs.YtpmakkjcpoillaaDoor.pa
