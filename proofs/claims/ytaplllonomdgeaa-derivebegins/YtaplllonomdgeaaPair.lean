/- What an argument that is an array of two slices of bytes holds. No claim of its own. -/
import Derived.Test.YtaplllonomdgeaaLaw3
namespace Go.Proofs.Ytaplllonomdgeaa
open Go.ChangeShapes Go.WideShapes Go.ChangeAt Go.RowKit

/-- one cell that is read as a slice of bytes -/
theorem byt_cells {H : Type} {enc : TypeId × Value → H} {W : World} {fuel : Nat} {v : Value} {x : DataW H × List MemPlace}
    (hf : DataW.trod enc Try.prog W 0 (fun _ => true) true fuel 22 [v] = some x) : ∃ xs, Byt W v xs := by
  rcases open_ints Try.underlying22 Try.underlying5 cells_u8 hf with ⟨hcs, hx⟩ | ⟨a, len, cap, zs, hcs, _, hl, hm, hz, hx, hcell, hwz⟩
  · obtain rfl : v = .slice none 0 0 := by simpa using hcs
    exact ⟨[], Byt.nil W⟩
  · obtain rfl : v = .slice (some a) len cap := by simpa using hcs
    simp at hz
    have hlen : (zs.take len).length = len := by simp; omega
    have hgb : ∀ t, t < len → gb (zs.take len) t = zs.getD t 0 := fun t ht => by simp [gb, List.getD, ht]
    refine ⟨zs.take len, some a, cap, by rw [hlen], by omega, by simpa [maxLen] using hm, allB_mem fun x hx => bounds_u8 (hwz x (List.mem_of_mem_take hx)), (by intro h; cases h), fun hp => ?_⟩
    obtain ⟨b, off, rfl, hc⟩ := ints_at hcell (by omega)
    refine ⟨b, off, rfl, fun t ht => ?_⟩
    rw [hgb t (by omega)]
    exact hc t (by omega)

theorem cells_arr2 : Try.prog.cellsOf 23 = 2 := by kernel_rfl
/-- an argument that is an array of two slices of bytes -/
theorem pair_open {H : Type} {enc : TypeId × Value → H} {W : World} {base : Nat} {v : Value} {d : DataW H} {ps : List MemPlace}
    (ok : Value.okWide Try.prog W .any base 23 v) (h : DataW.Trod enc Try.prog W 0 (fun _ => true) true 23 v d ps) : ∃ v0 v1 xs ys, v = .agg #[v0, v1] ∧ Byt W v0 xs ∧ Byt W v1 ys := by
  simp only [Value.okWide, Try.underlying23] at ok
  obtain ⟨cs, rfl, h2, _⟩ := ok
  rw [cells_arr2] at h2
  obtain ⟨l⟩ := cs
  obtain ⟨c0, c1, rfl⟩ : ∃ c0 c1, l = [c0, c1] := by
    match l, h2 with
    | [c0, c1], _ => exact ⟨c0, c1, rfl⟩
  obtain ⟨fuel, hf⟩ := h
  obtain ⟨xs, m, rfl, hx, hcl, hxl, hall⟩ := DataW.trod_array Try.underlying23 hf
  have a0 := hall 0 (by omega)
  have a1 := hall 1 (by omega)
  rw [cells_bytes] at a0 a1
  obtain ⟨y0, y1, rfl⟩ : ∃ y0 y1, xs = [y0, y1] := by
    match xs, hxl with
    | [y0, y1], _ => exact ⟨y0, y1, rfl⟩
  simp [Value.cells] at a0 a1
  obtain ⟨xs0, b0⟩ := byt_cells a0
  obtain ⟨xs1, b1⟩ := byt_cells a1
  exact ⟨c0, c1, xs0, xs1, rfl, b0, b1⟩
end Go.Proofs.Ytaplllonomdgeaa
