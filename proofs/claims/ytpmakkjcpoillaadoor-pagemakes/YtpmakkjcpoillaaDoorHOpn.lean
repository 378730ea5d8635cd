/- What an argument that is a head holds; what the row's list of variables gives. No claim of its own. -/
import Derived.Test.YtpmakkjcpoillaaDoorHRead
import Derived.Test.YtpmakkjcpoillaaDoorLawG
namespace Go.Proofs.YtpmakkjcpoillaaDoor.he
open Go.ChangeShapes Go.WideShapes Go.ChangeAt Go.RowKit Go.Proofs.YtpmakkjcpoillaaDoor.fa
set_option maxRecDepth 20000

theorem own_cell {B : Nat} {w : World} {v : Value} {xs : List Int} {n : Nat} (h : Own B w v xs) (hl : xs.length = n) (hp : 0 < n) : ∃ g cap, v = .slice (some ⟨g, 0, none⟩) n cap ∧ n ≤ cap ∧ cap ≤ 9223372036854775807 ∧ ∀ i, i < n → w.cell? ⟨g, i, none⟩ = some (.int .u8 (gb xs i)) := by
  subst hl
  rcases h.2 with ⟨_, hn⟩ | ⟨g, cap, cur, rfl, hg, hh, hc, hm, hs, ht⟩
  · omega
  refine ⟨g, cap, rfl, hc, by simpa [maxLen] using hm, fun i hi => ?_⟩
  obtain ⟨g', cap', e, oc⟩ := own_row h hp
  cases e
  exact oc.cell hi

/-- what the row's list of variables gives: the table of sizes -/
theorem gTab : Tryd.prog.globalNamed "nepenthe/head.sizes" = some 0 := by kernel_rfl
theorem gTabType : (Tryd.prog.globals[0]?).map (·.type) = some 87 := by kernel_rfl
theorem cells_arr7i : Tryd.prog.cellsOf 87 = 7 := by kernel_rfl
theorem cells_int : Tryd.prog.cellsOf 3 = 1 := by kernel_rfl
theorem cells_u32 : Tryd.prog.cellsOf 24 = 1 := by kernel_rfl
theorem cells_u64 : Tryd.prog.cellsOf 25 = 1 := by kernel_rfl
theorem cells_head : Tryd.prog.cellsOf 27 = 6 := by kernel_rfl
theorem table {W : World} (h : laidMetH Tryd.prog [("nepenthe/head.sizes", Rows.laid_nepenthe_head_sizes)] W) : Tab W := by
  have t := Lib.tabIs_of_head (rest := []) (zs := [1, 1, 1, 1, 4, 8, 8]) (k := .i64) gTab gTabType Tryd.underlying87 Tryd.underlying3 cells_int cells_arr7i h
  intro i hi
  have := t.cell gTab i hi
  rw [this]
  rfl

/-- one cell that is read as a number -/
theorem num_cell {H : Type} {enc : TypeId × Value → H} {W : World} {fuel : Nat} {c : Value} {x : DataW H × List MemPlace} {t : TypeId} {k : IntKind} (ht : Tryd.prog.underlying t = some (.int k))
    (hf : DataW.trod enc Tryd.prog W 0 (fun _ => true) true fuel t [c] = some x) : ∃ n, c = .int k n ∧ (Lit.int k n).wf = true := by
  obtain ⟨y, hy, -, hw⟩ := DataW.trod_int ht hf
  exact ⟨y, by simpa using hy, hw⟩
/-- the bounds of a head's numbers -/
def Hb (l e t : Int) : Prop := (0 ≤ l ∧ l ≤ 4294967295) ∧ (0 ≤ e ∧ e ≤ 18446744073709551615) ∧ 0 ≤ t ∧ t ≤ 18446744073709551615
/-- an argument that is a head -/
theorem head_open {H : Type} {enc : TypeId × Value → H} {W : World} {base : Nat} {v : Value} {d : DataW H} {ps : List MemPlace}
    (ok : Value.okWide Tryd.prog W .any base 27 v) (h : DataW.Trod enc Tryd.prog W 0 (fun _ => true) true 27 v d ps) : ∃ k n c l e t, v = .agg (hv k n c l e t).toArray ∧ Hb l e t := by
  simp only [Value.okWide, Tryd.underlying27] at ok
  obtain ⟨cs, rfl, h2, _⟩ := ok
  rw [cells_head] at h2
  obtain ⟨l⟩ := cs
  obtain ⟨c0, c1, c2, c3, c4, c5, rfl⟩ : ∃ c0 c1 c2 c3 c4 c5, l = [c0, c1, c2, c3, c4, c5] := by
    match l, h2 with
    | [c0, c1, c2, c3, c4, c5], _ => exact ⟨c0, c1, c2, c3, c4, c5, rfl⟩
  obtain ⟨fuel, hf⟩ := h
  obtain ⟨xs, n, -, -, -, hlen, hall⟩ := DataW.trod_struct Tryd.underlying27 hf
  match xs, hlen with
  | [y0, y1, y2, y3, y4, y5], _ =>
    have a0 := hall 0 _ rfl
    have a1 := hall 1 _ rfl
    have a2 := hall 2 _ rfl
    have a3 := hall 3 _ rfl
    have a4 := hall 4 _ rfl
    have a5 := hall 5 _ rfl
    simp [cells_int, cells_u32, cells_u64, Value.cells] at a0 a1 a2 a3 a4 a5
    obtain ⟨n0, rfl, -⟩ := num_cell Tryd.underlying3 a0
    obtain ⟨n1, rfl, -⟩ := num_cell Tryd.underlying3 a1
    obtain ⟨n2, rfl, -⟩ := num_cell Tryd.underlying3 a2
    obtain ⟨n3, rfl, w3⟩ := num_cell Tryd.underlying24 a3
    obtain ⟨n4, rfl, w4⟩ := num_cell Tryd.underlying25 a4
    obtain ⟨n5, rfl, w5⟩ := num_cell Tryd.underlying25 a5
    exact ⟨n0, n1, n2, n3, n4, n5, rfl, bounds_u32 w3, bounds_u64 w4, bounds_u64 w5⟩
end Go.Proofs.YtpmakkjcpoillaaDoor.he
