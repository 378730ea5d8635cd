/- What arguments that are steps, blocks, pairs of numbers and lists of steps hold. No claim of its own. -/
import Derived.Test.YtnmofigidlmcaaaLawG
import Derived.Test.YtnmofigidlmcaaaELaw
import Derived.Deep.Slices
namespace Go.Proofs.Ytnmofigidlmcaaa.le
open Go.ChangeShapes Go.WideShapes Go.ChangeAt Go.RowKit Go.Proofs.Ytnmofigidlmcaaa.he
set_option maxRecDepth 20000

theorem cells_int : Try.prog.cellsOf 3 = 1 := by kernel_rfl
theorem cells_bool : Try.prog.cellsOf 4 = 1 := by kernel_rfl
theorem cells_step : Try.prog.cellsOf 33 = 3 := by kernel_rfl
theorem cells_lblk : Try.prog.cellsOf 39 = 9 := by kernel_rfl
theorem cells_arr2i : Try.prog.cellsOf 45 = 2 := by kernel_rfl
/-- a number of a signed word -/
def Wd (x : Int) : Prop := -9223372036854775808 ≤ x ∧ x ≤ 9223372036854775807
theorem int_cellE {H : Type} {enc : TypeId × Value → H} {W : World} {fuel : Nat} {c : Value} {x : DataW H × List MemPlace}
    (hf : DataW.trod enc Try.prog W 0 (fun _ => true) true fuel 3 [c] = some x) : ∃ n, c = .int .i64 n ∧ Wd n := by
  obtain ⟨y, hy, -, hw⟩ := DataW.trod_int Try.underlying3 hf
  exact ⟨y, by simpa using hy, bounds_i64 hw⟩
theorem bool_cellE {H : Type} {enc : TypeId × Value → H} {W : World} {fuel : Nat} {c : Value} {x : DataW H × List MemPlace}
    (hf : DataW.trod enc Try.prog W 0 (fun _ => true) true fuel 4 [c] = some x) : ∃ b, c = .bool b := by
  obtain ⟨y, hy, -⟩ := DataW.trod_bool Try.underlying4 hf
  exact ⟨y, by simpa using hy⟩

/-- an argument that is a step -/
theorem step_open {H : Type} {enc : TypeId × Value → H} {W : World} {base : Nat} {v : Value} {d : DataW H} {ps : List MemPlace}
    (ok : Value.okWide Try.prog W .any base 33 v) (h : DataW.Trod enc Try.prog W 0 (fun _ => true) true 33 v d ps) : ∃ kd b s, v = stp kd b s ∧ Wd kd ∧ Wd b ∧ Wd s := by
  simp only [Value.okWide, Try.underlying33] at ok
  obtain ⟨cs, rfl, h2, _⟩ := ok
  rw [cells_step] at h2
  obtain ⟨l⟩ := cs
  obtain ⟨c0, c1, c2, rfl⟩ : ∃ c0 c1 c2, l = [c0, c1, c2] := by
    match l, h2 with
    | [c0, c1, c2], _ => exact ⟨c0, c1, c2, rfl⟩
  obtain ⟨fuel, hf⟩ := h
  obtain ⟨xs, n, -, -, -, hlen, hall⟩ := DataW.trod_struct Try.underlying33 hf
  match xs, hlen with
  | [y0, y1, y2], _ =>
    have a0 := hall 0 _ rfl
    have a1 := hall 1 _ rfl
    have a2 := hall 2 _ rfl
    simp [cells_int, Value.cells] at a0 a1 a2
    obtain ⟨n0, rfl, w0⟩ := int_cellE a0
    obtain ⟨n1, rfl, w1⟩ := int_cellE a1
    obtain ⟨n2, rfl, w2⟩ := int_cellE a2
    exact ⟨n0, n1, n2, rfl, w0, w1, w2⟩

/-- an argument that is a block -/
theorem lblk_open {H : Type} {enc : TypeId × Value → H} {W : World} {base : Nat} {v : Value} {d : DataW H} {ps : List MemPlace}
    (ok : Value.okWide Try.prog W .any base 39 v) (h : DataW.Trod enc Try.prog W 0 (fun _ => true) true 39 v d ps) : ∃ x : Bk, v = .agg x.cs.toArray := by
  simp only [Value.okWide, Try.underlying39] at ok
  obtain ⟨cs, rfl, h2, _⟩ := ok
  rw [cells_lblk] at h2
  obtain ⟨l⟩ := cs
  obtain ⟨c0, c1, c2, c3, c4, c5, c6, c7, c8, rfl⟩ : ∃ c0 c1 c2 c3 c4 c5 c6 c7 c8, l = [c0, c1, c2, c3, c4, c5, c6, c7, c8] := by
    match l, h2 with
    | [c0, c1, c2, c3, c4, c5, c6, c7, c8], _ => exact ⟨c0, c1, c2, c3, c4, c5, c6, c7, c8, rfl⟩
  obtain ⟨fuel, hf⟩ := h
  obtain ⟨xs, n, -, -, -, hlen, hall⟩ := DataW.trod_struct Try.underlying39 hf
  match xs, hlen with
  | [y0, y1, y2, y3, y4, y5, y6, y7, y8], _ =>
    have a0 := hall 0 _ rfl
    have a1 := hall 1 _ rfl
    have a2 := hall 2 _ rfl
    have a3 := hall 3 _ rfl
    have a4 := hall 4 _ rfl
    have a5 := hall 5 _ rfl
    have a6 := hall 6 _ rfl
    have a7 := hall 7 _ rfl
    have a8 := hall 8 _ rfl
    simp [cells_int, cells_bool, Value.cells] at a0 a1 a2 a3 a4 a5 a6 a7 a8
    obtain ⟨n0, rfl, -⟩ := int_cellE a0
    obtain ⟨n1, rfl, -⟩ := int_cellE a1
    obtain ⟨n2, rfl, -⟩ := int_cellE a2
    obtain ⟨n3, rfl, -⟩ := int_cellE a3
    obtain ⟨n4, rfl⟩ := bool_cellE a4
    obtain ⟨n5, rfl⟩ := bool_cellE a5
    obtain ⟨n6, rfl⟩ := bool_cellE a6
    obtain ⟨n7, rfl⟩ := bool_cellE a7
    obtain ⟨n8, rfl⟩ := bool_cellE a8
    exact ⟨⟨n0, n1, n2, n3, n4, n5, n6, n7, n8⟩, rfl⟩

/-- an argument that is a pair of numbers -/
theorem pair2_open {H : Type} {enc : TypeId × Value → H} {W : World} {base : Nat} {v : Value} {d : DataW H} {ps : List MemPlace}
    (ok : Value.okWide Try.prog W .any base 45 v) (h : DataW.Trod enc Try.prog W 0 (fun _ => true) true 45 v d ps) : ∃ a b, v = .agg #[.int .i64 a, .int .i64 b] := by
  simp only [Value.okWide, Try.underlying45] at ok
  obtain ⟨cs, rfl, h2, _⟩ := ok
  rw [cells_arr2i] at h2
  obtain ⟨l⟩ := cs
  obtain ⟨c0, c1, rfl⟩ : ∃ c0 c1, l = [c0, c1] := by
    match l, h2 with
    | [c0, c1], _ => exact ⟨c0, c1, rfl⟩
  obtain ⟨fuel, hf⟩ := h
  obtain ⟨xs, m, rfl, hx, hcl, hxl, hall⟩ := DataW.trod_array Try.underlying45 hf
  match xs, hxl with
  | [y0, y1], _ =>
    have a0 := hall 0 (by omega)
    have a1 := hall 1 (by omega)
    simp [cells_int, Value.cells] at a0 a1
    obtain ⟨n0, rfl, -⟩ := int_cellE a0
    obtain ⟨n1, rfl, -⟩ := int_cellE a1
    exact ⟨n0, n1, rfl⟩

/-- the slice v holds m steps -/
def Sts (w : World) (v : Value) (m : Nat) (q : Nat → Int × Int × Int) : Prop :=
  ∃ ao cap, v = .slice ao m cap ∧ m ≤ 9223372036854775807 ∧ (∀ t, t < m → Wd (q t).1 ∧ Wd (q t).2.1 ∧ Wd (q t).2.2) ∧ (0 < m → ∃ b off, ao = some ⟨b, off, none⟩ ∧ ∀ t, t < m → w.rangeAt b (off + t * 3) (stl (q t).1 (q t).2.1 (q t).2.2))
theorem Sts.below {w w' : World} {v : Value} {m : Nat} {q : Nat → Int × Int × Int} (h : Sts w v m q) (hb : Below w.heap.size w w') : Sts w' v m q := by
  obtain ⟨ao, cap, rfl, h1, h2, h3⟩ := h
  refine ⟨ao, cap, rfl, h1, h2, fun hp => ?_⟩
  obtain ⟨b, off, rfl, hc⟩ := h3 hp
  exact ⟨b, off, rfl, fun t ht => range_heap (hc t ht) (hb.block b (range_lt (hc t ht) (Nat.succ_pos _)))⟩

set_option maxRecDepth 20000 in
/-- an argument that is a list of steps -/
theorem steps_open {H : Type} {enc : TypeId × Value → H} {W : World} {base : Nat} {v : Value} {d : DataW H} {ps : List MemPlace}
    (ok : Value.okWide Try.prog W .any base 22 v) (h : DataW.Trod enc Try.prog W 0 (fun _ => true) true 22 v d ps) : ∃ m q, Sts W v m q := by
  obtain ⟨a0, len, cap, rfl⟩ := okWide_slice Try.underlying22 ok
  obtain ⟨fuel, hf⟩ := h
  rcases Go.Deep.open_slice Try.underlying22 hf with ⟨hcs, hx⟩ | ⟨a, len', cap', m, n, D, Pl, hcs, _, hl, hm, hmm, hx, hr⟩
  · simp [Value.cells] at hcs
    obtain ⟨rfl, rfl, rfl⟩ := hcs
    exact ⟨0, fun _ => (0, 0, 0), none, 0, rfl, by simp, fun t ht => by simp at ht, fun h => by simp at h⟩
  · simp [Value.cells] at hcs
    obtain ⟨rfl, rfl, rfl⟩ := hcs
    simp at hmm
    subst hmm
    have each : ∀ i, i < len → ∃ q : Int × Int × Int, (W.cell? (a.add (i * 3)) = some (.int .i64 q.1) ∧ W.cell? (a.add (i * 3 + 1)) = some (.int .i64 q.2.1) ∧ W.cell? (a.add (i * 3 + 2)) = some (.int .i64 q.2.2)) ∧ Wd q.1 ∧ Wd q.2.1 ∧ Wd q.2.2 := by
      intro i hi
      obtain ⟨cs', h1, h2⟩ := hr i (by omega)
      rw [cells_step] at h1
      obtain ⟨_, hlen, hcell⟩ := World.cells?_some h1
      obtain ⟨xs, k, hk, hxy, _, hxl, hff⟩ := DataW.trod_struct Try.underlying33 h2
      match xs, hxl, cs', hlen with
      | [y0, y1, y2], _, [v0, v1, v2], _ =>
        have g0 := hff 0 _ rfl
        have g1 := hff 1 _ rfl
        have g2 := hff 2 _ rfl
        simp [cells_int] at g0 g1 g2
        have e0 := hcell 0 (by omega)
        have e1 := hcell 1 (by omega)
        have e2 := hcell 2 (by omega)
        rw [Go.Deep.add_add] at e0 e1 e2
        obtain ⟨x0, rfl, w0⟩ := int_cellE g0
        obtain ⟨x1, rfl, w1⟩ := int_cellE g1
        obtain ⟨x2, rfl, w2⟩ := int_cellE g2
        exact ⟨(x0, x1, x2), ⟨by simpa using e0, by simpa using e1, by simpa using e2⟩, w0, w1, w2⟩
    obtain ⟨q, hq⟩ := Go.Deep.choose_lt each
    refine ⟨len, q, some a, m, rfl, by simp only [maxLen] at hm; omega, fun t ht => (hq t ht).2, fun hp => ?_⟩
    obtain ⟨b, off, spot⟩ := a
    have hspot : spot = none := by simpa [Addr.add] using World.cell?_spot (hq 0 hp).1.1
    subst hspot
    refine ⟨b, off, rfl, fun t ht => ?_⟩
    have := (hq t ht).1
    simp only [Addr.add_mid] at this
    intro j v hv
    have hj : j < 3 := (List.getElem?_eq_some_iff.1 hv).1
    have : j = 0 ∨ j = 1 ∨ j = 2 := by omega
    rcases this with rfl | rfl | rfl
    · cases hv; exact this.1
    · cases hv; exact this.2.1
    · cases hv; exact this.2.2
end Go.Proofs.Ytnmofigidlmcaaa.le
