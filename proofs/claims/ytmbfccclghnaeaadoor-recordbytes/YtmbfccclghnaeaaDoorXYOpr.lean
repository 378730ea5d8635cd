/- What an argument that is a record holds. No claim of its own. -/
import Derived.Test.YtmbfccclghnaeaaDoorPackI
import Derived.Laws.StructEq
namespace Go.Proofs.YtmbfccclghnaeaaDoor.re
open Go.ChangeShapes Go.WideShapes Go.ChangeAt Go.RowKit Go.Proofs.YtmbfccclghnaeaaDoor.fa Go.Proofs.YtmbfccclghnaeaaDoor.he Go.Proofs.YtmbfccclghnaeaaDoor.so
set_option maxRecDepth 20000

theorem bytes_u8 : Tryd.prog.bytesOf 5 = 1 := by kernel_rfl
/-- one cell that is read as bytes, and how many they may be -/
theorem byt_cellW {H : Type} {enc : TypeId × Value → H} {W : World} {fuel : Nat} {v : Value} {x : DataW H × List MemPlace} (hf : DataW.trod enc Tryd.prog W 0 (fun _ => true) true fuel 23 [v] = some x) :
    ∃ xs, Byt W v xs ∧ ((∀ n ∈ x.1.weights Tryd.prog 23, n ≤ reachBytes) → xs.length ≤ 140737488355328) := by
  rcases open_ints Tryd.underlying23 Tryd.underlying5 cells_u8 hf with ⟨hcs, hx⟩ | ⟨a, len, cap, zs, hcs, _, hl, hm, hz, hx, hcell, hwz⟩
  · simp at hcs
    subst hcs
    exact ⟨[], Byt.nil W, fun _ => by simp⟩
  · simp at hcs
    subst hcs
    simp at hz
    have hlen : (zs.take len).length = len := by simp; omega
    have hgb : ∀ t, t < len → gb (zs.take len) t = zs.getD t 0 := fun t ht => by simp [gb, List.getD, ht]
    refine ⟨zs.take len, ⟨some a, cap, by rw [hlen], by omega, by simpa [maxLen] using hm, allB_mem fun x hx => bounds_u8 (hwz x (List.mem_of_mem_take hx)), (by intro h; cases h), fun hp => ?_⟩, fun hw => ?_⟩
    · obtain ⟨b, off, rfl, hc⟩ := ints_at hcell (by omega)
      refine ⟨b, off, rfl, fun t ht => ?_⟩
      rw [hgb t (by omega)]
      exact hc t (by omega)
    · have := hw cap (by
        rw [hx]
        simp only [DataW.weights, Tryd.underlying23, bytes_u8]
        have : ((lits .u8 (zs.take len) : List (DataW H)).length + (lits .u8 (zs.drop len) : List (DataW H)).length) * 1 = cap := by
          simp [lits]; omega
        rw [this]
        exact List.mem_cons_self)
      unfold reachBytes at this
      omega
theorem slot_cellsW {H : Type} {enc : TypeId × Value → H} {W : World} {fuel : Nat} {c0 c1 c2 c3 c4 : Value} {x : DataW H × List MemPlace}
    (hf : DataW.trod enc Tryd.prog W 0 (fun _ => true) true fuel 25 [c0, c1, c2, c3, c4] = some x) : ∃ s : Sc, [c0, c1, c2, c3, c4] = s.cs ∧ (Sb s.n s.e s.t ∧ Byt W s.v s.xs) ∧ ((∀ n ∈ x.1.weights Tryd.prog 25, n ≤ reachBytes) → s.xs.length ≤ 140737488355328) := by
  obtain ⟨xs, n, -, hxy, -, hlen, hall⟩ := DataW.trod_struct Tryd.underlying25 hf
  match xs, hlen with
  | [y0, y1, y2, y3, y4], _ =>
    have a0 := hall 0 _ rfl
    have a1 := hall 1 _ rfl
    have a2 := hall 2 _ rfl
    have a3 := hall 3 _ rfl
    have a4 := hall 4 _ rfl
    simp [cells_int, cells_u64, cells_bytes, cells_bool] at a0 a1 a2 a3 a4
    obtain ⟨b0, hb0, -⟩ := DataW.trod_bool Tryd.underlying4 a0
    obtain rfl : c0 = .bool b0 := by simpa using hb0
    obtain ⟨n1, rfl, w1⟩ := num_cell Tryd.underlying3 a1
    obtain ⟨n2, rfl, w2⟩ := num_cell Tryd.underlying22 a2
    obtain ⟨n3, rfl, w3⟩ := num_cell Tryd.underlying22 a3
    obtain ⟨zs, b4, l4⟩ := byt_cellW a4
    refine ⟨⟨b0, n1, n2, n3, c4, zs⟩, rfl, ⟨⟨bounds_i64 w1, bounds_u64 w2, bounds_u64 w3⟩, b4⟩, fun hw => l4 fun m hm => hw m ?_⟩
    have hD : x.1 = .agg [y0.1, y1.1, y2.1, y3.1, y4.1] := by rw [hxy]; simp
    rw [hD]
    simp only [DataW.weights, Tryd.underlying25, List.map_cons, List.map_nil, DataW.weightsEach, List.append_nil]
    exact List.mem_append_right _ (List.mem_append_right _ (List.mem_append_right _ (List.mem_append_right _ hm)))
/-- an argument that is a record -/
theorem record_open {H : Type} {enc : TypeId × Value → H} {W : World} {base : Nat} {v : Value} {d : DataW H} {ps : List MemPlace}
    (ok : Value.okWide Tryd.prog W .any base 28 v) (h : DataW.Trod enc Tryd.prog W 0 (fun _ => true) true 28 v d ps) (hw : ∀ n ∈ d.weights Tryd.prog 28, n ≤ reachBytes) :
    ∃ g p b a c al cl S, v = .agg (rv g p a b c S).toArray ∧ Rin W g p b a c al cl S ∧ al.length ≤ 140737488355328 ∧ cl.length ≤ 140737488355328 ∧ ∀ k, k < 4 → (S k).xs.length ≤ 140737488355328 := by
  simp only [Value.okWide, Tryd.underlying28] at ok
  obtain ⟨cs, rfl, h2, _⟩ := ok
  rw [cells_record] at h2
  obtain ⟨l⟩ := cs
  match l, h2 with
  | [c0, c1, c2, c3, c4, d0, d1, d2, d3, d4, e0, e1, e2, e3, e4, f0, f1, f2, f3, f4, g0, g1, g2, g3, g4], _ =>
  obtain ⟨fuel, hf⟩ := h
  obtain ⟨xs, n, -, hxy, -, hlen, hall⟩ := DataW.trod_struct Tryd.underlying28 hf
  match xs, hlen with
  | [y0, y1, y2, y3, y4, y5], _ =>
    have a0 := hall 0 _ rfl
    have a1 := hall 1 _ rfl
    have a2 := hall 2 _ rfl
    have a3 := hall 3 _ rfl
    have a4 := hall 4 _ rfl
    have a5 := hall 5 _ rfl
    simp [cells_slots, cells_u64, cells_bytes, Value.cells] at a0 a1 a2 a3 a4 a5
    obtain ⟨n0, rfl, w0⟩ := num_cell Tryd.underlying22 a0
    obtain ⟨n1, rfl, w1⟩ := num_cell Tryd.underlying22 a1
    obtain ⟨n3, rfl, w3⟩ := num_cell Tryd.underlying22 a3
    obtain ⟨al, b2, l2⟩ := byt_cellW a2
    obtain ⟨cl, b4, l4⟩ := byt_cellW a4
    obtain ⟨zs, m, rfl, hz, hcl, hzl, hza⟩ := DataW.trod_array Tryd.underlying26 a5
    match zs, hzl with
    | [z0, z1, z2, z3], _ =>
      have s0 := hza 0 (by omega)
      have s1 := hza 1 (by omega)
      have s2 := hza 2 (by omega)
      have s3 := hza 3 (by omega)
      rw [cells_slot] at s0 s1 s2 s3
      simp at s0 s1 s2 s3
      obtain ⟨t0, q0, r0, m0⟩ := slot_cellsW s0
      obtain ⟨t1, q1, r1, m1⟩ := slot_cellsW s1
      obtain ⟨t2, q2, r2, m2⟩ := slot_cellsW s2
      obtain ⟨t3, q3, r3, m3⟩ := slot_cellsW s3
      have hD : d = .agg [y0.1, y1.1, y2.1, y3.1, y4.1, y5.1] := by
        have := (Prod.mk.inj hxy).1
        simpa using this
      have hE : y5.1 = .agg [z0.1, z1.1, z2.1, z3.1] := by rw [hz]; simp
      have hW : ∀ j, (j ∈ y2.1.weights Tryd.prog 23 ∨ j ∈ y4.1.weights Tryd.prog 23 ∨ j ∈ y5.1.weights Tryd.prog 26) → j ≤ reachBytes := fun j hj => hw j (by
        rw [hD]
        simp only [DataW.weights, Tryd.underlying28, List.map_cons, List.map_nil, DataW.weightsEach, List.append_nil, List.mem_append]
        rcases hj with hj | hj | hj
        · exact .inr (.inr (.inl hj))
        · exact .inr (.inr (.inr (.inr (.inl hj))))
        · exact .inr (.inr (.inr (.inr (.inr hj)))))
      have hV : ∀ j, (j ∈ z0.1.weights Tryd.prog 25 ∨ j ∈ z1.1.weights Tryd.prog 25 ∨ j ∈ z2.1.weights Tryd.prog 25 ∨ j ∈ z3.1.weights Tryd.prog 25) → j ≤ reachBytes := fun j hj => hW j (.inr (.inr (by
        rw [hE]
        simp only [DataW.weights, Tryd.underlying26, DataW.weightsAll, List.append_nil, List.mem_append]
        exact hj)))
      refine ⟨n0, n1, n3, c2, c4, al, cl, fun k => if k = 0 then t0 else if k = 1 then t1 else if k = 2 then t2 else t3, ?_, ⟨⟨bounds_u64 w0, bounds_u64 w1, bounds_u64 w3⟩, b2, b4, four r0 r1 r2 r3⟩, l2 fun j hj => hW j (.inl hj), l4 fun j hj => hW j (.inr (.inl hj)), four (m0 fun j hj => hV j (.inl hj)) (m1 fun j hj => hV j (.inr (.inl hj))) (m2 fun j hj => hV j (.inr (.inr (.inl hj)))) (m3 fun j hj => hV j (.inr (.inr (.inr hj))))⟩
      have e : ∀ k : Nat → Sc, k 0 = t0 → k 1 = t1 → k 2 = t2 → k 3 = t3 → rv n0 n1 c2 n3 c4 k = Value.int .u64 n0 :: .int .u64 n1 :: c2 :: .int .u64 n3 :: c4 :: ([d0, d1, d2, d3, d4] ++ ([e0, e1, e2, e3, e4] ++ ([f0, f1, f2, f3, f4] ++ [g0, g1, g2, g3, g4]))) := fun k i0 i1 i2 i3 => by
        unfold rv sls
        rw [i0, i1, i2, i3, q0, q1, q2, q3]
      rw [e _ rfl rfl rfl rfl]
      rfl
end Go.Proofs.YtmbfccclghnaeaaDoor.re
