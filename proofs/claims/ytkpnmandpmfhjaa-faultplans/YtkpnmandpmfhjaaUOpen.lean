/- What an argument that is a list of faults holds. No claim of its own. -/
import Derived.Test.YtkpnmandpmfhjaaLawG
import Derived.Test.YtkpnmandpmfhjaaUPlan
import Derived.Deep.Slices
namespace Go.Proofs.Ytkpnmandpmfhjaa.fa
open Go.ChangeShapes Go.WideShapes Go.ChangeAt Go.RowKit

theorem cells_int : Try.prog.cellsOf 3 = 1 := by kernel_rfl
theorem cells_bool : Try.prog.cellsOf 4 = 1 := by kernel_rfl
theorem cells_bytes : Try.prog.cellsOf 22 = 1 := by kernel_rfl
theorem cells_fault : Try.prog.cellsOf 37 = 3 := by kernel_rfl
theorem bytes_u8 : Try.prog.bytesOf 5 = 1 := by kernel_rfl
theorem weightsAll_mem {H : Type} {P : Program} {e : TypeId} {n : Nat} : ∀ {l : List (DataW H)} {d : DataW H}, d ∈ l → n ∈ d.weights P e → n ∈ DataW.weightsAll P e l
  | _ :: _, _, h, hn => by
    simp only [DataW.weightsAll, List.mem_append]
    rcases List.mem_cons.1 h with rfl | h
    · exact Or.inl hn
    · exact Or.inr (weightsAll_mem h hn)

/-- one cell that is read as bytes -/
theorem byt_cell {H : Type} {enc : TypeId × Value → H} {W : World} {fuel : Nat} {v : Value} {x : DataW H × List MemPlace} (hf : DataW.trod enc Try.prog W 0 (fun _ => true) true fuel 22 [v] = some x) :
    ∃ xs, Byt W v xs ∧ ((∀ n ∈ x.1.weights Try.prog 22, n ≤ reachBytes) → xs.length ≤ 140737488355328) := by
  rcases open_ints Try.underlying22 Try.underlying5 cells_u8 hf with ⟨hcs, hx⟩ | ⟨a, len, cap, zs, hcs, _, hl, hm, hz, hx, hcell, hwz⟩
  · simp at hcs
    subst hcs
    exact ⟨[], Byt.nil W, fun _ => by simp⟩
  · simp at hcs
    subst hcs
    simp at hz
    have hlen : (zs.take len).length = len := by simp; omega
    have hgb : ∀ t, t < len → gb (zs.take len) t = zs.getD t 0 := fun t ht => by simp [gb, List.getD, ht]
    refine ⟨zs.take len, ⟨some a, cap, by rw [hlen], by omega, by simpa [maxLen] using hm, allB_mem fun x hx => bounds_u8 (hwz x (List.mem_of_mem_take hx)), (by intro h; cases h), fun hp => ?_⟩, fun hw => ?_⟩
    · obtain ⟨b, off, rfl, hc⟩ := ints_at hcell (by omega)
      refine ⟨b, off, rfl, fun t ht => ?_⟩
      rw [hgb t (by omega)]
      exact hc t (by omega)
    · have := hw cap (by
        rw [hx]
        simp only [DataW.weights, Try.underlying22, bytes_u8]
        have : ((lits .u8 (zs.take len) : List (DataW H)).length + (lits .u8 (zs.drop len) : List (DataW H)).length) * 1 = cap := by
          simp [lits]; omega
        rw [this]
        exact List.mem_cons_self)
      simp only [reachBytes] at this
      omega

/-- an argument that is a list of faults -/
theorem faults_open {H : Type} {enc : TypeId × Value → H} {W : World} {base : Nat} {v : Value} {d : DataW H} {ps : List MemPlace}
    (ok : Value.okWide Try.prog W .any base 33 v) (h : DataW.Trod enc Try.prog W 0 (fun _ => true) true 33 v d ps) (hw : ∀ n ∈ d.weights Try.prog 33, n ≤ reachBytes) : ∃ fs ms, Fls W v fs ∧ Mks W fs ms := by
  obtain ⟨a0, len, cap, rfl⟩ := okWide_slice Try.underlying33 ok
  obtain ⟨fuel, hf⟩ := h
  rcases Go.Deep.open_slice Try.underlying33 hf with ⟨hcs, hx⟩ | ⟨a, len', cap', m, n, D, Pl, hcs, _, hl, hm, hmm, hx, hr⟩
  · simp [Value.cells] at hcs
    obtain ⟨rfl, rfl, rfl⟩ := hcs
    exact ⟨[], fun _ => [], ⟨none, 0, rfl, by simp, by simp, fun _ => rfl, fun h => by simp at h⟩, fun t ht => by simp at ht⟩
  · simp [Value.cells] at hcs
    obtain ⟨rfl, rfl, rfl⟩ := hcs
    simp at hmm
    subst hmm
    have hd : d = _ := (Prod.mk.inj hx).1
    have each : ∀ i, i < len → ∃ q : (Int × Bool × Value) × List Int, (W.cell? (a.add (i * 3)) = some (.int .i64 q.1.1) ∧ W.cell? (a.add (i * 3 + 1)) = some (.bool q.1.2.1) ∧ W.cell? (a.add (i * 3 + 2)) = some q.1.2.2) ∧ Byt W q.1.2.2 q.2 ∧ q.2.length ≤ 140737488355328 := by
      intro i hi
      obtain ⟨cs', h1, h2⟩ := hr i (by omega)
      rw [cells_fault] at h1
      obtain ⟨_, hlen, hcell⟩ := World.cells?_some h1
      obtain ⟨xs, k, hk, hxy, _, hxl, hff⟩ := DataW.trod_struct Try.underlying37 h2
      match xs, hxl, cs', hlen with
      | [y0, y1, y2], _, [v0, v1, v2], _ =>
        have g0 := hff 0 _ rfl
        have g1 := hff 1 _ rfl
        have g2 := hff 2 _ rfl
        simp [cells_int, cells_bool, cells_bytes] at g0 g1 g2
        have e0 := hcell 0 (by omega)
        have e1 := hcell 1 (by omega)
        have e2 := hcell 2 (by omega)
        rw [Go.Deep.add_add] at e0 e1 e2
        obtain ⟨x, hx0, -⟩ := DataW.trod_int Try.underlying3 g0
        obtain ⟨c, hx1, -⟩ := DataW.trod_bool Try.underlying4 g1
        simp at hx0 hx1
        subst hx0
        subst hx1
        obtain ⟨zs, hz, hzb⟩ := byt_cell g2
        refine ⟨((x, c, v2), zs), ⟨by simpa using e0, by simpa using e1, by simpa using e2⟩, hz, hzb fun w' hw' => hw w' ?_⟩
        rw [hd]
        simp only [DataW.weights, Try.underlying33]
        refine List.mem_cons_of_mem _ (List.mem_append_left _ (weightsAll_mem (List.mem_map.2 ⟨i, List.mem_range.2 hi, rfl⟩) ?_))
        have hDi : D i = .agg [y0.1, y1.1, y2.1] := by
          have := (Prod.mk.inj hxy).1
          simpa using this
        rw [hDi]
        simp only [DataW.weights, Try.underlying37, List.map_cons, List.map_nil, DataW.weightsEach, List.append_nil]
        exact List.mem_append_right _ (List.mem_append_right _ hw')
    obtain ⟨q, hq⟩ := Go.Deep.choose_lt each
    have hlen : ((List.range len).map fun i => (q i).1).length = len := by simp
    have hgf : ∀ t, t < len → gf ((List.range len).map fun i => (q i).1) t = (q t).1 := fun t ht => by simp [gf, List.getD, ht]
    refine ⟨(List.range len).map fun i => (q i).1, fun i => (q i).2, ⟨some a, m, by rw [hlen], by omega, by simpa [maxLen] using hm, (by intro e; cases e), fun hp => ?_⟩, fun t ht => ?_⟩
    · rw [hlen] at hp ⊢
      obtain ⟨b, off, spot⟩ := a
      have hspot : spot = none := by simpa [Addr.add] using World.cell?_spot (hq 0 hp).1.1
      subst hspot
      refine ⟨b, off, rfl, fun t ht => ?_⟩
      rw [hgf t ht]
      have := (hq t ht).1
      simp only [Addr.add_mid] at this
      exact ⟨this.1, this.2.1, this.2.2⟩
    · rw [hlen] at ht
      rw [hgf t ht]
      exact (hq t ht).2
end Go.Proofs.Ytkpnmandpmfhjaa.fa
