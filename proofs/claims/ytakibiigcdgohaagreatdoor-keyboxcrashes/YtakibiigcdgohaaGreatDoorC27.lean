/- Parts of the proof: what KeyboxCrashes reaches. No claim of its own. -/
import Derived.WalkKit
import Derived.WalkSmall
import Derived.ProofKit
import Derived.OpenShut
import Derived.BigQuiet
import Derived.Deep.QuietTactic
import Derived.Laws.BitsAllLaws
import Derived.Deep.WholeRow
import Derived.Deep.MidRow
import Derived.Laws.StructEq
import Derived.Deep.DeepHandedRow
import Derived.Lib.LaidTab
import Derived.Deep.Matrix
import Derived.Deep.Slices
import Derived.Deep.RegionHeld3
import Derived.Laws.AppendOwnNone
import Derived.Lib.SliceRun
import Derived.Lib.AppendZeros
import Derived.Deep.DeepCutAuto
import Derived.Test.YtakibiigcdgohaaGreatDoorC00
import Derived.Test.YtakibiigcdgohaaGreatDoorC01
import Derived.Test.YtakibiigcdgohaaGreatDoorC02
import Derived.Test.YtakibiigcdgohaaGreatDoorC03
import Derived.Test.YtakibiigcdgohaaGreatDoorC09
import Derived.Test.YtakibiigcdgohaaGreatDoorC10
import Derived.Test.YtakibiigcdgohaaGreatDoorC11
import Derived.Test.YtakibiigcdgohaaGreatDoorC12
set_option maxHeartbeats 8000000
namespace Go.Proofs.YtakibiigcdgohaaGreatDoor
open Go.ChangeShapes Go.WideShapes Go.ChangeAt Go.RowKit
set_option maxRecDepth 20000
theorem arr_open {H : Type} {enc : TypeId × Value → H} {W : World} {base : Nat} {v : Value} {d : DataW H} {ps : List MemPlace} {t : TypeId} {n : Nat} (hu : Tryz.prog.underlying t = some (.array n 5)) (hcn : Tryz.prog.cellsOf t = n)
    (ok : Value.okWide Tryz.prog W .any base t v) (h : DataW.Trod enc Tryz.prog W 0 (fun _ => true) true t v d ps) : ∃ l : List Nat, v = .agg (l.map fun x : Nat => Value.int .u8 (x : Int)).toArray ∧ l.length = n ∧ ∀ x ∈ l, x < 256 := by
  simp only [Value.okWide, hu] at ok
  obtain ⟨cs, rfl, h2, _⟩ := ok
  rw [hcn] at h2
  obtain ⟨l⟩ := cs
  obtain ⟨fuel, hf⟩ := h
  obtain ⟨xs, m, rfl, hx, hcl, hxl, hall⟩ := DataW.trod_array hu hf
  have h2' : l.length = n := by simpa using h2
  have key : ∀ c ∈ l, ∃ x : Nat, c = .int .u8 (x : Int) ∧ x < 256 := by
    intro c hc
    obtain ⟨i, hi, rfl⟩ := List.getElem_of_mem hc
    have a0 := hall i (by omega)
    rw [cells_u8, List.getElem?_eq_getElem (by omega)] at a0
    have e : ((Value.agg ⟨l⟩).cells.toList.drop (i * 1)).take 1 = [l[i]] := by
      show (l.drop (i * 1)).take 1 = [l[i]]
      rw [Nat.mul_one, List.drop_eq_getElem_cons hi]; rfl
    rw [e] at a0
    obtain ⟨y, hy, -, hw⟩ := DataW.trod_int Tryz.underlying5 a0
    have hb := bounds_u8 hw
    refine ⟨y.toNat, ?_, by omega⟩
    rw [show ((y.toNat : Nat) : Int) = y by omega]
    simpa using hy
  clear hall hx hcl hxl hf h2
  refine ⟨l.map fun c => match c with | .int _ y => y.toNat | _ => 0, ?_, by simpa using h2', ?_⟩
  · congr 1
    refine congrArg List.toArray ?_
    rw [List.map_map]
    symm
    refine (List.map_congr_left fun c hc => ?_).trans (List.map_id l)
    obtain ⟨x, rfl, _⟩ := key c hc
    simp
  · intro x hx
    obtain ⟨c, hc, rfl⟩ := List.mem_map.1 hx
    obtain ⟨x, rfl, hx'⟩ := key c hc
    simpa using hx'
end Go.Proofs.YtakibiigcdgohaaGreatDoor
namespace Go.Proofs.YtakibiigcdgohaaGreatDoor.fa
open Go.ChangeShapes Go.WideShapes Go.ChangeAt Go.RowKit
set_option maxRecDepth 20000
theorem cells_int : Tryz.prog.cellsOf 3 = 1 := by kernel_rfl
theorem cells_bool : Tryz.prog.cellsOf 4 = 1 := by kernel_rfl
theorem cells_bytes : Tryz.prog.cellsOf 35 = 1 := by kernel_rfl
theorem cells_fault : Tryz.prog.cellsOf 63 = 3 := by kernel_rfl
theorem bytes_u8 : Tryz.prog.bytesOf 5 = 1 := by kernel_rfl
theorem weightsAll_mem {H : Type} {P : Program} {e : TypeId} {n : Nat} : ∀ {l : List (DataW H)} {d : DataW H}, d ∈ l → n ∈ d.weights P e → n ∈ DataW.weightsAll P e l
  | _ :: _, _, h, hn => by
    simp only [DataW.weightsAll, List.mem_append]
    rcases List.mem_cons.1 h with rfl | h
    · exact Or.inl hn
    · exact Or.inr (weightsAll_mem h hn)
set_option maxRecDepth 20000 in
theorem byt_cell {H : Type} {enc : TypeId × Value → H} {W : World} {fuel : Nat} {v : Value} {x : DataW H × List MemPlace} (hf : DataW.trod enc Tryz.prog W 0 (fun _ => true) true fuel 35 [v] = some x) :
    ∃ xs, Byt W v xs ∧ ((∀ n ∈ x.1.weights Tryz.prog 35, n ≤ reachBytes) → xs.length ≤ 140737488355328) := by
  rcases open_ints Tryz.underlying35 Tryz.underlying5 cells_u8 hf with ⟨hcs, hx⟩ | ⟨a, len, cap, zs, hcs, _, hl, hm, hz, hx, hcell, hwz⟩
  · simp at hcs
    subst hcs
    exact ⟨[], Byt.nil W, fun _ => by simp⟩
  · simp at hcs
    subst hcs
    simp at hz
    have hlen : (zs.take len).length = len := by simp; omega
    have hgb : ∀ t, t < len → gb (zs.take len) t = zs.getD t 0 := fun t ht => by simp [gb, List.getD, ht]
    refine ⟨zs.take len, ⟨some a, cap, by rw [hlen], by omega, by simpa [maxLen] using hm, allB_mem fun x hx => bounds_u8 (hwz x (List.mem_of_mem_take hx)), (by intro h; cases h), fun hp => ?_⟩, fun hw => ?_⟩
    · obtain ⟨b, off, rfl, hc⟩ := ints_at hcell (by omega)
      refine ⟨b, off, rfl, fun t ht => ?_⟩
      rw [hgb t (by omega)]
      exact hc t (by omega)
    · have := hw cap (by
        rw [hx]
        simp only [DataW.weights, Tryz.underlying35, bytes_u8]
        have : ((lits .u8 (zs.take len) : List (DataW H)).length + (lits .u8 (zs.drop len) : List (DataW H)).length) * 1 = cap := by
          simp [lits]; omega
        rw [this]
        exact List.mem_cons_self)
      simp only [reachBytes] at this
      omega
set_option maxRecDepth 20000 in
theorem faults_open {H : Type} {enc : TypeId × Value → H} {W : World} {base : Nat} {v : Value} {d : DataW H} {ps : List MemPlace}
    (ok : Value.okWide Tryz.prog W .any base 24 v) (h : DataW.Trod enc Tryz.prog W 0 (fun _ => true) true 24 v d ps) (hw : ∀ n ∈ d.weights Tryz.prog 24, n ≤ reachBytes) : ∃ fs ms, Fls W v fs ∧ Mks W fs ms := by
  obtain ⟨a0, len, cap, rfl⟩ := okWide_slice Tryz.underlying24 ok
  obtain ⟨fuel, hf⟩ := h
  rcases Go.Deep.open_slice Tryz.underlying24 hf with ⟨hcs, hx⟩ | ⟨a, len', cap', m, n, D, Pl, hcs, _, hl, hm, hmm, hx, hr⟩
  · simp [Value.cells] at hcs
    obtain ⟨rfl, rfl, rfl⟩ := hcs
    exact ⟨[], fun _ => [], ⟨none, 0, rfl, by simp, by simp, fun _ => rfl, fun h => by simp at h⟩, fun t ht => by simp at ht⟩
  · simp [Value.cells] at hcs
    obtain ⟨rfl, rfl, rfl⟩ := hcs
    simp at hmm
    subst hmm
    have hd : d = _ := (Prod.mk.inj hx).1
    have each : ∀ i, i < len → ∃ q : (Int × Bool × Value) × List Int, (W.cell? (a.add (i * 3)) = some (.int .i64 q.1.1) ∧ W.cell? (a.add (i * 3 + 1)) = some (.bool q.1.2.1) ∧ W.cell? (a.add (i * 3 + 2)) = some q.1.2.2) ∧ Byt W q.1.2.2 q.2 ∧ q.2.length ≤ 140737488355328 := by
      intro i hi
      obtain ⟨cs', h1, h2⟩ := hr i (by omega)
      rw [cells_fault] at h1
      obtain ⟨_, hlen, hcell⟩ := World.cells?_some h1
      obtain ⟨xs, k, hk, hxy, _, hxl, hff⟩ := DataW.trod_struct Tryz.underlying63 h2
      match xs, hxl, cs', hlen with
      | [y0, y1, y2], _, [v0, v1, v2], _ =>
        have g0 := hff 0 _ rfl
        have g1 := hff 1 _ rfl
        have g2 := hff 2 _ rfl
        simp [cells_int, cells_bool, cells_bytes] at g0 g1 g2
        have e0 := hcell 0 (by omega)
        have e1 := hcell 1 (by omega)
        have e2 := hcell 2 (by omega)
        rw [Go.Deep.add_add] at e0 e1 e2
        obtain ⟨x, hx0, -⟩ := DataW.trod_int Tryz.underlying3 g0
        obtain ⟨c, hx1, -⟩ := DataW.trod_bool Tryz.underlying4 g1
        simp at hx0 hx1
        subst hx0
        subst hx1
        obtain ⟨zs, hz, hzb⟩ := byt_cell g2
        refine ⟨((x, c, v2), zs), ⟨by simpa using e0, by simpa using e1, by simpa using e2⟩, hz, hzb fun w' hw' => hw w' ?_⟩
        rw [hd]
        simp only [DataW.weights, Tryz.underlying24]
        refine List.mem_cons_of_mem _ (List.mem_append_left _ (weightsAll_mem (List.mem_map.2 ⟨i, List.mem_range.2 hi, rfl⟩) ?_))
        have hDi : D i = .agg [y0.1, y1.1, y2.1] := by
          have := (Prod.mk.inj hxy).1
          simpa using this
        rw [hDi]
        simp only [DataW.weights, Tryz.underlying63, List.map_cons, List.map_nil, DataW.weightsEach, List.append_nil]
        exact List.mem_append_right _ (List.mem_append_right _ hw')
    obtain ⟨q, hq⟩ := Go.Deep.choose_lt each
    have hlen : ((List.range len).map fun i => (q i).1).length = len := by simp
    have hgf : ∀ t, t < len → gf ((List.range len).map fun i => (q i).1) t = (q t).1 := fun t ht => by simp [gf, List.getD, ht]
    refine ⟨(List.range len).map fun i => (q i).1, fun i => (q i).2, ⟨some a, m, by rw [hlen], by omega, by simpa [maxLen] using hm, (by intro e; cases e), fun hp => ?_⟩, fun t ht => ?_⟩
    · rw [hlen] at hp ⊢
      obtain ⟨b, off, spot⟩ := a
      have hspot : spot = none := by simpa [Addr.add] using World.cell?_spot (hq 0 hp).1.1
      subst hspot
      refine ⟨b, off, rfl, fun t ht => ?_⟩
      rw [hgf t ht]
      have := (hq t ht).1
      simp only [Addr.add_mid] at this
      exact ⟨this.1, this.2.1, this.2.2⟩
    · rw [hlen] at ht
      rw [hgf t ht]
      exact (hq t ht).2
end Go.Proofs.YtakibiigcdgohaaGreatDoor.fa
namespace Go.Proofs.YtakibiigcdgohaaGreatDoor.ge
open Go.ChangeShapes Go.WideShapes Go.ChangeAt Go.RowKit
set_option maxRecDepth 20000
theorem cells_int : Tryz.prog.cellsOf 3 = 1 := by kernel_rfl
theorem cells_geo : Tryz.prog.cellsOf 23 = 6 := by kernel_rfl
theorem int_cell {H : Type} {enc : TypeId × Value → H} {W : World} {fuel : Nat} {c : Value} {x : DataW H × List MemPlace}
    (hf : DataW.trod enc Tryz.prog W 0 (fun _ => true) true fuel 3 [c] = some x) : ∃ n, c = .int .i64 n := by
  obtain ⟨y, hy, -⟩ := DataW.trod_int Tryz.underlying3 hf
  exact ⟨y, by simpa using hy⟩
theorem geo_open {H : Type} {enc : TypeId × Value → H} {W : World} {base : Nat} {v : Value} {d : DataW H} {ps : List MemPlace}
    (ok : Value.okWide Tryz.prog W .any base 23 v) (h : DataW.Trod enc Tryz.prog W 0 (fun _ => true) true 23 v d ps) : ∃ g : List Int, v = .agg (ints .i64 g) ∧ g.length = 6 := by
  simp only [Value.okWide, Tryz.underlying23] at ok
  obtain ⟨cs, rfl, h2, _⟩ := ok
  rw [cells_geo] at h2
  obtain ⟨l⟩ := cs
  obtain ⟨c0, c1, c2, c3, c4, c5, rfl⟩ : ∃ c0 c1 c2 c3 c4 c5, l = [c0, c1, c2, c3, c4, c5] := by
    match l, h2 with
    | [c0, c1, c2, c3, c4, c5], _ => exact ⟨c0, c1, c2, c3, c4, c5, rfl⟩
  obtain ⟨fuel, hf⟩ := h
  obtain ⟨xs, n, -, -, -, hlen, hall⟩ := DataW.trod_struct Tryz.underlying23 hf
  match xs, hlen with
  | [y0, y1, y2, y3, y4, y5], _ =>
    have a0 := hall 0 _ rfl
    have a1 := hall 1 _ rfl
    have a2 := hall 2 _ rfl
    have a3 := hall 3 _ rfl
    have a4 := hall 4 _ rfl
    have a5 := hall 5 _ rfl
    simp [cells_int, Value.cells] at a0 a1 a2 a3 a4 a5
    obtain ⟨n0, rfl⟩ := int_cell a0
    obtain ⟨n1, rfl⟩ := int_cell a1
    obtain ⟨n2, rfl⟩ := int_cell a2
    obtain ⟨n3, rfl⟩ := int_cell a3
    obtain ⟨n4, rfl⟩ := int_cell a4
    obtain ⟨n5, rfl⟩ := int_cell a5
    exact ⟨[n0, n1, n2, n3, n4, n5], rfl, rfl⟩
end Go.Proofs.YtakibiigcdgohaaGreatDoor.ge
namespace Go.Proofs.YtakibiigcdgohaaGreatDoor.pa
open Go.ChangeShapes Go.WideShapes Go.ChangeAt Go.RowKit
