/- What arguments that are spots, steps, and lists of them and of numbers, hold. No claim of its own. -/
import Derived.Test.YtedmmpognhpbdaaLawG
import Derived.Test.YtedmmpognhpbdaaJAwk
import Derived.Deep.Slices
namespace Go.Proofs.Ytedmmpognhpbdaa.pm
open Go.ChangeShapes Go.WideShapes Go.ChangeAt Go.RowKit Go.Proofs.Ytedmmpognhpbdaa.he
set_option maxRecDepth 20000

theorem cells_int : Try.prog.cellsOf 3 = 1 := by kernel_rfl
theorem cells_u32 : Try.prog.cellsOf 32 = 1 := by kernel_rfl
theorem cells_u64 : Try.prog.cellsOf 33 = 1 := by kernel_rfl
theorem cells_place : Try.prog.cellsOf 31 = 2 := by kernel_rfl
theorem cells_head : Try.prog.cellsOf 35 = 6 := by kernel_rfl
theorem cells_spot : Try.prog.cellsOf 37 = 14 := by kernel_rfl
theorem cells_step : Try.prog.cellsOf 39 = 19 := by kernel_rfl
/-- a number of a signed word -/
def Wd (x : Int) : Prop := -9223372036854775808 ≤ x ∧ x ≤ 9223372036854775807
def Hw (h : Hd) : Prop := Wd h.k ∧ Wd h.n ∧ Wd h.c ∧ 0 ≤ h.l ∧ h.l ≤ 4294967295
def Pw (p : PL) : Prop := Wd p.1 ∧ Wd p.2
def Sw (x : Sp) : Prop := Pw x.p ∧ Hw x.h ∧ Hw x.o
section
variable {H : Type} {enc : TypeId × Value → H} {W : World}
theorem int_cellE {fuel : Nat} {c : Value} {x : DataW H × List MemPlace}
    (hf : DataW.trod enc Try.prog W 0 (fun _ => true) true fuel 3 [c] = some x) : ∃ n, c = .int .i64 n ∧ Wd n := by
  obtain ⟨y, hy, -, hw⟩ := DataW.trod_int Try.underlying3 hf
  exact ⟨y, by simpa using hy, bounds_i64 hw⟩
theorem u32_cellE {fuel : Nat} {c : Value} {x : DataW H × List MemPlace}
    (hf : DataW.trod enc Try.prog W 0 (fun _ => true) true fuel 32 [c] = some x) : ∃ n, c = .int .u32 n ∧ 0 ≤ n ∧ n ≤ 4294967295 := by
  obtain ⟨y, hy, -, hw⟩ := DataW.trod_int Try.underlying32 hf
  exact ⟨y, by simpa using hy, bounds_u32 hw⟩
theorem u64_cellE {fuel : Nat} {c : Value} {x : DataW H × List MemPlace}
    (hf : DataW.trod enc Try.prog W 0 (fun _ => true) true fuel 33 [c] = some x) : ∃ n, c = .int .u64 n := by
  obtain ⟨y, hy, -, hw⟩ := DataW.trod_int Try.underlying33 hf
  exact ⟨y, by simpa using hy⟩
theorem place_cellsE {fuel : Nat} {c0 c1 : Value} {x : DataW H × List MemPlace}
    (hf : DataW.trod enc Try.prog W 0 (fun _ => true) true fuel 31 [c0, c1] = some x) : ∃ p : PL, [c0, c1] = pc p ∧ Pw p := by
  obtain ⟨xs, n, -, -, -, hlen, hall⟩ := DataW.trod_struct Try.underlying31 hf
  match xs, hlen with
  | [y0, y1], _ =>
    have a0 := hall 0 _ rfl
    have a1 := hall 1 _ rfl
    simp [cells_int] at a0 a1
    obtain ⟨n0, rfl, w0⟩ := int_cellE a0
    obtain ⟨n1, rfl, w1⟩ := int_cellE a1
    exact ⟨(n0, n1), rfl, w0, w1⟩
theorem head_cellsE {fuel : Nat} {c0 c1 c2 c3 c4 c5 : Value} {x : DataW H × List MemPlace}
    (hf : DataW.trod enc Try.prog W 0 (fun _ => true) true fuel 35 [c0, c1, c2, c3, c4, c5] = some x) : ∃ h : Hd, [c0, c1, c2, c3, c4, c5] = h.cs ∧ Hw h := by
  obtain ⟨xs, n, -, -, -, hlen, hall⟩ := DataW.trod_struct Try.underlying35 hf
  match xs, hlen with
  | [y0, y1, y2, y3, y4, y5], _ =>
    have a0 := hall 0 _ rfl
    have a1 := hall 1 _ rfl
    have a2 := hall 2 _ rfl
    have a3 := hall 3 _ rfl
    have a4 := hall 4 _ rfl
    have a5 := hall 5 _ rfl
    simp [cells_int, cells_u32, cells_u64] at a0 a1 a2 a3 a4 a5
    obtain ⟨n0, rfl, w0⟩ := int_cellE a0
    obtain ⟨n1, rfl, w1⟩ := int_cellE a1
    obtain ⟨n2, rfl, w2⟩ := int_cellE a2
    obtain ⟨n3, rfl, w3⟩ := u32_cellE a3
    obtain ⟨n4, rfl⟩ := u64_cellE a4
    obtain ⟨n5, rfl⟩ := u64_cellE a5
    exact ⟨⟨n0, n1, n2, n3, n4, n5⟩, rfl, w0, w1, w2, w3⟩
theorem spot_cellsE {fuel : Nat} {c0 c1 c2 c3 c4 c5 c6 c7 c8 c9 ca cb cc cd : Value} {x : DataW H × List MemPlace}
    (hf : DataW.trod enc Try.prog W 0 (fun _ => true) true fuel 37 [c0, c1, c2, c3, c4, c5, c6, c7, c8, c9, ca, cb, cc, cd] = some x) : ∃ z : Sp, [c0, c1, c2, c3, c4, c5, c6, c7, c8, c9, ca, cb, cc, cd] = z.cs ∧ Sw z := by
  obtain ⟨xs, n, -, -, -, hlen, hall⟩ := DataW.trod_struct Try.underlying37 hf
  match xs, hlen with
  | [y0, y1, y2], _ =>
    have a0 := hall 0 _ rfl
    have a1 := hall 1 _ rfl
    have a2 := hall 2 _ rfl
    simp [cells_place, cells_head] at a0 a1 a2
    obtain ⟨p, hp, wp⟩ := place_cellsE a0
    obtain ⟨h, hh, wh⟩ := head_cellsE a1
    obtain ⟨o, ho, wo⟩ := head_cellsE a2
    refine ⟨⟨p, h, o⟩, ?_, wp, wh, wo⟩
    simp only [pc, Hd.cs, List.cons.injEq, and_true] at hp hh ho
    obtain ⟨rfl, rfl⟩ := hp
    obtain ⟨rfl, rfl, rfl, rfl, rfl, rfl⟩ := hh
    obtain ⟨rfl, rfl, rfl, rfl, rfl, rfl⟩ := ho
    rfl
end
/-- a step -/
structure Stp where
  k : Int
  n : Int
  z : Int
  s : Sp
  t : PL
def Stp.cs (x : Stp) : List Value := [.int .i64 x.k, .int .i64 x.n, .int .i64 x.z, .int .i64 x.s.p.1, .int .i64 x.s.p.2, .int .i64 x.s.h.k, .int .i64 x.s.h.n, .int .i64 x.s.h.c, .int .u32 x.s.h.l, .int .u64 x.s.h.e, .int .u64 x.s.h.t, .int .i64 x.s.o.k, .int .i64 x.s.o.n, .int .i64 x.s.o.c, .int .u32 x.s.o.l, .int .u64 x.s.o.e, .int .u64 x.s.o.t, .int .i64 x.t.1, .int .i64 x.t.2]
def Tw (x : Stp) : Prop := Wd x.k ∧ Wd x.n ∧ Wd x.z ∧ Sw x.s ∧ Pw x.t
theorem len14 {l : List Value} (h : l.length = 14) : ∃ c0 c1 c2 c3 c4 c5 c6 c7 c8 c9 ca cb cc cd, l = [c0, c1, c2, c3, c4, c5, c6, c7, c8, c9, ca, cb, cc, cd] := by
  match l, h with
  | [c0, c1, c2, c3, c4, c5, c6, c7, c8, c9, ca, cb, cc, cd], _ => exact ⟨c0, c1, c2, c3, c4, c5, c6, c7, c8, c9, ca, cb, cc, cd, rfl⟩
theorem len19 {l : List Value} (h : l.length = 19) : ∃ c0 c1 c2 c3 c4 c5 c6 c7 c8 c9 ca cb cc cd ce cf cg ch ci, l = [c0, c1, c2, c3, c4, c5, c6, c7, c8, c9, ca, cb, cc, cd, ce, cf, cg, ch, ci] := by
  match l, h with
  | [c0, c1, c2, c3, c4, c5, c6, c7, c8, c9, ca, cb, cc, cd, ce, cf, cg, ch, ci], _ => exact ⟨c0, c1, c2, c3, c4, c5, c6, c7, c8, c9, ca, cb, cc, cd, ce, cf, cg, ch, ci, rfl⟩
section
variable {H : Type} {enc : TypeId × Value → H} {W : World}
theorem step_cellsE {fuel : Nat} {c0 c1 c2 c3 c4 c5 c6 c7 c8 c9 ca cb cc cd ce cf cg ch ci : Value} {x : DataW H × List MemPlace}
    (hf : DataW.trod enc Try.prog W 0 (fun _ => true) true fuel 39 [c0, c1, c2, c3, c4, c5, c6, c7, c8, c9, ca, cb, cc, cd, ce, cf, cg, ch, ci] = some x) : ∃ z : Stp, [c0, c1, c2, c3, c4, c5, c6, c7, c8, c9, ca, cb, cc, cd, ce, cf, cg, ch, ci] = z.cs ∧ Tw z := by
  obtain ⟨xs, n, -, -, -, hlen, hall⟩ := DataW.trod_struct Try.underlying39 hf
  match xs, hlen with
  | [y0, y1, y2, y3, y4], _ =>
    have a0 := hall 0 _ rfl
    have a1 := hall 1 _ rfl
    have a2 := hall 2 _ rfl
    have a3 := hall 3 _ rfl
    have a4 := hall 4 _ rfl
    simp [cells_int, cells_spot, cells_place] at a0 a1 a2 a3 a4
    obtain ⟨n0, rfl, w0⟩ := int_cellE a0
    obtain ⟨n1, rfl, w1⟩ := int_cellE a1
    obtain ⟨n2, rfl, w2⟩ := int_cellE a2
    obtain ⟨s, hs, ws⟩ := spot_cellsE a3
    obtain ⟨t, ht, wt⟩ := place_cellsE a4
    refine ⟨⟨n0, n1, n2, s, t⟩, ?_, w0, w1, w2, ws, wt⟩
    simp only [pc, Sp.cs, List.cons.injEq, and_true] at hs ht
    obtain ⟨rfl, rfl, rfl, rfl, rfl, rfl, rfl, rfl, rfl, rfl, rfl, rfl, rfl, rfl⟩ := hs
    obtain ⟨rfl, rfl⟩ := ht
    rfl
/-- an argument that is a spot -/
theorem spot_open {base : Nat} {v : Value} {d : DataW H} {ps : List MemPlace}
    (ok : Value.okWide Try.prog W .any base 37 v) (h : DataW.Trod enc Try.prog W 0 (fun _ => true) true 37 v d ps) : ∃ x : Sp, v = .agg x.cs.toArray ∧ Sw x := by
  simp only [Value.okWide, Try.underlying37] at ok
  obtain ⟨cs, rfl, h2, _⟩ := ok
  rw [cells_spot] at h2
  obtain ⟨l⟩ := cs
  obtain ⟨c0, c1, c2, c3, c4, c5, c6, c7, c8, c9, ca, cb, cc, cd, rfl⟩ := len14 h2
  obtain ⟨fuel, hf⟩ := h
  obtain ⟨z, hz, wz⟩ := spot_cellsE hf
  exact ⟨z, by rw [← hz], wz⟩
/-- an argument that is a step -/
theorem step_open {base : Nat} {v : Value} {d : DataW H} {ps : List MemPlace}
    (ok : Value.okWide Try.prog W .any base 39 v) (h : DataW.Trod enc Try.prog W 0 (fun _ => true) true 39 v d ps) : ∃ x : Stp, v = .agg x.cs.toArray ∧ Tw x := by
  simp only [Value.okWide, Try.underlying39] at ok
  obtain ⟨cs, rfl, h2, _⟩ := ok
  rw [cells_step] at h2
  obtain ⟨l⟩ := cs
  obtain ⟨c0, c1, c2, c3, c4, c5, c6, c7, c8, c9, ca, cb, cc, cd, ce, cf, cg, ch, ci, rfl⟩ := len19 h2
  obtain ⟨fuel, hf⟩ := h
  obtain ⟨z, hz, wz⟩ := step_cellsE hf
  exact ⟨z, by rw [← hz], wz⟩
end
/-- the slice v holds m things of s cells -/
def Sls (s : Nat) {α : Type} (e : α → List Value) (P : α → Prop) (w : World) (v : Value) (m : Nat) (q : Nat → α) : Prop :=
  ∃ ao cap, v = .slice ao m cap ∧ (ao = none → cap = 0) ∧ m ≤ 9223372036854775807 ∧ (∀ t, t < m → P (q t)) ∧ (0 < m → ∃ b off, ao = some ⟨b, off, none⟩ ∧ ∀ t, t < m → w.rangeAt b (off + t * s) (e (q t)))
theorem Sls.below {s : Nat} {α : Type} {e : α → List Value} (he : ∀ x, 0 < (e x).length) {P : α → Prop} {w w' : World} {v : Value} {m : Nat} {q : Nat → α} (h : Sls s e P w v m q) (hb : Below w.heap.size w w') : Sls s e P w' v m q := by
  obtain ⟨ao, cap, rfl, h0, h1, h2, h3⟩ := h
  refine ⟨ao, cap, rfl, h0, h1, h2, fun hp => ?_⟩
  obtain ⟨b, off, rfl, hc⟩ := h3 hp
  exact ⟨b, off, rfl, fun t ht => range_heap (hc t ht) (hb.block b (range_lt (hc t ht) (he _)))⟩
set_option maxRecDepth 20000 in
/-- an argument that is a list of steps -/
theorem steps_open {H : Type} {enc : TypeId × Value → H} {W : World} {base : Nat} {v : Value} {d : DataW H} {ps : List MemPlace}
    (ok : Value.okWide Try.prog W .any base 22 v) (h : DataW.Trod enc Try.prog W 0 (fun _ => true) true 22 v d ps) : ∃ m q, Sls 19 Stp.cs Tw W v m q := by
  obtain ⟨a0, len, cap, rfl⟩ := okWide_slice Try.underlying22 ok
  obtain ⟨fuel, hf⟩ := h
  rcases Go.Deep.open_slice Try.underlying22 hf with ⟨hcs, hx⟩ | ⟨a, len', cap', m, n, D, Pl, hcs, _, hl, hm, hmm, hx, hr⟩
  · simp [Value.cells] at hcs
    obtain ⟨rfl, rfl, rfl⟩ := hcs
    exact ⟨0, fun _ => ⟨0, 0, 0, sp0, (0, 0)⟩, none, 0, rfl, fun _ => rfl, by simp, fun t ht => by simp at ht, fun h => by simp at h⟩
  · simp [Value.cells] at hcs
    obtain ⟨rfl, rfl, rfl⟩ := hcs
    simp at hmm
    subst hmm
    have each : ∀ i, i < len → ∃ q : Stp, (∀ j v, q.cs[j]? = some v → W.cell? (a.add (i * 19 + j)) = some v) ∧ Tw q := by
      intro i hi
      obtain ⟨cs', h1, h2⟩ := hr i (by omega)
      rw [cells_step] at h1
      obtain ⟨_, hlen, hcell⟩ := World.cells?_some h1
      obtain ⟨c0, c1, c2, c3, c4, c5, c6, c7, c8, c9, ca, cb, cc, cd, ce, cf, cg, ch, ci, rfl⟩ := len19 hlen
      obtain ⟨z, hz, wz⟩ := step_cellsE h2
      refine ⟨z, fun j v hj => ?_, wz⟩
      rw [← hz] at hj
      have hj19 : j < 19 := (List.getElem?_eq_some_iff.1 hj).1
      have := hcell j hj19
      rw [Go.Deep.add_add] at this
      rw [this]
      exact hj
    haveI : Inhabited Stp := ⟨⟨0, 0, 0, sp0, (0, 0)⟩⟩
    obtain ⟨q, hq⟩ := Go.Deep.choose_lt each
    refine ⟨len, q, some a, m, rfl, (fun h => by cases h), by simp only [maxLen] at hm; omega, fun t ht => (hq t ht).2, fun hp => ?_⟩
    obtain ⟨b, off, spot⟩ := a
    have hspot : spot = none := by simpa [Addr.add] using World.cell?_spot ((hq 0 hp).1 0 _ rfl)
    subst hspot
    refine ⟨b, off, rfl, fun t ht j v hv => ?_⟩
    have := (hq t ht).1 j v hv
    rw [Addr.add_mid, ← Nat.add_assoc] at this
    exact this
set_option maxRecDepth 20000 in
/-- an argument that is a list of spots -/
theorem spots_open {H : Type} {enc : TypeId × Value → H} {W : World} {base : Nat} {v : Value} {d : DataW H} {ps : List MemPlace}
    (ok : Value.okWide Try.prog W .any base 47 v) (h : DataW.Trod enc Try.prog W 0 (fun _ => true) true 47 v d ps) : ∃ m q, Sls 14 Sp.cs Sw W v m q := by
  obtain ⟨a0, len, cap, rfl⟩ := okWide_slice Try.underlying47 ok
  obtain ⟨fuel, hf⟩ := h
  rcases Go.Deep.open_slice Try.underlying47 hf with ⟨hcs, hx⟩ | ⟨a, len', cap', m, n, D, Pl, hcs, _, hl, hm, hmm, hx, hr⟩
  · simp [Value.cells] at hcs
    obtain ⟨rfl, rfl, rfl⟩ := hcs
    exact ⟨0, fun _ => sp0, none, 0, rfl, fun _ => rfl, by simp, fun t ht => by simp at ht, fun h => by simp at h⟩
  · simp [Value.cells] at hcs
    obtain ⟨rfl, rfl, rfl⟩ := hcs
    simp at hmm
    subst hmm
    have each : ∀ i, i < len → ∃ q : Sp, (∀ j v, q.cs[j]? = some v → W.cell? (a.add (i * 14 + j)) = some v) ∧ Sw q := by
      intro i hi
      obtain ⟨cs', h1, h2⟩ := hr i (by omega)
      rw [cells_spot] at h1
      obtain ⟨_, hlen, hcell⟩ := World.cells?_some h1
      obtain ⟨c0, c1, c2, c3, c4, c5, c6, c7, c8, c9, ca, cb, cc, cd, rfl⟩ := len14 hlen
      obtain ⟨z, hz, wz⟩ := spot_cellsE h2
      refine ⟨z, fun j v hj => ?_, wz⟩
      rw [← hz] at hj
      have hj14 : j < 14 := (List.getElem?_eq_some_iff.1 hj).1
      have := hcell j hj14
      rw [Go.Deep.add_add] at this
      rw [this]
      exact hj
    haveI : Inhabited Sp := ⟨sp0⟩
    obtain ⟨q, hq⟩ := Go.Deep.choose_lt each
    refine ⟨len, q, some a, m, rfl, (fun h => by cases h), by simp only [maxLen] at hm; omega, fun t ht => (hq t ht).2, fun hp => ?_⟩
    obtain ⟨b, off, spot⟩ := a
    have hspot : spot = none := by simpa [Addr.add] using World.cell?_spot ((hq 0 hp).1 0 _ rfl)
    subst hspot
    refine ⟨b, off, rfl, fun t ht j v hv => ?_⟩
    have := (hq t ht).1 j v hv
    rw [Addr.add_mid, ← Nat.add_assoc] at this
    exact this
def ic (x : Int) : List Value := [.int .i64 x]
theorem cells_ints1 : Try.prog.cellsOf 3 = 1 := cells_int
/-- an argument that is a list of numbers -/
theorem ints_open {H : Type} {enc : TypeId × Value → H} {W : World} {base : Nat} {v : Value} {d : DataW H} {ps : List MemPlace}
    (ok : Value.okWide Try.prog W .any base 56 v) (h : DataW.Trod enc Try.prog W 0 (fun _ => true) true 56 v d ps) : ∃ m q, Sls 1 ic Wd W v m q := by
  obtain ⟨a0, len, cap, rfl⟩ := okWide_slice Try.underlying56 ok
  obtain ⟨fuel, hf⟩ := h
  rcases open_ints Try.underlying56 Try.underlying3 cells_int hf with ⟨hcs, hx⟩ | ⟨a, len', cap', zs, hcs, _, hl, hm, hz, hx, hcell, hwz⟩
  · simp [Value.cells] at hcs
    obtain ⟨rfl, rfl, rfl⟩ := hcs
    exact ⟨0, fun _ => 0, none, 0, rfl, fun _ => rfl, by simp, fun t ht => by simp at ht, fun h => by simp at h⟩
  · simp [Value.cells] at hcs
    obtain ⟨rfl, rfl, rfl⟩ := hcs
    simp at hz
    refine ⟨len, fun t => zs.getD t 0, some a, cap, rfl, (fun h => by cases h), by simp only [maxLen] at hm; omega, fun t ht => ?_, fun hp => ?_⟩
    · have htl : t < zs.length := by omega
      have : zs.getD t 0 = zs[t] := by simp [List.getD, htl]
      show Wd (zs.getD t 0)
      rw [this]
      exact bounds_i64 (hwz _ (List.getElem_mem htl))
    · obtain ⟨b, off, rfl, hc⟩ := ints_at hcell (by omega)
      refine ⟨b, off, rfl, fun t ht j v hv => ?_⟩
      have hj : j = 0 := by have := (List.getElem?_eq_some_iff.1 hv).1; simp [ic] at this; omega
      subst hj
      cases hv
      have := hc t (by omega)
      rw [Nat.mul_one, Nat.add_zero]
      exact this
end Go.Proofs.Ytedmmpognhpbdaa.pm
