/- Parts of the proof: what KeyboxCrashes reaches. No claim of its own. -/
import Derived.Laws.AppendOwnNone
import Derived.Deep.RegionHeld3
import Derived.Lib.SliceRun
import Derived.Deep.DeepCutAuto
import Derived.Deep.Slices
import Derived.ArgAppend
import Derived.WalkKit
import Derived.Deep.QuietTactic
import Derived.Deep.WholeRow
import Derived.Deep.MidRow
import Derived.Laws.StructEq
import Derived.Laws.Tables
import Derived.Deep.LoopGhost
import Derived.WalkSmall
import Derived.ProofKit
import Derived.OpenShut
import Derived.BigQuiet
import Derived.Lib.AppendZeros
import Derived.Lib.MakeNoZero
import Derived.Deep.DeepHandedRow
import Derived.Lib.LaidTab
import Derived.Deep.Matrix
import Derived.Test.YtakibiigcdgohaaGreatDoorC00
import Derived.Test.YtakibiigcdgohaaGreatDoorC01
import Derived.Test.YtakibiigcdgohaaGreatDoorC02
import Derived.Test.YtakibiigcdgohaaGreatDoorC03
import Derived.Test.YtakibiigcdgohaaGreatDoorC04
import Derived.Test.YtakibiigcdgohaaGreatDoorC05
import Derived.Test.YtakibiigcdgohaaGreatDoorC06
import Derived.Test.YtakibiigcdgohaaGreatDoorC07
import Derived.Test.YtakibiigcdgohaaGreatDoorC08
import Derived.Test.YtakibiigcdgohaaGreatDoorC09
import Derived.Test.YtakibiigcdgohaaGreatDoorC10
import Derived.Test.YtakibiigcdgohaaGreatDoorC11
import Derived.Test.YtakibiigcdgohaaGreatDoorC12
import Derived.Test.YtakibiigcdgohaaGreatDoorC13
import Derived.Test.YtakibiigcdgohaaGreatDoorC14
import Derived.Test.YtakibiigcdgohaaGreatDoorC15
import Derived.Test.YtakibiigcdgohaaGreatDoorC16
import Derived.Test.YtakibiigcdgohaaGreatDoorC17
import Derived.Test.YtakibiigcdgohaaGreatDoorC18
import Derived.Test.YtakibiigcdgohaaGreatDoorC19
import Derived.Test.YtakibiigcdgohaaGreatDoorC20
import Derived.Test.YtakibiigcdgohaaGreatDoorC21
import Derived.Test.YtakibiigcdgohaaGreatDoorC22
import Derived.Test.YtakibiigcdgohaaGreatDoorC23
import Derived.Test.YtakibiigcdgohaaGreatDoorC24
set_option maxHeartbeats 8000000
namespace Go.Proofs.YtakibiigcdgohaaGreatDoor.vb
open Go.RowKit Go.Proofs.YtakibiigcdgohaaGreatDoor.fa Go.Proofs.YtakibiigcdgohaaGreatDoor.he Go.Proofs.YtakibiigcdgohaaGreatDoor.pa Go.Proofs.YtakibiigcdgohaaGreatDoor.ck
set_option maxRecDepth 20000
def lates (fs : List (Int × Bool × Value)) (n : Int) (k : Nat) : List Nat := (List.range k).filter fun t => decide (n ≤ (gf fs t).1)
def lfs (fs : List (Int × Bool × Value)) (L : List Nat) : List (Int × Bool × Value) := L.map (gf fs)
theorem lates_yes {fs : List (Int × Bool × Value)} {n : Int} {k : Nat} (h : n ≤ (gf fs k).1) : lates fs n (k + 1) = lates fs n k ++ [k] := by
  unfold lates
  rw [List.range_succ, List.filter_append]
  exact congrArg _ (List.filter_cons_of_pos (decide_eq_true h))
theorem lates_no {fs : List (Int × Bool × Value)} {n : Int} {k : Nat} (h : ¬ n ≤ (gf fs k).1) : lates fs n (k + 1) = lates fs n k := by
  unfold lates
  rw [List.range_succ, List.filter_append]
  exact (congrArg _ (List.filter_cons_of_neg (by simpa using h))).trans (List.append_nil _)
theorem lates_len (fs : List (Int × Bool × Value)) (n : Int) (k : Nat) : (lates fs n k).length ≤ k := Nat.le_trans (List.length_filter_le _ _) (by simp)
theorem lates_at {fs : List (Int × Bool × Value)} {n : Int} {k i : Nat} (hi : i < (lates fs n k).length) : (lates fs n k).getD i 0 < k ∧ n ≤ (gf fs ((lates fs n k).getD i 0)).1 := by
  have : (lates fs n k).getD i 0 ∈ lates fs n k := by rw [List.getD_eq_getElem?_getD, List.getElem?_eq_getElem hi]; exact List.getElem_mem hi
  obtain ⟨h1, h2⟩ := List.mem_filter.1 this
  exact ⟨List.mem_range.1 h1, of_decide_eq_true h2⟩
theorem gf_lfs {fs : List (Int × Bool × Value)} {L : List Nat} {i : Nat} (hi : i < L.length) : gf (lfs fs L) i = gf fs (L.getD i 0) := by
  unfold gf lfs
  rw [List.getD_eq_getElem?_getD, List.getElem?_map, List.getElem?_eq_getElem hi, List.getD_eq_getElem?_getD (l := L), List.getElem?_eq_getElem hi]
  rfl
def lms (ms : Nat → List Int) (L : List Nat) (i : Nat) : List Int := ms (L.getD i 0)
section
variable {ops : Array Oper} {rest : List Oper} {o : Oper} {a : Act} {Q : Exit → Act → World → Prop}
theorem pushQ_law (w : World) (hg : o.guard = none) (s x : Operand) (hop : o.op = .call { callee := .builtin .append, args := #[s, x], argTypes := #[24, 24] })
    (B : Nat) (hB : B ≤ w.heap.size) (v : Value) (es : List (List Value)) (y : List Value) (ad : Addr) (cap : Nat) (hs : a.eval s = v) (hx : a.eval x = .slice (some ad) 1 cap) (hown : na.OwR B w v 63 3 es) (hy : y.length = 3)
    (h6 : ∀ j u, y[j]? = some u → w.cell? (ad.add j) = some u) (h1 : ∀ u ∈ y, u.oneCell' = true) (hn : es.length ≤ 1000)
    (hK : ∀ v' w', na.OwR B w' v' 63 3 (es ++ [y]) → Below B w w' → wpList Tryz.prog ops Q rest (a.put o.dst v') w') :
    wpList Tryz.prog ops Q (o :: rest) a w := by
  obtain ⟨i0, hi, hz0, hz1, hz2⟩ := info_parts (show (Tryz.prog.info? 63).map (fun i => (i.zero, i.size, i.bytes)) = some (some (.agg #[.int .i64 0, .bool false, .slice none 0 0]), 3, 40) by kernel_rfl)
  refine wpList_append_own _ hg s x 24 hop B 63 i0 _ 3 40 Tryz.underlying24 hi hz0 hz1 hz2 rfl (by decide) v es.length es.flatten hs hown.1 ad 1 cap y hx hy h6 h1 (by simp only [maxLen]; omega) (by omega) hB fun v' w' O1 G1 _ => ?_
  refine hK v' w' ⟨?_, fun t ht => ?_⟩ ((Below.refl B w).grown G1 hB fun k hk => (World.ownsRow.lt hown.1 k hk).1)
  · rw [List.length_append, List.flatten_append]
    simpa using O1
  · rw [List.length_append] at ht
    by_cases e : t < es.length
    · have := hown.2 t e
      rw [← this]
      simp [na.el, List.getD, List.getElem?_append_left e]
    · have e : t = es.length := by have : [y].length = 1 := rfl; omega
      subst e
      simp [na.el, List.getD, hy]
end
theorem owq_fls {B : Nat} {w : World} {v : Value} {fs : List (Int × Bool × Value)} (h : na.OwR B w v 63 3 (fs.map fl)) : Fls w v fs := by
  obtain ⟨ao, cap, e, h1, h2, h3, h4, h5⟩ := h.rws
  rw [List.length_map] at e h1 h5
  refine ⟨ao, cap, e, h1, h2, h3, fun hp => ?_⟩
  obtain ⟨b, off, e2, hc⟩ := h5 hp
  refine ⟨b, off, e2, fun t ht => ?_⟩
  have z := hc t ht
  have e3 : na.el (fs.map fl) t = fl (gf fs t) := by
    unfold na.el gf
    rw [List.getD_eq_getElem?_getD, List.getElem?_map, List.getElem?_eq_getElem ht, List.getD_eq_getElem?_getD, List.getElem?_eq_getElem ht]
    rfl
  rw [e3] at z
  exact ⟨z 0 _ rfl, z 1 _ rfl, z 2 _ rfl⟩
theorem late_none {fs : List (Int × Bool × Value)} {ms : Nat → List Int} {n k j : Nat} (hj : j < n) : na.plnOf (lfs fs (lates fs (n : Int) k)) (lms ms (lates fs (n : Int) k)) j = none := by
  unfold na.plnOf
  rw [Option.map_eq_none_iff, List.find?_eq_none]
  intro t ht
  have ht : t < (lates fs (n : Int) k).length := by have := List.mem_range.1 ht; unfold lfs at this; rw [List.length_map] at this; exact this
  rw [gf_lfs ht]
  have := (lates_at ht).2
  generalize gf fs ((lates fs (n : Int) k).getD t 0) = f at this ⊢
  simp
  omega
theorem light_any (g0 g1 g2 g3 g4 g5 : Int) (po so : Option Addr) (pc n sc : Nat) (fs : List (Int × Bool × Value)) (ms : Nat → List Int) (w : World) (hf : Fls w (.slice po fs.length pc) fs) (hm : Mks w fs ms) (t : Bool) (ht : t = true ↔ (ge.Rt [g0, g1, g2, g3, g4, g5] ∧ (fs.length ≤ 64 ∧ Okp fs ms fs.length) ∧ g0 ≤ 12 ∧ g1 ≤ 20 ∧ g2 ≤ 128 ∧ (n : Int) ≤ 8)) :
    Calls Tryz.prog 7 #[.agg ([.int .i64 g0, .int .i64 g1, .int .i64 g2, .int .i64 g3, .int .i64 g4, .int .i64 g5, .slice po fs.length pc, .slice so n sc] : List Value).toArray] w fun e w' => e = .returned (.bool t) ∧ Below w.heap.size w w' := by
  by_cases h0 : ge.Rt [g0, g1, g2, g3, g4, g5]
  · by_cases h1 : (fs.length ≤ 64 ∧ Okp fs ms fs.length)
    · by_cases h2 : g0 ≤ 12
      · by_cases h3 : g1 ≤ 20
        · by_cases h4 : g2 ≤ 128
          · by_cases h5 : (n : Int) ≤ 8
            · have e : t = true := ht.2 ⟨h0, h1, h2, h3, h4, h5⟩
              subst e
              have SG : Hid (∀ w0, Calls Tryz.prog 32 #[.agg (ints .i64 [g0, g1, g2, g3, g4, g5])] w0 fun x w' => x = .returned (.bool true) ∧ Below w0.heap.size w0 w') := ge.right_yes [g0, g1, g2, g3, g4, g5] rfl h0
              have SR : Hid (∀ w0, Below w.heap.size w w0 → Calls Tryz.prog 21 #[.slice po fs.length pc] w0 fun x w' => x = .returned (.bool true) ∧ Below w0.heap.size w0 w') := fun w0 b0 => (rright_any _ fs ms w0 (hf.below b0) (hm.below b0) true ⟨fun _ => h1, fun _ => rfl⟩).mono fun _ _ ⟨z1, m, z2⟩ => ⟨z1, by rw [z2]; exact fa.below_drawn (Below.refl _ _) m⟩
              clear ht hf hm h0 h1
              have t0 := tR
              go_enter Tryz.func7, Tryz.ntmps7
              go_wp2_with (first
                  | (have q2 := t2; go_at_call 21; refine (SR.out w2 BB.out).mono ?_; rintro e9 w3 ⟨rfl, B9⟩; have HV : Hid (Vr w3 w.heap.size [.int .i64 g0, .int .i64 g1, .int .i64 g2, .int .i64 g3, .int .i64 g4, .int .i64 g5, .slice po fs.length pc, .slice so n sc]) := HV.out.below B9 (range_lt HV.out.1 (Nat.succ_pos _)); have BB : Hid (Below w.heap.size w w3) := BB.out.trans (B9.mono BB.out.size); clear B9 t2 r0 r1 r2 r3 r4 r5 r6 r7; have r0 := HV.out.cell 0 _ rfl; have r1 := HV.out.cell 1 _ rfl; have r2 := HV.out.cell 2 _ rfl; have r7 := HV.out.cell 7 _ rfl; have t3 := tR)
                  | (have q1 := t1; go_at_call 32; refine (SG.out w1).mono ?_; rintro e9 w2 ⟨rfl, B9⟩; have HV : Hid (Vr w2 w.heap.size [.int .i64 g0, .int .i64 g1, .int .i64 g2, .int .i64 g3, .int .i64 g4, .int .i64 g5, .slice po fs.length pc, .slice so n sc]) := HV.out.below B9 (range_lt HV.out.1 (Nat.succ_pos _)); have BB : Hid (Below w.heap.size w w2) := BB.out.trans (B9.mono BB.out.size); clear B9 t1 r0 r1 r2 r3 r4 r5 r6 r7; have r0 := HV.out.cell 0 _ rfl; have r1 := HV.out.cell 1 _ rfl; have r2 := HV.out.cell 2 _ rfl; have r3 := HV.out.cell 3 _ rfl; have r4 := HV.out.cell 4 _ rfl; have r5 := HV.out.cell 5 _ rfl; have r6 := HV.out.cell 6 _ rfl; have r7 := HV.out.cell 7 _ rfl; have t2 := tR)
                  | (have q0 := t0; refine box_lawC _ [.int .i64 g0, .int .i64 g1, .int .i64 g2, .int .i64 g3, .int .i64 g4, .int .i64 g5, .slice po fs.length pc, .slice so n sc] rfl ?_; intro w1 X9 B9 l9; have HV : Hid (Vr w1 w.heap.size [.int .i64 g0, .int .i64 g1, .int .i64 g2, .int .i64 g3, .int .i64 g4, .int .i64 g5, .slice po fs.length pc, .slice so n sc]) := X9; have r0 := X9.cell 0 _ rfl; have r1 := X9.cell 1 _ rfl; have r2 := X9.cell 2 _ rfl; have r3 := X9.cell 3 _ rfl; have r4 := X9.cell 4 _ rfl; have r5 := X9.cell 5 _ rfl; have r6 := X9.cell 6 _ rfl; have r7 := X9.cell 7 _ rfl; have BB : Hid (Below w.heap.size w w1) := B9; clear X9 B9 l9 t0; have t1 := tR))
              go_ret
              first | exact ⟨rfl, BB.out⟩ | exact ⟨congrArg (fun z => Ending.returned (.bool z)) (decide_eq_false (by omega)), BB.out⟩ | exact ⟨congrArg (fun z => Ending.returned (.bool z)) (decide_eq_true h5), BB.out⟩
            · have e : t = false := by
                cases q : t with
                | false => rfl
                | true => exact absurd (ht.1 q).2.2.2.2.2 h5
              subst e
              have SG : Hid (∀ w0, Calls Tryz.prog 32 #[.agg (ints .i64 [g0, g1, g2, g3, g4, g5])] w0 fun x w' => x = .returned (.bool true) ∧ Below w0.heap.size w0 w') := ge.right_yes [g0, g1, g2, g3, g4, g5] rfl h0
              have SR : Hid (∀ w0, Below w.heap.size w w0 → Calls Tryz.prog 21 #[.slice po fs.length pc] w0 fun x w' => x = .returned (.bool true) ∧ Below w0.heap.size w0 w') := fun w0 b0 => (rright_any _ fs ms w0 (hf.below b0) (hm.below b0) true ⟨fun _ => h1, fun _ => rfl⟩).mono fun _ _ ⟨z1, m, z2⟩ => ⟨z1, by rw [z2]; exact fa.below_drawn (Below.refl _ _) m⟩
              clear ht hf hm h0 h1
              have t0 := tR
              go_enter Tryz.func7, Tryz.ntmps7
              go_wp2_with (first
                  | (have q2 := t2; go_at_call 21; refine (SR.out w2 BB.out).mono ?_; rintro e9 w3 ⟨rfl, B9⟩; have HV : Hid (Vr w3 w.heap.size [.int .i64 g0, .int .i64 g1, .int .i64 g2, .int .i64 g3, .int .i64 g4, .int .i64 g5, .slice po fs.length pc, .slice so n sc]) := HV.out.below B9 (range_lt HV.out.1 (Nat.succ_pos _)); have BB : Hid (Below w.heap.size w w3) := BB.out.trans (B9.mono BB.out.size); clear B9 t2 r0 r1 r2 r3 r4 r5 r6 r7; have r0 := HV.out.cell 0 _ rfl; have r1 := HV.out.cell 1 _ rfl; have r2 := HV.out.cell 2 _ rfl; have r7 := HV.out.cell 7 _ rfl; have t3 := tR)
                  | (have q1 := t1; go_at_call 32; refine (SG.out w1).mono ?_; rintro e9 w2 ⟨rfl, B9⟩; have HV : Hid (Vr w2 w.heap.size [.int .i64 g0, .int .i64 g1, .int .i64 g2, .int .i64 g3, .int .i64 g4, .int .i64 g5, .slice po fs.length pc, .slice so n sc]) := HV.out.below B9 (range_lt HV.out.1 (Nat.succ_pos _)); have BB : Hid (Below w.heap.size w w2) := BB.out.trans (B9.mono BB.out.size); clear B9 t1 r0 r1 r2 r3 r4 r5 r6 r7; have r0 := HV.out.cell 0 _ rfl; have r1 := HV.out.cell 1 _ rfl; have r2 := HV.out.cell 2 _ rfl; have r3 := HV.out.cell 3 _ rfl; have r4 := HV.out.cell 4 _ rfl; have r5 := HV.out.cell 5 _ rfl; have r6 := HV.out.cell 6 _ rfl; have r7 := HV.out.cell 7 _ rfl; have t2 := tR)
                  | (have q0 := t0; refine box_lawC _ [.int .i64 g0, .int .i64 g1, .int .i64 g2, .int .i64 g3, .int .i64 g4, .int .i64 g5, .slice po fs.length pc, .slice so n sc] rfl ?_; intro w1 X9 B9 l9; have HV : Hid (Vr w1 w.heap.size [.int .i64 g0, .int .i64 g1, .int .i64 g2, .int .i64 g3, .int .i64 g4, .int .i64 g5, .slice po fs.length pc, .slice so n sc]) := X9; have r0 := X9.cell 0 _ rfl; have r1 := X9.cell 1 _ rfl; have r2 := X9.cell 2 _ rfl; have r3 := X9.cell 3 _ rfl; have r4 := X9.cell 4 _ rfl; have r5 := X9.cell 5 _ rfl; have r6 := X9.cell 6 _ rfl; have r7 := X9.cell 7 _ rfl; have BB : Hid (Below w.heap.size w w1) := B9; clear X9 B9 l9 t0; have t1 := tR))
              go_ret
              first | exact ⟨rfl, BB.out⟩ | exact ⟨congrArg (fun z => Ending.returned (.bool z)) (decide_eq_false (by omega)), BB.out⟩ | exact ⟨congrArg (fun z => Ending.returned (.bool z)) (decide_eq_true h5), BB.out⟩
          · have e : t = false := by
              cases q : t with
              | false => rfl
              | true => exact absurd (ht.1 q).2.2.2.2.1 h4
            subst e
            have SG : Hid (∀ w0, Calls Tryz.prog 32 #[.agg (ints .i64 [g0, g1, g2, g3, g4, g5])] w0 fun x w' => x = .returned (.bool true) ∧ Below w0.heap.size w0 w') := ge.right_yes [g0, g1, g2, g3, g4, g5] rfl h0
            have SR : Hid (∀ w0, Below w.heap.size w w0 → Calls Tryz.prog 21 #[.slice po fs.length pc] w0 fun x w' => x = .returned (.bool true) ∧ Below w0.heap.size w0 w') := fun w0 b0 => (rright_any _ fs ms w0 (hf.below b0) (hm.below b0) true ⟨fun _ => h1, fun _ => rfl⟩).mono fun _ _ ⟨z1, m, z2⟩ => ⟨z1, by rw [z2]; exact fa.below_drawn (Below.refl _ _) m⟩
            clear ht hf hm h0 h1
            have t0 := tR
            go_enter Tryz.func7, Tryz.ntmps7
            go_wp2_with (first
                | (have q2 := t2; go_at_call 21; refine (SR.out w2 BB.out).mono ?_; rintro e9 w3 ⟨rfl, B9⟩; have HV : Hid (Vr w3 w.heap.size [.int .i64 g0, .int .i64 g1, .int .i64 g2, .int .i64 g3, .int .i64 g4, .int .i64 g5, .slice po fs.length pc, .slice so n sc]) := HV.out.below B9 (range_lt HV.out.1 (Nat.succ_pos _)); have BB : Hid (Below w.heap.size w w3) := BB.out.trans (B9.mono BB.out.size); clear B9 t2 r0 r1 r2 r3 r4 r5 r6 r7; have r0 := HV.out.cell 0 _ rfl; have r1 := HV.out.cell 1 _ rfl; have r2 := HV.out.cell 2 _ rfl; have r7 := HV.out.cell 7 _ rfl; have t3 := tR)
                | (have q1 := t1; go_at_call 32; refine (SG.out w1).mono ?_; rintro e9 w2 ⟨rfl, B9⟩; have HV : Hid (Vr w2 w.heap.size [.int .i64 g0, .int .i64 g1, .int .i64 g2, .int .i64 g3, .int .i64 g4, .int .i64 g5, .slice po fs.length pc, .slice so n sc]) := HV.out.below B9 (range_lt HV.out.1 (Nat.succ_pos _)); have BB : Hid (Below w.heap.size w w2) := BB.out.trans (B9.mono BB.out.size); clear B9 t1 r0 r1 r2 r3 r4 r5 r6 r7; have r0 := HV.out.cell 0 _ rfl; have r1 := HV.out.cell 1 _ rfl; have r2 := HV.out.cell 2 _ rfl; have r3 := HV.out.cell 3 _ rfl; have r4 := HV.out.cell 4 _ rfl; have r5 := HV.out.cell 5 _ rfl; have r6 := HV.out.cell 6 _ rfl; have r7 := HV.out.cell 7 _ rfl; have t2 := tR)
                | (have q0 := t0; refine box_lawC _ [.int .i64 g0, .int .i64 g1, .int .i64 g2, .int .i64 g3, .int .i64 g4, .int .i64 g5, .slice po fs.length pc, .slice so n sc] rfl ?_; intro w1 X9 B9 l9; have HV : Hid (Vr w1 w.heap.size [.int .i64 g0, .int .i64 g1, .int .i64 g2, .int .i64 g3, .int .i64 g4, .int .i64 g5, .slice po fs.length pc, .slice so n sc]) := X9; have r0 := X9.cell 0 _ rfl; have r1 := X9.cell 1 _ rfl; have r2 := X9.cell 2 _ rfl; have r3 := X9.cell 3 _ rfl; have r4 := X9.cell 4 _ rfl; have r5 := X9.cell 5 _ rfl; have r6 := X9.cell 6 _ rfl; have r7 := X9.cell 7 _ rfl; have BB : Hid (Below w.heap.size w w1) := B9; clear X9 B9 l9 t0; have t1 := tR))
            go_ret
            first | exact ⟨rfl, BB.out⟩ | exact ⟨congrArg (fun z => Ending.returned (.bool z)) (decide_eq_false (by omega)), BB.out⟩ | exact ⟨congrArg (fun z => Ending.returned (.bool z)) (decide_eq_true h5), BB.out⟩
        · have e : t = false := by
            cases q : t with
            | false => rfl
            | true => exact absurd (ht.1 q).2.2.2.1 h3
          subst e
          have SG : Hid (∀ w0, Calls Tryz.prog 32 #[.agg (ints .i64 [g0, g1, g2, g3, g4, g5])] w0 fun x w' => x = .returned (.bool true) ∧ Below w0.heap.size w0 w') := ge.right_yes [g0, g1, g2, g3, g4, g5] rfl h0
          have SR : Hid (∀ w0, Below w.heap.size w w0 → Calls Tryz.prog 21 #[.slice po fs.length pc] w0 fun x w' => x = .returned (.bool true) ∧ Below w0.heap.size w0 w') := fun w0 b0 => (rright_any _ fs ms w0 (hf.below b0) (hm.below b0) true ⟨fun _ => h1, fun _ => rfl⟩).mono fun _ _ ⟨z1, m, z2⟩ => ⟨z1, by rw [z2]; exact fa.below_drawn (Below.refl _ _) m⟩
          clear ht hf hm h0 h1
          have t0 := tR
          go_enter Tryz.func7, Tryz.ntmps7
          go_wp2_with (first
              | (have q2 := t2; go_at_call 21; refine (SR.out w2 BB.out).mono ?_; rintro e9 w3 ⟨rfl, B9⟩; have HV : Hid (Vr w3 w.heap.size [.int .i64 g0, .int .i64 g1, .int .i64 g2, .int .i64 g3, .int .i64 g4, .int .i64 g5, .slice po fs.length pc, .slice so n sc]) := HV.out.below B9 (range_lt HV.out.1 (Nat.succ_pos _)); have BB : Hid (Below w.heap.size w w3) := BB.out.trans (B9.mono BB.out.size); clear B9 t2 r0 r1 r2 r3 r4 r5 r6 r7; have r0 := HV.out.cell 0 _ rfl; have r1 := HV.out.cell 1 _ rfl; have r2 := HV.out.cell 2 _ rfl; have r7 := HV.out.cell 7 _ rfl; have t3 := tR)
              | (have q1 := t1; go_at_call 32; refine (SG.out w1).mono ?_; rintro e9 w2 ⟨rfl, B9⟩; have HV : Hid (Vr w2 w.heap.size [.int .i64 g0, .int .i64 g1, .int .i64 g2, .int .i64 g3, .int .i64 g4, .int .i64 g5, .slice po fs.length pc, .slice so n sc]) := HV.out.below B9 (range_lt HV.out.1 (Nat.succ_pos _)); have BB : Hid (Below w.heap.size w w2) := BB.out.trans (B9.mono BB.out.size); clear B9 t1 r0 r1 r2 r3 r4 r5 r6 r7; have r0 := HV.out.cell 0 _ rfl; have r1 := HV.out.cell 1 _ rfl; have r2 := HV.out.cell 2 _ rfl; have r3 := HV.out.cell 3 _ rfl; have r4 := HV.out.cell 4 _ rfl; have r5 := HV.out.cell 5 _ rfl; have r6 := HV.out.cell 6 _ rfl; have r7 := HV.out.cell 7 _ rfl; have t2 := tR)
              | (have q0 := t0; refine box_lawC _ [.int .i64 g0, .int .i64 g1, .int .i64 g2, .int .i64 g3, .int .i64 g4, .int .i64 g5, .slice po fs.length pc, .slice so n sc] rfl ?_; intro w1 X9 B9 l9; have HV : Hid (Vr w1 w.heap.size [.int .i64 g0, .int .i64 g1, .int .i64 g2, .int .i64 g3, .int .i64 g4, .int .i64 g5, .slice po fs.length pc, .slice so n sc]) := X9; have r0 := X9.cell 0 _ rfl; have r1 := X9.cell 1 _ rfl; have r2 := X9.cell 2 _ rfl; have r3 := X9.cell 3 _ rfl; have r4 := X9.cell 4 _ rfl; have r5 := X9.cell 5 _ rfl; have r6 := X9.cell 6 _ rfl; have r7 := X9.cell 7 _ rfl; have BB : Hid (Below w.heap.size w w1) := B9; clear X9 B9 l9 t0; have t1 := tR))
          go_ret
          first | exact ⟨rfl, BB.out⟩ | exact ⟨congrArg (fun z => Ending.returned (.bool z)) (decide_eq_false (by omega)), BB.out⟩ | exact ⟨congrArg (fun z => Ending.returned (.bool z)) (decide_eq_true h5), BB.out⟩
      · have e : t = false := by
          cases q : t with
          | false => rfl
          | true => exact absurd (ht.1 q).2.2.1 h2
        subst e
        have SG : Hid (∀ w0, Calls Tryz.prog 32 #[.agg (ints .i64 [g0, g1, g2, g3, g4, g5])] w0 fun x w' => x = .returned (.bool true) ∧ Below w0.heap.size w0 w') := ge.right_yes [g0, g1, g2, g3, g4, g5] rfl h0
        have SR : Hid (∀ w0, Below w.heap.size w w0 → Calls Tryz.prog 21 #[.slice po fs.length pc] w0 fun x w' => x = .returned (.bool true) ∧ Below w0.heap.size w0 w') := fun w0 b0 => (rright_any _ fs ms w0 (hf.below b0) (hm.below b0) true ⟨fun _ => h1, fun _ => rfl⟩).mono fun _ _ ⟨z1, m, z2⟩ => ⟨z1, by rw [z2]; exact fa.below_drawn (Below.refl _ _) m⟩
        clear ht hf hm h0 h1
        have t0 := tR
        go_enter Tryz.func7, Tryz.ntmps7
        go_wp2_with (first
            | (have q2 := t2; go_at_call 21; refine (SR.out w2 BB.out).mono ?_; rintro e9 w3 ⟨rfl, B9⟩; have HV : Hid (Vr w3 w.heap.size [.int .i64 g0, .int .i64 g1, .int .i64 g2, .int .i64 g3, .int .i64 g4, .int .i64 g5, .slice po fs.length pc, .slice so n sc]) := HV.out.below B9 (range_lt HV.out.1 (Nat.succ_pos _)); have BB : Hid (Below w.heap.size w w3) := BB.out.trans (B9.mono BB.out.size); clear B9 t2 r0 r1 r2 r3 r4 r5 r6 r7; have r0 := HV.out.cell 0 _ rfl; have r1 := HV.out.cell 1 _ rfl; have r2 := HV.out.cell 2 _ rfl; have r7 := HV.out.cell 7 _ rfl; have t3 := tR)
            | (have q1 := t1; go_at_call 32; refine (SG.out w1).mono ?_; rintro e9 w2 ⟨rfl, B9⟩; have HV : Hid (Vr w2 w.heap.size [.int .i64 g0, .int .i64 g1, .int .i64 g2, .int .i64 g3, .int .i64 g4, .int .i64 g5, .slice po fs.length pc, .slice so n sc]) := HV.out.below B9 (range_lt HV.out.1 (Nat.succ_pos _)); have BB : Hid (Below w.heap.size w w2) := BB.out.trans (B9.mono BB.out.size); clear B9 t1 r0 r1 r2 r3 r4 r5 r6 r7; have r0 := HV.out.cell 0 _ rfl; have r1 := HV.out.cell 1 _ rfl; have r2 := HV.out.cell 2 _ rfl; have r3 := HV.out.cell 3 _ rfl; have r4 := HV.out.cell 4 _ rfl; have r5 := HV.out.cell 5 _ rfl; have r6 := HV.out.cell 6 _ rfl; have r7 := HV.out.cell 7 _ rfl; have t2 := tR)
            | (have q0 := t0; refine box_lawC _ [.int .i64 g0, .int .i64 g1, .int .i64 g2, .int .i64 g3, .int .i64 g4, .int .i64 g5, .slice po fs.length pc, .slice so n sc] rfl ?_; intro w1 X9 B9 l9; have HV : Hid (Vr w1 w.heap.size [.int .i64 g0, .int .i64 g1, .int .i64 g2, .int .i64 g3, .int .i64 g4, .int .i64 g5, .slice po fs.length pc, .slice so n sc]) := X9; have r0 := X9.cell 0 _ rfl; have r1 := X9.cell 1 _ rfl; have r2 := X9.cell 2 _ rfl; have r3 := X9.cell 3 _ rfl; have r4 := X9.cell 4 _ rfl; have r5 := X9.cell 5 _ rfl; have r6 := X9.cell 6 _ rfl; have r7 := X9.cell 7 _ rfl; have BB : Hid (Below w.heap.size w w1) := B9; clear X9 B9 l9 t0; have t1 := tR))
        go_ret
        first | exact ⟨rfl, BB.out⟩ | exact ⟨congrArg (fun z => Ending.returned (.bool z)) (decide_eq_false (by omega)), BB.out⟩ | exact ⟨congrArg (fun z => Ending.returned (.bool z)) (decide_eq_true h5), BB.out⟩
    · have e : t = false := by
        cases q : t with
        | false => rfl
        | true => exact absurd (ht.1 q).2.1 h1
      subst e
      have SG : Hid (∀ w0, Calls Tryz.prog 32 #[.agg (ints .i64 [g0, g1, g2, g3, g4, g5])] w0 fun x w' => x = .returned (.bool true) ∧ Below w0.heap.size w0 w') := ge.right_yes [g0, g1, g2, g3, g4, g5] rfl h0
      have SR : Hid (∀ w0, Below w.heap.size w w0 → Calls Tryz.prog 21 #[.slice po fs.length pc] w0 fun x w' => x = .returned (.bool false) ∧ Below w0.heap.size w0 w') := fun w0 b0 => (rright_any _ fs ms w0 (hf.below b0) (hm.below b0) false ⟨fun z => absurd z Bool.false_ne_true, fun z => absurd z h1⟩).mono fun _ _ ⟨z1, m, z2⟩ => ⟨z1, by rw [z2]; exact fa.below_drawn (Below.refl _ _) m⟩
      clear ht hf hm h0 h1
      have t0 := tR
      go_enter Tryz.func7, Tryz.ntmps7
      go_wp2_with (first
          | (have q2 := t2; go_at_call 21; refine (SR.out w2 BB.out).mono ?_; rintro e9 w3 ⟨rfl, B9⟩; have HV : Hid (Vr w3 w.heap.size [.int .i64 g0, .int .i64 g1, .int .i64 g2, .int .i64 g3, .int .i64 g4, .int .i64 g5, .slice po fs.length pc, .slice so n sc]) := HV.out.below B9 (range_lt HV.out.1 (Nat.succ_pos _)); have BB : Hid (Below w.heap.size w w3) := BB.out.trans (B9.mono BB.out.size); clear B9 t2 r0 r1 r2 r3 r4 r5 r6 r7; have r0 := HV.out.cell 0 _ rfl; have r1 := HV.out.cell 1 _ rfl; have r2 := HV.out.cell 2 _ rfl; have r7 := HV.out.cell 7 _ rfl; have t3 := tR)
          | (have q1 := t1; go_at_call 32; refine (SG.out w1).mono ?_; rintro e9 w2 ⟨rfl, B9⟩; have HV : Hid (Vr w2 w.heap.size [.int .i64 g0, .int .i64 g1, .int .i64 g2, .int .i64 g3, .int .i64 g4, .int .i64 g5, .slice po fs.length pc, .slice so n sc]) := HV.out.below B9 (range_lt HV.out.1 (Nat.succ_pos _)); have BB : Hid (Below w.heap.size w w2) := BB.out.trans (B9.mono BB.out.size); clear B9 t1 r0 r1 r2 r3 r4 r5 r6 r7; have r0 := HV.out.cell 0 _ rfl; have r1 := HV.out.cell 1 _ rfl; have r2 := HV.out.cell 2 _ rfl; have r3 := HV.out.cell 3 _ rfl; have r4 := HV.out.cell 4 _ rfl; have r5 := HV.out.cell 5 _ rfl; have r6 := HV.out.cell 6 _ rfl; have r7 := HV.out.cell 7 _ rfl; have t2 := tR)
          | (have q0 := t0; refine box_lawC _ [.int .i64 g0, .int .i64 g1, .int .i64 g2, .int .i64 g3, .int .i64 g4, .int .i64 g5, .slice po fs.length pc, .slice so n sc] rfl ?_; intro w1 X9 B9 l9; have HV : Hid (Vr w1 w.heap.size [.int .i64 g0, .int .i64 g1, .int .i64 g2, .int .i64 g3, .int .i64 g4, .int .i64 g5, .slice po fs.length pc, .slice so n sc]) := X9; have r0 := X9.cell 0 _ rfl; have r1 := X9.cell 1 _ rfl; have r2 := X9.cell 2 _ rfl; have r3 := X9.cell 3 _ rfl; have r4 := X9.cell 4 _ rfl; have r5 := X9.cell 5 _ rfl; have r6 := X9.cell 6 _ rfl; have r7 := X9.cell 7 _ rfl; have BB : Hid (Below w.heap.size w w1) := B9; clear X9 B9 l9 t0; have t1 := tR))
      go_ret
      first | exact ⟨rfl, BB.out⟩ | exact ⟨congrArg (fun z => Ending.returned (.bool z)) (decide_eq_false (by omega)), BB.out⟩ | exact ⟨congrArg (fun z => Ending.returned (.bool z)) (decide_eq_true h5), BB.out⟩
  · have e : t = false := by
      cases q : t with
      | false => rfl
      | true => exact absurd (ht.1 q).1 h0
    subst e
    have SG : Hid (∀ w0, Calls Tryz.prog 32 #[.agg (ints .i64 [g0, g1, g2, g3, g4, g5])] w0 fun x w' => x = .returned (.bool false) ∧ Below w0.heap.size w0 w') := ge.right_no [g0, g1, g2, g3, g4, g5] rfl h0
    clear ht hf hm h0
    have t0 := tR
    go_enter Tryz.func7, Tryz.ntmps7
    go_wp2_with (first
        | (have q1 := t1; go_at_call 32; refine (SG.out w1).mono ?_; rintro e9 w2 ⟨rfl, B9⟩; have HV : Hid (Vr w2 w.heap.size [.int .i64 g0, .int .i64 g1, .int .i64 g2, .int .i64 g3, .int .i64 g4, .int .i64 g5, .slice po fs.length pc, .slice so n sc]) := HV.out.below B9 (range_lt HV.out.1 (Nat.succ_pos _)); have BB : Hid (Below w.heap.size w w2) := BB.out.trans (B9.mono BB.out.size); clear B9 t1 r0 r1 r2 r3 r4 r5 r6 r7; have r0 := HV.out.cell 0 _ rfl; have r1 := HV.out.cell 1 _ rfl; have r2 := HV.out.cell 2 _ rfl; have r3 := HV.out.cell 3 _ rfl; have r4 := HV.out.cell 4 _ rfl; have r5 := HV.out.cell 5 _ rfl; have r6 := HV.out.cell 6 _ rfl; have r7 := HV.out.cell 7 _ rfl; have t2 := tR)
        | (have q0 := t0; refine box_lawC _ [.int .i64 g0, .int .i64 g1, .int .i64 g2, .int .i64 g3, .int .i64 g4, .int .i64 g5, .slice po fs.length pc, .slice so n sc] rfl ?_; intro w1 X9 B9 l9; have HV : Hid (Vr w1 w.heap.size [.int .i64 g0, .int .i64 g1, .int .i64 g2, .int .i64 g3, .int .i64 g4, .int .i64 g5, .slice po fs.length pc, .slice so n sc]) := X9; have r0 := X9.cell 0 _ rfl; have r1 := X9.cell 1 _ rfl; have r2 := X9.cell 2 _ rfl; have r3 := X9.cell 3 _ rfl; have r4 := X9.cell 4 _ rfl; have r5 := X9.cell 5 _ rfl; have r6 := X9.cell 6 _ rfl; have r7 := X9.cell 7 _ rfl; have BB : Hid (Below w.heap.size w w1) := B9; clear X9 B9 l9 t0; have t1 := tR))
    go_ret
    first | exact ⟨rfl, BB.out⟩ | exact ⟨congrArg (fun z => Ending.returned (.bool z)) (decide_eq_false (by omega)), BB.out⟩ | exact ⟨congrArg (fun z => Ending.returned (.bool z)) (decide_eq_true h5), BB.out⟩
def HIs (H : Ch) (N P S : Nat) (g3 g4 g5 : Int) (pl : na.Pln) : Prop := H.N = N ∧ H.P = P ∧ H.S = S ∧ H.g3 = g3 ∧ H.g4 = g4 ∧ H.g5 = g5 ∧ H.pl = pl
section
variable {H : Ch} {M : Nat → Bool} {w : World} {B : Nat} {b : Bx} {l : List na.Opn} {s : na.St} {N P S : Nat} {g3 g4 g5 : Int} {pl : na.Pln}
theorem commit_at (hh : HIs H N P S g3 g4 g5 pl) (h : Bs H M w B b l) (hp : Plc b.cur) (v : Value) (xs : List Int) (hy : Byt w v xs) (hl : xs.length = 624) (gen : Int) (hg : 0 ≤ gen ∧ gen ≤ 18446744073709551615) (hT : Tab w) (hn : na.ops b.s ≤ 900000) :
    Calls Tryz.prog 18 #[.pointer (some ⟨B, 0, none⟩), v, .int .u64 gen] w (Opd H M w B (cmt N P (S + 88) pl b (lps S xs gen) gen).2 (cmt N P (S + 88) pl b (lps S xs gen) gen).1) := by
  obtain ⟨rfl, rfl, rfl, -, -, -, rfl⟩ := hh
  exact commit_any h hp v xs hy hl gen hg hT hn
theorem open_new_at (hh : HIs H N P S g3 g4 g5 pl) (h : Cs H M w (na.new (S + 88)) []) (hT : Tab w) :
    Calls Tryz.prog 10 #[.pointer (some ⟨H.c, 0, none⟩)] w fun e w' => ∃ B ro rc, e = .returned (.tuple #[.pointer (some ⟨B, 0, none⟩), .slice ro 0 rc, .int .i64 10]) ∧ Bs H M w' B (b0 (S + 88)) [] ∧ w.heap.size ≤ B ∧ Below w.heap.size w w' := by
  obtain ⟨rfl, rfl, rfl, -, -, -, rfl⟩ := hh
  exact open_new h hT (rt_nc h.rt)
theorem open_found_at (hh : HIs H N P S g3 g4 g5 pl) (h : Cs H M w s l) (ho : na.off s = false) (hT : Tab w) (rec : List Int) (g : Int) (hF : Found S s rec g) :
    Calls Tryz.prog 10 #[.pointer (some ⟨H.c, 0, none⟩)] w fun e w' => ∃ B c ro rn rc, e = .returned (.tuple #[.pointer (some ⟨B, 0, none⟩), .slice ro rn rc, .int .i64 0]) ∧ Byt w' (.slice ro rn rc) rec ∧ Bs H M w' B (bx0 s c g (hfl l)) l ∧ w.heap.size ≤ B ∧ Below w.heap.size w w' := by
  obtain ⟨rfl, rfl, rfl, -, -, -, rfl⟩ := hh
  exact open_found h ho hT (rt_nc h.rt) rec g hF
end
end Go.Proofs.YtakibiigcdgohaaGreatDoor.vb
