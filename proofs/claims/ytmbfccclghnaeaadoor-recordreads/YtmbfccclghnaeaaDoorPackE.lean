/- Texts put together (a claim holds few files). No claim of its own. -/
import Derived.Test.YtmbfccclghnaeaaDoorPackD
import Derived.Test.YtmbfccclghnaeaaDoorPackC
import Derived.Deep.RegionHeld3
/- What the reference's Right and Same answer; a slot as the reference's. No claim of its own. -/
namespace Go.Proofs.YtmbfccclghnaeaaDoor.so
open Go.RowKit Go.Proofs.YtmbfccclghnaeaaDoor.fa Go.Proofs.YtmbfccclghnaeaaDoor.he
set_option maxRecDepth 20000

set_option maxHeartbeats 4000000 in
theorem rright_used (n e t : Int) (v : Value) (xs : List Int) (w : World) (hv : Byt w v xs) (b : Bool) (hb : b = decide (1 ≤ n ∧ n ≤ 65535 ∧ xs.length = 104)) :
    Calls Tryd.prog 34 #[.agg (sv true n e t v).toArray] w fun x w' => x = .returned (.bool b) ∧ Below w.heap.size w w' := by
  have HB : Hid (b = decide (1 ≤ n ∧ n ≤ 65535 ∧ xs.length = 104)) := hb
  obtain ⟨ao, cap, rfl⟩ := form hv
  clear hb hv
  by_cases a0 : n ≥ 1
  · by_cases a1 : n ≤ 65535
    · by_cases a2 : (xs.length : Int) = 104
      · have ba2 : (((xs.length : Int) : Int) == 104) = true := beq_iff_eq.2 a2
        have t0 : (0 : Nat) = 0 := rfl
        go_enter Tryd.func34, Tryd.ntmps34
        go_wp2_with (first
          | (have q0 := t0; refine box_lawC _ (sv true n e t (.slice ao xs.length cap)) rfl ?_; intro w1 X9 B9 l9; have HB0 : Hid (Vr w1 w.heap.size (sv true n e t (.slice ao xs.length cap))) := X9; have BB : Hid (Below w.heap.size w w1) := B9; have hb0_0 := HB0.out.cell 0 _ rfl; have hb0_1 := HB0.out.cell 1 _ rfl; have hb0_2 := HB0.out.cell 2 _ rfl; have hb0_3 := HB0.out.cell 3 _ rfl; have hb0_4 := HB0.out.cell 4 _ rfl; clear X9 B9 l9; clear t0; have t1 : (1 : Nat) = 1 := rfl))
        go_ret
        exact ⟨ret_bool (by rw [HB.out]; first | exact (decide_eq_true (by omega)).symm | exact (decide_eq_false (by omega)).symm | (simp; omega)), BB.out⟩
      · have ba2 : (((xs.length : Int) : Int) == 104) = false := beq_eq_false_iff_ne.2 a2
        have t0 : (0 : Nat) = 0 := rfl
        go_enter Tryd.func34, Tryd.ntmps34
        go_wp2_with (first
          | (have q0 := t0; refine box_lawC _ (sv true n e t (.slice ao xs.length cap)) rfl ?_; intro w1 X9 B9 l9; have HB0 : Hid (Vr w1 w.heap.size (sv true n e t (.slice ao xs.length cap))) := X9; have BB : Hid (Below w.heap.size w w1) := B9; have hb0_0 := HB0.out.cell 0 _ rfl; have hb0_1 := HB0.out.cell 1 _ rfl; have hb0_2 := HB0.out.cell 2 _ rfl; have hb0_3 := HB0.out.cell 3 _ rfl; have hb0_4 := HB0.out.cell 4 _ rfl; clear X9 B9 l9; clear t0; have t1 : (1 : Nat) = 1 := rfl))
        go_ret
        exact ⟨ret_bool (by rw [HB.out]; first | exact (decide_eq_true (by omega)).symm | exact (decide_eq_false (by omega)).symm | (simp; omega)), BB.out⟩
    · have t0 : (0 : Nat) = 0 := rfl
      go_enter Tryd.func34, Tryd.ntmps34
      go_wp2_with (first
        | (have q0 := t0; refine box_lawC _ (sv true n e t (.slice ao xs.length cap)) rfl ?_; intro w1 X9 B9 l9; have HB0 : Hid (Vr w1 w.heap.size (sv true n e t (.slice ao xs.length cap))) := X9; have BB : Hid (Below w.heap.size w w1) := B9; have hb0_0 := HB0.out.cell 0 _ rfl; have hb0_1 := HB0.out.cell 1 _ rfl; have hb0_2 := HB0.out.cell 2 _ rfl; have hb0_3 := HB0.out.cell 3 _ rfl; have hb0_4 := HB0.out.cell 4 _ rfl; clear X9 B9 l9; clear t0; have t1 : (1 : Nat) = 1 := rfl))
      go_ret
      exact ⟨ret_bool (by rw [HB.out]; first | exact (decide_eq_true (by omega)).symm | exact (decide_eq_false (by omega)).symm | (simp; omega)), BB.out⟩
  · have t0 : (0 : Nat) = 0 := rfl
    go_enter Tryd.func34, Tryd.ntmps34
    go_wp2_with (first
      | (have q0 := t0; refine box_lawC _ (sv true n e t (.slice ao xs.length cap)) rfl ?_; intro w1 X9 B9 l9; have HB0 : Hid (Vr w1 w.heap.size (sv true n e t (.slice ao xs.length cap))) := X9; have BB : Hid (Below w.heap.size w w1) := B9; have hb0_0 := HB0.out.cell 0 _ rfl; have hb0_1 := HB0.out.cell 1 _ rfl; have hb0_2 := HB0.out.cell 2 _ rfl; have hb0_3 := HB0.out.cell 3 _ rfl; have hb0_4 := HB0.out.cell 4 _ rfl; clear X9 B9 l9; clear t0; have t1 : (1 : Nat) = 1 := rfl))
    go_ret
    exact ⟨ret_bool (by rw [HB.out]; first | exact (decide_eq_true (by omega)).symm | exact (decide_eq_false (by omega)).symm | (simp; omega)), BB.out⟩

set_option maxHeartbeats 4000000 in
theorem rright_free (n e t : Int) (v : Value) (xs : List Int) (w : World) (hv : Byt w v xs) (b : Bool) (hb : b = decide (n = 0 ∧ e = 0 ∧ t = 0 ∧ xs.length = 0)) :
    Calls Tryd.prog 34 #[.agg (sv false n e t v).toArray] w fun x w' => x = .returned (.bool b) ∧ Below w.heap.size w w' := by
  have HB : Hid (b = decide (n = 0 ∧ e = 0 ∧ t = 0 ∧ xs.length = 0)) := hb
  obtain ⟨ao, cap, rfl⟩ := form hv
  clear hb hv
  by_cases a0 : n = 0
  · have ba0 : ((n : Int) == 0) = true := beq_iff_eq.2 a0
    by_cases a1 : e = 0
    · have ba1 : ((e : Int) == 0) = true := beq_iff_eq.2 a1
      by_cases a2 : t = 0
      · have ba2 : ((t : Int) == 0) = true := beq_iff_eq.2 a2
        by_cases a3 : (xs.length : Int) = 0
        · have ba3 : (((xs.length : Int) : Int) == 0) = true := beq_iff_eq.2 a3
          have t0 : (0 : Nat) = 0 := rfl
          go_enter Tryd.func34, Tryd.ntmps34
          go_wp2_with (first
            | (have q0 := t0; refine box_lawC _ (sv false n e t (.slice ao xs.length cap)) rfl ?_; intro w1 X9 B9 l9; have HB0 : Hid (Vr w1 w.heap.size (sv false n e t (.slice ao xs.length cap))) := X9; have BB : Hid (Below w.heap.size w w1) := B9; have hb0_0 := HB0.out.cell 0 _ rfl; have hb0_1 := HB0.out.cell 1 _ rfl; have hb0_2 := HB0.out.cell 2 _ rfl; have hb0_3 := HB0.out.cell 3 _ rfl; have hb0_4 := HB0.out.cell 4 _ rfl; clear X9 B9 l9; clear t0; have t1 : (1 : Nat) = 1 := rfl))
          go_ret
          exact ⟨ret_bool (by rw [HB.out]; first | exact (decide_eq_true (by omega)).symm | exact (decide_eq_false (by omega)).symm | (simp; omega)), BB.out⟩
        · have ba3 : (((xs.length : Int) : Int) == 0) = false := beq_eq_false_iff_ne.2 a3
          have t0 : (0 : Nat) = 0 := rfl
          go_enter Tryd.func34, Tryd.ntmps34
          go_wp2_with (first
            | (have q0 := t0; refine box_lawC _ (sv false n e t (.slice ao xs.length cap)) rfl ?_; intro w1 X9 B9 l9; have HB0 : Hid (Vr w1 w.heap.size (sv false n e t (.slice ao xs.length cap))) := X9; have BB : Hid (Below w.heap.size w w1) := B9; have hb0_0 := HB0.out.cell 0 _ rfl; have hb0_1 := HB0.out.cell 1 _ rfl; have hb0_2 := HB0.out.cell 2 _ rfl; have hb0_3 := HB0.out.cell 3 _ rfl; have hb0_4 := HB0.out.cell 4 _ rfl; clear X9 B9 l9; clear t0; have t1 : (1 : Nat) = 1 := rfl))
          go_ret
          exact ⟨ret_bool (by rw [HB.out]; first | exact (decide_eq_true (by omega)).symm | exact (decide_eq_false (by omega)).symm | (simp; omega)), BB.out⟩
      · have ba2 : ((t : Int) == 0) = false := beq_eq_false_iff_ne.2 a2
        have t0 : (0 : Nat) = 0 := rfl
        go_enter Tryd.func34, Tryd.ntmps34
        go_wp2_with (first
          | (have q0 := t0; refine box_lawC _ (sv false n e t (.slice ao xs.length cap)) rfl ?_; intro w1 X9 B9 l9; have HB0 : Hid (Vr w1 w.heap.size (sv false n e t (.slice ao xs.length cap))) := X9; have BB : Hid (Below w.heap.size w w1) := B9; have hb0_0 := HB0.out.cell 0 _ rfl; have hb0_1 := HB0.out.cell 1 _ rfl; have hb0_2 := HB0.out.cell 2 _ rfl; have hb0_3 := HB0.out.cell 3 _ rfl; have hb0_4 := HB0.out.cell 4 _ rfl; clear X9 B9 l9; clear t0; have t1 : (1 : Nat) = 1 := rfl))
        go_ret
        exact ⟨ret_bool (by rw [HB.out]; first | exact (decide_eq_true (by omega)).symm | exact (decide_eq_false (by omega)).symm | (simp; omega)), BB.out⟩
    · have ba1 : ((e : Int) == 0) = false := beq_eq_false_iff_ne.2 a1
      have t0 : (0 : Nat) = 0 := rfl
      go_enter Tryd.func34, Tryd.ntmps34
      go_wp2_with (first
        | (have q0 := t0; refine box_lawC _ (sv false n e t (.slice ao xs.length cap)) rfl ?_; intro w1 X9 B9 l9; have HB0 : Hid (Vr w1 w.heap.size (sv false n e t (.slice ao xs.length cap))) := X9; have BB : Hid (Below w.heap.size w w1) := B9; have hb0_0 := HB0.out.cell 0 _ rfl; have hb0_1 := HB0.out.cell 1 _ rfl; have hb0_2 := HB0.out.cell 2 _ rfl; have hb0_3 := HB0.out.cell 3 _ rfl; have hb0_4 := HB0.out.cell 4 _ rfl; clear X9 B9 l9; clear t0; have t1 : (1 : Nat) = 1 := rfl))
      go_ret
      exact ⟨ret_bool (by rw [HB.out]; first | exact (decide_eq_true (by omega)).symm | exact (decide_eq_false (by omega)).symm | (simp; omega)), BB.out⟩
  · have ba0 : ((n : Int) == 0) = false := beq_eq_false_iff_ne.2 a0
    have t0 : (0 : Nat) = 0 := rfl
    go_enter Tryd.func34, Tryd.ntmps34
    go_wp2_with (first
      | (have q0 := t0; refine box_lawC _ (sv false n e t (.slice ao xs.length cap)) rfl ?_; intro w1 X9 B9 l9; have HB0 : Hid (Vr w1 w.heap.size (sv false n e t (.slice ao xs.length cap))) := X9; have BB : Hid (Below w.heap.size w w1) := B9; have hb0_0 := HB0.out.cell 0 _ rfl; have hb0_1 := HB0.out.cell 1 _ rfl; have hb0_2 := HB0.out.cell 2 _ rfl; have hb0_3 := HB0.out.cell 3 _ rfl; have hb0_4 := HB0.out.cell 4 _ rfl; clear X9 B9 l9; clear t0; have t1 : (1 : Nat) = 1 := rfl))
    go_ret
    exact ⟨ret_bool (by rw [HB.out]; first | exact (decide_eq_true (by omega)).symm | exact (decide_eq_false (by omega)).symm | (simp; omega)), BB.out⟩

theorem rright_yes (u : Bool) (n e t : Int) (v : Value) (xs : List Int) (w : World) (hv : Byt w v xs) (h : Rs u n e t xs) :
    Calls Tryd.prog 34 #[.agg (sv u n e t v).toArray] w fun x w' => x = .returned (.bool true) ∧ Below w.heap.size w w' := by
  cases u
  · exact rright_free n e t v xs w hv true (decide_eq_true (show n = 0 ∧ e = 0 ∧ t = 0 ∧ xs.length = 0 from h)).symm
  · exact rright_used n e t v xs w hv true (decide_eq_true (show 1 ≤ n ∧ n ≤ 65535 ∧ xs.length = 104 from h)).symm
theorem rright_no (u : Bool) (n e t : Int) (v : Value) (xs : List Int) (w : World) (hv : Byt w v xs) (h : ¬ Rs u n e t xs) :
    Calls Tryd.prog 34 #[.agg (sv u n e t v).toArray] w fun x w' => x = .returned (.bool false) ∧ Below w.heap.size w w' := by
  cases u
  · exact rright_free n e t v xs w hv false (decide_eq_false (show ¬ (n = 0 ∧ e = 0 ∧ t = 0 ∧ xs.length = 0) from h)).symm
  · exact rright_used n e t v xs w hv false (decide_eq_false (show ¬ (1 ≤ n ∧ n ≤ 65535 ∧ xs.length = 104) from h)).symm

set_option maxHeartbeats 4000000 in
theorem rsame_yes (u : Bool) (n e t : Int) (va vb : Value) (xs : List Int) (w : World) (ha : Byt w va xs) (hb : Byt w vb xs) :
    Calls Tryd.prog 35 #[.agg (sv u n e t va).toArray, .agg (sv u n e t vb).toArray] w fun x w' => x = .returned (.bool true) ∧ Below w.heap.size w w' := by
  have SS : Hid (∀ w0, Below w.heap.size w w0 → Calls Tryd.prog 18 #[va, vb] w0 fun x w' => x = .returned (.bool true) ∧ Below w0.heap.size w0 w') := fun w0 q => same_yes w0 va vb xs (ha.below q) (hb.below q)
  obtain ⟨ao, c1, rfl⟩ := form ha
  obtain ⟨bo, c2, rfl⟩ := form hb
  clear ha hb
  have t0 : (0 : Nat) = 0 := rfl
  cases u
  · go_enter Tryd.func35, Tryd.ntmps35
    go_wp2_with (first
      | (have q2 := t2; go_at_call 18; refine (SS.out w2 BB.out).mono ?_; rintro e9 w3 ⟨rfl, B9⟩; have HB0 : Hid (Vr w3 w.heap.size (sv false n e t (.slice ao xs.length c1))) := HB0.out.below B9 (range_lt HB0.out.1 (Nat.succ_pos _)); have HB1 : Hid (Vr w3 w1.heap.size (sv false n e t (.slice bo xs.length c2))) := HB1.out.below B9 (range_lt HB1.out.1 (Nat.succ_pos _)); have BB : Hid (Below w.heap.size w w3) := BB.out.trans (B9.mono BB.out.size); clear hb0_0 hb0_1 hb0_2 hb0_3 hb0_4 hb1_0 hb1_1 hb1_2 hb1_3 hb1_4; have hb0_0 := HB0.out.cell 0 _ rfl; have hb0_1 := HB0.out.cell 1 _ rfl; have hb0_2 := HB0.out.cell 2 _ rfl; have hb0_3 := HB0.out.cell 3 _ rfl; have hb0_4 := HB0.out.cell 4 _ rfl; have hb1_0 := HB1.out.cell 0 _ rfl; have hb1_1 := HB1.out.cell 1 _ rfl; have hb1_2 := HB1.out.cell 2 _ rfl; have hb1_3 := HB1.out.cell 3 _ rfl; have hb1_4 := HB1.out.cell 4 _ rfl; clear B9; clear t2; have t3 : (1 : Nat) = 1 := rfl)
      | (have q1 := t1; refine box_lawC _ (sv false n e t (.slice bo xs.length c2)) rfl ?_; intro w2 X9 B9 l9; have HB0 : Hid (Vr w2 w.heap.size (sv false n e t (.slice ao xs.length c1))) := HB0.out.below B9 (range_lt HB0.out.1 (Nat.succ_pos _)); have HB1 : Hid (Vr w2 w1.heap.size (sv false n e t (.slice bo xs.length c2))) := X9; have BB : Hid (Below w.heap.size w w2) := BB.out.trans (B9.mono BB.out.size); have hb0_0 := HB0.out.cell 0 _ rfl; have hb0_1 := HB0.out.cell 1 _ rfl; have hb0_2 := HB0.out.cell 2 _ rfl; have hb0_3 := HB0.out.cell 3 _ rfl; have hb0_4 := HB0.out.cell 4 _ rfl; have hb1_0 := HB1.out.cell 0 _ rfl; have hb1_1 := HB1.out.cell 1 _ rfl; have hb1_2 := HB1.out.cell 2 _ rfl; have hb1_3 := HB1.out.cell 3 _ rfl; have hb1_4 := HB1.out.cell 4 _ rfl; clear X9 B9 l9; clear t1; have t2 : (1 : Nat) = 1 := rfl)
      | (have q0 := t0; refine box_lawC _ (sv false n e t (.slice ao xs.length c1)) rfl ?_; intro w1 X9 B9 l9; have HB0 : Hid (Vr w1 w.heap.size (sv false n e t (.slice ao xs.length c1))) := X9; have BB : Hid (Below w.heap.size w w1) := B9; clear X9 B9 l9; clear t0; have t1 : (1 : Nat) = 1 := rfl))
    go_ret
    exact ⟨rfl, BB.out⟩
  · go_enter Tryd.func35, Tryd.ntmps35
    go_wp2_with (first
      | (have q2 := t2; go_at_call 18; refine (SS.out w2 BB.out).mono ?_; rintro e9 w3 ⟨rfl, B9⟩; have HB0 : Hid (Vr w3 w.heap.size (sv true n e t (.slice ao xs.length c1))) := HB0.out.below B9 (range_lt HB0.out.1 (Nat.succ_pos _)); have HB1 : Hid (Vr w3 w1.heap.size (sv true n e t (.slice bo xs.length c2))) := HB1.out.below B9 (range_lt HB1.out.1 (Nat.succ_pos _)); have BB : Hid (Below w.heap.size w w3) := BB.out.trans (B9.mono BB.out.size); clear hb0_0 hb0_1 hb0_2 hb0_3 hb0_4 hb1_0 hb1_1 hb1_2 hb1_3 hb1_4; have hb0_0 := HB0.out.cell 0 _ rfl; have hb0_1 := HB0.out.cell 1 _ rfl; have hb0_2 := HB0.out.cell 2 _ rfl; have hb0_3 := HB0.out.cell 3 _ rfl; have hb0_4 := HB0.out.cell 4 _ rfl; have hb1_0 := HB1.out.cell 0 _ rfl; have hb1_1 := HB1.out.cell 1 _ rfl; have hb1_2 := HB1.out.cell 2 _ rfl; have hb1_3 := HB1.out.cell 3 _ rfl; have hb1_4 := HB1.out.cell 4 _ rfl; clear B9; clear t2; have t3 : (1 : Nat) = 1 := rfl)
      | (have q1 := t1; refine box_lawC _ (sv true n e t (.slice bo xs.length c2)) rfl ?_; intro w2 X9 B9 l9; have HB0 : Hid (Vr w2 w.heap.size (sv true n e t (.slice ao xs.length c1))) := HB0.out.below B9 (range_lt HB0.out.1 (Nat.succ_pos _)); have HB1 : Hid (Vr w2 w1.heap.size (sv true n e t (.slice bo xs.length c2))) := X9; have BB : Hid (Below w.heap.size w w2) := BB.out.trans (B9.mono BB.out.size); have hb0_0 := HB0.out.cell 0 _ rfl; have hb0_1 := HB0.out.cell 1 _ rfl; have hb0_2 := HB0.out.cell 2 _ rfl; have hb0_3 := HB0.out.cell 3 _ rfl; have hb0_4 := HB0.out.cell 4 _ rfl; have hb1_0 := HB1.out.cell 0 _ rfl; have hb1_1 := HB1.out.cell 1 _ rfl; have hb1_2 := HB1.out.cell 2 _ rfl; have hb1_3 := HB1.out.cell 3 _ rfl; have hb1_4 := HB1.out.cell 4 _ rfl; clear X9 B9 l9; clear t1; have t2 : (1 : Nat) = 1 := rfl)
      | (have q0 := t0; refine box_lawC _ (sv true n e t (.slice ao xs.length c1)) rfl ?_; intro w1 X9 B9 l9; have HB0 : Hid (Vr w1 w.heap.size (sv true n e t (.slice ao xs.length c1))) := X9; have BB : Hid (Below w.heap.size w w1) := B9; clear X9 B9 l9; clear t0; have t1 : (1 : Nat) = 1 := rfl))
    go_ret
    exact ⟨rfl, BB.out⟩
end Go.Proofs.YtmbfccclghnaeaaDoor.so

/- The table of a slot's sizes; 'copy' into a part of a row; parts laid one behind the other. No claim of its own. -/
namespace Go.Proofs.YtmbfccclghnaeaaDoor.so
open Go.RowKit Go.Proofs.YtmbfccclghnaeaaDoor.fa Go.Proofs.YtmbfccclghnaeaaDoor.he
set_option maxRecDepth 20000

/-- the table of sizes lies in w -/
def Tbl (w : World) : Prop := ∀ i : Nat, i < 5 → w.cell? ⟨0, i, none⟩ = some (.int .i64 (gb [1, 3, 4, 8, 8] i))
theorem Tbl.lt {w : World} (h : Tbl w) : 0 < w.heap.size := World.block_lt_of_cell? w _ (h 0 (by omega))
theorem Tbl.below {w w' : World} {B : Nat} (h : Tbl w) (hb : Below B w w') (hB : 0 < B) : Tbl w' := fun i hi => by
  have := h i hi
  rw [hb.cell hB]; exact this
theorem Tbl.range {w : World} (h : Tbl w) : w.rangeAt 0 0 (([1, 3, 4, 8, 8] : List Int).map (Value.int .i64)) := fun j v hv => by
  have hj : j < 5 := by have := (List.getElem?_eq_some_iff.1 hv).1; simpa using this
  have key : ∀ (l : List Int) j, j < l.length → (l.map (Value.int .i64))[j]? = some (.int .i64 (gb l j)) := fun l j h => by simp [gb, List.getD, h]
  rw [Nat.zero_add, h j hj, ← hv, key [1, 3, 4, 8, 8] j hj]
theorem rowy_sizes : Rowy 86 5 := ⟨⟨_, Tryd.underlying86, rfl⟩, by kernel_rfl⟩
theorem one_int : One 3 := ⟨⟨_, Tryd.underlying3, rfl⟩, by kernel_rfl⟩
/-- what the row's list of variables gives: the table of sizes -/
theorem gTab : Tryd.prog.globalNamed "nepenthe/slot.sizes" = some 0 := by kernel_rfl
theorem gTabType : (Tryd.prog.globals[0]?).map (·.type) = some 86 := by kernel_rfl
theorem cells_arr5i : Tryd.prog.cellsOf 86 = 5 := by kernel_rfl
theorem table {W : World} (h : laidMetH Tryd.prog [("nepenthe/slot.sizes", Rows.laid_nepenthe_slot_sizes)] W) : Tbl W := by
  have t := Lib.tabIs_of_head (rest := []) (zs := [1, 3, 4, 8, 8]) (k := .i64) gTab gTabType Tryd.underlying86 Tryd.underlying3 cells_int cells_arr5i h
  intro i hi
  have := t.cell gTab i hi
  rw [this]
  rfl
/-- 'copy(d, s)' where d is as long or longer, into the middle of a row, in a region that draws its order -/
theorem step_copyS {ops : Array Oper} {o : Oper} {a : Act} {Q : Exit → Act → World → Prop} {K : Act → World → Prop} {E : Prop} (w : World) (hg : o.guard = none) (d : Option Tmp) (hd : o.dst = d) (x y : Operand) (hop : o.op = .call { callee := .builtin .copy, args := #[x, y], argTypes := #[23, 23] })
    (b p n dc : Nat) (v : Value) (xs ys : List Int) (k : Nat) (hx : a.eval x = .slice (some ⟨b, p, none⟩) n dc) (hy : a.eval y = v) (hb : Byt w v ys) (hA : Ar w b 0 .u8 xs) (hk : ys.length = k) (hn : k ≤ n) (hl : p + k ≤ xs.length)
    (hK : ∀ w', Ar w' b 0 .u8 (laid xs p ys) → Below b w w' → K (a.put d (.int .i64 (k : Int))) w') :
    if Region.wanted o (yielded ops a.tmps) = true then Oper.wp Tryd.prog o a w K Q else E := by
  have hw : Region.wanted o (yielded ops a.tmps) = true := by simp [Region.wanted, hg]
  rw [if_pos hw]
  subst hd
  obtain ⟨ao, cap, rfl, h1, h2, h3, h4, h5⟩ := hb
  subst hk
  have e : min ys.length n = ys.length := by omega
  have hrun := run_copyG w b p n dc ao ys cap o.type h5 (by rw [e]; exact thereG hA p _ hl)
  rw [e, List.take_of_length_le (by omega)] at hrun
  unfold Oper.wp execOp
  simp only [hop, resolve, invoke, builtin, Sem.run_bind, Sem.run_pure, Result.andThen_ok, List.map_toArray, List.map_cons, List.map_nil, hx, hy, hrun]
  exact hK _ (hA.layG p ys (by omega)) (below_cells _ (Nat.le_refl _) _ _ (Below.refl _ _))
/-- noughts from a place on -/
def pad (p : List Int) (n : Nat) : List Int := p ++ List.replicate n 0
theorem pad_len (p : List Int) (n : Nat) : (pad p n).length = p.length + n := by simp [pad]
theorem lay_next (p ys : List Int) (k n : Nat) (hk : p.length = k) (_h : ys.length ≤ n) : laid (pad p n) k ys = pad (p ++ ys) (n - ys.length) := by
  subst hk
  unfold laid pad
  rw [List.take_left, List.drop_append, List.drop_of_length_le (by omega), List.nil_append, Nat.add_sub_cancel_left, List.drop_replicate]
theorem pad_all {p : List Int} (h : AllB p) (n : Nat) : AllB (pad p n) := he.allB_app h (allB_replicate 0 n (by omega))
/-- a slot's numbers as bytes, the first k of them -/
def pf (U N e t : Int) : Nat → List Int
  | 0 => []
  | 1 => be U 1
  | 2 => be U 1 ++ be 0 3
  | 3 => be U 1 ++ be 0 3 ++ be N 4
  | 4 => be U 1 ++ be 0 3 ++ be N 4 ++ be e 8
  | _ => be U 1 ++ be 0 3 ++ be N 4 ++ be e 8 ++ be t 8
theorem pf_all (U N e t : Int) : AllB (pf U N e t 5) := he.allB_app (he.allB_app (he.allB_app (he.allB_app (be_all _ _) (be_all _ _)) (be_all _ _)) (be_all _ _)) (be_all _ _)
theorem pf_len (U N e t : Int) : (pf U N e t 5).length = 24 := by simp [pf, be_len]
theorem pf_used (n e t : Int) (ws : List Int) : pf 1 n e t 5 ++ ws = sbt n e t ws := by
  show be 1 1 ++ be 0 3 ++ be n 4 ++ be e 8 ++ be t 8 ++ ws = _
  rw [show be 1 1 = [1] from rfl, show be 0 3 = [0, 0, 0] from rfl]
  simp [sbt]
theorem pf_free : pad (pf 0 0 0 0 5) 104 = List.replicate 128 0 := by decide +kernel
end Go.Proofs.YtmbfccclghnaeaaDoor.so

/- What slot's Bytes answers. No claim of its own. -/
namespace Go.Proofs.YtmbfccclghnaeaaDoor.so
open Go.RowKit Go.Proofs.YtmbfccclghnaeaaDoor.fa Go.Proofs.YtmbfccclghnaeaaDoor.he
set_option maxRecDepth 20000

set_option maxHeartbeats 2000000 in
theorem bytes_no (u : Bool) (n e t : Int) (v : Value) (xs : List Int) (w : World) (hv : Byt w v xs) (hS : Sb n e t) (hr : ¬ Rs u n e t xs) :
    Calls Tryd.prog 29 #[.agg (sv u n e t v).toArray] w fun x w' => x = .returned (.tuple #[.slice none 0 0, .int .i64 2]) ∧ Below w.heap.size w w' := by
  have SR : Hid (∀ w0, Below w.heap.size w w0 → Calls Tryd.prog 33 #[.agg (sv u n e t v).toArray] w0 fun x w' => x = .returned (.bool false) ∧ Below w0.heap.size w0 w') := fun w0 q => right_no u n e t v xs w0 (hv.below q) hS hr
  obtain ⟨ao, cap, rfl⟩ := form hv
  clear hv hS hr
  have t0 : (0 : Nat) = 0 := rfl
  go_enter Tryd.func29, Tryd.ntmps29
  go_wp2_with (first
    | (have q1 := t1; go_at_call 33; refine (SR.out w1 BB.out).mono ?_; rintro e9 w2 ⟨rfl, B9⟩; have HB0 : Hid (Vr w2 w.heap.size (sv u n e t (.slice ao xs.length cap))) := HB0.out.below B9 (range_lt HB0.out.1 (Nat.succ_pos _)); have BB : Hid (Below w.heap.size w w2) := BB.out.trans (B9.mono BB.out.size); clear hb0_0 hb0_1 hb0_2 hb0_3 hb0_4; have hb0_0 := HB0.out.cell 0 _ rfl; have hb0_1 := HB0.out.cell 1 _ rfl; have hb0_2 := HB0.out.cell 2 _ rfl; have hb0_3 := HB0.out.cell 3 _ rfl; have hb0_4 := HB0.out.cell 4 _ rfl; clear B9; clear t1; have t2 : (1 : Nat) = 1 := rfl)
    | (have q0 := t0; refine box_lawC _ (sv u n e t (.slice ao xs.length cap)) rfl ?_; intro w1 X9 B9 l9; have HB0 : Hid (Vr w1 w.heap.size (sv u n e t (.slice ao xs.length cap))) := X9; have BB : Hid (Below w.heap.size w w1) := B9; have hb0_0 := HB0.out.cell 0 _ rfl; have hb0_1 := HB0.out.cell 1 _ rfl; have hb0_2 := HB0.out.cell 2 _ rfl; have hb0_3 := HB0.out.cell 3 _ rfl; have hb0_4 := HB0.out.cell 4 _ rfl; clear X9 B9 l9; clear t0; have t1 : (1 : Nat) = 1 := rfl))
  go_ret2
  exact ⟨rfl, BB.out⟩

set_option maxHeartbeats 8000000 in
theorem bytes_core (u : Bool) (n e t U N : Int) (v : Value) (xs : List Int) (w : World) (hv : Byt w v xs) (hS : Sb n e t) (hr : Rs u n e t xs) (hT : Tbl w) (hU : 0 ≤ U ∧ U ≤ 18446744073709551615) (hM : 0 ≤ N ∧ N ≤ 18446744073709551615) (hX : xs.length ≤ 104)
    (hN : ∀ w0, Calls Tryd.prog 51 #[.agg (sv u n e t v).toArray] w0 fun x w' => x = .returned (.agg (nv [U, 0, N, e, t]).toArray) ∧ Below w0.heap.size w0 w') :
    Calls Tryd.prog 29 #[.agg (sv u n e t v).toArray] w fun x w' => ∃ g, x = .returned (.tuple #[.slice (some ⟨g, 0, none⟩) 128 128, .int .i64 0]) ∧ Ar w' g 0 .u8 (laid (pad (pf U N e t 5) 104) 24 xs) ∧ Below w.heap.size w w' := by
  have SR : Hid (∀ w0, Below w.heap.size w w0 → Calls Tryd.prog 33 #[.agg (sv u n e t v).toArray] w0 fun x w' => x = .returned (.bool true) ∧ Below w0.heap.size w0 w') := fun w0 q => right_yes u n e t v xs w0 (hv.below q) hS hr
  have HV : Hid (Byt w v xs) := hv
  have SN : Hid (∀ w0, Below w.heap.size w w0 → Calls Tryd.prog 51 #[.agg (sv u n e t v).toArray] w0 fun x w' => x = .returned (.agg (nv [U, 0, N, e, t]).toArray) ∧ Below w0.heap.size w0 w') := fun w0 _ => hN w0
  have HT : Hid (Tbl w) := hT
  have TL : Hid (0 < w.heap.size) := hT.lt
  have S0 : Hid (∀ w0, Calls Tryd.prog 49 #[.int .u64 U, .int .i64 1] w0 fun x w' => ∃ r, x = .returned r ∧ Byt w' r (be U 1) ∧ Below w0.heap.size w0 w') := fun w0 => by
    have z := big_any U 1 w0 hU
    rw [show clamp 1 8 = 1 by decide] at z
    exact z
  have Q0 : Hid ((be U 1).length = 1) := be_len _ _
  have S1 : Hid (∀ w0, Calls Tryd.prog 49 #[.int .u64 0, .int .i64 3] w0 fun x w' => ∃ r, x = .returned r ∧ Byt w' r (be 0 3) ∧ Below w0.heap.size w0 w') := fun w0 => by
    have z := big_any 0 3 w0 ⟨by omega, by omega⟩
    rw [show clamp 3 8 = 3 by decide] at z
    exact z
  have Q1 : Hid ((be 0 3).length = 3) := be_len _ _
  have S2 : Hid (∀ w0, Calls Tryd.prog 49 #[.int .u64 N, .int .i64 4] w0 fun x w' => ∃ r, x = .returned r ∧ Byt w' r (be N 4) ∧ Below w0.heap.size w0 w') := fun w0 => by
    have z := big_any N 4 w0 hM
    rw [show clamp 4 8 = 4 by decide] at z
    exact z
  have Q2 : Hid ((be N 4).length = 4) := be_len _ _
  have S3 : Hid (∀ w0, Calls Tryd.prog 49 #[.int .u64 e, .int .i64 8] w0 fun x w' => ∃ r, x = .returned r ∧ Byt w' r (be e 8) ∧ Below w0.heap.size w0 w') := fun w0 => by
    have z := big_any e 8 w0 hS.2.1
    rw [show clamp 8 8 = 8 by decide] at z
    exact z
  have Q3 : Hid ((be e 8).length = 8) := be_len _ _
  have S4 : Hid (∀ w0, Calls Tryd.prog 49 #[.int .u64 t, .int .i64 8] w0 fun x w' => ∃ r, x = .returned r ∧ Byt w' r (be t 8) ∧ Below w0.heap.size w0 w') := fun w0 => by
    have z := big_any t 8 w0 hS.2.2
    rw [show clamp 8 8 = 8 by decide] at z
    exact z
  have Q4 : Hid ((be t 8).length = 8) := be_len _ _
  have E0 : Hid (laid (pad (pf U N e t 0) 128) 0 (be U 1) = pad (pf U N e t 1) 127) := by
    have z := lay_next (pf U N e t 0) (be U 1) 0 128 (by simp [pf]) (by simp [be_len])
    rw [be_len] at z
    exact z
  have E1 : Hid (laid (pad (pf U N e t 1) 127) 1 (be 0 3) = pad (pf U N e t 2) 124) := by
    have z := lay_next (pf U N e t 1) (be 0 3) 1 127 (by simp [pf, be_len]) (by simp [be_len])
    rw [be_len] at z
    exact z
  have E2 : Hid (laid (pad (pf U N e t 2) 124) 4 (be N 4) = pad (pf U N e t 3) 120) := by
    have z := lay_next (pf U N e t 2) (be N 4) 4 124 (by simp [pf, be_len]) (by simp [be_len])
    rw [be_len] at z
    exact z
  have E3 : Hid (laid (pad (pf U N e t 3) 120) 8 (be e 8) = pad (pf U N e t 4) 112) := by
    have z := lay_next (pf U N e t 3) (be e 8) 8 120 (by simp [pf, be_len]) (by simp [be_len])
    rw [be_len] at z
    exact z
  have E4 : Hid (laid (pad (pf U N e t 4) 112) 16 (be t 8) = pad (pf U N e t 5) 104) := by
    have z := lay_next (pf U N e t 4) (be t 8) 16 112 (by simp [pf, be_len]) (by simp [be_len])
    rw [be_len] at z
    exact z
  have L0 : Hid ((pad (pf U N e t 0) 128).length = 128) := by
    show _ = _
    rw [pad_len]
    simp [pf]
  have L1 : Hid ((pad (pf U N e t 1) 127).length = 128) := by
    show _ = _
    rw [pad_len]
    simp [pf, be_len]
  have L2 : Hid ((pad (pf U N e t 2) 124).length = 128) := by
    show _ = _
    rw [pad_len]
    simp [pf, be_len]
  have L3 : Hid ((pad (pf U N e t 3) 120).length = 128) := by
    show _ = _
    rw [pad_len]
    simp [pf, be_len]
  have L4 : Hid ((pad (pf U N e t 4) 112).length = 128) := by
    show _ = _
    rw [pad_len]
    simp [pf, be_len]
  have L5 : Hid ((pad (pf U N e t 5) 104).length = 128) := by
    show _ = _
    rw [pad_len]
    simp [pf, be_len]
  have ER : Hid (List.replicate 128 0 = pad (pf U N e t 0) 128) := rfl
  have HX : Hid (xs.length ≤ 104) := hX
  generalize pad (pf U N e t 0) 128 = R0 at ER L0 E0
  generalize pad (pf U N e t 1) 127 = R1 at L1 E1 E0
  generalize pad (pf U N e t 2) 124 = R2 at L2 E2 E1
  generalize pad (pf U N e t 3) 120 = R3 at L3 E3 E2
  generalize pad (pf U N e t 4) 112 = R4 at L4 E4 E3
  generalize pad (pf U N e t 5) 104 = R5 at L5 E4 ⊢
  generalize be U 1 = b0 at S0 Q0 E0
  generalize be 0 3 = b1 at S1 Q1 E1
  generalize be N 4 = b2 at S2 Q2 E2
  generalize be e 8 = b3 at S3 Q3 E3
  generalize be t 8 = b4 at S4 Q4 E4
  obtain ⟨ao, cap, rfl⟩ := form hv
  clear hv hS hr hN hT hU hM hX
  have t0 : (0 : Nat) = 0 := rfl
  go_enter Tryd.func29, Tryd.ntmps29
  go_wp2_with (first
    | (have q3 := t3; go_at_call 51; refine (SN.out w3 BB.out).mono ?_; rintro e9 w4 ⟨rfl, B9⟩; have HB0 : Hid (Vr w4 w.heap.size (sv u n e t (.slice ao xs.length cap))) := HB0.out.below B9 (range_lt HB0.out.1 (Nat.succ_pos _)); have HA : Hid (Ar w4 w2.heap.size 0 .u8 R0) := HA.out.below B9 LG.out; have LG : Hid (w2.heap.size < w4.heap.size) := Nat.lt_of_lt_of_le LG.out B9.size; have LB : Hid (w.heap.size < w2.heap.size) := range_lt HB0q.out.1 (Nat.succ_pos _); have BB : Hid (Below w.heap.size w w4) := BB.out.trans (B9.mono BB.out.size); clear hb0_0 hb0_1 hb0_2 hb0_3 hb0_4; have hb0_0 := HB0.out.cell 0 _ rfl; have hb0_1 := HB0.out.cell 1 _ rfl; have hb0_2 := HB0.out.cell 2 _ rfl; have hb0_3 := HB0.out.cell 3 _ rfl; have hb0_4 := HB0.out.cell 4 _ rfl; clear B9; clear t3; have t4 : (1 : Nat) = 1 := rfl)
    | (have q2 := t2; refine make_law w2 rfl (.const (.int .i64 128)) (.const (.int .i64 128)) rfl w2.heap.size (Nat.le_refl _) 128 128 rfl rfl rfl (by omega) ?_; intro w3 o9 B9 l9; have HB0 : Hid (Vr w3 w.heap.size (sv u n e t (.slice ao xs.length cap))) := HB0.out.below B9 (range_lt HB0.out.1 (Nat.succ_pos _)); have HA : Hid (Ar w3 w2.heap.size 0 .u8 R0) := (by rw [← ER.out]; exact o9.arG); have LG : Hid (w2.heap.size < w3.heap.size) := l9; have BB : Hid (Below w.heap.size w w3) := BB.out.trans (B9.mono BB.out.size); clear hb0_0 hb0_1 hb0_2 hb0_3 hb0_4; have hb0_0 := HB0.out.cell 0 _ rfl; have hb0_1 := HB0.out.cell 1 _ rfl; have hb0_2 := HB0.out.cell 2 _ rfl; have hb0_3 := HB0.out.cell 3 _ rfl; have hb0_4 := HB0.out.cell 4 _ rfl; clear o9 B9 l9; clear t2; have t3 : (1 : Nat) = 1 := rfl)
    | (have q1 := t1; go_at_call 33; refine (SR.out w1 BB.out).mono ?_; rintro e9 w2 ⟨rfl, B9⟩; have HB0 : Hid (Vr w2 w.heap.size (sv u n e t (.slice ao xs.length cap))) := HB0.out.below B9 (range_lt HB0.out.1 (Nat.succ_pos _)); have BB : Hid (Below w.heap.size w w2) := BB.out.trans (B9.mono BB.out.size); clear hb0_0 hb0_1 hb0_2 hb0_3 hb0_4; have hb0_0 := HB0.out.cell 0 _ rfl; have hb0_1 := HB0.out.cell 1 _ rfl; have hb0_2 := HB0.out.cell 2 _ rfl; have hb0_3 := HB0.out.cell 3 _ rfl; have hb0_4 := HB0.out.cell 4 _ rfl; have HB0q := HB0; clear B9; clear t1; have t2 : (1 : Nat) = 1 := rfl)
    | (have q0 := t0; refine box_lawC _ (sv u n e t (.slice ao xs.length cap)) rfl ?_; intro w1 X9 B9 l9; have HB0 : Hid (Vr w1 w.heap.size (sv u n e t (.slice ao xs.length cap))) := X9; have BB : Hid (Below w.heap.size w w1) := B9; have hb0_0 := HB0.out.cell 0 _ rfl; have hb0_1 := HB0.out.cell 1 _ rfl; have hb0_2 := HB0.out.cell 2 _ rfl; have hb0_3 := HB0.out.cell 3 _ rfl; have hb0_4 := HB0.out.cell 4 _ rfl; clear X9 B9 l9; clear t0; have t1 : (1 : Nat) = 1 := rfl))
  clear hb0_0 hb0_1 hb0_2 hb0_3 hb0_4
  go_loopw [14, 5] (fun i z wr => ((i = .int .i64 0 ∧ z = .int .i64 0 ∧ Ar wr w2.heap.size 0 .u8 R0) ∨ (i = .int .i64 1 ∧ z = .int .i64 1 ∧ Ar wr w2.heap.size 0 .u8 R1) ∨ (i = .int .i64 2 ∧ z = .int .i64 4 ∧ Ar wr w2.heap.size 0 .u8 R2) ∨ (i = .int .i64 3 ∧ z = .int .i64 8 ∧ Ar wr w2.heap.size 0 .u8 R3) ∨ (i = .int .i64 4 ∧ z = .int .i64 16 ∧ Ar wr w2.heap.size 0 .u8 R4) ∨ (i = .int .i64 5 ∧ z = .int .i64 24 ∧ Ar wr w2.heap.size 0 .u8 R5)) ∧ Below w2.heap.size w4 wr) (fun i _ _ => 5 - (intOf i).toNat)
  case atStart => exact ⟨.inl ⟨rfl, rfl, HA.out⟩, Below.refl _ _⟩
  case round =>
    clear HA
    obtain ⟨hrel, b4⟩ := hrel
    have C4 : Hid (Below w2.heap.size w4 wr) := b4
    have BR : Hid (Below w.heap.size w wr) := BB.out.trans (b4.mono (Nat.le_of_lt LB.out))
    have TT : Hid (Tbl wr) := HT.out.below BR.out TL.out
    have LG : Hid (w2.heap.size < wr.heap.size) := Nat.lt_of_lt_of_le LG.out b4.size
    have HB0 : Hid (Vr wr w.heap.size (sv u n e t (.slice ao xs.length cap))) := HB0.out.below b4 LB.out
    clear b4
    obtain ⟨rfl, rfl, a4⟩ | ⟨rfl, rfl, a4⟩ | ⟨rfl, rfl, a4⟩ | ⟨rfl, rfl, a4⟩ | ⟨rfl, rfl, a4⟩ | ⟨rfl, rfl, a4⟩ := hrel
    · have HA : Hid (Ar wr w2.heap.size 0 .u8 R0) := a4
      clear a4
      have u0 : (0 : Nat) = 0 := rfl
      go_wp2_with (first
        | (have q := u0; refine idx_law _ rfl (.tmp 13) (.tmp 14) 84 rfl _ _ (.int .u64 U) rfl rfl (by kernel_rfl) ?_; clear u0))
      have HA : Hid (Ar wr.drew w2.heap.size 0 .u8 R0) := HA.out.drewN 1
      refine wp_region_held_drew (S := fun w' => Below w2.heap.size wr w') (by kernel_rfl) (Below.refl _ _).drew (fun hS => ?_)
      obtain ⟨x1, hx0⟩ : ∃ x, x = wr.drew := ⟨_, rfl⟩
      rw [← hx0] at hS HA ⊢
      clear hx0
      refine take_lawH 0 (some 18) (.int .i64 0) rfl rfl (by kernel_rfl) (by kernel_rfl) (by kernel_rfl) (fun _ _ _ h => h) (Or.inl ⟨by rfl, fun w' hw' => by rfl⟩) hS ?_
      simp only [Act.put, List.setIfInBounds_toArray, List.set_cons_zero, List.set_cons_succ]
      refine take_lawH 1 (some 19) (.slice (some ⟨w2.heap.size, 0, none⟩) 128 128) rfl rfl (by kernel_rfl) (by kernel_rfl) (by kernel_rfl) (fun _ _ _ h => h) (Or.inl ⟨by rfl, fun w' hw' => by rfl⟩) hS ?_
      simp only [Act.put, List.setIfInBounds_toArray, List.set_cons_zero, List.set_cons_succ]
      refine take_lawH 2 (some 20) (.int .i64 0) rfl rfl (by kernel_rfl) (by kernel_rfl) (by kernel_rfl) (fun _ _ _ h => h) (Or.inl ⟨by rfl, fun w' hw' => by rfl⟩) hS ?_
      simp only [Act.put, List.setIfInBounds_toArray, List.set_cons_zero, List.set_cons_succ]
      refine take_lawH 3 (some 21) (.slice (some ⟨w2.heap.size, 0, none⟩) 128 128) rfl rfl (by kernel_rfl) (by kernel_rfl) (by kernel_rfl) (fun _ _ _ h => h) (Or.inl ⟨by rfl, fun w' hw' => by kernel_rfl⟩) hS ?_
      simp only [Act.put, List.setIfInBounds_toArray, List.set_cons_zero, List.set_cons_succ]
      refine take_lawH 4 (some 22) (.int .u64 U) rfl rfl (by kernel_rfl) (by kernel_rfl) (by kernel_rfl) (fun _ _ _ h => h) (Or.inl ⟨by rfl, fun w' hw' => by rfl⟩) hS ?_
      simp only [Act.put, List.setIfInBounds_toArray, List.set_cons_zero, List.set_cons_succ]
      refine take_lawH 5 (some 23) (.int .i64 0) rfl rfl (by kernel_rfl) (by kernel_rfl) (by kernel_rfl) (fun _ _ _ h => h) (Or.inl ⟨by rfl, fun w' hw' => by rfl⟩) hS ?_
      simp only [Act.put, List.setIfInBounds_toArray, List.set_cons_zero, List.set_cons_succ]
      refine take_lawH 6 (some 24) (.pointer (some ⟨0, 0, none⟩)) rfl rfl (by kernel_rfl) (by kernel_rfl) (by kernel_rfl) (fun _ _ _ h => h) (Or.inl ⟨by rfl, fun w' hw' => by go_simp⟩) hS ?_
      simp only [Act.put, List.setIfInBounds_toArray, List.set_cons_zero, List.set_cons_succ]
      refine take_lawH 7 (some 25) (.int .i64 1) rfl rfl (by kernel_rfl) (by kernel_rfl) (by kernel_rfl) (fun _ _ _ h => h) (Or.inl ⟨by rfl, fun w' hw' => by exact exec_loadN 3 (.tmp 24) rfl _ rfl _ _ (load_one one_int ((TT.out.below hw' (Nat.lt_trans TL.out LB.out)) 0 (by omega)))⟩) hS ?_
      simp only [Act.put, List.setIfInBounds_toArray, List.set_cons_zero, List.set_cons_succ]
      refine wpAnyH_ready (rs := [8]) (by kernel_rfl) (by simp) ?_
      refine AllReadyH.cons rfl (fun K hK => ?_) AllReadyH.nil
      refine he.step_callW _ (by rfl) (some 26) rfl 49 #[.tmp 22, .tmp 25] #[22, 3] rfl (fun q w' => by rfl) #[.int .u64 U, .int .i64 1] (by simp only [List.map_toArray, List.map_cons, List.map_nil]; rfl) (fun z9 w' => Byt w' z9 b0 ∧ Below x1.heap.size x1 w') ?_ ?_
      · exact S0.out x1
      rintro v5 x2 ⟨y1, hb⟩
      have Y5 : Hid (Byt x2 v5 b0) := y1
      have LW : Hid (w2.heap.size < x1.heap.size) := Nat.lt_of_lt_of_le LG.out hS.size
      have HA : Hid (Ar x2 w2.heap.size 0 .u8 R0) := HA.out.below hb LW.out
      have hS : Below w2.heap.size wr x2 := hS.trans (hb.mono (Nat.le_of_lt LW.out))
      clear y1 hb
      refine hK.out _ _ hS (fun _ => ?_)
      simp only [Act.put, List.setIfInBounds_toArray, List.set_cons_zero, List.set_cons_succ]
      clear hK K
      refine wpAnyH_ready (rs := [9]) (by kernel_rfl) (by simp) ?_
      refine AllReadyH.cons rfl (fun K hK => ?_) AllReadyH.nil
      refine step_copyS _ rfl (some 27) rfl (.tmp 21) (.tmp 26) rfl w2.heap.size 0 128 128 v5 R0 b0 1 rfl rfl Y5.out HA.out Q0.out (by omega) (by rw [L0.out]; omega) ?_
      intro x3 a9 hb
      have HA : Hid (Ar x3 w2.heap.size 0 .u8 R1) := (by rw [← E0.out]; exact a9)
      have hS : Below w2.heap.size wr x3 := hS.trans hb
      clear a9 hb
      refine hK.out _ _ hS (fun _ => ?_)
      simp only [Act.put, List.setIfInBounds_toArray, List.set_cons_zero, List.set_cons_succ]
      clear hK K
      refine take_lawH 10 (some 28) (.int .i64 1) rfl rfl (by kernel_rfl) (by kernel_rfl) (by kernel_rfl) (fun _ _ _ h => h) (Or.inl ⟨by rfl, fun w' hw' => by rfl⟩) hS ?_
      simp only [Act.put, List.setIfInBounds_toArray, List.set_cons_zero, List.set_cons_succ]
      refine take_lawH 11 (some 5) (.int .i64 1) rfl rfl (by kernel_rfl) (by kernel_rfl) (by kernel_rfl) (fun _ _ _ h => h) (Or.inl ⟨by rfl, fun w' hw' => by rfl⟩) hS ?_
      simp only [Act.put, List.setIfInBounds_toArray, List.set_cons_zero, List.set_cons_succ]
      refine wpAnyH_done (by kernel_rfl) ?_ _
      have C5 : Hid (Below w2.heap.size wr x3) := hS
      clear hS
      go_wp2
      go_roundw
      case rel => exact ⟨.inr (.inl ⟨rfl, rfl, HA.out⟩), C4.out.trans C5.out⟩
      case measure => simp [intOf]
    · have HA : Hid (Ar wr w2.heap.size 0 .u8 R1) := a4
      clear a4
      have u0 : (0 : Nat) = 0 := rfl
      go_wp2_with (first
        | (have q := u0; refine idx_law _ rfl (.tmp 13) (.tmp 14) 84 rfl _ _ (.int .u64 0) rfl rfl (by kernel_rfl) ?_; clear u0))
      have HA : Hid (Ar wr.drew w2.heap.size 0 .u8 R1) := HA.out.drewN 1
      refine wp_region_held_drew (S := fun w' => Below w2.heap.size wr w') (by kernel_rfl) (Below.refl _ _).drew (fun hS => ?_)
      obtain ⟨x1, hx0⟩ : ∃ x, x = wr.drew := ⟨_, rfl⟩
      rw [← hx0] at hS HA ⊢
      clear hx0
      refine take_lawH 0 (some 18) (.int .i64 1) rfl rfl (by kernel_rfl) (by kernel_rfl) (by kernel_rfl) (fun _ _ _ h => h) (Or.inl ⟨by rfl, fun w' hw' => by rfl⟩) hS ?_
      simp only [Act.put, List.setIfInBounds_toArray, List.set_cons_zero, List.set_cons_succ]
      refine take_lawH 1 (some 19) (.slice (some ⟨w2.heap.size, 0, none⟩) 128 128) rfl rfl (by kernel_rfl) (by kernel_rfl) (by kernel_rfl) (fun _ _ _ h => h) (Or.inl ⟨by rfl, fun w' hw' => by rfl⟩) hS ?_
      simp only [Act.put, List.setIfInBounds_toArray, List.set_cons_zero, List.set_cons_succ]
      refine take_lawH 2 (some 20) (.int .i64 1) rfl rfl (by kernel_rfl) (by kernel_rfl) (by kernel_rfl) (fun _ _ _ h => h) (Or.inl ⟨by rfl, fun w' hw' => by rfl⟩) hS ?_
      simp only [Act.put, List.setIfInBounds_toArray, List.set_cons_zero, List.set_cons_succ]
      refine take_lawH 3 (some 21) (.slice (some ⟨w2.heap.size, 1, none⟩) 127 127) rfl rfl (by kernel_rfl) (by kernel_rfl) (by kernel_rfl) (fun _ _ _ h => h) (Or.inl ⟨by rfl, fun w' hw' => by kernel_rfl⟩) hS ?_
      simp only [Act.put, List.setIfInBounds_toArray, List.set_cons_zero, List.set_cons_succ]
      refine take_lawH 4 (some 22) (.int .u64 0) rfl rfl (by kernel_rfl) (by kernel_rfl) (by kernel_rfl) (fun _ _ _ h => h) (Or.inl ⟨by rfl, fun w' hw' => by rfl⟩) hS ?_
      simp only [Act.put, List.setIfInBounds_toArray, List.set_cons_zero, List.set_cons_succ]
      refine take_lawH 5 (some 23) (.int .i64 1) rfl rfl (by kernel_rfl) (by kernel_rfl) (by kernel_rfl) (fun _ _ _ h => h) (Or.inl ⟨by rfl, fun w' hw' => by rfl⟩) hS ?_
      simp only [Act.put, List.setIfInBounds_toArray, List.set_cons_zero, List.set_cons_succ]
      refine take_lawH 6 (some 24) (.pointer (some ⟨0, 1, none⟩)) rfl rfl (by kernel_rfl) (by kernel_rfl) (by kernel_rfl) (fun _ _ _ h => h) (Or.inl ⟨by rfl, fun w' hw' => by go_simp⟩) hS ?_
      simp only [Act.put, List.setIfInBounds_toArray, List.set_cons_zero, List.set_cons_succ]
      refine take_lawH 7 (some 25) (.int .i64 3) rfl rfl (by kernel_rfl) (by kernel_rfl) (by kernel_rfl) (fun _ _ _ h => h) (Or.inl ⟨by rfl, fun w' hw' => by exact exec_loadN 3 (.tmp 24) rfl _ rfl _ _ (load_one one_int ((TT.out.below hw' (Nat.lt_trans TL.out LB.out)) 1 (by omega)))⟩) hS ?_
      simp only [Act.put, List.setIfInBounds_toArray, List.set_cons_zero, List.set_cons_succ]
      refine wpAnyH_ready (rs := [8]) (by kernel_rfl) (by simp) ?_
      refine AllReadyH.cons rfl (fun K hK => ?_) AllReadyH.nil
      refine he.step_callW _ (by rfl) (some 26) rfl 49 #[.tmp 22, .tmp 25] #[22, 3] rfl (fun q w' => by rfl) #[.int .u64 0, .int .i64 3] (by simp only [List.map_toArray, List.map_cons, List.map_nil]; rfl) (fun z9 w' => Byt w' z9 b1 ∧ Below x1.heap.size x1 w') ?_ ?_
      · exact S1.out x1
      rintro v5 x2 ⟨y1, hb⟩
      have Y5 : Hid (Byt x2 v5 b1) := y1
      have LW : Hid (w2.heap.size < x1.heap.size) := Nat.lt_of_lt_of_le LG.out hS.size
      have HA : Hid (Ar x2 w2.heap.size 0 .u8 R1) := HA.out.below hb LW.out
      have hS : Below w2.heap.size wr x2 := hS.trans (hb.mono (Nat.le_of_lt LW.out))
      clear y1 hb
      refine hK.out _ _ hS (fun _ => ?_)
      simp only [Act.put, List.setIfInBounds_toArray, List.set_cons_zero, List.set_cons_succ]
      clear hK K
      refine wpAnyH_ready (rs := [9]) (by kernel_rfl) (by simp) ?_
      refine AllReadyH.cons rfl (fun K hK => ?_) AllReadyH.nil
      refine step_copyS _ rfl (some 27) rfl (.tmp 21) (.tmp 26) rfl w2.heap.size 1 127 127 v5 R1 b1 3 rfl rfl Y5.out HA.out Q1.out (by omega) (by rw [L1.out]; omega) ?_
      intro x3 a9 hb
      have HA : Hid (Ar x3 w2.heap.size 0 .u8 R2) := (by rw [← E1.out]; exact a9)
      have hS : Below w2.heap.size wr x3 := hS.trans hb
      clear a9 hb
      refine hK.out _ _ hS (fun _ => ?_)
      simp only [Act.put, List.setIfInBounds_toArray, List.set_cons_zero, List.set_cons_succ]
      clear hK K
      refine take_lawH 10 (some 28) (.int .i64 4) rfl rfl (by kernel_rfl) (by kernel_rfl) (by kernel_rfl) (fun _ _ _ h => h) (Or.inl ⟨by rfl, fun w' hw' => by rfl⟩) hS ?_
      simp only [Act.put, List.setIfInBounds_toArray, List.set_cons_zero, List.set_cons_succ]
      refine take_lawH 11 (some 5) (.int .i64 4) rfl rfl (by kernel_rfl) (by kernel_rfl) (by kernel_rfl) (fun _ _ _ h => h) (Or.inl ⟨by rfl, fun w' hw' => by rfl⟩) hS ?_
      simp only [Act.put, List.setIfInBounds_toArray, List.set_cons_zero, List.set_cons_succ]
      refine wpAnyH_done (by kernel_rfl) ?_ _
      have C5 : Hid (Below w2.heap.size wr x3) := hS
      clear hS
      go_wp2
      go_roundw
      case rel => exact ⟨.inr (.inr (.inl ⟨rfl, rfl, HA.out⟩)), C4.out.trans C5.out⟩
      case measure => simp [intOf]
    · have HA : Hid (Ar wr w2.heap.size 0 .u8 R2) := a4
      clear a4
      have u0 : (0 : Nat) = 0 := rfl
      go_wp2_with (first
        | (have q := u0; refine idx_law _ rfl (.tmp 13) (.tmp 14) 84 rfl _ _ (.int .u64 N) rfl rfl (by kernel_rfl) ?_; clear u0))
      have HA : Hid (Ar wr.drew w2.heap.size 0 .u8 R2) := HA.out.drewN 1
      refine wp_region_held_drew (S := fun w' => Below w2.heap.size wr w') (by kernel_rfl) (Below.refl _ _).drew (fun hS => ?_)
      obtain ⟨x1, hx0⟩ : ∃ x, x = wr.drew := ⟨_, rfl⟩
      rw [← hx0] at hS HA ⊢
      clear hx0
      refine take_lawH 0 (some 18) (.int .i64 4) rfl rfl (by kernel_rfl) (by kernel_rfl) (by kernel_rfl) (fun _ _ _ h => h) (Or.inl ⟨by rfl, fun w' hw' => by rfl⟩) hS ?_
      simp only [Act.put, List.setIfInBounds_toArray, List.set_cons_zero, List.set_cons_succ]
      refine take_lawH 1 (some 19) (.slice (some ⟨w2.heap.size, 0, none⟩) 128 128) rfl rfl (by kernel_rfl) (by kernel_rfl) (by kernel_rfl) (fun _ _ _ h => h) (Or.inl ⟨by rfl, fun w' hw' => by rfl⟩) hS ?_
      simp only [Act.put, List.setIfInBounds_toArray, List.set_cons_zero, List.set_cons_succ]
      refine take_lawH 2 (some 20) (.int .i64 4) rfl rfl (by kernel_rfl) (by kernel_rfl) (by kernel_rfl) (fun _ _ _ h => h) (Or.inl ⟨by rfl, fun w' hw' => by rfl⟩) hS ?_
      simp only [Act.put, List.setIfInBounds_toArray, List.set_cons_zero, List.set_cons_succ]
      refine take_lawH 3 (some 21) (.slice (some ⟨w2.heap.size, 4, none⟩) 124 124) rfl rfl (by kernel_rfl) (by kernel_rfl) (by kernel_rfl) (fun _ _ _ h => h) (Or.inl ⟨by rfl, fun w' hw' => by kernel_rfl⟩) hS ?_
      simp only [Act.put, List.setIfInBounds_toArray, List.set_cons_zero, List.set_cons_succ]
      refine take_lawH 4 (some 22) (.int .u64 N) rfl rfl (by kernel_rfl) (by kernel_rfl) (by kernel_rfl) (fun _ _ _ h => h) (Or.inl ⟨by rfl, fun w' hw' => by rfl⟩) hS ?_
      simp only [Act.put, List.setIfInBounds_toArray, List.set_cons_zero, List.set_cons_succ]
      refine take_lawH 5 (some 23) (.int .i64 2) rfl rfl (by kernel_rfl) (by kernel_rfl) (by kernel_rfl) (fun _ _ _ h => h) (Or.inl ⟨by rfl, fun w' hw' => by rfl⟩) hS ?_
      simp only [Act.put, List.setIfInBounds_toArray, List.set_cons_zero, List.set_cons_succ]
      refine take_lawH 6 (some 24) (.pointer (some ⟨0, 2, none⟩)) rfl rfl (by kernel_rfl) (by kernel_rfl) (by kernel_rfl) (fun _ _ _ h => h) (Or.inl ⟨by rfl, fun w' hw' => by go_simp⟩) hS ?_
      simp only [Act.put, List.setIfInBounds_toArray, List.set_cons_zero, List.set_cons_succ]
      refine take_lawH 7 (some 25) (.int .i64 4) rfl rfl (by kernel_rfl) (by kernel_rfl) (by kernel_rfl) (fun _ _ _ h => h) (Or.inl ⟨by rfl, fun w' hw' => by exact exec_loadN 3 (.tmp 24) rfl _ rfl _ _ (load_one one_int ((TT.out.below hw' (Nat.lt_trans TL.out LB.out)) 2 (by omega)))⟩) hS ?_
      simp only [Act.put, List.setIfInBounds_toArray, List.set_cons_zero, List.set_cons_succ]
      refine wpAnyH_ready (rs := [8]) (by kernel_rfl) (by simp) ?_
      refine AllReadyH.cons rfl (fun K hK => ?_) AllReadyH.nil
      refine he.step_callW _ (by rfl) (some 26) rfl 49 #[.tmp 22, .tmp 25] #[22, 3] rfl (fun q w' => by rfl) #[.int .u64 N, .int .i64 4] (by simp only [List.map_toArray, List.map_cons, List.map_nil]; rfl) (fun z9 w' => Byt w' z9 b2 ∧ Below x1.heap.size x1 w') ?_ ?_
      · exact S2.out x1
      rintro v5 x2 ⟨y1, hb⟩
      have Y5 : Hid (Byt x2 v5 b2) := y1
      have LW : Hid (w2.heap.size < x1.heap.size) := Nat.lt_of_lt_of_le LG.out hS.size
      have HA : Hid (Ar x2 w2.heap.size 0 .u8 R2) := HA.out.below hb LW.out
      have hS : Below w2.heap.size wr x2 := hS.trans (hb.mono (Nat.le_of_lt LW.out))
      clear y1 hb
      refine hK.out _ _ hS (fun _ => ?_)
      simp only [Act.put, List.setIfInBounds_toArray, List.set_cons_zero, List.set_cons_succ]
      clear hK K
      refine wpAnyH_ready (rs := [9]) (by kernel_rfl) (by simp) ?_
      refine AllReadyH.cons rfl (fun K hK => ?_) AllReadyH.nil
      refine step_copyS _ rfl (some 27) rfl (.tmp 21) (.tmp 26) rfl w2.heap.size 4 124 124 v5 R2 b2 4 rfl rfl Y5.out HA.out Q2.out (by omega) (by rw [L2.out]; omega) ?_
      intro x3 a9 hb
      have HA : Hid (Ar x3 w2.heap.size 0 .u8 R3) := (by rw [← E2.out]; exact a9)
      have hS : Below w2.heap.size wr x3 := hS.trans hb
      clear a9 hb
      refine hK.out _ _ hS (fun _ => ?_)
      simp only [Act.put, List.setIfInBounds_toArray, List.set_cons_zero, List.set_cons_succ]
      clear hK K
      refine take_lawH 10 (some 28) (.int .i64 8) rfl rfl (by kernel_rfl) (by kernel_rfl) (by kernel_rfl) (fun _ _ _ h => h) (Or.inl ⟨by rfl, fun w' hw' => by rfl⟩) hS ?_
      simp only [Act.put, List.setIfInBounds_toArray, List.set_cons_zero, List.set_cons_succ]
      refine take_lawH 11 (some 5) (.int .i64 8) rfl rfl (by kernel_rfl) (by kernel_rfl) (by kernel_rfl) (fun _ _ _ h => h) (Or.inl ⟨by rfl, fun w' hw' => by rfl⟩) hS ?_
      simp only [Act.put, List.setIfInBounds_toArray, List.set_cons_zero, List.set_cons_succ]
      refine wpAnyH_done (by kernel_rfl) ?_ _
      have C5 : Hid (Below w2.heap.size wr x3) := hS
      clear hS
      go_wp2
      go_roundw
      case rel => exact ⟨.inr (.inr (.inr (.inl ⟨rfl, rfl, HA.out⟩))), C4.out.trans C5.out⟩
      case measure => simp [intOf]
    · have HA : Hid (Ar wr w2.heap.size 0 .u8 R3) := a4
      clear a4
      have u0 : (0 : Nat) = 0 := rfl
      go_wp2_with (first
        | (have q := u0; refine idx_law _ rfl (.tmp 13) (.tmp 14) 84 rfl _ _ (.int .u64 e) rfl rfl (by kernel_rfl) ?_; clear u0))
      have HA : Hid (Ar wr.drew w2.heap.size 0 .u8 R3) := HA.out.drewN 1
      refine wp_region_held_drew (S := fun w' => Below w2.heap.size wr w') (by kernel_rfl) (Below.refl _ _).drew (fun hS => ?_)
      obtain ⟨x1, hx0⟩ : ∃ x, x = wr.drew := ⟨_, rfl⟩
      rw [← hx0] at hS HA ⊢
      clear hx0
      refine take_lawH 0 (some 18) (.int .i64 8) rfl rfl (by kernel_rfl) (by kernel_rfl) (by kernel_rfl) (fun _ _ _ h => h) (Or.inl ⟨by rfl, fun w' hw' => by rfl⟩) hS ?_
      simp only [Act.put, List.setIfInBounds_toArray, List.set_cons_zero, List.set_cons_succ]
      refine take_lawH 1 (some 19) (.slice (some ⟨w2.heap.size, 0, none⟩) 128 128) rfl rfl (by kernel_rfl) (by kernel_rfl) (by kernel_rfl) (fun _ _ _ h => h) (Or.inl ⟨by rfl, fun w' hw' => by rfl⟩) hS ?_
      simp only [Act.put, List.setIfInBounds_toArray, List.set_cons_zero, List.set_cons_succ]
      refine take_lawH 2 (some 20) (.int .i64 8) rfl rfl (by kernel_rfl) (by kernel_rfl) (by kernel_rfl) (fun _ _ _ h => h) (Or.inl ⟨by rfl, fun w' hw' => by rfl⟩) hS ?_
      simp only [Act.put, List.setIfInBounds_toArray, List.set_cons_zero, List.set_cons_succ]
      refine take_lawH 3 (some 21) (.slice (some ⟨w2.heap.size, 8, none⟩) 120 120) rfl rfl (by kernel_rfl) (by kernel_rfl) (by kernel_rfl) (fun _ _ _ h => h) (Or.inl ⟨by rfl, fun w' hw' => by kernel_rfl⟩) hS ?_
      simp only [Act.put, List.setIfInBounds_toArray, List.set_cons_zero, List.set_cons_succ]
      refine take_lawH 4 (some 22) (.int .u64 e) rfl rfl (by kernel_rfl) (by kernel_rfl) (by kernel_rfl) (fun _ _ _ h => h) (Or.inl ⟨by rfl, fun w' hw' => by rfl⟩) hS ?_
      simp only [Act.put, List.setIfInBounds_toArray, List.set_cons_zero, List.set_cons_succ]
      refine take_lawH 5 (some 23) (.int .i64 3) rfl rfl (by kernel_rfl) (by kernel_rfl) (by kernel_rfl) (fun _ _ _ h => h) (Or.inl ⟨by rfl, fun w' hw' => by rfl⟩) hS ?_
      simp only [Act.put, List.setIfInBounds_toArray, List.set_cons_zero, List.set_cons_succ]
      refine take_lawH 6 (some 24) (.pointer (some ⟨0, 3, none⟩)) rfl rfl (by kernel_rfl) (by kernel_rfl) (by kernel_rfl) (fun _ _ _ h => h) (Or.inl ⟨by rfl, fun w' hw' => by go_simp⟩) hS ?_
      simp only [Act.put, List.setIfInBounds_toArray, List.set_cons_zero, List.set_cons_succ]
      refine take_lawH 7 (some 25) (.int .i64 8) rfl rfl (by kernel_rfl) (by kernel_rfl) (by kernel_rfl) (fun _ _ _ h => h) (Or.inl ⟨by rfl, fun w' hw' => by exact exec_loadN 3 (.tmp 24) rfl _ rfl _ _ (load_one one_int ((TT.out.below hw' (Nat.lt_trans TL.out LB.out)) 3 (by omega)))⟩) hS ?_
      simp only [Act.put, List.setIfInBounds_toArray, List.set_cons_zero, List.set_cons_succ]
      refine wpAnyH_ready (rs := [8]) (by kernel_rfl) (by simp) ?_
      refine AllReadyH.cons rfl (fun K hK => ?_) AllReadyH.nil
      refine he.step_callW _ (by rfl) (some 26) rfl 49 #[.tmp 22, .tmp 25] #[22, 3] rfl (fun q w' => by rfl) #[.int .u64 e, .int .i64 8] (by simp only [List.map_toArray, List.map_cons, List.map_nil]; rfl) (fun z9 w' => Byt w' z9 b3 ∧ Below x1.heap.size x1 w') ?_ ?_
      · exact S3.out x1
      rintro v5 x2 ⟨y1, hb⟩
      have Y5 : Hid (Byt x2 v5 b3) := y1
      have LW : Hid (w2.heap.size < x1.heap.size) := Nat.lt_of_lt_of_le LG.out hS.size
      have HA : Hid (Ar x2 w2.heap.size 0 .u8 R3) := HA.out.below hb LW.out
      have hS : Below w2.heap.size wr x2 := hS.trans (hb.mono (Nat.le_of_lt LW.out))
      clear y1 hb
      refine hK.out _ _ hS (fun _ => ?_)
      simp only [Act.put, List.setIfInBounds_toArray, List.set_cons_zero, List.set_cons_succ]
      clear hK K
      refine wpAnyH_ready (rs := [9]) (by kernel_rfl) (by simp) ?_
      refine AllReadyH.cons rfl (fun K hK => ?_) AllReadyH.nil
      refine step_copyS _ rfl (some 27) rfl (.tmp 21) (.tmp 26) rfl w2.heap.size 8 120 120 v5 R3 b3 8 rfl rfl Y5.out HA.out Q3.out (by omega) (by rw [L3.out]; omega) ?_
      intro x3 a9 hb
      have HA : Hid (Ar x3 w2.heap.size 0 .u8 R4) := (by rw [← E3.out]; exact a9)
      have hS : Below w2.heap.size wr x3 := hS.trans hb
      clear a9 hb
      refine hK.out _ _ hS (fun _ => ?_)
      simp only [Act.put, List.setIfInBounds_toArray, List.set_cons_zero, List.set_cons_succ]
      clear hK K
      refine take_lawH 10 (some 28) (.int .i64 16) rfl rfl (by kernel_rfl) (by kernel_rfl) (by kernel_rfl) (fun _ _ _ h => h) (Or.inl ⟨by rfl, fun w' hw' => by rfl⟩) hS ?_
      simp only [Act.put, List.setIfInBounds_toArray, List.set_cons_zero, List.set_cons_succ]
      refine take_lawH 11 (some 5) (.int .i64 16) rfl rfl (by kernel_rfl) (by kernel_rfl) (by kernel_rfl) (fun _ _ _ h => h) (Or.inl ⟨by rfl, fun w' hw' => by rfl⟩) hS ?_
      simp only [Act.put, List.setIfInBounds_toArray, List.set_cons_zero, List.set_cons_succ]
      refine wpAnyH_done (by kernel_rfl) ?_ _
      have C5 : Hid (Below w2.heap.size wr x3) := hS
      clear hS
      go_wp2
      go_roundw
      case rel => exact ⟨.inr (.inr (.inr (.inr (.inl ⟨rfl, rfl, HA.out⟩)))), C4.out.trans C5.out⟩
      case measure => simp [intOf]
    · have HA : Hid (Ar wr w2.heap.size 0 .u8 R4) := a4
      clear a4
      have u0 : (0 : Nat) = 0 := rfl
      go_wp2_with (first
        | (have q := u0; refine idx_law _ rfl (.tmp 13) (.tmp 14) 84 rfl _ _ (.int .u64 t) rfl rfl (by kernel_rfl) ?_; clear u0))
      have HA : Hid (Ar wr.drew w2.heap.size 0 .u8 R4) := HA.out.drewN 1
      refine wp_region_held_drew (S := fun w' => Below w2.heap.size wr w') (by kernel_rfl) (Below.refl _ _).drew (fun hS => ?_)
      obtain ⟨x1, hx0⟩ : ∃ x, x = wr.drew := ⟨_, rfl⟩
      rw [← hx0] at hS HA ⊢
      clear hx0
      refine take_lawH 0 (some 18) (.int .i64 16) rfl rfl (by kernel_rfl) (by kernel_rfl) (by kernel_rfl) (fun _ _ _ h => h) (Or.inl ⟨by rfl, fun w' hw' => by rfl⟩) hS ?_
      simp only [Act.put, List.setIfInBounds_toArray, List.set_cons_zero, List.set_cons_succ]
      refine take_lawH 1 (some 19) (.slice (some ⟨w2.heap.size, 0, none⟩) 128 128) rfl rfl (by kernel_rfl) (by kernel_rfl) (by kernel_rfl) (fun _ _ _ h => h) (Or.inl ⟨by rfl, fun w' hw' => by rfl⟩) hS ?_
      simp only [Act.put, List.setIfInBounds_toArray, List.set_cons_zero, List.set_cons_succ]
      refine take_lawH 2 (some 20) (.int .i64 16) rfl rfl (by kernel_rfl) (by kernel_rfl) (by kernel_rfl) (fun _ _ _ h => h) (Or.inl ⟨by rfl, fun w' hw' => by rfl⟩) hS ?_
      simp only [Act.put, List.setIfInBounds_toArray, List.set_cons_zero, List.set_cons_succ]
      refine take_lawH 3 (some 21) (.slice (some ⟨w2.heap.size, 16, none⟩) 112 112) rfl rfl (by kernel_rfl) (by kernel_rfl) (by kernel_rfl) (fun _ _ _ h => h) (Or.inl ⟨by rfl, fun w' hw' => by kernel_rfl⟩) hS ?_
      simp only [Act.put, List.setIfInBounds_toArray, List.set_cons_zero, List.set_cons_succ]
      refine take_lawH 4 (some 22) (.int .u64 t) rfl rfl (by kernel_rfl) (by kernel_rfl) (by kernel_rfl) (fun _ _ _ h => h) (Or.inl ⟨by rfl, fun w' hw' => by rfl⟩) hS ?_
      simp only [Act.put, List.setIfInBounds_toArray, List.set_cons_zero, List.set_cons_succ]
      refine take_lawH 5 (some 23) (.int .i64 4) rfl rfl (by kernel_rfl) (by kernel_rfl) (by kernel_rfl) (fun _ _ _ h => h) (Or.inl ⟨by rfl, fun w' hw' => by rfl⟩) hS ?_
      simp only [Act.put, List.setIfInBounds_toArray, List.set_cons_zero, List.set_cons_succ]
      refine take_lawH 6 (some 24) (.pointer (some ⟨0, 4, none⟩)) rfl rfl (by kernel_rfl) (by kernel_rfl) (by kernel_rfl) (fun _ _ _ h => h) (Or.inl ⟨by rfl, fun w' hw' => by go_simp⟩) hS ?_
      simp only [Act.put, List.setIfInBounds_toArray, List.set_cons_zero, List.set_cons_succ]
      refine take_lawH 7 (some 25) (.int .i64 8) rfl rfl (by kernel_rfl) (by kernel_rfl) (by kernel_rfl) (fun _ _ _ h => h) (Or.inl ⟨by rfl, fun w' hw' => by exact exec_loadN 3 (.tmp 24) rfl _ rfl _ _ (load_one one_int ((TT.out.below hw' (Nat.lt_trans TL.out LB.out)) 4 (by omega)))⟩) hS ?_
      simp only [Act.put, List.setIfInBounds_toArray, List.set_cons_zero, List.set_cons_succ]
      refine wpAnyH_ready (rs := [8]) (by kernel_rfl) (by simp) ?_
      refine AllReadyH.cons rfl (fun K hK => ?_) AllReadyH.nil
      refine he.step_callW _ (by rfl) (some 26) rfl 49 #[.tmp 22, .tmp 25] #[22, 3] rfl (fun q w' => by rfl) #[.int .u64 t, .int .i64 8] (by simp only [List.map_toArray, List.map_cons, List.map_nil]; rfl) (fun z9 w' => Byt w' z9 b4 ∧ Below x1.heap.size x1 w') ?_ ?_
      · exact S4.out x1
      rintro v5 x2 ⟨y1, hb⟩
      have Y5 : Hid (Byt x2 v5 b4) := y1
      have LW : Hid (w2.heap.size < x1.heap.size) := Nat.lt_of_lt_of_le LG.out hS.size
      have HA : Hid (Ar x2 w2.heap.size 0 .u8 R4) := HA.out.below hb LW.out
      have hS : Below w2.heap.size wr x2 := hS.trans (hb.mono (Nat.le_of_lt LW.out))
      clear y1 hb
      refine hK.out _ _ hS (fun _ => ?_)
      simp only [Act.put, List.setIfInBounds_toArray, List.set_cons_zero, List.set_cons_succ]
      clear hK K
      refine wpAnyH_ready (rs := [9]) (by kernel_rfl) (by simp) ?_
      refine AllReadyH.cons rfl (fun K hK => ?_) AllReadyH.nil
      refine step_copyS _ rfl (some 27) rfl (.tmp 21) (.tmp 26) rfl w2.heap.size 16 112 112 v5 R4 b4 8 rfl rfl Y5.out HA.out Q4.out (by omega) (by rw [L4.out]; omega) ?_
      intro x3 a9 hb
      have HA : Hid (Ar x3 w2.heap.size 0 .u8 R5) := (by rw [← E4.out]; exact a9)
      have hS : Below w2.heap.size wr x3 := hS.trans hb
      clear a9 hb
      refine hK.out _ _ hS (fun _ => ?_)
      simp only [Act.put, List.setIfInBounds_toArray, List.set_cons_zero, List.set_cons_succ]
      clear hK K
      refine take_lawH 10 (some 28) (.int .i64 24) rfl rfl (by kernel_rfl) (by kernel_rfl) (by kernel_rfl) (fun _ _ _ h => h) (Or.inl ⟨by rfl, fun w' hw' => by rfl⟩) hS ?_
      simp only [Act.put, List.setIfInBounds_toArray, List.set_cons_zero, List.set_cons_succ]
      refine take_lawH 11 (some 5) (.int .i64 24) rfl rfl (by kernel_rfl) (by kernel_rfl) (by kernel_rfl) (fun _ _ _ h => h) (Or.inl ⟨by rfl, fun w' hw' => by rfl⟩) hS ?_
      simp only [Act.put, List.setIfInBounds_toArray, List.set_cons_zero, List.set_cons_succ]
      refine wpAnyH_done (by kernel_rfl) ?_ _
      have C5 : Hid (Below w2.heap.size wr x3) := hS
      clear hS
      go_wp2
      go_roundw
      case rel => exact ⟨.inr (.inr (.inr (.inr (.inr (⟨rfl, rfl, HA.out⟩))))), C4.out.trans C5.out⟩
      case measure => simp [intOf]
    · have HA : Hid (Ar wr w2.heap.size 0 .u8 R5) := a4
      clear a4
      go_wp2
      have HA : Hid (Ar wr.drew w2.heap.size 0 .u8 R5) := HA.out.drewN 1
      refine wp_region_held_drew (S := fun w' => Below w2.heap.size wr w') (by kernel_rfl) (Below.refl _ _).drew (fun hS => ?_)
      obtain ⟨x1, hx0⟩ : ∃ x, x = wr.drew := ⟨_, rfl⟩
      rw [← hx0] at hS HA ⊢
      clear hx0
      refine take_lawH 0 (some 30) (.slice (some ⟨w2.heap.size, 0, none⟩) 128 128) rfl rfl (by kernel_rfl) (by kernel_rfl) (by kernel_rfl) (fun _ _ _ h => h) (Or.inl ⟨by rfl, fun w' hw' => by rfl⟩) hS ?_
      simp only [Act.put, List.setIfInBounds_toArray, List.set_cons_zero, List.set_cons_succ]
      refine take_lawH 1 (some 31) (.int .i64 24) rfl rfl (by kernel_rfl) (by kernel_rfl) (by kernel_rfl) (fun _ _ _ h => h) (Or.inl ⟨by rfl, fun w' hw' => by rfl⟩) hS ?_
      simp only [Act.put, List.setIfInBounds_toArray, List.set_cons_zero, List.set_cons_succ]
      refine take_lawH 2 (some 32) (.slice (some ⟨w2.heap.size, 24, none⟩) 104 104) rfl rfl (by kernel_rfl) (by kernel_rfl) (by kernel_rfl) (fun _ _ _ h => h) (Or.inl ⟨by rfl, fun w' hw' => by kernel_rfl⟩) hS ?_
      simp only [Act.put, List.setIfInBounds_toArray, List.set_cons_zero, List.set_cons_succ]
      refine take_lawH 3 (some 33) (.pointer (some ⟨w.heap.size, 4, none⟩)) rfl rfl (by kernel_rfl) (by kernel_rfl) (by kernel_rfl) (fun _ _ _ h => h) (Or.inl ⟨by rfl, fun w' hw' => by go_simp⟩) hS ?_
      simp only [Act.put, List.setIfInBounds_toArray, List.set_cons_zero, List.set_cons_succ]
      refine take_lawH 4 (some 34) (.slice ao xs.length cap) rfl rfl (by kernel_rfl) (by kernel_rfl) (by kernel_rfl) (fun _ _ _ h => h) (Or.inl ⟨by rfl, fun w' hw' => by exact exec_loadN 23 (.tmp 33) rfl _ rfl _ _ (load_one one_bytes ((HB0.out.below hw' LB.out).cell 4 _ rfl))⟩) hS ?_
      simp only [Act.put, List.setIfInBounds_toArray, List.set_cons_zero, List.set_cons_succ]
      refine wpAnyH_ready (rs := [5]) (by kernel_rfl) (by simp) ?_
      refine AllReadyH.cons rfl (fun K hK => ?_) AllReadyH.nil
      refine step_copyS _ rfl (some 35) rfl (.tmp 32) (.tmp 34) rfl w2.heap.size 24 104 104 _ R5 xs xs.length rfl rfl (HV.out.below (BR.out.trans (hS.mono (Nat.le_of_lt LB.out)))) HA.out rfl HX.out (by rw [L5.out]; have := HX.out; omega) ?_
      intro x2 a9 hb
      have HA : Hid (Ar x2 w2.heap.size 0 .u8 (laid R5 24 xs)) := a9
      have hS : Below w2.heap.size wr x2 := hS.trans hb
      clear a9 hb
      refine hK.out _ _ hS (fun _ => ?_)
      simp only [Act.put, List.setIfInBounds_toArray, List.set_cons_zero, List.set_cons_succ]
      clear hK K
      refine wpAnyH_done (by kernel_rfl) ?_ _
      have C5 : Hid (Below w.heap.size w x2) := BR.out.trans (hS.mono (Nat.le_of_lt LB.out))
      clear hS
      go_wp2
      go_ret2
      exact ⟨_, rfl, HA.out, C5.out⟩

/-- a right slot's bytes -/
theorem bytes_yes (u : Bool) (n e t : Int) (v : Value) (xs : List Int) (w : World) (hv : Byt w v xs) (hS : Sb n e t) (hr : Rs u n e t xs) (hT : Tbl w) :
    Calls Tryd.prog 29 #[.agg (sv u n e t v).toArray] w fun x w' => ∃ g, x = .returned (.tuple #[.slice (some ⟨g, 0, none⟩) 128 128, .int .i64 0]) ∧ Byt w' (.slice (some ⟨g, 0, none⟩) 128 128) (sb u n e t xs) ∧ Below w.heap.size w w' := by
  have hl := sb_len hr
  have hr0 := hr
  have ha := sb_all (u := u) (n := n) (e := e) (t := t) hv.all
  cases u
  · obtain ⟨h1, h2, h3, h4⟩ : n = 0 ∧ e = 0 ∧ t = 0 ∧ xs.length = 0 := hr
    subst h1 h2 h3
    have hx : xs = [] := List.eq_nil_of_length_eq_zero h4
    subst hx
    refine (bytes_core false 0 0 0 0 0 v [] w hv hS hr0 hT (by omega) (by omega) (by simp) (fun w0 => nums_free 0 0 0 0 v w0 rfl)).mono ?_
    rintro x w' ⟨g, h1, h2, h3⟩
    rw [pf_free] at h2
    exact ⟨g, h1, h2.bytG ha 128 128 hl (by omega) (by omega), h3⟩
  · obtain ⟨h1, h2, h3⟩ : 1 ≤ n ∧ n ≤ 65535 ∧ xs.length = 104 := hr
    refine (bytes_core true n e t 1 n v xs w hv hS hr0 hT (by omega) (by omega) (by omega) (fun w0 => nums_used n e t n v w0 (by rw [IntKind.wrap_u64]; omega))).mono ?_
    rintro x w' ⟨g, h4, h5, h6⟩
    rw [lay_next (pf 1 n e t 5) xs 24 104 (pf_len _ _ _ _) (by omega), h3] at h5
    have e1 : pad (pf 1 n e t 5 ++ xs) (104 - 104) = sb true n e t xs := by
      rw [pf_used]
      show sbt n e t xs ++ [] = _
      rw [List.append_nil]; rfl
    rw [e1] at h5
    exact ⟨g, h4, h5.bytG ha 128 128 hl (by omega) (by omega), h6⟩
end Go.Proofs.YtmbfccclghnaeaaDoor.so

