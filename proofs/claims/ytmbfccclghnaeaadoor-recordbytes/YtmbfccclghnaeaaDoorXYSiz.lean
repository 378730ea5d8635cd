/- What record's Sizes and the reference's SameInts answer. No claim of its own. -/
import Derived.Test.YtmbfccclghnaeaaDoorPackI
import Derived.Test.YtmbfccclghnaeaaDoorXGInts
namespace Go.Proofs.YtmbfccclghnaeaaDoor.re
open Go.RowKit Go.Proofs.YtmbfccclghnaeaaDoor.fa Go.Proofs.YtmbfccclghnaeaaDoor.he Go.Proofs.YtmbfccclghnaeaaDoor.so
set_option maxRecDepth 20000
open Go.Proofs.YtmbfccclghnaeaaDoor.ge (Nums OwnI)

/-- the sizes of the used ones among the first k slots -/
def szs (S : Nat → Sc) : Nat → List Int
  | 0 => []
  | k + 1 => szs S k ++ (if (S k).u = true then [(S k).n] else [])
theorem szs_len (S : Nat → Sc) (k : Nat) : (szs S k).length ≤ k := by
  induction k with
  | zero => exact Nat.le_refl _
  | succ k ih =>
    rw [szs, List.length_append]
    split
    · simp; omega
    · simp; omega
theorem szs_yes (S : Nat → Sc) (k : Nat) (h : (S k).u = true) : szs S (k + 1) = szs S k ++ [(S k).n] := by rw [szs, if_pos h]
theorem szs_no (S : Nat → Sc) (k : Nat) (h : (S k).u = false) : szs S (k + 1) = szs S k := by rw [szs, if_neg (by rw [h]; exact Bool.false_ne_true), List.append_nil]
theorem owni_nil (B : Nat) (w : World) : OwnI B w (.slice none 0 0) [] := ⟨by simp, .inl ⟨rfl, rfl⟩⟩
section
variable {ops : Array Oper} {rest : List Oper} {o : Oper} {a : Act} {Q : Exit → Act → World → Prop}
theorem one_lawI (w : World) (hg : o.guard = none) (x : Operand) (hop : o.op = Op.buildSlice 42 1 #[(0, x)]) (n : Int) (hx : a.eval x = .int .i64 n)
    (hK : ∀ w', OwnI w.heap.size w' (.slice (some ⟨w.heap.size, 0, none⟩) 1 1) [n] → Below w.heap.size w w' → wpList Tryd.prog ops Q rest (a.put o.dst (.slice (some ⟨w.heap.size, 0, none⟩) 1 1)) w') : wpList Tryd.prog ops Q (o :: rest) a w := by
  refine wpList_step fun K hK' => ?_
  exact ge.step_oneI w (by simp [Region.wanted, hg]) o.dst rfl x hop n hx fun w' h1 h2 _ => hK' _ _ (hK w' h1 h2)
theorem nil_lawI (w : World) (hg : o.guard = none) (hop : o.op = Op.buildSlice 42 0 #[])
    (hK : ∀ w', OwnI w.heap.size w' (.slice (some ⟨w.heap.size, 0, none⟩) 0 0) [] → Below w.heap.size w w' → wpList Tryd.prog ops Q rest (a.put o.dst (.slice (some ⟨w.heap.size, 0, none⟩) 0 0)) w') : wpList Tryd.prog ops Q (o :: rest) a w := by
  refine wpList_step fun K hK' => ?_
  exact ge.step_nilI w (by simp [Region.wanted, hg]) o.dst rfl hop fun w' h1 h2 _ => hK' _ _ (hK w' h1 h2)
theorem owni_less {w : World} {B B' : Nat} {v : Value} {xs : List Int} (h : OwnI B w v xs) (hB : B' ≤ B) : OwnI B' w v xs := by
  obtain ⟨a1, a2⟩ := h
  refine ⟨a1, ?_⟩
  rcases a2 with e1 | ⟨g', c', u', e1, e2, e3⟩
  · exact .inl e1
  · exact .inr ⟨g', c', u', e1, by omega, e3⟩
end

set_option maxHeartbeats 1000000 in
theorem samei_yes (w : World) (va vb : Value) (xs : List Int) (ha : Nums w va xs) (hb : Nums w vb xs) :
    Calls Tryd.prog 15 #[va, vb] w fun e w' => e = .returned (.bool true) ∧ Below w.heap.size w w' := by
  obtain ⟨ao, ca, rfl, ha1, ha2, -, ha5⟩ := ha
  obtain ⟨bo, cb, rfl, hb1, hb2, -, hb5⟩ := hb
  have HB5 : Hid (0 < xs.length → ∃ b off, bo = some ⟨b, off, none⟩ ∧ ∀ t, t < xs.length → w.cell? ⟨b, off + t, none⟩ = some (.int .i64 (gb xs t))) := hb5
  have HA5 : Hid (0 < xs.length → ∃ b off, ao = some ⟨b, off, none⟩ ∧ ∀ t, t < xs.length → w.cell? ⟨b, off + t, none⟩ = some (.int .i64 (gb xs t))) := ha5
  clear hb5 ha5
  have hm : xs.length ≤ 9223372036854775807 := by omega
  go_enter Tryd.func15, Tryd.ntmps15
  go_wp2
  go_loopw [5] (fun i wr => ∃ k n : Nat, k ≤ xs.length ∧ i = .int .i64 k ∧ wr = w.drewN n) (fun i _ => xs.length - (intOf i).toNat)
  case atStart => exact ⟨0, 0, Nat.zero_le _, rfl, rfl⟩
  case round =>
    obtain ⟨k, n, hk, rfl, rfl⟩ := hrel
    by_cases hlt : k < xs.length
    · obtain ⟨b, off, rfl, hca⟩ := HA5.out (by omega)
      obtain ⟨b', off', rfl, hcb⟩ := HB5.out (by omega)
      have c1 : w.cell? ⟨b, off + k, none⟩ = some (.int .i64 (gb xs k)) := hca k hlt
      have c2 : w.cell? ⟨b', off' + k, none⟩ = some (.int .i64 (gb xs k)) := hcb k hlt
      have lk : (k : Int) < (xs.length : Int) := by omega
      clear hca hcb
      go_wp2
      go_quiet (fail)
      go_wp2
      go_roundw
      case rel => exact ⟨k + 1, n + nq, by omega, by go_num, rfl⟩
      case measure => simp [intOf]; omega
    · go_wp2
      go_ret
      exact ⟨rfl, he.below_drawn (Below.refl _ _) n⟩

set_option maxHeartbeats 2000000 in
theorem sizes_any (g p b : Int) (a c : Value) (al cl : List Int) (S : Nat → Sc) (w : World) (hR : Rin w g p b a c al cl S) :
    Calls Tryd.prog 16 #[.agg (rv g p a b c S).toArray] w fun x w' => ∃ r, x = .returned r ∧ Nums w' r (szs S 4) ∧ Below w.heap.size w w' := by
  have SC : Hid (∀ k, k < 4 → Slc (S k).v) := hR.slc
  obtain ⟨ao, ca, rfl⟩ := form hR.2.1
  obtain ⟨co, cc, rfl⟩ := form hR.2.2.1
  clear hR
  have t0 : (0 : Nat) = 0 := rfl
  go_enter Tryd.func16, Tryd.ntmps16
  go_wp2_with (first
    | (have q1 := t1; refine load_lawC _ rfl (sls S) w.heap.size 5 rfl (Vr.slots HB0.out) rowy_slots ?_; clear t1; have t2 : (1 : Nat) = 1 := rfl)
    | (have q0 := t0; refine box_lawC _ (rv g p (.slice ao al.length ca) b (.slice co cl.length cc) S) rfl ?_; intro w1 X9 B9 l9; have HB0 : Hid (Vr w1 w.heap.size (rv g p (.slice ao al.length ca) b (.slice co cl.length cc) S)) := X9; have BB : Hid (Below w.heap.size w w1) := B9; clear X9 B9 l9; clear t0; have t1 : (1 : Nat) = 1 := rfl))
  go_loopw [8, 3] (fun i r wr => ∃ k : Nat, k ≤ 4 ∧ i = .int .i64 (k : Int) ∧ OwnI w.heap.size wr r (szs S k) ∧ Below w.heap.size w wr) (fun i _ _ => 4 - (intOf i).toNat)
  case atStart => exact ⟨0, Nat.zero_le _, rfl, owni_nil _ _, BB.out⟩
  case round =>
    clear HB0 BB
    obtain ⟨k, hk4, rfl, o2, hBl⟩ := hrel
    have B0 : Hid (Below w.heap.size w wr) := hBl
    clear hBl
    by_cases hk : k < 4
    · have SL : Hid (Slc (S k).v) := SC.out k hk
      have ki : (k : Int) < 4 := by omega
      have O2 : Hid (OwnI w.heap.size wr u3 (szs S k)) := o2
      have TL : Hid ((szs S k).length ≤ 1000000) := Nat.le_trans (szs_len S k) (by omega)
      clear o2
      by_cases hu : (S k).u = true
      · have t0 : (0 : Nat) = 0 := rfl
        go_wp2_with (first
          | (have q4 := t4; at_builtin; refine ge.pushs_lawI _ rfl (.tmp 13) (.tmp 16) rfl w.heap.size (Nat.le_trans B0.out.size BB.out.size) _ _ (szs S k) [(S k).n] rfl rfl (O2.out.below BB.out) O8.out.nums TL.out (show (1 : Nat) ≤ 1000000 by decide) ?_; intro v3 w90 o3 B3; have O3 : Hid (OwnI w.heap.size w90 v3 (szs S k ++ [(S k).n])) := o3; have BZ : Hid (Below w.heap.size w w90) := (B0.out.trans (BB.out.mono B0.out.size)).trans B3; clear o3 B3; clear t4; have t5 : (1 : Nat) = 1 := rfl)
          | (have q3 := t3; refine one_lawI _ rfl (.tmp 15) rfl (S k).n rfl ?_; intro w80 o8 B9; have O8 : Hid (OwnI w42.heap.size w80 (.slice (some ⟨w42.heap.size, 0, none⟩) 1 1) [(S k).n]) := o8; have BB : Hid (Below wr.heap.size wr w80) := BB.out.trans (B9.mono BB.out.size); clear o8 B9; clear t3; have t4 : (1 : Nat) = 1 := rfl)
          | (have q2 := t2; (with_reducible refine at_store ?_); refine store_lawC _ (S k).cs wr.heap.size 0 rfl rfl HS.out.2 rowy_slot.2 (cs_one SL.out) ?_; intro w42 E9 R9 T9 B9; have K9 : ∀ k, k ≠ wr.heap.size → w42.heap[k]? = w41.heap[k]? := (by rw [E9.out]; exact fun k hk => heap_cells _ _ _ _ k hk); have NB_HS : Hid (NoB w42 wr.heap.size) := (by rw [E9.out]; exact NB_HS.out.set HS.out rfl (cs_nob SL.out)); have HS : Hid (Vr w42 wr.heap.size (S k).cs) := ⟨R9, T9⟩; have BB : Hid (Below wr.heap.size wr w42) := BB.out.trans (B9.mono LE_HS.out); have hs_0 := HS.out.cell 0 _ rfl; have hs_1 := HS.out.cell 1 _ rfl; have hs_2 := HS.out.cell 2 _ rfl; have hs_3 := HS.out.cell 3 _ rfl; have hs_4 := HS.out.cell 4 _ rfl; clear E9 R9 T9 B9 K9; clear t2; have t3 : (1 : Nat) = 1 := rfl)
          | (have q1 := t1; (with_reducible refine at_alloc ?_); refine new_lawN _ (sv false 0 0 0 (.slice none 0 0)) zero_slot (sv_nob _ _ _ _ _ _ _) ?_; intro w41 X9 N9 B9; have LE_HS : Hid (wr.heap.size ≤ wr.heap.size) := Nat.le_refl _; have HS : Hid (Vr w41 wr.heap.size (sv false 0 0 0 (.slice none 0 0))) := X9; have NB_HS : Hid (NoB w41 wr.heap.size) := N9; have BB : Hid (Below wr.heap.size wr w41) := B9; clear X9 N9 B9; clear t1; have t2 : (1 : Nat) = 1 := rfl)
          | (have q0 := t0; refine idx_law _ rfl (.tmp 7) (.tmp 8) 26 rfl (.agg (sls S).toArray) (.int .i64 (k : Int)) (.agg (S k).cs.toArray) rfl rfl (run_idx _ S k hk) ?_; clear t0; have t1 : (1 : Nat) = 1 := rfl))
        go_roundw
        case rel => exact ⟨k + 1, by omega, by go_num, by rw [szs_yes S k hu]; exact O3.out, BZ.out⟩
        case measure => simp [intOf]; omega
      · have hu : (S k).u = false := by simpa using hu
        have t0 : (0 : Nat) = 0 := rfl
        go_wp2_with (first
          | (have q2 := t2; (with_reducible refine at_store ?_); refine store_lawC _ (S k).cs wr.heap.size 0 rfl rfl HS.out.2 rowy_slot.2 (cs_one SL.out) ?_; intro w42 E9 R9 T9 B9; have K9 : ∀ k, k ≠ wr.heap.size → w42.heap[k]? = w41.heap[k]? := (by rw [E9.out]; exact fun k hk => heap_cells _ _ _ _ k hk); have NB_HS : Hid (NoB w42 wr.heap.size) := (by rw [E9.out]; exact NB_HS.out.set HS.out rfl (cs_nob SL.out)); have HS : Hid (Vr w42 wr.heap.size (S k).cs) := ⟨R9, T9⟩; have BB : Hid (Below wr.heap.size wr w42) := BB.out.trans (B9.mono LE_HS.out); have hs_0 := HS.out.cell 0 _ rfl; have hs_1 := HS.out.cell 1 _ rfl; have hs_2 := HS.out.cell 2 _ rfl; have hs_3 := HS.out.cell 3 _ rfl; have hs_4 := HS.out.cell 4 _ rfl; clear E9 R9 T9 B9 K9; clear t2; have t3 : (1 : Nat) = 1 := rfl)
          | (have q1 := t1; (with_reducible refine at_alloc ?_); refine new_lawN _ (sv false 0 0 0 (.slice none 0 0)) zero_slot (sv_nob _ _ _ _ _ _ _) ?_; intro w41 X9 N9 B9; have LE_HS : Hid (wr.heap.size ≤ wr.heap.size) := Nat.le_refl _; have HS : Hid (Vr w41 wr.heap.size (sv false 0 0 0 (.slice none 0 0))) := X9; have NB_HS : Hid (NoB w41 wr.heap.size) := N9; have BB : Hid (Below wr.heap.size wr w41) := B9; clear X9 N9 B9; clear t1; have t2 : (1 : Nat) = 1 := rfl)
          | (have q0 := t0; refine idx_law _ rfl (.tmp 7) (.tmp 8) 26 rfl (.agg (sls S).toArray) (.int .i64 (k : Int)) (.agg (S k).cs.toArray) rfl rfl (run_idx _ S k hk) ?_; clear t0; have t1 : (1 : Nat) = 1 := rfl))
        go_roundw
        case rel => exact ⟨k + 1, by omega, by go_num, by rw [szs_no S k hu]; exact O2.out.below BB.out, B0.out.trans (BB.out.mono B0.out.size)⟩
        case measure => simp [intOf]; omega
    · have e4 : k = 4 := by omega
      subst e4
      have O2 : Hid (OwnI w.heap.size wr u3 (szs S 4)) := o2
      clear o2
      go_wp2
      go_ret
      exact ⟨_, rfl, O2.out.nums, B0.out⟩
end Go.Proofs.YtmbfccclghnaeaaDoor.re
