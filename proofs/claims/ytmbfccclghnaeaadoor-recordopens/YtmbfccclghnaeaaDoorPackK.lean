/- Texts put together (a claim holds few files). No claim of its own. -/
import Derived.Test.YtmbfccclghnaeaaDoorPackI
import Derived.Test.YtmbfccclghnaeaaDoorPackB
import Derived.Deep.RegionWith
import Derived.Deep.WholeRow
import Derived.Deep.MidRow
import Derived.Lib.SlBuf
/- What the laws' of and light answer. No claim of its own. -/
namespace Go.Proofs.YtmbfccclghnaeaaDoor.re
open Go.RowKit Go.Proofs.YtmbfccclghnaeaaDoor.fa Go.Proofs.YtmbfccclghnaeaaDoor.he Go.Proofs.YtmbfccclghnaeaaDoor.so
set_option maxRecDepth 20000

theorem build_lawV {ops : Array Oper} {rest : List Oper} {o : Oper} {a : Act} {Q : Exit → Act → World → Prop} (w : World) (hg : o.guard = none) (t : TypeId) (parts : Array (Nat × Operand)) (hop : o.op = Op.build t parts) (vs : Array (Nat × Value)) (hvs : (parts.map fun (i, x) => (i, a.eval x)) = vs) (v : Value) (hrun : (Instr.build t vs).run Tryd.prog w = .ok v w) (hK : wpList Tryd.prog ops Q rest (a.put o.dst v) w) : wpList Tryd.prog ops Q (o :: rest) a w :=
  build_law w hg t parts hop v (by rw [hvs]; exact hrun) hK
theorem cell_slot {w : World} {c : Nat} {g p b : Int} {va vc : Value} {S : Nat → Sc} (h : Vr w c (rv g p va b vc S)) (k : Nat) (hk : k < 4) (j : Nat) (v : Value) (hv : (S k).cs[j]? = some v) : w.cell? ⟨c, 5 + k * 5 + j, none⟩ = some v := Vr.slot h k hk j v hv
/-- the lengths of the slots' bytes, up to the k-th, with those of salt and check -/
def lns (al cl : List Int) (S : Nat → Sc) : Nat → Nat
  | 0 => al.length + cl.length
  | k + 1 => lns al cl S k + (S k).xs.length
theorem lns_le {al cl : List Int} {S : Nat → Sc} {m : Nat} (h1 : al.length ≤ m) (h2 : cl.length ≤ m) (h3 : ∀ k, k < 4 → (S k).xs.length ≤ m) (k : Nat) (hk : k ≤ 4) : lns al cl S k ≤ (k + 2) * m := by
  induction k with
  | zero => show al.length + cl.length ≤ _; omega
  | succ k ih =>
    have := ih (by omega)
    have := h3 k (by omega)
    show lns al cl S k + (S k).xs.length ≤ _
    rw [show (k + 1 + 2) * m = (k + 2) * m + m by rw [Nat.succ_add, Nat.succ_mul]]
    omega
theorem lns_four (al cl : List Int) (S : Nat → Sc) (h : lns al cl S 4 ≤ 2000) : al.length ≤ 2000 ∧ cl.length ≤ 2000 ∧ ∀ k, k < 4 → (S k).xs.length ≤ 2000 := by
  have e : lns al cl S 4 = al.length + cl.length + (S 0).xs.length + (S 1).xs.length + (S 2).xs.length + (S 3).xs.length := rfl
  exact ⟨by omega, by omega, four (by omega) (by omega) (by omega) (by omega)⟩

set_option maxHeartbeats 2000000 in
theorem light_any (g p b : Int) (a c : Value) (al cl : List Int) (S : Nat → Sc) (w : World) (hR : Rin w g p b a c al cl S) (h1 : al.length ≤ 140737488355328) (h2 : cl.length ≤ 140737488355328) (h3 : ∀ k, k < 4 → (S k).xs.length ≤ 140737488355328) (B : Bool) (hB : decide (lns al cl S 4 ≤ 2000) = B) :
    Calls Tryd.prog 7 #[.agg (rv g p a b c S).toArray] w fun x w' => x = .returned (.bool B) ∧ Below w.heap.size w w' := by
  have RI : Hid (Rin w g p b a c al cl S) := hR
  have HL : Hid (∀ k, k ≤ 4 → lns al cl S k ≤ (k + 2) * 140737488355328) := lns_le h1 h2 h3
  have H3 : Hid (∀ k, k < 4 → (S k).xs.length ≤ 140737488355328) := h3
  have HB : Hid (decide (lns al cl S 4 ≤ 2000) = B) := hB
  have q0 : IntKind.i64.wrap ((al.length : Int) + (cl.length : Int)) = (al.length : Int) + (cl.length : Int) := by rw [IntKind.wrap_i64]; omega
  obtain ⟨ao, ca, rfl⟩ := form hR.2.1
  obtain ⟨co, cc, rfl⟩ := form hR.2.2.1
  clear hR h1 h2 h3 hB
  have t0 : (0 : Nat) = 0 := rfl
  go_enter Tryd.func7, Tryd.ntmps7
  go_wp2_with (first
    | (have q0 := t0; refine box_lawC _ (rv g p (.slice ao al.length ca) b (.slice co cl.length cc) S) rfl ?_; intro w1 X9 B9 l9; have HB0 : Hid (Vr w1 w.heap.size (rv g p (.slice ao al.length ca) b (.slice co cl.length cc) S)) := X9; have BB : Hid (Below w.heap.size w w1) := B9; have hb0_2 := HB0.out.cell 2 _ rfl; have hb0_4 := HB0.out.cell 4 _ rfl; clear X9 B9 l9; clear t0; have t1 : (1 : Nat) = 1 := rfl))
  go_loopw [4, 3] (fun i z wr => ∃ k : Nat, k ≤ 4 ∧ i = .int .i64 (k : Int) ∧ z = .int .i64 ((lns al cl S k : Nat) : Int) ∧ wr = w1) (fun i _ _ => 4 - (intOf i).toNat)
  case atStart => exact ⟨0, Nat.zero_le _, rfl, rfl, rfl⟩
  case round =>
    obtain ⟨k, hk4, rfl, rfl, rfl⟩ := hrel
    by_cases hk : k < 4
    · have ki : (k : Int) < 4 := by omega
      obtain ⟨vo, vc, hv⟩ := form (RI.out.2.2.2 k hk).2
      have c4 : wr.cell? ⟨w.heap.size, 5 + k * 5 + 4, none⟩ = some (.slice vo (S k).xs.length vc) := by rw [← hv]; exact cell_slot HB0.out k hk 4 _ rfl
      have l1 := HL.out k hk4
      have l2 := H3.out k hk
      have e1 : Hid (lns al cl S (k + 1) = lns al cl S k + (S k).xs.length) := rfl
      generalize lns al cl S k = L at e1 l1 ⊢
      generalize (S k).xs.length = m9 at e1 l2 c4
      have q1 : IntKind.i64.wrap ((L : Int) + (m9 : Int)) = (L : Int) + (m9 : Int) := by rw [IntKind.wrap_i64]; omega
      clear hv
      go_wp2
      go_roundw
      case rel => exact ⟨k + 1, by omega, by go_num, by rw [e1.out]; rfl, trivial⟩
      case measure => simp [intOf]; omega
    · have e4 : k = 4 := by omega
      subst e4
      have HB := HB
      generalize lns al cl S 4 = L at HB ⊢
      by_cases hL : (L : Int) ≤ 2000
      · have e : B = true := by rw [← HB.out]; exact decide_eq_true (by omega)
        subst e
        clear HB HL
        go_wp2
        go_ret
        exact ⟨rfl, BB.out⟩
      · have e : B = false := by rw [← HB.out]; exact decide_eq_false (by omega)
        subst e
        clear HB HL
        go_wp2
        go_ret
        exact ⟨rfl, BB.out⟩

set_option maxHeartbeats 4000000 in
theorem of_any (g p b : Int) (a c : Value) (al cl : List Int) (S : Nat → Sc) (w : World) (hA : Byt w a al) (hC : Byt w c cl) (hS : ∀ k, k < 4 → Slc (S k).v) :
    Calls Tryd.prog 13 #[.agg (rv g p a b c S).toArray] w fun x w' => x = .returned (.agg (rv g p a b c S).toArray) ∧ Below w.heap.size w w' := by
  have HS1 : Hid (∀ k, k < 4 → Slc (S k).v) := hS
  obtain ⟨ao, ca, rfl⟩ := form hA
  obtain ⟨co, cc, rfl⟩ := form hC
  clear hA hC hS
  have t0 : (0 : Nat) = 0 := rfl
  go_enter Tryd.func13, Tryd.ntmps13
  go_wp2_with (first
    | (have q4 := t4; (with_reducible refine at_store ?_); refine store_lawC _ (rv g p (.slice ao al.length ca) b (.slice co cl.length cc) z4) w2.heap.size 0 rfl rfl HV.out.2 rowy_rrecord.2 (rv_one (slc_sl _ _ _) (slc_sl _ _ _) slc_z4) ?_; intro w4 E9 R9 T9 B9; have K9 : ∀ k, k ≠ w2.heap.size → w4.heap[k]? = w3.heap[k]? := (by rw [E9.out]; exact fun k hk => heap_cells _ _ _ _ k hk); have HB0 : Hid (Vr w4 w.heap.size (rv g p (.slice ao al.length ca) b (.slice co cl.length cc) S)) := HB0.out.heap (K9 _ (Nat.ne_of_lt LT_HB0_HV.out)); have NB_HR : Hid (NoB w4 w1.heap.size) := NB_HR.out.heap (K9 _ (Nat.ne_of_lt LT_HR_HV.out)); have HR : Hid (Vr w4 w1.heap.size rv0) := HR.out.heap (K9 _ (Nat.ne_of_lt LT_HR_HV.out)); have NB_HV : Hid (NoB w4 w2.heap.size) := (by rw [E9.out]; exact NB_HV.out.set HV.out rfl (rv_nob (slc_sl _ _ _) (slc_sl _ _ _) slc_z4)); have HV : Hid (Vr w4 w2.heap.size (rv g p (.slice ao al.length ca) b (.slice co cl.length cc) z4)) := ⟨R9, T9⟩; have BB : Hid (Below w.heap.size w w4) := BB.out.trans (B9.mono LE_HV.out); clear hb0_0 hb0_1 hb0_2 hb0_3 hb0_4; have hb0_0 := HB0.out.cell 0 _ rfl; have hb0_1 := HB0.out.cell 1 _ rfl; have hb0_2 := HB0.out.cell 2 _ rfl; have hb0_3 := HB0.out.cell 3 _ rfl; have hb0_4 := HB0.out.cell 4 _ rfl; clear E9 R9 T9 B9 K9; clear t4; have t5 : (1 : Nat) = 1 := rfl)
    | (have q3 := t3; (with_reducible refine at_alloc ?_); refine new_lawN _ rv0 zero_rrecord rv0_nob ?_; intro w3 X9 N9 B9; have LT_HB0_HV : Hid (w.heap.size < w2.heap.size) := range_lt HB0.out.1 (Nat.succ_pos _); have LT_HR_HV : Hid (w1.heap.size < w2.heap.size) := range_lt HR.out.1 (Nat.succ_pos _); have LE_HV : Hid (w.heap.size ≤ w2.heap.size) := BB.out.size; have HB0 : Hid (Vr w3 w.heap.size (rv g p (.slice ao al.length ca) b (.slice co cl.length cc) S)) := HB0.out.below B9 (range_lt HB0.out.1 (Nat.succ_pos _)); have NB_HR : Hid (NoB w3 w1.heap.size) := NB_HR.out.heap (B9.block _ (range_lt HR.out.1 (Nat.succ_pos _))); have HR : Hid (Vr w3 w1.heap.size rv0) := HR.out.below B9 (range_lt HR.out.1 (Nat.succ_pos _)); have HV : Hid (Vr w3 w2.heap.size rv0) := X9; have NB_HV : Hid (NoB w3 w2.heap.size) := N9; have BB : Hid (Below w.heap.size w w3) := BB.out.trans (B9.mono BB.out.size); clear hb0_0 hb0_1 hb0_2 hb0_3 hb0_4; have hb0_0 := HB0.out.cell 0 _ rfl; have hb0_1 := HB0.out.cell 1 _ rfl; have hb0_2 := HB0.out.cell 2 _ rfl; have hb0_3 := HB0.out.cell 3 _ rfl; have hb0_4 := HB0.out.cell 4 _ rfl; clear X9 N9 B9; clear t3; have t4 : (1 : Nat) = 1 := rfl)
    | (have q2 := t2; refine build_law _ rfl 39 _ rfl (.agg (rv g p (.slice ao al.length ca) b (.slice co cl.length cc) z4).toArray) (by kernel_rfl) ?_; clear t2; have t3 : (1 : Nat) = 1 := rfl)
    | (have q1 := t1; (with_reducible refine at_alloc ?_); refine new_lawN _ rv0 zero_rrecord rv0_nob ?_; intro w2 X9 N9 B9; have LT_HB0_HR : Hid (w.heap.size < w1.heap.size) := range_lt HB0.out.1 (Nat.succ_pos _); have LE_HR : Hid (w.heap.size ≤ w1.heap.size) := BB.out.size; have HB0 : Hid (Vr w2 w.heap.size (rv g p (.slice ao al.length ca) b (.slice co cl.length cc) S)) := HB0.out.below B9 (range_lt HB0.out.1 (Nat.succ_pos _)); have HR : Hid (Vr w2 w1.heap.size rv0) := X9; have NB_HR : Hid (NoB w2 w1.heap.size) := N9; have BB : Hid (Below w.heap.size w w2) := BB.out.trans (B9.mono BB.out.size); clear hb0_0 hb0_1 hb0_2 hb0_3 hb0_4; have hb0_0 := HB0.out.cell 0 _ rfl; have hb0_1 := HB0.out.cell 1 _ rfl; have hb0_2 := HB0.out.cell 2 _ rfl; have hb0_3 := HB0.out.cell 3 _ rfl; have hb0_4 := HB0.out.cell 4 _ rfl; clear X9 N9 B9; clear t1; have t2 : (1 : Nat) = 1 := rfl)
    | (have q0 := t0; refine box_lawC _ (rv g p (.slice ao al.length ca) b (.slice co cl.length cc) S) rfl ?_; intro w1 X9 B9 l9; have HB0 : Hid (Vr w1 w.heap.size (rv g p (.slice ao al.length ca) b (.slice co cl.length cc) S)) := X9; have BB : Hid (Below w.heap.size w w1) := B9; have hb0_0 := HB0.out.cell 0 _ rfl; have hb0_1 := HB0.out.cell 1 _ rfl; have hb0_2 := HB0.out.cell 2 _ rfl; have hb0_3 := HB0.out.cell 3 _ rfl; have hb0_4 := HB0.out.cell 4 _ rfl; clear X9 B9 l9; clear t0; have t1 : (1 : Nat) = 1 := rfl))
  clear hb0_0 hb0_1 hb0_2 hb0_3 hb0_4
  go_loopw [4] (fun i wr => ∃ (k : Nat) (T : Nat → Sc), k ≤ 4 ∧ i = .int .i64 (k : Int) ∧ (∀ j, j < k → T j = S j) ∧ (∀ j, j < 4 → Slc (T j).v) ∧ Vr wr w2.heap.size (rv g p (.slice ao al.length ca) b (.slice co cl.length cc) T) ∧ (NoB wr w2.heap.size ∧ Vr wr w1.heap.size rv0 ∧ NoB wr w1.heap.size) ∧ Vr wr w.heap.size (rv g p (.slice ao al.length ca) b (.slice co cl.length cc) S) ∧ Below w.heap.size w wr) (fun i _ => 4 - (intOf i).toNat)
  case atStart => exact ⟨0, z4, Nat.zero_le _, rfl, upto_zero, slc_z4, HV.out, ⟨NB_HV.out, HR.out, NB_HR.out⟩, HB0.out, BB.out⟩
  case round =>
    clear HB0 HR NB_HR HV NB_HV BB
    obtain ⟨k, T, hk4, rfl, hj, hs, hv, ⟨nv9, hr9, nr9⟩, hb9, hBl⟩ := hrel
    have HJ : Hid (∀ j, j < k → T j = S j) := hj
    have HSl : Hid (∀ j, j < 4 → Slc (T j).v) := hs
    have HV : Hid (Vr wr w2.heap.size (rv g p (.slice ao al.length ca) b (.slice co cl.length cc) T)) := hv
    have NB_HV : Hid (NoB wr w2.heap.size) := nv9
    have HR : Hid (Vr wr w1.heap.size rv0) := hr9
    have NB_HR : Hid (NoB wr w1.heap.size) := nr9
    have HB0 : Hid (Vr wr w.heap.size (rv g p (.slice ao al.length ca) b (.slice co cl.length cc) S)) := hb9
    have BB : Hid (Below w.heap.size w wr) := hBl
    clear hj hs hv nv9 hr9 nr9 hb9 hBl
    by_cases hk : k < 4
    · have SL : Hid (Slc (S k).v) := HS1.out k hk
      have ki : (k : Int) < 4 := by omega
      have t0 : (0 : Nat) = 0 := rfl
      go_wp2_with (first
        | (have q4 := t4; (with_reducible refine at_store ?_); refine store_lawC _ (S k).cs w2.heap.size (5 + k * 5) rfl rfl (Vr.sthere HV.out k hk) rowy_rslot.2 (cs_one SL.out) ?_; intro w43 E9 R9 T9 B9; have K9 : ∀ k, k ≠ w2.heap.size → w43.heap[k]? = w42.heap[k]? := (by rw [E9.out]; exact fun k hk => heap_cells _ _ _ _ k hk); have HB0 : Hid (Vr w43 w.heap.size (rv g p (.slice ao al.length ca) b (.slice co cl.length cc) S)) := HB0.out.heap (K9 _ (Nat.ne_of_lt LT_HB0_HV.out)); have NB_HR : Hid (NoB w43 w1.heap.size) := NB_HR.out.heap (K9 _ (Nat.ne_of_lt LT_HR_HV.out)); have HR : Hid (Vr w43 w1.heap.size rv0) := HR.out.heap (K9 _ (Nat.ne_of_lt LT_HR_HV.out)); have NB_HS : Hid (NoB w43 wr.heap.size) := NB_HS.out.heap (K9 _ (Nat.ne_of_gt LT_HV_HS.out)); have HS : Hid (Vr w43 wr.heap.size (S k).cs) := HS.out.heap (K9 _ (Nat.ne_of_gt LT_HV_HS.out)); have NB9 : Hid (NoB w43 w2.heap.size) := (by rw [E9.out]; exact NoB.upd NB_HV.out HV.out k hk (S k) SL.out); have V9 : Hid (Vr w43 w2.heap.size (rv g p (.slice ao al.length ca) b (.slice co cl.length cc) (upd T k (S k)))) := (by rw [E9.out]; exact Vr.upd HV.out k hk (S k)); clear NB_HV HV; have NB_HV := NB9; have HV := V9; clear NB9 V9; have BB : Hid (Below w.heap.size w w43) := BB.out.trans (B9.mono LE_HV.out); clear hs_0 hs_1 hs_2 hs_3 hs_4; have hs_0 := HS.out.cell 0 _ rfl; have hs_1 := HS.out.cell 1 _ rfl; have hs_2 := HS.out.cell 2 _ rfl; have hs_3 := HS.out.cell 3 _ rfl; have hs_4 := HS.out.cell 4 _ rfl; clear E9 R9 T9 B9 K9; clear t4; have t5 : (1 : Nat) = 1 := rfl)
        | (have q3 := t3; refine build_lawV _ rfl 36 _ rfl #[(0, .bool (S k).u), (1, .int .i64 (S k).n), (2, .int .u64 (S k).e), (3, .int .u64 (S k).t), (4, (S k).v)] (by kernel_rfl) (.agg (S k).cs.toArray) (run_bslot _ (S k) SL.out) ?_; clear t3; have t4 : (1 : Nat) = 1 := rfl)
        | (have q2 := t2; (with_reducible refine at_store ?_); refine store_lawC _ (S k).cs wr.heap.size 0 rfl rfl HS.out.2 rowy_slot.2 (cs_one SL.out) ?_; intro w42 E9 R9 T9 B9; have K9 : ∀ k, k ≠ wr.heap.size → w42.heap[k]? = w41.heap[k]? := (by rw [E9.out]; exact fun k hk => heap_cells _ _ _ _ k hk); have HB0 : Hid (Vr w42 w.heap.size (rv g p (.slice ao al.length ca) b (.slice co cl.length cc) S)) := HB0.out.heap (K9 _ (Nat.ne_of_lt LT_HB0_HS.out)); have NB_HR : Hid (NoB w42 w1.heap.size) := NB_HR.out.heap (K9 _ (Nat.ne_of_lt LT_HR_HS.out)); have HR : Hid (Vr w42 w1.heap.size rv0) := HR.out.heap (K9 _ (Nat.ne_of_lt LT_HR_HS.out)); have NB_HV : Hid (NoB w42 w2.heap.size) := NB_HV.out.heap (K9 _ (Nat.ne_of_lt LT_HV_HS.out)); have HV : Hid (Vr w42 w2.heap.size (rv g p (.slice ao al.length ca) b (.slice co cl.length cc) T)) := HV.out.heap (K9 _ (Nat.ne_of_lt LT_HV_HS.out)); have NB_HS : Hid (NoB w42 wr.heap.size) := (by rw [E9.out]; exact NB_HS.out.set HS.out rfl (cs_nob SL.out)); have HS : Hid (Vr w42 wr.heap.size (S k).cs) := ⟨R9, T9⟩; have BB : Hid (Below w.heap.size w w42) := BB.out.trans (B9.mono LE_HS.out); have hs_0 := HS.out.cell 0 _ rfl; have hs_1 := HS.out.cell 1 _ rfl; have hs_2 := HS.out.cell 2 _ rfl; have hs_3 := HS.out.cell 3 _ rfl; have hs_4 := HS.out.cell 4 _ rfl; clear E9 R9 T9 B9 K9; clear t2; have t3 : (1 : Nat) = 1 := rfl)
        | (have q1 := t1; (with_reducible refine at_alloc ?_); refine new_lawN _ (sv false 0 0 0 (.slice none 0 0)) zero_slot (sv_nob _ _ _ _ _ _ _) ?_; intro w41 X9 N9 B9; have LT_HB0_HS : Hid (w.heap.size < wr.heap.size) := range_lt HB0.out.1 (Nat.succ_pos _); have LT_HR_HS : Hid (w1.heap.size < wr.heap.size) := range_lt HR.out.1 (Nat.succ_pos _); have LT_HV_HS : Hid (w2.heap.size < wr.heap.size) := range_lt HV.out.1 (Nat.succ_pos _); have LE_HS : Hid (w.heap.size ≤ wr.heap.size) := BB.out.size; have HB0 : Hid (Vr w41 w.heap.size (rv g p (.slice ao al.length ca) b (.slice co cl.length cc) S)) := HB0.out.below B9 (range_lt HB0.out.1 (Nat.succ_pos _)); have NB_HR : Hid (NoB w41 w1.heap.size) := NB_HR.out.heap (B9.block _ (range_lt HR.out.1 (Nat.succ_pos _))); have HR : Hid (Vr w41 w1.heap.size rv0) := HR.out.below B9 (range_lt HR.out.1 (Nat.succ_pos _)); have NB_HV : Hid (NoB w41 w2.heap.size) := NB_HV.out.heap (B9.block _ (range_lt HV.out.1 (Nat.succ_pos _))); have HV : Hid (Vr w41 w2.heap.size (rv g p (.slice ao al.length ca) b (.slice co cl.length cc) T)) := HV.out.below B9 (range_lt HV.out.1 (Nat.succ_pos _)); have HS : Hid (Vr w41 wr.heap.size (sv false 0 0 0 (.slice none 0 0))) := X9; have NB_HS : Hid (NoB w41 wr.heap.size) := N9; have BB : Hid (Below w.heap.size w w41) := BB.out.trans (B9.mono BB.out.size); clear X9 N9 B9; clear t1; have t2 : (1 : Nat) = 1 := rfl)
        | (have q0 := t0; refine load_lawC _ rfl (S k).cs w.heap.size (5 + k * 5) rfl (Vr.slot HB0.out k hk) rowy_slot ?_; clear t0; have t1 : (1 : Nat) = 1 := rfl))
      go_roundw
      case rel => exact ⟨k + 1, upd T k (S k), by omega, by go_num, upto_succ (fun j hj => by rw [upd_other _ _ _ _ (Nat.ne_of_lt hj)]; exact HJ.out j hj) (upd_same _ _ _), (fun j hj => by by_cases e : j = k <;> first | (rw [e, upd_same]; exact SL.out) | (rw [upd_other _ _ _ _ e]; exact HSl.out j hj)), HV.out, ⟨NB_HV.out, HR.out, NB_HR.out⟩, HB0.out, BB.out⟩
      case measure => simp [intOf]; omega
    · have e4 : k = 4 := by omega
      subst e4
      have ET : Hid ((rv g p (.slice ao al.length ca) b (.slice co cl.length cc) T) = (rv g p (.slice ao al.length ca) b (.slice co cl.length cc) S)) := rv_congr HJ.out
      have t0 : (0 : Nat) = 0 := rfl
      go_wp2_with (first
        | (have q1 := t1; (with_reducible refine at_store ?_); refine store_lawC _ (rv g p (.slice ao al.length ca) b (.slice co cl.length cc) T) w1.heap.size 0 rfl rfl HR.out.2 rowy_rrecord.2 (rv_one (slc_sl _ _ _) (slc_sl _ _ _) HSl.out) ?_; intro w41 E9 R9 T9 B9; have K9 : ∀ k, k ≠ w1.heap.size → w41.heap[k]? = wr.heap[k]? := (by rw [E9.out]; exact fun k hk => heap_cells _ _ _ _ k hk); have HB0 : Hid (Vr w41 w.heap.size (rv g p (.slice ao al.length ca) b (.slice co cl.length cc) S)) := HB0.out.heap (K9 _ (Nat.ne_of_lt LT_HB0_HR.out)); have NB_HV : Hid (NoB w41 w2.heap.size) := NB_HV.out.heap (K9 _ (Nat.ne_of_gt LT_HR_HV.out)); have HV : Hid (Vr w41 w2.heap.size (rv g p (.slice ao al.length ca) b (.slice co cl.length cc) T)) := HV.out.heap (K9 _ (Nat.ne_of_gt LT_HR_HV.out)); have NB_HR : Hid (NoB w41 w1.heap.size) := (by rw [E9.out]; exact NB_HR.out.set HR.out rfl (rv_nob (slc_sl _ _ _) (slc_sl _ _ _) HSl.out)); have HR : Hid (Vr w41 w1.heap.size (rv g p (.slice ao al.length ca) b (.slice co cl.length cc) T)) := ⟨R9, T9⟩; have BB : Hid (Below w.heap.size w w41) := BB.out.trans (B9.mono LE_HR.out); clear E9 R9 T9 B9 K9; clear t1; have t2 : (1 : Nat) = 1 := rfl)
        | (have q0 := t0; refine load_lawC _ rfl (rv g p (.slice ao al.length ca) b (.slice co cl.length cc) T) w2.heap.size 0 rfl HV.out.1 rowy_rrecord ?_; clear t0; have t1 : (1 : Nat) = 1 := rfl))
      exact bodyPost_ret (v := .agg (rv g p (.slice ao al.length ca) b (.slice co cl.length cc) T).toArray) (results_c rfl _ _ w1.heap.size _ rowy_rrecord rfl HR.out.1) rfl ⟨by rw [ET.out], BB.out⟩
end Go.Proofs.YtmbfccclghnaeaaDoor.re

/- What record's Right answers. No claim of its own. -/
namespace Go.Proofs.YtmbfccclghnaeaaDoor.re
open Go.RowKit Go.Proofs.YtmbfccclghnaeaaDoor.fa Go.Proofs.YtmbfccclghnaeaaDoor.he Go.Proofs.YtmbfccclghnaeaaDoor.so
set_option maxRecDepth 20000

set_option maxHeartbeats 4000000 in
theorem right_any (g p b : Int) (a c : Value) (al cl : List Int) (S : Nat → Sc) (w : World) (hR : Rin w g p b a c al cl S) (B : Bool) (hB : Rok al cl S ↔ B = true) :
    Calls Tryd.prog 11 #[.agg (rv g p a b c S).toArray] w fun x w' => x = .returned (.bool B) ∧ Below w.heap.size w w' := by
  have SY : Hid (∀ k, k < 4 → (S k).d.ok → ∀ w0, Below w.heap.size w w0 → Calls Tryd.prog 33 #[.agg (S k).cs.toArray] w0 fun x w' => x = .returned (.bool true) ∧ Below w0.heap.size w0 w') := fun k hk h w0 q => so.right_yes _ _ _ _ _ _ w0 ((hR.2.2.2 k hk).2.below q) (hR.2.2.2 k hk).1 h
  have SN : Hid (∀ k, k < 4 → ¬ (S k).d.ok → ∀ w0, Below w.heap.size w w0 → Calls Tryd.prog 33 #[.agg (S k).cs.toArray] w0 fun x w' => x = .returned (.bool false) ∧ Below w0.heap.size w0 w') := fun k hk h w0 q => so.right_no _ _ _ _ _ _ w0 ((hR.2.2.2 k hk).2.below q) (hR.2.2.2 k hk).1 h
  have SC : Hid (∀ k, k < 4 → Slc (S k).v) := hR.slc
  have HB : Hid (Rok al cl S ↔ B = true) := hB
  obtain ⟨ao, ca, rfl⟩ := form hR.2.1
  obtain ⟨co, cc, rfl⟩ := form hR.2.2.1
  clear hR hB
  have t0 : (0 : Nat) = 0 := rfl
  go_enter Tryd.func11, Tryd.ntmps11
  go_wp2_with (first
    | (have q1 := t1; refine load_lawC _ rfl (sls S) w.heap.size 5 rfl (Vr.slots HB0.out) rowy_slots ?_; clear t1; have t2 : (1 : Nat) = 1 := rfl)
    | (have q0 := t0; refine box_lawC _ (rv g p (.slice ao al.length ca) b (.slice co cl.length cc) S) rfl ?_; intro w1 X9 B9 l9; have HB0 : Hid (Vr w1 w.heap.size (rv g p (.slice ao al.length ca) b (.slice co cl.length cc) S)) := X9; have BB : Hid (Below w.heap.size w w1) := B9; have hb0_2 := HB0.out.cell 2 _ rfl; have hb0_4 := HB0.out.cell 4 _ rfl; clear X9 B9 l9; clear t0; have t1 : (1 : Nat) = 1 := rfl))
  clear hb0_2 hb0_4
  go_loopw [7] (fun i wr => ∃ k : Nat, k ≤ 4 ∧ i = .int .i64 (k : Int) ∧ (∀ j, j < k → (S j).d.ok) ∧ Vr wr w.heap.size (rv g p (.slice ao al.length ca) b (.slice co cl.length cc) S) ∧ Below w.heap.size w wr) (fun i _ => 4 - (intOf i).toNat)
  case atStart => exact ⟨0, Nat.zero_le _, rfl, upto_zero, HB0.out, BB.out⟩
  case round =>
    clear HB0 BB
    obtain ⟨k, hk4, rfl, hok, hV, hBl⟩ := hrel
    have HB0 : Hid (Vr wr w.heap.size (rv g p (.slice ao al.length ca) b (.slice co cl.length cc) S)) := hV
    have BB : Hid (Below w.heap.size w wr) := hBl
    have HO : Hid (∀ j, j < k → (S j).d.ok) := hok
    clear hV hBl hok
    by_cases hk : k < 4
    · have SL : Hid (Slc (S k).v) := SC.out k hk
      have ki : (k : Int) < 4 := by omega
      by_cases hs : (S k).d.ok
      · have SK : Hid ((S k).d.ok) := hs
        clear hs
        have t0 : (1 : Nat) = 1 := rfl
        go_wp2_with (first
          | (have q3 := t3; go_at_call 33; refine (SY.out k hk SK.out w42 BB.out).mono ?_; rintro e9 w43 ⟨rfl, B9⟩; have HB0 : Hid (Vr w43 w.heap.size (rv g p (.slice ao al.length ca) b (.slice co cl.length cc) S)) := HB0.out.below B9 (range_lt HB0.out.1 (Nat.succ_pos _)); have NB_HS : Hid (NoB w43 wr.heap.size) := NB_HS.out.heap (B9.block _ (range_lt HS.out.1 (Nat.succ_pos _))); have HS : Hid (Vr w43 wr.heap.size (S k).cs) := HS.out.below B9 (range_lt HS.out.1 (Nat.succ_pos _)); have BB : Hid (Below w.heap.size w w43) := BB.out.trans (B9.mono BB.out.size); clear hs_0 hs_1 hs_2 hs_3 hs_4; have hs_0 := HS.out.cell 0 _ rfl; have hs_1 := HS.out.cell 1 _ rfl; have hs_2 := HS.out.cell 2 _ rfl; have hs_3 := HS.out.cell 3 _ rfl; have hs_4 := HS.out.cell 4 _ rfl; clear B9; clear t3; have t4 : (1 : Nat) = 1 := rfl)
          | (have q2 := t2; (with_reducible refine at_store ?_); refine store_lawC _ (S k).cs wr.heap.size 0 rfl rfl HS.out.2 rowy_slot.2 (cs_one SL.out) ?_; intro w42 E9 R9 T9 B9; have K9 : ∀ k, k ≠ wr.heap.size → w42.heap[k]? = w41.heap[k]? := (by rw [E9.out]; exact fun k hk => heap_cells _ _ _ _ k hk); have HB0 : Hid (Vr w42 w.heap.size (rv g p (.slice ao al.length ca) b (.slice co cl.length cc) S)) := HB0.out.heap (K9 _ (Nat.ne_of_lt LT_HB0_HS.out)); have NB_HS : Hid (NoB w42 wr.heap.size) := (by rw [E9.out]; exact NB_HS.out.set HS.out rfl (cs_nob SL.out)); have HS : Hid (Vr w42 wr.heap.size (S k).cs) := ⟨R9, T9⟩; have BB : Hid (Below w.heap.size w w42) := BB.out.trans (B9.mono LE_HS.out); have hs_0 := HS.out.cell 0 _ rfl; have hs_1 := HS.out.cell 1 _ rfl; have hs_2 := HS.out.cell 2 _ rfl; have hs_3 := HS.out.cell 3 _ rfl; have hs_4 := HS.out.cell 4 _ rfl; clear E9 R9 T9 B9 K9; clear t2; have t3 : (1 : Nat) = 1 := rfl)
          | (have q1 := t1; (with_reducible refine at_alloc ?_); refine new_lawN _ (sv false 0 0 0 (.slice none 0 0)) zero_slot (sv_nob _ _ _ _ _ _ _) ?_; intro w41 X9 N9 B9; have LT_HB0_HS : Hid (w.heap.size < wr.heap.size) := range_lt HB0.out.1 (Nat.succ_pos _); have LE_HS : Hid (w.heap.size ≤ wr.heap.size) := BB.out.size; have HB0 : Hid (Vr w41 w.heap.size (rv g p (.slice ao al.length ca) b (.slice co cl.length cc) S)) := HB0.out.below B9 (range_lt HB0.out.1 (Nat.succ_pos _)); have HS : Hid (Vr w41 wr.heap.size (sv false 0 0 0 (.slice none 0 0))) := X9; have NB_HS : Hid (NoB w41 wr.heap.size) := N9; have BB : Hid (Below w.heap.size w w41) := BB.out.trans (B9.mono BB.out.size); clear X9 N9 B9; clear t1; have t2 : (1 : Nat) = 1 := rfl)
          | (have q0 := t0; refine idx_law _ rfl (.tmp 6) (.tmp 7) 26 rfl (.agg (sls S).toArray) (.int .i64 (k : Int)) (.agg (S k).cs.toArray) rfl rfl (run_idx _ S k hk) ?_; clear t0; have t1 : (1 : Nat) = 1 := rfl))
        go_roundw
        case rel => exact ⟨k + 1, by omega, by go_num, upto_succ HO.out SK.out, HB0.out, BB.out⟩
        case measure => simp [intOf]; omega
      · have SK : Hid (¬ (S k).d.ok) := hs
        have hB : B = false := by
          cases hb : B
          · rfl
          · exact absurd ((HB.out.2 hb).2.2 k hk) hs
        subst hB
        clear hs HB
        have t0 : (1 : Nat) = 1 := rfl
        go_wp2_with (first
          | (have q3 := t3; go_at_call 33; refine (SN.out k hk SK.out w42 BB.out).mono ?_; rintro e9 w43 ⟨rfl, B9⟩; have HB0 : Hid (Vr w43 w.heap.size (rv g p (.slice ao al.length ca) b (.slice co cl.length cc) S)) := HB0.out.below B9 (range_lt HB0.out.1 (Nat.succ_pos _)); have NB_HS : Hid (NoB w43 wr.heap.size) := NB_HS.out.heap (B9.block _ (range_lt HS.out.1 (Nat.succ_pos _))); have HS : Hid (Vr w43 wr.heap.size (S k).cs) := HS.out.below B9 (range_lt HS.out.1 (Nat.succ_pos _)); have BB : Hid (Below w.heap.size w w43) := BB.out.trans (B9.mono BB.out.size); clear hs_0 hs_1 hs_2 hs_3 hs_4; have hs_0 := HS.out.cell 0 _ rfl; have hs_1 := HS.out.cell 1 _ rfl; have hs_2 := HS.out.cell 2 _ rfl; have hs_3 := HS.out.cell 3 _ rfl; have hs_4 := HS.out.cell 4 _ rfl; clear B9; clear t3; have t4 : (1 : Nat) = 1 := rfl)
          | (have q2 := t2; (with_reducible refine at_store ?_); refine store_lawC _ (S k).cs wr.heap.size 0 rfl rfl HS.out.2 rowy_slot.2 (cs_one SL.out) ?_; intro w42 E9 R9 T9 B9; have K9 : ∀ k, k ≠ wr.heap.size → w42.heap[k]? = w41.heap[k]? := (by rw [E9.out]; exact fun k hk => heap_cells _ _ _ _ k hk); have HB0 : Hid (Vr w42 w.heap.size (rv g p (.slice ao al.length ca) b (.slice co cl.length cc) S)) := HB0.out.heap (K9 _ (Nat.ne_of_lt LT_HB0_HS.out)); have NB_HS : Hid (NoB w42 wr.heap.size) := (by rw [E9.out]; exact NB_HS.out.set HS.out rfl (cs_nob SL.out)); have HS : Hid (Vr w42 wr.heap.size (S k).cs) := ⟨R9, T9⟩; have BB : Hid (Below w.heap.size w w42) := BB.out.trans (B9.mono LE_HS.out); have hs_0 := HS.out.cell 0 _ rfl; have hs_1 := HS.out.cell 1 _ rfl; have hs_2 := HS.out.cell 2 _ rfl; have hs_3 := HS.out.cell 3 _ rfl; have hs_4 := HS.out.cell 4 _ rfl; clear E9 R9 T9 B9 K9; clear t2; have t3 : (1 : Nat) = 1 := rfl)
          | (have q1 := t1; (with_reducible refine at_alloc ?_); refine new_lawN _ (sv false 0 0 0 (.slice none 0 0)) zero_slot (sv_nob _ _ _ _ _ _ _) ?_; intro w41 X9 N9 B9; have LT_HB0_HS : Hid (w.heap.size < wr.heap.size) := range_lt HB0.out.1 (Nat.succ_pos _); have LE_HS : Hid (w.heap.size ≤ wr.heap.size) := BB.out.size; have HB0 : Hid (Vr w41 w.heap.size (rv g p (.slice ao al.length ca) b (.slice co cl.length cc) S)) := HB0.out.below B9 (range_lt HB0.out.1 (Nat.succ_pos _)); have HS : Hid (Vr w41 wr.heap.size (sv false 0 0 0 (.slice none 0 0))) := X9; have NB_HS : Hid (NoB w41 wr.heap.size) := N9; have BB : Hid (Below w.heap.size w w41) := BB.out.trans (B9.mono BB.out.size); clear X9 N9 B9; clear t1; have t2 : (1 : Nat) = 1 := rfl)
          | (have q0 := t0; refine idx_law _ rfl (.tmp 6) (.tmp 7) 26 rfl (.agg (sls S).toArray) (.int .i64 (k : Int)) (.agg (S k).cs.toArray) rfl rfl (run_idx _ S k hk) ?_; clear t0; have t1 : (1 : Nat) = 1 := rfl))
        go_ret
        exact ⟨rfl, BB.out⟩
    · have e4 : k = 4 := by omega
      subst e4
      have c2 := HB0.out.cell 2 _ rfl
      have c4 := HB0.out.cell 4 _ rfl
      have hB : B = ((al.length : Int) == 16 && (cl.length : Int) == 32) := by
        rw [Bool.eq_iff_iff, ← HB.out, Bool.and_eq_true, beq_iff_eq, beq_iff_eq]
        exact ⟨fun h => ⟨by have := h.1; omega, by have := h.2.1; omega⟩, fun h => ⟨by have := h.1; omega, by have := h.2; omega, HO.out⟩⟩
      clear HB
      cases h16 : (al.length : Int) == 16
      · rw [h16] at hB
        subst hB
        go_wp2
        go_ret
        exact ⟨rfl, BB.out⟩
      · rw [h16] at hB
        cases h32 : (cl.length : Int) == 32
        · rw [h32] at hB
          subst hB
          go_wp2
          go_ret
          exact ⟨rfl, BB.out⟩
        · rw [h32] at hB
          subst hB
          go_wp2
          go_ret
          exact ⟨rfl, BB.out⟩
end Go.Proofs.YtmbfccclghnaeaaDoor.re

/- The words of 32 bits: how they are rotated, and what the small functions of sha and of its reference answer. No claim of its own. -/
namespace Go.Proofs.YtmbfccclghnaeaaDoor.mc
open Go.RowKit
set_option maxRecDepth 20000

/-- a word rotated to the right -/
def rr (x : Int) (n : Nat) : Int := x / 2 ^ n + x % 2 ^ n * 2 ^ (32 - n)
def xr3 (a b c : Int) : Int := bits .xor .u32 (bits .xor .u32 a b) c
def sg0 (x : Int) : Int := xr3 (rr x 7) (rr x 18) (x / 8)
def sg1 (x : Int) : Int := xr3 (rr x 17) (rr x 19) (x / 1024)
def bg0 (x : Int) : Int := xr3 (rr x 2) (rr x 13) (rr x 22)
def bg1 (x : Int) : Int := xr3 (rr x 6) (rr x 11) (rr x 25)
def chs (x y z : Int) : Int := bits .xor .u32 (bits .and .u32 x y) (bits .and .u32 (4294967295 - x) z)
def maj (x y z : Int) : Int := xr3 (bits .and .u32 x y) (bits .and .u32 x z) (bits .and .u32 y z)

/-- a number of 32 bits -/
def W32 (x : Int) : Prop := 0 ≤ x ∧ x ≤ 4294967295

theorem not_u32 (x : Int) (hx : W32 x) : bits .xor .u32 IntKind.u32.max x = 4294967295 - x := by
  have e : IntKind.u32.max = 4294967295 := rfl
  rw [e, u32_xor _ _ (by omega) (by omega) hx.1 (by have := hx.2; omega)]
  obtain ⟨n, rfl⟩ := Int.eq_ofNat_of_zero_le hx.1
  have h2 : n < 2 ^ 32 := by have := hx.2; omega
  show ((4294967295 ^^^ n : Nat) : Int) = _
  have h3 : 4294967295 ^^^ n = 4294967295 - n := by
    have e : 4294967295 - n = 2 ^ 32 - (n + 1) := by omega
    rw [e]
    apply Nat.eq_of_testBit_eq
    intro i
    rw [Nat.testBit_xor, Nat.testBit_two_pow_sub_succ h2, show 4294967295 = 2 ^ 32 - 1 from rfl, Nat.testBit_two_pow_sub_one]
    by_cases hi : i < 32
    · simp [hi]
    · have : n.testBit i = false := Nat.testBit_lt_two_pow (Nat.lt_of_lt_of_le h2 (Nat.pow_le_pow_right (by omega) (by omega)))
      simp [hi, this]
  rw [h3]; omega

set_option maxHeartbeats 1000000 in
theorem choose_any (x y z : Int) (w : World) (hx : W32 x) :
    Calls Tryd.prog 87 #[.int .u32 x, .int .u32 y, .int .u32 z] w fun e w' => e = .returned (.int .u32 (chs x y z)) ∧ w' = w := by
  have HX : Hid (bits .xor .u32 IntKind.u32.max x = 4294967295 - x) := not_u32 x hx
  clear hx
  go_enter Tryd.func87, Tryd.ntmps87
  go_wp2
  go_ret
  refine ⟨ret_int ?_, rfl⟩
  rw [HX.out]; rfl

set_option maxHeartbeats 1000000 in
theorem majority_any (x y z : Int) (w : World) :
    Calls Tryd.prog 89 #[.int .u32 x, .int .u32 y, .int .u32 z] w fun e w' => e = .returned (.int .u32 (maj x y z)) ∧ w' = w := by
  go_enter Tryd.func89, Tryd.ntmps89
  go_wp2
  go_ret
  exact ⟨rfl, rfl⟩

theorem and31 (n : Nat) (h : 1 ≤ n ∧ n ≤ 31) : bits .and .u64 (IntKind.u64.wrap (-(n : Int))) 31 = 32 - n := by
  have h3 := u64_and (18446744073709551616 - (n : Int)) 31 (by omega) (by omega) (by omega) (by omega)
  rw [IntKind.wrap_u64, show -(n : Int) % 18446744073709551616 = 18446744073709551616 - n by omega, h3]
  have : (18446744073709551616 - (n : Int)).toNat = 18446744073709551616 - n := by omega
  rw [this, show (31 : Int).toNat = 2 ^ 5 - 1 from rfl, Nat.and_two_pow_sub_one_eq_mod]
  omega

theorem rot_eq (x : Int) (n : Nat) (hx : W32 x) (hn : 1 ≤ n ∧ n ≤ 31) : bits .or .u32 (x * 2 ^ (32 - n) % 4294967296) (x / 2 ^ (32 - (32 - n))) = rr x n := by
  obtain ⟨y, rfl⟩ := Int.eq_ofNat_of_zero_le hx.1
  have hy : y < 2 ^ 32 := by have := hx.2; omega
  have en : 32 - (32 - n) = n := by omega
  have e1 : (y : Int) * 2 ^ (32 - n) % 4294967296 = ((y % 2 ^ n * 2 ^ (32 - n) : Nat) : Int) := by
    have : y * 2 ^ (32 - n) % (2 ^ n * 2 ^ (32 - n)) = y % 2 ^ n * 2 ^ (32 - n) := Nat.mul_mod_mul_right _ _ _
    rw [← this, ← Nat.pow_add, show n + (32 - n) = 32 by omega]
    simp
  have e2 : (y : Int) / 2 ^ n = ((y / 2 ^ n : Nat) : Int) := by simp
  have e3 : (y : Int) % 2 ^ n = ((y % 2 ^ n : Nat) : Int) := by simp
  have h1 : y / 2 ^ n < 2 ^ (32 - n) := by
    rw [Nat.div_lt_iff_lt_mul (Nat.two_pow_pos n), ← Nat.pow_add, show 32 - n + n = 32 by omega]; exact hy
  have h2 : y % 2 ^ n * 2 ^ (32 - n) < 2 ^ 32 := by
    have : y % 2 ^ n < 2 ^ n := Nat.mod_lt _ (Nat.two_pow_pos n)
    calc y % 2 ^ n * 2 ^ (32 - n) < 2 ^ n * 2 ^ (32 - n) := Nat.mul_lt_mul_of_pos_right this (Nat.two_pow_pos _)
      _ = 2 ^ 32 := by rw [← Nat.pow_add, show n + (32 - n) = 32 by omega]
  have h3 : 2 ^ (32 - n) ≤ 2 ^ 32 := Nat.pow_le_pow_right (by omega) (by omega)
  rw [en, e1, e2, u32_or_nat _ _ (by omega) (by omega), rr, e2, e3]
  have e4 : y % 2 ^ n * 2 ^ (32 - n) ||| y / 2 ^ n = y % 2 ^ n * 2 ^ (32 - n) + y / 2 ^ n := by
    have := Nat.two_pow_add_eq_or_of_lt h1 (y % 2 ^ n)
    rw [Nat.mul_comm, this]
  rw [e4]
  simp
  omega

set_option maxHeartbeats 1000000 in
theorem rotateLeft_any (x : Int) (n : Nat) (w : World) (hx : W32 x) (hn : 1 ≤ n ∧ n ≤ 31) :
    Calls Tryd.prog 94 #[.int .u32 x, .int .i64 (-(n : Int))] w fun e w' => e = .returned (.int .u32 (rr x n)) ∧ w' = w := by
  have HX : Hid (W32 x) := hx
  have h1 := and31 n hn
  have h2 : ((32 : Int) - n).toNat = 32 - n := by omega
  clear hx
  go_enter Tryd.func94, Tryd.ntmps94
  go_wp2
  go_ret
  refine ⟨ret_int ?_, rfl⟩
  exact rot_eq x n HX.out hn

set_option maxHeartbeats 1000000 in
theorem power_any (n : Nat) (w : World) (hn : n ≤ 31) :
    Calls Tryd.prog 90 #[.int .i64 n] w fun e w' => e = .returned (.int .u32 (2 ^ n)) ∧ w' = w := by
  have HP : ∀ k : Nat, k < n → Hid (IntKind.u32.wrap ((2 : Int) ^ k * 2) = 2 ^ (k + 1)) := by
    intro k hk
    show _ = _
    rw [IntKind.wrap_u32, Int.pow_succ]
    have h1 : 2 ^ k ≤ 2 ^ 30 := Nat.pow_le_pow_right (by omega) (by omega)
    have h2 : ((2 ^ k : Nat) : Int) = 2 ^ k := by simp
    rw [← h2]
    generalize 2 ^ k = q at h1
    omega
  go_enter Tryd.func90, Tryd.ntmps90
  go_wp2
  go_loop [3, 4] (fun p i => ∃ k : Nat, k ≤ n ∧ i = .int .i64 k ∧ p = .int .u32 (2 ^ k)) (fun _ i => n - (intOf i).toNat)
  case atStart => exact ⟨0, Nat.zero_le _, rfl, rfl⟩
  case round =>
    obtain ⟨k, hk, rfl, rfl⟩ := hrel
    by_cases hlt : k < n
    · have H := HP k hlt
      clear HP
      obtain ⟨p, hp⟩ : ∃ p : Int, p = 2 ^ k := ⟨_, rfl⟩
      rw [← hp] at H ⊢
      clear hp
      go_wp2
      go_round
      case rel => exact ⟨k + 1, by omega, by go_num, by rw [← H.out, IntKind.wrap_u32]⟩
      case measure => simp [intOf]; omega
    · have hks : k = n := by omega
      subst hks
      clear HP
      go_wp2
      go_ret
      exact ⟨rfl, rfl⟩

set_option maxHeartbeats 1000000 in
theorem rotateRight_any (x : Int) (n : Nat) (w : World) (hx : W32 x) (hn : 1 ≤ n ∧ n ≤ 31) :
    Calls Tryd.prog 93 #[.int .u32 x, .int .i64 n] w fun e w' => e = .returned (.int .u32 (rr x n)) ∧ w' = w := by
  have HX : Hid (W32 x) := hx
  have h1 : IntKind.i64.wrap (-(n : Int)) = -(n : Int) := by rw [IntKind.wrap_i64]; omega
  clear hx
  go_enter Tryd.func93, Tryd.ntmps93
  go_wp2_with (go_at_call 94; refine (rotateLeft_any x n _ HX.out hn).mono ?_; rintro e w' ⟨rfl, hw⟩; obtain rfl := hw.symm)
  go_ret
  exact ⟨rfl, rfl⟩

theorem rr_bd (x : Int) (n : Nat) (hx : W32 x) (hn : 1 ≤ n ∧ n ≤ 31) : W32 (rr x n) := by
  rw [← rot_eq x n hx hn]
  have := bounds_u32 (wf_bits .or .u32 (x * 2 ^ (32 - n) % 4294967296) (x / 2 ^ (32 - (32 - n))))
  exact ⟨this.1, by omega⟩
theorem bits_bd (o : BinOp) (a b : Int) : W32 (bits o .u32 a b) := by
  have := bounds_u32 (wf_bits o .u32 a b)
  exact ⟨this.1, by omega⟩

set_option maxHeartbeats 1000000 in
theorem smallSigma0_any (x : Int) (w : World) (hx : W32 x) :
    Calls Tryd.prog 92 #[.int .u32 x] w fun e w' => e = .returned (.int .u32 (sg0 x)) ∧ w' = w := by
  have HX : Hid (W32 x) := hx
  clear hx
  go_enter Tryd.func92, Tryd.ntmps92
  go_wp2_with (first
    | (go_at_call_of 93 (Value.int .i64 7); refine (rotateRight_any x 7 _ HX.out (by omega)).mono ?_; rintro e w' ⟨rfl, hw⟩; obtain rfl := hw.symm)
    | (go_at_call_of 93 (Value.int .i64 18); refine (rotateRight_any x 18 _ HX.out (by omega)).mono ?_; rintro e w' ⟨rfl, hw⟩; obtain rfl := hw.symm))
  go_ret
  exact ⟨rfl, rfl⟩

set_option maxHeartbeats 1000000 in
theorem smallSigma1_any (x : Int) (w : World) (hx : W32 x) :
    Calls Tryd.prog 91 #[.int .u32 x] w fun e w' => e = .returned (.int .u32 (sg1 x)) ∧ w' = w := by
  have HX : Hid (W32 x) := hx
  clear hx
  go_enter Tryd.func91, Tryd.ntmps91
  go_wp2_with (first
    | (go_at_call_of 93 (Value.int .i64 17); refine (rotateRight_any x 17 _ HX.out (by omega)).mono ?_; rintro e w' ⟨rfl, hw⟩; obtain rfl := hw.symm)
    | (go_at_call_of 93 (Value.int .i64 19); refine (rotateRight_any x 19 _ HX.out (by omega)).mono ?_; rintro e w' ⟨rfl, hw⟩; obtain rfl := hw.symm))
  go_ret
  exact ⟨rfl, rfl⟩

set_option maxHeartbeats 1000000 in
theorem bigSigma0_any (x : Int) (w : World) (hx : W32 x) :
    Calls Tryd.prog 88 #[.int .u32 x] w fun e w' => e = .returned (.int .u32 (bg0 x)) ∧ w' = w := by
  have HX : Hid (W32 x) := hx
  clear hx
  go_enter Tryd.func88, Tryd.ntmps88
  go_wp2_with (first
    | (go_at_call_of 93 (Value.int .i64 2); refine (rotateRight_any x 2 _ HX.out (by omega)).mono ?_; rintro e w' ⟨rfl, hw⟩; obtain rfl := hw.symm)
    | (go_at_call_of 93 (Value.int .i64 13); refine (rotateRight_any x 13 _ HX.out (by omega)).mono ?_; rintro e w' ⟨rfl, hw⟩; obtain rfl := hw.symm)
    | (go_at_call_of 93 (Value.int .i64 22); refine (rotateRight_any x 22 _ HX.out (by omega)).mono ?_; rintro e w' ⟨rfl, hw⟩; obtain rfl := hw.symm))
  go_ret
  exact ⟨rfl, rfl⟩

set_option maxHeartbeats 1000000 in
theorem bigSigma1_any (x : Int) (w : World) (hx : W32 x) :
    Calls Tryd.prog 86 #[.int .u32 x] w fun e w' => e = .returned (.int .u32 (bg1 x)) ∧ w' = w := by
  have HX : Hid (W32 x) := hx
  clear hx
  go_enter Tryd.func86, Tryd.ntmps86
  go_wp2_with (first
    | (go_at_call_of 93 (Value.int .i64 6); refine (rotateRight_any x 6 _ HX.out (by omega)).mono ?_; rintro e w' ⟨rfl, hw⟩; obtain rfl := hw.symm)
    | (go_at_call_of 93 (Value.int .i64 11); refine (rotateRight_any x 11 _ HX.out (by omega)).mono ?_; rintro e w' ⟨rfl, hw⟩; obtain rfl := hw.symm)
    | (go_at_call_of 93 (Value.int .i64 25); refine (rotateRight_any x 25 _ HX.out (by omega)).mono ?_; rintro e w' ⟨rfl, hw⟩; obtain rfl := hw.symm))
  go_ret
  exact ⟨rfl, rfl⟩

theorem pow_bd (n : Nat) (hn : n ≤ 31) : (1 : Int) ≤ 2 ^ n ∧ (2 : Int) ^ n ≤ 2147483648 := by
  have h1 : 2 ^ n ≤ 2 ^ 31 := Nat.pow_le_pow_right (by omega) hn
  have h0 : 0 < 2 ^ n := Nat.two_pow_pos n
  have h2 : ((2 ^ n : Nat) : Int) = 2 ^ n := by simp
  rw [← h2]
  generalize 2 ^ n = q at h1 h0
  omega

set_option maxHeartbeats 2000000 in
theorem rotr_any (x : Int) (n : Nat) (w : World) (hx : W32 x) (hn : 1 ≤ n ∧ n ≤ 31) :
    Calls Tryd.prog 82 #[.int .u32 x, .int .i64 n] w fun e w' => e = .returned (.int .u32 (rr x n)) ∧ ∃ d, w' = w.drewN d := by
  have HB : Hid (W32 (rr x n)) := rr_bd x n hx hn
  have hp1 := pow_bd n hn.2
  have hq1 := pow_bd (32 - n) (by omega)
  have PA : Hid (∀ w0, Calls Tryd.prog 90 #[.int .i64 n] w0 fun e w' => e = .returned (.int .u32 (2 ^ n)) ∧ w' = w0) := fun w0 => power_any n w0 (by omega)
  have QA : Hid (∀ w0, Calls Tryd.prog 90 #[.int .i64 (32 - (n : Int))] w0 fun e w' => e = .returned (.int .u32 (2 ^ (32 - n))) ∧ w' = w0) := fun w0 => by
    have := power_any (32 - n) w0 (by omega)
    rwa [show ((32 - n : Nat) : Int) = 32 - (n : Int) by omega] at this
  have HR : Hid (rr x n = x / 2 ^ n + x % 2 ^ n * 2 ^ (32 - n)) := rfl
  obtain ⟨hx1, hx2⟩ := hx
  generalize (2 : Int) ^ n = p at *
  generalize (2 : Int) ^ (32 - n) = q at *
  have hp0 : ¬ p = 0 := by omega
  go_enter Tryd.func82, Tryd.ntmps82
  go_wp2
  go_quiet (first
    | (go_at_call_of 90 (Value.int .i64 (n : Int)); exact Calls.quiet_of_same (PA.out _))
    | (go_at_call 90; exact Calls.quiet_of_same (QA.out _)))
  go_wp2
  go_ret
  refine ⟨ret_int ?_, _, rfl⟩
  have h1 := HR.out
  have h2 := HB.out
  rw [h1] at h2 ⊢
  unfold W32 at h2
  generalize x / p = A at *
  generalize x % p * q = B at *
  omega
end Go.Proofs.YtmbfccclghnaeaaDoor.mc

/- The constants and the first state, of sha and of its reference. No claim of its own. -/
namespace Go.Proofs.YtmbfccclghnaeaaDoor.mc
open Go.RowKit
set_option maxRecDepth 20000

def kc : List Int := [0x428a2f98, 0x71374491, 0xb5c0fbcf, 0xe9b5dba5, 0x3956c25b, 0x59f111f1, 0x923f82a4, 0xab1c5ed5,
  0xd807aa98, 0x12835b01, 0x243185be, 0x550c7dc3, 0x72be5d74, 0x80deb1fe, 0x9bdc06a7, 0xc19bf174,
  0xe49b69c1, 0xefbe4786, 0x0fc19dc6, 0x240ca1cc, 0x2de92c6f, 0x4a7484aa, 0x5cb0a9dc, 0x76f988da,
  0x983e5152, 0xa831c66d, 0xb00327c8, 0xbf597fc7, 0xc6e00bf3, 0xd5a79147, 0x06ca6351, 0x14292967,
  0x27b70a85, 0x2e1b2138, 0x4d2c6dfc, 0x53380d13, 0x650a7354, 0x766a0abb, 0x81c2c92e, 0x92722c85,
  0xa2bfe8a1, 0xa81a664b, 0xc24b8b70, 0xc76c51a3, 0xd192e819, 0xd6990624, 0xf40e3585, 0x106aa070,
  0x19a4c116, 0x1e376c08, 0x2748774c, 0x34b0bcb5, 0x391c0cb3, 0x4ed8aa4a, 0x5b9cca4f, 0x682e6ff3,
  0x748f82ee, 0x78a5636f, 0x84c87814, 0x8cc70208, 0x90befffa, 0xa4506ceb, 0xbef9a3f7, 0xc67178f2]
def fst8 : List Int := [0x6a09e667, 0xbb67ae85, 0x3c6ef372, 0xa54ff53a, 0x510e527f, 0x9b05688c, 0x1f83d9ab, 0x5be0cd19]
/-- numbers as values -/
def ints (k : IntKind) (xs : List Int) : Array Value := (xs.map (Value.int k)).toArray

theorem ints_size (k : IntKind) (xs : List Int) : (ints k xs).size = xs.length := by simp [ints]
theorem ints_toList (k : IntKind) (xs : List Int) : (ints k xs).toList = xs.map (Value.int k) := by simp [ints]
theorem ints_one (k : IntKind) (xs : List Int) : (ints k xs).all (·.oneCell') = true := by
  rw [Array.all_eq_true_iff_forall_mem]
  intro v hv
  simp only [ints, List.mem_toArray, List.mem_map] at hv
  obtain ⟨x, _, rfl⟩ := hv
  rfl

set_option maxHeartbeats 2000000 in
theorem firstState_any (w : World) :
    Calls Tryd.prog 83 #[] w fun e w' => e = .returned (.agg (ints .u32 fst8)) ∧ Below w.heap.size w w' := by
  go_enter Tryd.func83, Tryd.ntmps83
  go_wp2
  refine bodyPost_ret (v := .agg (ints .u32 fst8)) ?_ rfl ⟨rfl, (Below.refl _ _).alloc (Nat.le_refl _) _⟩
  exact results_cell_row rfl _ _ w.heap.size 108 (ints .u32 fst8) (0, 0) _ rfl (heap_alloc_last w _) Tryd.underlying108 rfl (by kernel_rfl)
end Go.Proofs.YtmbfccclghnaeaaDoor.mc

/- Numbers that lie in a row of a block: how they are read, written, copied, and how they last. No claim of its own. -/
namespace Go.Proofs.YtmbfccclghnaeaaDoor.mc
open Go.RowKit
set_option maxRecDepth 20000

/-- the numbers xs lie in block b from place o on, and may be written -/
def Ar (w : World) (b o : Nat) (k : IntKind) (xs : List Int) : Prop := w.rangeAt b o (xs.map (Value.int k)) ∧ w.there b o xs.length

theorem Ar.cell {w : World} {b o : Nat} {k : IntKind} {xs : List Int} (h : Ar w b o k xs) (i : Nat) (hi : i < xs.length) : w.cell? ⟨b, o + i, none⟩ = some (.int k (gb xs i)) :=
  h.1 i _ (by simp [gb, List.getD, hi])
theorem Ar.cell0 {w : World} {b : Nat} {k : IntKind} {xs : List Int} (h : Ar w b 0 k xs) (i : Nat) (hi : i < xs.length) : w.cell? ⟨b, i, none⟩ = some (.int k (gb xs i)) := by
  have := h.cell i hi
  rwa [Nat.zero_add] at this
theorem Ar.free {w : World} {b o : Nat} {k : IntKind} {xs : List Int} (h : Ar w b o k xs) (i : Nat) (hi : i < xs.length) : w.frozen? ⟨b, o + i, none⟩ = false := (h.2 i hi).2
theorem Ar.free0 {w : World} {b : Nat} {k : IntKind} {xs : List Int} (h : Ar w b 0 k xs) (i : Nat) (hi : i < xs.length) : w.frozen? ⟨b, i, none⟩ = false := by
  have := h.free i hi
  rwa [Nat.zero_add] at this
theorem Ar.mk {w : World} {b o : Nat} {k : IntKind} {xs : List Int} (h : ∀ i, i < xs.length → w.cell? ⟨b, o + i, none⟩ = some (.int k (gb xs i)) ∧ w.frozen? ⟨b, o + i, none⟩ = false) : Ar w b o k xs := by
  refine ⟨fun j v hv => ?_, fun j hj => ?_⟩
  · have hj : j < xs.length := by have := (List.getElem?_eq_some_iff.1 hv).1; simpa using this
    rw [(h j hj).1, ← hv]
    simp [gb, List.getD, hj]
  · exact ⟨by rw [(h j hj).1]; rfl, (h j hj).2⟩
theorem Ar.lt {w : World} {b o : Nat} {k : IntKind} {xs : List Int} (h : Ar w b o k xs) (hp : 0 < xs.length) : b < w.heap.size := World.block_lt_of_cell? w _ (h.cell 0 hp)
theorem Ar.heap {w w' : World} {b o : Nat} {k : IntKind} {xs : List Int} (h : Ar w b o k xs) (e : w'.heap[b]? = w.heap[b]?) : Ar w' b o k xs :=
  Ar.mk fun i hi => ⟨by rw [World.cell?_of_block (w := w) (w' := w') (a := ⟨b, o + i, none⟩) e]; exact h.cell i hi, by rw [World.frozen?_of_block (w := w) (w' := w') (a := ⟨b, o + i, none⟩) e]; exact h.free i hi⟩
theorem Ar.below {w w' : World} {b o B : Nat} {k : IntKind} {xs : List Int} (h : Ar w b o k xs) (hb : Below B w w') (hB : b < B) : Ar w' b o k xs := h.heap (hb.block b hB)
theorem Ar.alloc {w : World} {b o : Nat} {k : IntKind} {xs : List Int} (h : Ar w b o k xs) (ob : Obj) : Ar (w.alloc ob) b o k xs := ⟨World.rangeAt_alloc h.1 ob, World.there_alloc h.2 ob⟩
theorem Ar.drewN {w : World} {b o : Nat} {k : IntKind} {xs : List Int} (h : Ar w b o k xs) (n : Nat) : Ar (w.drewN n) b o k xs := h.heap rfl
theorem Ar.other {w : World} {b o : Nat} {k : IntKind} {xs : List Int} (h : Ar w b o k xs) {p : Addr} (hp : b ≠ p.block) (u : Value) : Ar (w.setCell p u) b o k xs := h.heap (Below.heap_setCell w p u b hp)
theorem Ar.new (w : World) (t : TypeId) (k : IntKind) (xs : List Int) : Ar (w.alloc (.cells (ints k xs) t)) w.heap.size 0 k xs :=
  Ar.mk fun i hi => by
    have e := cell_of_row (w.alloc (.cells (ints k xs) t)) w.heap.size (0 + i) _ t (0, 0) (heap_alloc_last w _)
    refine ⟨by rw [e]; simp [ints, gb, List.getD, hi], ?_⟩
    exact World.frozen?_alloc_at _ _ _ _ rfl
theorem Ar.set {w : World} {b o : Nat} {k : IntKind} {xs : List Int} (h : Ar w b o k xs) (i : Nat) (hi : i < xs.length) (x : Int) : Ar (w.setCell ⟨b, o + i, none⟩ (.int k x)) b o k (xs.set i x) :=
  Ar.mk fun j hj => by
    rw [List.length_set] at hj
    refine ⟨?_, by rw [World.frozen?_setCell]; exact h.free j hj⟩
    by_cases e : i = j
    · subst e
      rw [World.cell?_setCell_same _ _ _ (h.cell i hi)]
      simp [gb, List.getD, hi]
    · rw [World.cell?_setCell_other _ _ _ _ (by intro hh; injection hh with _ h2; omega), h.cell j hj]
      simp [gb, List.getD, e]
theorem Ar.set0 {w : World} {b : Nat} {k : IntKind} {xs : List Int} (h : Ar w b 0 k xs) (i : Nat) (hi : i < xs.length) (x : Int) : Ar (w.setCell ⟨b, i, none⟩ (.int k x)) b 0 k (xs.set i x) := by
  have := h.set i hi x
  rwa [Nat.zero_add] at this
/-- what lies apart in the same block -/
theorem Ar.apart {w : World} {b o : Nat} {k : IntKind} {xs : List Int} (h : Ar w b o k xs) (b' o' : Nat) (vs : List Value) (hap : b ≠ b' ∨ o + xs.length ≤ o' ∨ o' + vs.length ≤ o) : Ar (w.setCells b' o' vs) b o k xs :=
  ⟨World.rangeAt_setCells_apart h.1 b' o' vs (by simpa using hap), World.there_setCells h.2 b' o' vs⟩
/-- a part is written -/
def laid (xs : List Int) (s : Nat) (ys : List Int) : List Int := xs.take s ++ ys ++ xs.drop (s + ys.length)
theorem laid_len (xs : List Int) (s : Nat) (ys : List Int) (h : s + ys.length ≤ xs.length) : (laid xs s ys).length = xs.length := by simp [laid]; omega
theorem gb_laid (xs : List Int) (s : Nat) (ys : List Int) (hs : s + ys.length ≤ xs.length) (j : Nat) : gb (laid xs s ys) j = if j < s then gb xs j else if j < s + ys.length then gb ys (j - s) else gb xs j := by
  have hm : (xs.take s).length = s := by simp; omega
  unfold gb laid
  by_cases h1 : j < s
  · rw [if_pos h1, List.append_assoc, List.getD_eq_getElem?_getD, List.getElem?_append_left (by omega), List.getElem?_take, if_pos h1]; rfl
  · rw [if_neg h1, List.append_assoc, List.getD_eq_getElem?_getD, List.getElem?_append_right (by omega), hm]
    by_cases h2 : j < s + ys.length
    · rw [if_pos h2, List.getElem?_append_left (by omega)]; rfl
    · rw [if_neg h2, List.getElem?_append_right (by omega), List.getElem?_drop, show s + ys.length + (j - s - ys.length) = j by omega]; rfl
theorem Ar.lay {w : World} {b o : Nat} {k : IntKind} {xs : List Int} (h : Ar w b o k xs) (s : Nat) (ys : List Int) (hs : s + ys.length ≤ xs.length) : Ar (w.setCells b (o + s) (ys.map (Value.int k))) b o k (laid xs s ys) :=
  Ar.mk fun j hj => by
    rw [laid_len xs s ys hs] at hj
    refine ⟨?_, by rw [World.frozen?_setCells]; exact h.free j hj⟩
    by_cases h1 : j < s
    · rw [World.cell?_setCells_out _ _ _ _ _ (fun _ _ => by left; show o + j < o + s; omega), h.cell j hj, gb_laid xs s ys hs, if_pos h1]
    · by_cases h2 : j < s + ys.length
      · have e := World.cell?_setCells_in b (ys.map (Value.int k)) (o + s) w (fun i hi => by
          simp only [List.length_map] at hi
          rw [show o + s + i = o + (s + i) by omega, h.cell (s + i) (by omega)]; rfl) (j - s) (by simp; omega)
        rw [show o + s + (j - s) = o + j by omega] at e
        rw [e, gb_laid xs s ys hs, if_neg h1, if_pos h2]
        simp [gb, List.getD, show j - s < ys.length by omega]
      · rw [World.cell?_setCells_out _ _ _ _ _ (fun _ _ => by right; simp; omega), h.cell j hj, gb_laid xs s ys hs, if_neg h1, if_neg h2]
/-- all of it is written -/
theorem Ar.whole {w : World} {b o : Nat} {k : IntKind} {xs : List Int} (ht : w.there b o xs.length) : Ar (w.setCells b o (xs.map (Value.int k))) b o k xs :=
  ⟨World.rangeAt_setCells_same w b o _ (by simpa using ht), World.there_setCells ht b o _⟩
theorem results_ar {fn : Func} {p : Tmp} {ty : TypeId} (h : fn.results = #[.cell p ty]) (tmps : Array Value) (w : World) (b o : Nat) (k : IntKind) (xs : List Int) (hp : tmps.getD p undef = .pointer (some ⟨b, o, none⟩)) (ha : Ar w b o k xs)
    (n : Nat) (e : TypeId) (hu : Tryd.prog.underlying ty = some (.array n e)) (hi : (Tryd.prog.info? ty).map (·.size) = some n) (hn : xs.length = n) : (results fn tmps).run Tryd.prog w = .ok (.agg (ints k xs)) w := by
  have hp' : tmps[p]?.getD undef = .pointer (some ⟨b, o, none⟩) := by simpa using hp
  have hl := run_loadVar_mid (P := Tryd.prog) w b o ty _ _ ha.1 hu rfl (by rw [hi]; simp [hn])
  simp [results, h, hp', asAddr, hl, ints]
/-- noughts -/
def z64 : List Int := List.replicate 64 0
def z8 : List Int := List.replicate 8 0

section
variable {ops : Array Oper} {rest : List Oper} {o : Oper} {a : Act} {Q : Exit → Act → World → Prop}
/-- a parameter that is an array gets a place -/
theorem box_law (w : World) (hg : o.guard = none) (x : Operand) (t : TypeId) (hop : o.op = Op.box t x) (k : IntKind) (xs : List Int) (hx : a.eval x = .agg (ints k xs))
    (hK : wpList Tryd.prog ops Q rest (a.put o.dst (.pointer (some ⟨w.heap.size, 0, none⟩))) (w.alloc (.cells (ints k xs) t))) :
    wpList Tryd.prog ops Q (o :: rest) a w := by
  refine wpList_plain hg fun K hK' => ?_
  unfold Oper.wp
  simp [execOp, hop, hx, Instr.box, newVar, newRow, Value.cells, Result.andThen]
  exact hK' _ _ hK
/-- a variable that is an array gets a place: noughts -/
theorem new_law (w : World) (hg : o.guard = none) (t : TypeId) (hop : o.op = Op.alloc t) (k : IntKind) (xs : List Int) (hz : (Tryd.prog.info? t).map (fun i => (i.zero, i.size)) = some (some (.agg (ints k xs)), xs.length))
    (hK : wpList Tryd.prog ops Q rest (a.put o.dst (.pointer (some ⟨w.heap.size, 0, none⟩))) (w.alloc (.cells (ints k xs) t))) :
    wpList Tryd.prog ops Q (o :: rest) a w := by
  refine wpList_plain hg fun K hK' => ?_
  have hz' := (zero_of_info hz).1
  unfold Oper.wp
  simp [execOp, hop, Instr.alloc, hz', newVar, newRow, Value.cells, Result.andThen]
  exact hK' _ _ hK
/-- a whole array is read -/
theorem load_law (w : World) (hg : o.guard = none) (x : Operand) (t : TypeId) (hop : o.op = Op.load t x) (k : IntKind) (xs : List Int) (b p : Nat) (hx : a.eval x = .pointer (some ⟨b, p, none⟩)) (h : Ar w b p k xs)
    (n : Nat) (e : TypeId) (hu : Tryd.prog.underlying t = some (.array n e)) (hi : (Tryd.prog.info? t).map (·.size) = some n) (hn : xs.length = n)
    (hK : wpList Tryd.prog ops Q rest (a.put o.dst (.agg (ints k xs))) w) :
    wpList Tryd.prog ops Q (o :: rest) a w :=
  wpList_load_mid hg t x hop b p hx _ _ h.1 hu rfl (by rw [hi]; simp [hn]) hK
/-- a whole array is written -/
theorem store_law (w : World) (hg : o.guard = none) (x y : Operand) (t : TypeId) (hop : o.op = Op.store t x y) (k : IntKind) (ys : List Int) (b p : Nat) (hx : a.eval x = .pointer (some ⟨b, p, none⟩)) (hy : a.eval y = .agg (ints k ys))
    (ht : w.there b p ys.length) (n : Nat) (hi : (Tryd.prog.info? t).map (·.size) = some n) (hn : ys.length = n)
    (hK : wpList Tryd.prog ops Q rest (a.put o.dst undef) (w.setCells b p (ys.map (Value.int k)))) :
    wpList Tryd.prog ops Q (o :: rest) a w :=
  wpList_store_mid hg t x y hop b p (ints k ys) hx hy (by rw [ints_size]; exact ht) (by rw [hi, ints_size, hn]) (ints_one k ys) (by rw [ints_toList]; exact hK)
/-- 'copy(d, s)' of bytes: as many as fit -/
theorem copy_law (w : World) (hg : o.guard = none) (x y : Operand) (hop : o.op = .call { callee := .builtin .copy, args := #[x, y], argTypes := #[23, 23] })
    (b p dl dc : Nat) (v : Value) (ys : List Int) (hx : a.eval x = .slice (some ⟨b, p, none⟩) dl dc) (hy : a.eval y = v) (hb : Byt w v ys) (ht : w.there b p (min ys.length dl))
    (hK : wpList Tryd.prog ops Q rest (a.put o.dst (.int .i64 ((min ys.length dl : Nat) : Int))) (w.setCells b p ((ys.take dl).map (Value.int .u8)))) :
    wpList Tryd.prog ops Q (o :: rest) a w := by
  refine wpList_plain hg fun K hK' => ?_
  obtain ⟨i0, hi, hz0, hz1, hz2⟩ := info_parts info_u8
  obtain ⟨ao, cap, rfl, h1, h2, h3, h4, h5⟩ := hb
  have hs : (Tryd.prog.info? 5).map (·.size) = some 1 := by rw [hi]; simp [hz1]
  have hrun : (Builtin.copy_ #[23, 23] o.type #[.slice (some ⟨b, p, none⟩) dl dc, .slice ao ys.length cap]).run Tryd.prog w = .ok (.int .i64 ((min ys.length dl : Nat) : Int)) (w.setCells b p ((ys.take dl).map (Value.int .u8))) := by
    by_cases hz : min ys.length dl = 0
    · have := run_copy_none (P := Tryd.prog) w 23 23 o.type 5 (some ⟨b, p, none⟩) ao dl dc ys.length cap Tryd.underlying23 hs hz
      rw [this, hz]
      have : ys.take dl = [] := by
        rcases Nat.eq_zero_or_pos dl with h | h
        · subst h; simp
        · have : ys = [] := List.eq_nil_of_length_eq_zero (by omega)
          subst this; simp
      rw [this]; rfl
    · obtain ⟨b', off, rfl, hc⟩ := h5 (by omega)
      have hlen : ((ys.take dl).map (Value.int .u8)).length = min ys.length dl := by simp; omega
      have := run_copy_cells (P := Tryd.prog) w 23 23 o.type 5 b p dl dc ⟨b', off, none⟩ ys.length cap ((ys.take dl).map (Value.int .u8)) Tryd.underlying23 hs hlen (fun j u hj => by
        have hj' : j < min ys.length dl := by rw [← hlen]; exact (List.getElem?_eq_some_iff.1 hj).1
        rw [Addr.add_mid, hc j (by omega), ← hj]
        simp [gb, List.getD, show j < dl by omega, show j < ys.length by omega]) (fun j hj => (ht j (by rw [← hlen]; exact hj)).1) (fun j hj => (ht j (by rw [← hlen]; exact hj)).2) (fun u hu => by
        simp only [List.mem_map] at hu
        obtain ⟨x, _, rfl⟩ := hu
        rfl)
      rw [this, hlen]; rfl
  unfold Oper.wp execOp
  simp only [hop, resolve, invoke, builtin, Sem.run_bind, Sem.run_pure, Result.andThen_ok, List.map_toArray, List.map_cons, List.map_nil, hx, hy, hrun]
  exact hK' _ _ hK
/-- an array's literal -/
theorem build_law (w : World) (hg : o.guard = none) (t : TypeId) (parts : Array (Nat × Operand)) (hop : o.op = Op.build t parts) (v : Value) (hrun : (Instr.build t (parts.map fun (i, x) => (i, a.eval x))).run Tryd.prog w = .ok v w)
    (hK : wpList Tryd.prog ops Q rest (a.put o.dst v) w) : wpList Tryd.prog ops Q (o :: rest) a w := by
  refine wpList_plain hg fun K hK' => ?_
  unfold Oper.wp execOp
  simp only [hop, Sem.run_bind, Sem.run_pure, Result.andThen_ok, hrun]
  exact hK' _ _ hK
end

theorem z_arr64w : (Tryd.prog.info? 117).map (fun i => (i.zero, i.size)) = some (some (.agg (ints .u32 z64)), z64.length) := by kernel_rfl
theorem z_arr64b : (Tryd.prog.info? 96).map (fun i => (i.zero, i.size)) = some (some (.agg (ints .u8 z64)), z64.length) := by kernel_rfl
theorem z_arr8 : (Tryd.prog.info? 108).map (fun i => (i.zero, i.size)) = some (some (.agg (ints .u32 z8)), z8.length) := by kernel_rfl
theorem i_arr64w : (Tryd.prog.info? 117).map (·.size) = some 64 := by kernel_rfl
theorem i_arr64b : (Tryd.prog.info? 96).map (·.size) = some 64 := by kernel_rfl
theorem i_arr8 : (Tryd.prog.info? 108).map (·.size) = some 8 := by kernel_rfl

set_option maxRecDepth 100000 in
set_option maxHeartbeats 2000000 in
theorem constants_any (w : World) :
    Calls Tryd.prog 84 #[] w fun e w' => e = .returned (.agg (ints .u32 kc)) ∧ Below w.heap.size w w' := by
  have HT : Hid ((w.alloc (.cells (ints .u32 z64) 117)).there w.heap.size 0 kc.length) := (Ar.new w 117 .u32 z64).2
  go_enter Tryd.func84, Tryd.ntmps84
  go_wp2_with (first
    | (refine new_law _ rfl 117 rfl .u32 z64 z_arr64w ?_)
    | (refine build_law _ rfl 117 _ rfl (.agg (ints .u32 kc)) (by kernel_rfl) ?_)
    | (refine store_law _ rfl (.tmp 0) (.tmp 1) 117 rfl .u32 kc _ _ rfl rfl HT.out 64 i_arr64w rfl ?_))
  refine bodyPost_ret (v := .agg (ints .u32 kc)) (results_ar rfl _ _ w.heap.size 0 .u32 kc rfl (Ar.whole HT.out) 64 107 Tryd.underlying117 i_arr64w rfl) rfl ⟨rfl, ?_⟩
  exact Lib.below_setCells _ (Nat.le_refl _) _ _ ((Below.refl _ _).alloc (Nat.le_refl _) _)
end Go.Proofs.YtmbfccclghnaeaaDoor.mc

