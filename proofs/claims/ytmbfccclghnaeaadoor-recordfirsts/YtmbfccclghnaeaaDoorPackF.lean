/- Texts put together (a claim holds few files). No claim of its own. -/
import Derived.Test.YtmbfccclghnaeaaDoorPackE
import Derived.Test.YtmbfccclghnaeaaDoorPackC
/- What slot's slotIn answers. No claim of its own. -/
namespace Go.Proofs.YtmbfccclghnaeaaDoor.so
open Go.RowKit Go.Proofs.YtmbfccclghnaeaaDoor.fa Go.Proofs.YtmbfccclghnaeaaDoor.he
set_option maxRecDepth 20000

/-- a number of 64 bits as an int -/
theorem exec_conv {ev : Operand → Value} {o : Oper} (x : Operand) (hop : o.op = Op.convert 22 3 x) (n : Int) (hx : ev x = .int .u64 n) (hn : IntKind.i64.wrap n = n) (w : World) : (execOp ev o).run Tryd.prog w = .ok (.value (.int .i64 n)) w := by
  have h : (convert 22 3 (.int .u64 n)).run Tryd.prog w = .ok (.int .i64 (IntKind.i64.wrap n)) w := by
    simp [convert, Conv.intToInt, run_underlying Tryd.underlying22, run_underlying Tryd.underlying3]
  unfold execOp
  simp only [hop, hx, Sem.run_bind, Sem.run_pure, Result.andThen_ok, h, hn]
theorem wrap_small {n : Int} (h : 0 ≤ n ∧ n ≤ 4294967295) : IntKind.i64.wrap n = n := by rw [IntKind.wrap_i64]; omega

set_option maxHeartbeats 8000000 in
theorem in_free (v : Value) (xs : List Int) (w : World) (hb : Byt w v xs) (hl : xs.length = 128) (hT : Tbl w) (h0 : gb xs 0 = 0) :
    Calls Tryd.prog 56 #[v] w fun x w' => x = .returned (.agg (sv false 0 0 0 (.slice none 0 0)).toArray) ∧ Below w.heap.size w w' := by
  have HB : Hid (Byt w v xs) := hb
  have HL : Hid (xs.length = 128) := hl
  have HT : Hid (Tbl w) := hT
  have TL : Hid (0 < w.heap.size) := hT.lt
  have hA := hb.all
  have N0 : Hid (num (last8 (sub xs 0 1)) = gb xs 0) := num_one xs 0 (by omega) hA
  obtain ⟨n1, hn1⟩ : ∃ z, num (last8 (sub xs 1 4)) = z := ⟨_, rfl⟩
  have N1 : Hid (num (last8 (sub xs 1 4)) = n1) := hn1
  have N2 : Hid (num (last8 (sub xs 4 8)) = gn xs) := rfl
  have N3 : Hid (num (last8 (sub xs 8 16)) = ge' xs) := rfl
  have N4 : Hid (num (last8 (sub xs 16 24)) = gt' xs) := rfl
  have b0 : (gb xs 0 == 0) = true := beq_iff_eq.2 h0
  generalize gb xs 0 = n0 at N0 b0
  generalize gn xs = n2 at N2
  generalize ge' xs = n3 at N3
  generalize gt' xs = n4 at N4
  obtain ⟨bo, bc, rfl⟩ := byt_form hb hl
  clear hb hl hT hA hn1 h0
  have t0 : (0 : Nat) = 0 := rfl
  go_enter Tryd.func56, Tryd.ntmps56
  go_wp2_with (first
    | (have q2 := t2; refine load_lawC _ rfl (([1, 3, 4, 8, 8] : List Int).map (Value.int .i64)) 0 0 rfl ((HT.out.below BB.out TL.out).range) rowy_sizes ?_; clear t2; have t3 : (1 : Nat) = 1 := rfl)
    | (have q1 := t1; (with_reducible refine at_alloc ?_); refine new_lawN _ (nv [0, 0, 0, 0, 0]) zero_nums (nv_nob _) ?_; intro w2 X9 N9 B9; have LT_HR_HG : Hid (w.heap.size < w1.heap.size) := range_lt HR.out.1 (Nat.succ_pos _); have LE_HG : Hid (w.heap.size ≤ w1.heap.size) := BB.out.size; have NB_HR : Hid (NoB w2 w.heap.size) := NB_HR.out.heap (B9.block _ (range_lt HR.out.1 (Nat.succ_pos _))); have HR : Hid (Vr w2 w.heap.size (sv false 0 0 0 (.slice none 0 0))) := HR.out.below B9 (range_lt HR.out.1 (Nat.succ_pos _)); have HG : Hid (Vr w2 w1.heap.size (nv [0, 0, 0, 0, 0])) := X9; have NB_HG : Hid (NoB w2 w1.heap.size) := N9; have BB : Hid (Below w.heap.size w w2) := BB.out.trans (B9.mono BB.out.size); clear X9 N9 B9; clear t1; have t2 : (1 : Nat) = 1 := rfl)
    | (have q0 := t0; (with_reducible refine at_alloc ?_); refine new_lawN _ (sv false 0 0 0 (.slice none 0 0)) zero_slot (sv_nob _ _ _ _ _ _ _) ?_; intro w1 X9 N9 B9; have LE_HR : Hid (w.heap.size ≤ w.heap.size) := Nat.le_refl _; have HR : Hid (Vr w1 w.heap.size (sv false 0 0 0 (.slice none 0 0))) := X9; have NB_HR : Hid (NoB w1 w.heap.size) := N9; have BB : Hid (Below w.heap.size w w1) := B9; clear X9 N9 B9; clear t0; have t1 : (1 : Nat) = 1 := rfl))
  have hne : w.heap.size ≠ w1.heap.size := Nat.ne_of_lt LT_HR_HG.out
  go_loopw [8, 4] (fun i z wr => ((i = .int .i64 0 ∧ z = .int .i64 0 ∧ Vr wr w1.heap.size (nv [0, 0, 0, 0, 0])) ∨ (i = .int .i64 1 ∧ z = .int .i64 1 ∧ Vr wr w1.heap.size (nv [n0, 0, 0, 0, 0])) ∨ (i = .int .i64 2 ∧ z = .int .i64 4 ∧ Vr wr w1.heap.size (nv [n0, n1, 0, 0, 0])) ∨ (i = .int .i64 3 ∧ z = .int .i64 8 ∧ Vr wr w1.heap.size (nv [n0, n1, n2, 0, 0])) ∨ (i = .int .i64 4 ∧ z = .int .i64 16 ∧ Vr wr w1.heap.size (nv [n0, n1, n2, n3, 0])) ∨ (i = .int .i64 5 ∧ z = .int .i64 24 ∧ Vr wr w1.heap.size (nv [n0, n1, n2, n3, n4]))) ∧ Vr wr w.heap.size (sv false 0 0 0 (.slice none 0 0)) ∧ NoB wr w.heap.size ∧ Below w.heap.size w wr) (fun i _ _ => 5 - (intOf i).toNat)
  case atStart => exact ⟨.inl ⟨rfl, rfl, HG.out⟩, HR.out, NB_HR.out, BB.out⟩
  case round =>
    clear HG HR NB_HR NB_HG BB
    obtain ⟨hrel, hr, hn, b4⟩ := hrel
    have HR : Hid (Vr wr w.heap.size (sv false 0 0 0 (.slice none 0 0))) := hr
    have NB : Hid (NoB wr w.heap.size) := hn
    have C4 : Hid (Below w.heap.size w wr) := b4
    have Y4 : Hid (Byt wr (.slice bo 128 bc) xs) := HB.out.below b4
    clear hr hn b4
    obtain ⟨rfl, rfl, g4⟩ | ⟨rfl, rfl, g4⟩ | ⟨rfl, rfl, g4⟩ | ⟨rfl, rfl, g4⟩ | ⟨rfl, rfl, g4⟩ | ⟨rfl, rfl, g4⟩ := hrel
    · have c1 := g4.cell 0 _ rfl
      have c2 := g4.free 0 (show (0 : Nat) < 5 by decide)
      have G5 : Hid (Vr (wr.setCell ⟨w1.heap.size, 0, none⟩ (.int .u64 n0)) w1.heap.size (nv [n0, 0, 0, 0, 0])) := g4.set 0 (show (0 : Nat) < 5 by decide) (.int .u64 n0)
      clear g4
      have u0 : (0 : Nat) = 0 := rfl
      go_wp2_with (first
        | (have q := u2; go_at_call 37; refine (num_any _ _ _ Y5.out).mono ?_; rintro e9 w9 ⟨rfl, hw⟩; obtain rfl := hw.symm; rw [N0.out]; clear u2)
        | (have q := u1; refine cut_part _ rfl (.tmp 13) (.tmp 14) (.tmp 17) rfl _ xs _ _ 0 1 rfl rfl rfl rfl rfl (by omega) (by have := HL.out; omega) Y4.out ?_; intro v5 y5; have Y5 : Hid (Byt wr v5 (sub xs 0 1)) := y5; clear y5 u1; have u2 : (0 : Nat) = 0 := rfl)
        | (have q := u0; refine idx_law _ rfl (.tmp 7) (.tmp 8) 86 rfl _ _ (.int .i64 1) rfl rfl (by kernel_rfl) ?_; clear u0; have u1 : (0 : Nat) = 0 := rfl))
      go_roundw
      case rel => exact ⟨.inr (.inl ⟨rfl, rfl, G5.out⟩), HR.out.other _ hne, NB.out.heap (heap_one _ _ _ _ _ hne), C4.out.setCell (p := ⟨w1.heap.size, 0, none⟩) (show _ ≤ w1.heap.size from LE_HG.out) _⟩
      case measure => simp [intOf]
    · have c1 := g4.cell 1 _ rfl
      have c2 := g4.free 1 (show (1 : Nat) < 5 by decide)
      have G5 : Hid (Vr (wr.setCell ⟨w1.heap.size, 1, none⟩ (.int .u64 n1)) w1.heap.size (nv [n0, n1, 0, 0, 0])) := g4.set 1 (show (1 : Nat) < 5 by decide) (.int .u64 n1)
      clear g4
      have u0 : (0 : Nat) = 0 := rfl
      go_wp2_with (first
        | (have q := u2; go_at_call 37; refine (num_any _ _ _ Y5.out).mono ?_; rintro e9 w9 ⟨rfl, hw⟩; obtain rfl := hw.symm; rw [N1.out]; clear u2)
        | (have q := u1; refine cut_part _ rfl (.tmp 13) (.tmp 14) (.tmp 17) rfl _ xs _ _ 1 4 rfl rfl rfl rfl rfl (by omega) (by have := HL.out; omega) Y4.out ?_; intro v5 y5; have Y5 : Hid (Byt wr v5 (sub xs 1 4)) := y5; clear y5 u1; have u2 : (0 : Nat) = 0 := rfl)
        | (have q := u0; refine idx_law _ rfl (.tmp 7) (.tmp 8) 86 rfl _ _ (.int .i64 3) rfl rfl (by kernel_rfl) ?_; clear u0; have u1 : (0 : Nat) = 0 := rfl))
      go_roundw
      case rel => exact ⟨.inr (.inr (.inl ⟨rfl, rfl, G5.out⟩)), HR.out.other _ hne, NB.out.heap (heap_one _ _ _ _ _ hne), C4.out.setCell (p := ⟨w1.heap.size, 1, none⟩) (show _ ≤ w1.heap.size from LE_HG.out) _⟩
      case measure => simp [intOf]
    · have c1 := g4.cell 2 _ rfl
      have c2 := g4.free 2 (show (2 : Nat) < 5 by decide)
      have G5 : Hid (Vr (wr.setCell ⟨w1.heap.size, 2, none⟩ (.int .u64 n2)) w1.heap.size (nv [n0, n1, n2, 0, 0])) := g4.set 2 (show (2 : Nat) < 5 by decide) (.int .u64 n2)
      clear g4
      have u0 : (0 : Nat) = 0 := rfl
      go_wp2_with (first
        | (have q := u2; go_at_call 37; refine (num_any _ _ _ Y5.out).mono ?_; rintro e9 w9 ⟨rfl, hw⟩; obtain rfl := hw.symm; rw [N2.out]; clear u2)
        | (have q := u1; refine cut_part _ rfl (.tmp 13) (.tmp 14) (.tmp 17) rfl _ xs _ _ 4 8 rfl rfl rfl rfl rfl (by omega) (by have := HL.out; omega) Y4.out ?_; intro v5 y5; have Y5 : Hid (Byt wr v5 (sub xs 4 8)) := y5; clear y5 u1; have u2 : (0 : Nat) = 0 := rfl)
        | (have q := u0; refine idx_law _ rfl (.tmp 7) (.tmp 8) 86 rfl _ _ (.int .i64 4) rfl rfl (by kernel_rfl) ?_; clear u0; have u1 : (0 : Nat) = 0 := rfl))
      go_roundw
      case rel => exact ⟨.inr (.inr (.inr (.inl ⟨rfl, rfl, G5.out⟩))), HR.out.other _ hne, NB.out.heap (heap_one _ _ _ _ _ hne), C4.out.setCell (p := ⟨w1.heap.size, 2, none⟩) (show _ ≤ w1.heap.size from LE_HG.out) _⟩
      case measure => simp [intOf]
    · have c1 := g4.cell 3 _ rfl
      have c2 := g4.free 3 (show (3 : Nat) < 5 by decide)
      have G5 : Hid (Vr (wr.setCell ⟨w1.heap.size, 3, none⟩ (.int .u64 n3)) w1.heap.size (nv [n0, n1, n2, n3, 0])) := g4.set 3 (show (3 : Nat) < 5 by decide) (.int .u64 n3)
      clear g4
      have u0 : (0 : Nat) = 0 := rfl
      go_wp2_with (first
        | (have q := u2; go_at_call 37; refine (num_any _ _ _ Y5.out).mono ?_; rintro e9 w9 ⟨rfl, hw⟩; obtain rfl := hw.symm; rw [N3.out]; clear u2)
        | (have q := u1; refine cut_part _ rfl (.tmp 13) (.tmp 14) (.tmp 17) rfl _ xs _ _ 8 16 rfl rfl rfl rfl rfl (by omega) (by have := HL.out; omega) Y4.out ?_; intro v5 y5; have Y5 : Hid (Byt wr v5 (sub xs 8 16)) := y5; clear y5 u1; have u2 : (0 : Nat) = 0 := rfl)
        | (have q := u0; refine idx_law _ rfl (.tmp 7) (.tmp 8) 86 rfl _ _ (.int .i64 8) rfl rfl (by kernel_rfl) ?_; clear u0; have u1 : (0 : Nat) = 0 := rfl))
      go_roundw
      case rel => exact ⟨.inr (.inr (.inr (.inr (.inl ⟨rfl, rfl, G5.out⟩)))), HR.out.other _ hne, NB.out.heap (heap_one _ _ _ _ _ hne), C4.out.setCell (p := ⟨w1.heap.size, 3, none⟩) (show _ ≤ w1.heap.size from LE_HG.out) _⟩
      case measure => simp [intOf]
    · have c1 := g4.cell 4 _ rfl
      have c2 := g4.free 4 (show (4 : Nat) < 5 by decide)
      have G5 : Hid (Vr (wr.setCell ⟨w1.heap.size, 4, none⟩ (.int .u64 n4)) w1.heap.size (nv [n0, n1, n2, n3, n4])) := g4.set 4 (show (4 : Nat) < 5 by decide) (.int .u64 n4)
      clear g4
      have u0 : (0 : Nat) = 0 := rfl
      go_wp2_with (first
        | (have q := u2; go_at_call 37; refine (num_any _ _ _ Y5.out).mono ?_; rintro e9 w9 ⟨rfl, hw⟩; obtain rfl := hw.symm; rw [N4.out]; clear u2)
        | (have q := u1; refine cut_part _ rfl (.tmp 13) (.tmp 14) (.tmp 17) rfl _ xs _ _ 16 24 rfl rfl rfl rfl rfl (by omega) (by have := HL.out; omega) Y4.out ?_; intro v5 y5; have Y5 : Hid (Byt wr v5 (sub xs 16 24)) := y5; clear y5 u1; have u2 : (0 : Nat) = 0 := rfl)
        | (have q := u0; refine idx_law _ rfl (.tmp 7) (.tmp 8) 86 rfl _ _ (.int .i64 8) rfl rfl (by kernel_rfl) ?_; clear u0; have u1 : (0 : Nat) = 0 := rfl))
      go_roundw
      case rel => exact ⟨.inr (.inr (.inr (.inr (.inr (⟨rfl, rfl, G5.out⟩))))), HR.out.other _ hne, NB.out.heap (heap_one _ _ _ _ _ hne), C4.out.setCell (p := ⟨w1.heap.size, 4, none⟩) (show _ ≤ w1.heap.size from LE_HG.out) _⟩
      case measure => simp [intOf]
    · have HG : Hid (Vr wr w1.heap.size (nv [n0, n1, n2, n3, n4])) := g4
      have c0 := g4.cell 0 _ rfl
      clear g4
      have NB_HR := NB
      have BB := C4
      have t0 : (0 : Nat) = 0 := rfl
      go_wp2_with (first
        | (have q1 := t1; (with_reducible refine at_store ?_); refine store_lawC _ (sv false 0 0 0 (.slice none 0 0)) w.heap.size 0 rfl rfl HR.out.2 rowy_slot.2 (sv_one _ _ _ _ rfl) ?_; intro w1 E9 R9 T9 B9; have K9 : ∀ k, k ≠ w.heap.size → w1.heap[k]? = wr.heap[k]? := (by rw [E9.out]; exact fun k hk => heap_cells _ _ _ _ k hk); have NB_HR : Hid (NoB w1 w.heap.size) := (by rw [E9.out]; exact NB_HR.out.set HR.out rfl (sv_nob _ _ _ _ _ _ _)); have HR : Hid (Vr w1 w.heap.size (sv false 0 0 0 (.slice none 0 0))) := ⟨R9, T9⟩; have BB : Hid (Below w.heap.size w w1) := BB.out.trans (B9.mono LE_HR.out); clear E9 R9 T9 B9 K9; clear t1; have t2 : (1 : Nat) = 1 := rfl)
        | (have q0 := t0; refine build_law _ rfl 25 _ rfl (.agg (sv false 0 0 0 (.slice none 0 0)).toArray) (by kernel_rfl) ?_; clear t0; have t1 : (1 : Nat) = 1 := rfl))
      exact bodyPost_ret (v := .agg (sv false 0 0 0 (.slice none 0 0)).toArray) (results_c rfl _ _ w.heap.size _ rowy_slot rfl HR.out.1) rfl ⟨rfl, BB.out⟩

set_option maxHeartbeats 8000000 in
theorem in_used (v : Value) (xs : List Int) (w : World) (hb : Byt w v xs) (hl : xs.length = 128) (hT : Tbl w) (h0 : gb xs 0 ≠ 0) :
    Calls Tryd.prog 56 #[v] w fun x w' => ∃ yo yc, x = .returned (.agg (sv true (gn xs) (ge' xs) (gt' xs) (.slice yo 104 yc)).toArray) ∧ Byt w' (.slice yo 104 yc) (gw xs) ∧ Below w.heap.size w w' := by
  have HB : Hid (Byt w v xs) := hb
  have HL : Hid (xs.length = 128) := hl
  have HT : Hid (Tbl w) := hT
  have TL : Hid (0 < w.heap.size) := hT.lt
  have hA := hb.all
  have N0 : Hid (num (last8 (sub xs 0 1)) = gb xs 0) := num_one xs 0 (by omega) hA
  obtain ⟨n1, hn1⟩ : ∃ z, num (last8 (sub xs 1 4)) = z := ⟨_, rfl⟩
  have N1 : Hid (num (last8 (sub xs 1 4)) = n1) := hn1
  have N2 : Hid (num (last8 (sub xs 4 8)) = gn xs) := rfl
  have N3 : Hid (num (last8 (sub xs 8 16)) = ge' xs) := rfl
  have N4 : Hid (num (last8 (sub xs 16 24)) = gt' xs) := rfl
  have bl := (be_num4 (xs := sub xs 4 8) (by rw [sub_len _ _ _ (by omega)]) (allB_sub hA 4 8)).2
  have WN : Hid (IntKind.i64.wrap (gn xs) = gn xs) := wrap_small bl
  have HW5 : Hid (AllB (gw xs)) := allB_sub hA 24 128
  have HL5 : Hid ((gw xs).length = 104) := sub_len xs 24 128 (by omega)
  have ED : Hid (xs.drop 24 = gw xs) := (by show _ = (xs.take 128).drop 24; rw [List.take_of_length_le (by omega)])
  have b0 : (gb xs 0 == 0) = false := beq_eq_false_iff_ne.2 h0
  generalize gb xs 0 = n0 at N0 b0
  generalize gn xs = n2 at N2 WN ⊢
  generalize ge' xs = n3 at N3 ⊢
  generalize gt' xs = n4 at N4 ⊢
  obtain ⟨bo, bc, rfl⟩ := byt_form hb hl
  clear hb hl hT hA hn1 h0 bl
  have t0 : (0 : Nat) = 0 := rfl
  go_enter Tryd.func56, Tryd.ntmps56
  go_wp2_with (first
    | (have q2 := t2; refine load_lawC _ rfl (([1, 3, 4, 8, 8] : List Int).map (Value.int .i64)) 0 0 rfl ((HT.out.below BB.out TL.out).range) rowy_sizes ?_; clear t2; have t3 : (1 : Nat) = 1 := rfl)
    | (have q1 := t1; (with_reducible refine at_alloc ?_); refine new_lawN _ (nv [0, 0, 0, 0, 0]) zero_nums (nv_nob _) ?_; intro w2 X9 N9 B9; have LT_HR_HG : Hid (w.heap.size < w1.heap.size) := range_lt HR.out.1 (Nat.succ_pos _); have LE_HG : Hid (w.heap.size ≤ w1.heap.size) := BB.out.size; have NB_HR : Hid (NoB w2 w.heap.size) := NB_HR.out.heap (B9.block _ (range_lt HR.out.1 (Nat.succ_pos _))); have HR : Hid (Vr w2 w.heap.size (sv false 0 0 0 (.slice none 0 0))) := HR.out.below B9 (range_lt HR.out.1 (Nat.succ_pos _)); have HG : Hid (Vr w2 w1.heap.size (nv [0, 0, 0, 0, 0])) := X9; have NB_HG : Hid (NoB w2 w1.heap.size) := N9; have BB : Hid (Below w.heap.size w w2) := BB.out.trans (B9.mono BB.out.size); clear X9 N9 B9; clear t1; have t2 : (1 : Nat) = 1 := rfl)
    | (have q0 := t0; (with_reducible refine at_alloc ?_); refine new_lawN _ (sv false 0 0 0 (.slice none 0 0)) zero_slot (sv_nob _ _ _ _ _ _ _) ?_; intro w1 X9 N9 B9; have LE_HR : Hid (w.heap.size ≤ w.heap.size) := Nat.le_refl _; have HR : Hid (Vr w1 w.heap.size (sv false 0 0 0 (.slice none 0 0))) := X9; have NB_HR : Hid (NoB w1 w.heap.size) := N9; have BB : Hid (Below w.heap.size w w1) := B9; clear X9 N9 B9; clear t0; have t1 : (1 : Nat) = 1 := rfl))
  have hne : w.heap.size ≠ w1.heap.size := Nat.ne_of_lt LT_HR_HG.out
  go_loopw [8, 4] (fun i z wr => ((i = .int .i64 0 ∧ z = .int .i64 0 ∧ Vr wr w1.heap.size (nv [0, 0, 0, 0, 0])) ∨ (i = .int .i64 1 ∧ z = .int .i64 1 ∧ Vr wr w1.heap.size (nv [n0, 0, 0, 0, 0])) ∨ (i = .int .i64 2 ∧ z = .int .i64 4 ∧ Vr wr w1.heap.size (nv [n0, n1, 0, 0, 0])) ∨ (i = .int .i64 3 ∧ z = .int .i64 8 ∧ Vr wr w1.heap.size (nv [n0, n1, n2, 0, 0])) ∨ (i = .int .i64 4 ∧ z = .int .i64 16 ∧ Vr wr w1.heap.size (nv [n0, n1, n2, n3, 0])) ∨ (i = .int .i64 5 ∧ z = .int .i64 24 ∧ Vr wr w1.heap.size (nv [n0, n1, n2, n3, n4]))) ∧ Vr wr w.heap.size (sv false 0 0 0 (.slice none 0 0)) ∧ NoB wr w.heap.size ∧ Below w.heap.size w wr) (fun i _ _ => 5 - (intOf i).toNat)
  case atStart => exact ⟨.inl ⟨rfl, rfl, HG.out⟩, HR.out, NB_HR.out, BB.out⟩
  case round =>
    clear HG HR NB_HR NB_HG BB
    obtain ⟨hrel, hr, hn, b4⟩ := hrel
    have HR : Hid (Vr wr w.heap.size (sv false 0 0 0 (.slice none 0 0))) := hr
    have NB : Hid (NoB wr w.heap.size) := hn
    have C4 : Hid (Below w.heap.size w wr) := b4
    have Y4 : Hid (Byt wr (.slice bo 128 bc) xs) := HB.out.below b4
    clear hr hn b4
    obtain ⟨rfl, rfl, g4⟩ | ⟨rfl, rfl, g4⟩ | ⟨rfl, rfl, g4⟩ | ⟨rfl, rfl, g4⟩ | ⟨rfl, rfl, g4⟩ | ⟨rfl, rfl, g4⟩ := hrel
    · have c1 := g4.cell 0 _ rfl
      have c2 := g4.free 0 (show (0 : Nat) < 5 by decide)
      have G5 : Hid (Vr (wr.setCell ⟨w1.heap.size, 0, none⟩ (.int .u64 n0)) w1.heap.size (nv [n0, 0, 0, 0, 0])) := g4.set 0 (show (0 : Nat) < 5 by decide) (.int .u64 n0)
      clear g4
      have u0 : (0 : Nat) = 0 := rfl
      go_wp2_with (first
        | (have q := u2; go_at_call 37; refine (num_any _ _ _ Y5.out).mono ?_; rintro e9 w9 ⟨rfl, hw⟩; obtain rfl := hw.symm; rw [N0.out]; clear u2)
        | (have q := u1; refine cut_part _ rfl (.tmp 13) (.tmp 14) (.tmp 17) rfl _ xs _ _ 0 1 rfl rfl rfl rfl rfl (by omega) (by have := HL.out; omega) Y4.out ?_; intro v5 y5; have Y5 : Hid (Byt wr v5 (sub xs 0 1)) := y5; clear y5 u1; have u2 : (0 : Nat) = 0 := rfl)
        | (have q := u0; refine idx_law _ rfl (.tmp 7) (.tmp 8) 86 rfl _ _ (.int .i64 1) rfl rfl (by kernel_rfl) ?_; clear u0; have u1 : (0 : Nat) = 0 := rfl))
      go_roundw
      case rel => exact ⟨.inr (.inl ⟨rfl, rfl, G5.out⟩), HR.out.other _ hne, NB.out.heap (heap_one _ _ _ _ _ hne), C4.out.setCell (p := ⟨w1.heap.size, 0, none⟩) (show _ ≤ w1.heap.size from LE_HG.out) _⟩
      case measure => simp [intOf]
    · have c1 := g4.cell 1 _ rfl
      have c2 := g4.free 1 (show (1 : Nat) < 5 by decide)
      have G5 : Hid (Vr (wr.setCell ⟨w1.heap.size, 1, none⟩ (.int .u64 n1)) w1.heap.size (nv [n0, n1, 0, 0, 0])) := g4.set 1 (show (1 : Nat) < 5 by decide) (.int .u64 n1)
      clear g4
      have u0 : (0 : Nat) = 0 := rfl
      go_wp2_with (first
        | (have q := u2; go_at_call 37; refine (num_any _ _ _ Y5.out).mono ?_; rintro e9 w9 ⟨rfl, hw⟩; obtain rfl := hw.symm; rw [N1.out]; clear u2)
        | (have q := u1; refine cut_part _ rfl (.tmp 13) (.tmp 14) (.tmp 17) rfl _ xs _ _ 1 4 rfl rfl rfl rfl rfl (by omega) (by have := HL.out; omega) Y4.out ?_; intro v5 y5; have Y5 : Hid (Byt wr v5 (sub xs 1 4)) := y5; clear y5 u1; have u2 : (0 : Nat) = 0 := rfl)
        | (have q := u0; refine idx_law _ rfl (.tmp 7) (.tmp 8) 86 rfl _ _ (.int .i64 3) rfl rfl (by kernel_rfl) ?_; clear u0; have u1 : (0 : Nat) = 0 := rfl))
      go_roundw
      case rel => exact ⟨.inr (.inr (.inl ⟨rfl, rfl, G5.out⟩)), HR.out.other _ hne, NB.out.heap (heap_one _ _ _ _ _ hne), C4.out.setCell (p := ⟨w1.heap.size, 1, none⟩) (show _ ≤ w1.heap.size from LE_HG.out) _⟩
      case measure => simp [intOf]
    · have c1 := g4.cell 2 _ rfl
      have c2 := g4.free 2 (show (2 : Nat) < 5 by decide)
      have G5 : Hid (Vr (wr.setCell ⟨w1.heap.size, 2, none⟩ (.int .u64 n2)) w1.heap.size (nv [n0, n1, n2, 0, 0])) := g4.set 2 (show (2 : Nat) < 5 by decide) (.int .u64 n2)
      clear g4
      have u0 : (0 : Nat) = 0 := rfl
      go_wp2_with (first
        | (have q := u2; go_at_call 37; refine (num_any _ _ _ Y5.out).mono ?_; rintro e9 w9 ⟨rfl, hw⟩; obtain rfl := hw.symm; rw [N2.out]; clear u2)
        | (have q := u1; refine cut_part _ rfl (.tmp 13) (.tmp 14) (.tmp 17) rfl _ xs _ _ 4 8 rfl rfl rfl rfl rfl (by omega) (by have := HL.out; omega) Y4.out ?_; intro v5 y5; have Y5 : Hid (Byt wr v5 (sub xs 4 8)) := y5; clear y5 u1; have u2 : (0 : Nat) = 0 := rfl)
        | (have q := u0; refine idx_law _ rfl (.tmp 7) (.tmp 8) 86 rfl _ _ (.int .i64 4) rfl rfl (by kernel_rfl) ?_; clear u0; have u1 : (0 : Nat) = 0 := rfl))
      go_roundw
      case rel => exact ⟨.inr (.inr (.inr (.inl ⟨rfl, rfl, G5.out⟩))), HR.out.other _ hne, NB.out.heap (heap_one _ _ _ _ _ hne), C4.out.setCell (p := ⟨w1.heap.size, 2, none⟩) (show _ ≤ w1.heap.size from LE_HG.out) _⟩
      case measure => simp [intOf]
    · have c1 := g4.cell 3 _ rfl
      have c2 := g4.free 3 (show (3 : Nat) < 5 by decide)
      have G5 : Hid (Vr (wr.setCell ⟨w1.heap.size, 3, none⟩ (.int .u64 n3)) w1.heap.size (nv [n0, n1, n2, n3, 0])) := g4.set 3 (show (3 : Nat) < 5 by decide) (.int .u64 n3)
      clear g4
      have u0 : (0 : Nat) = 0 := rfl
      go_wp2_with (first
        | (have q := u2; go_at_call 37; refine (num_any _ _ _ Y5.out).mono ?_; rintro e9 w9 ⟨rfl, hw⟩; obtain rfl := hw.symm; rw [N3.out]; clear u2)
        | (have q := u1; refine cut_part _ rfl (.tmp 13) (.tmp 14) (.tmp 17) rfl _ xs _ _ 8 16 rfl rfl rfl rfl rfl (by omega) (by have := HL.out; omega) Y4.out ?_; intro v5 y5; have Y5 : Hid (Byt wr v5 (sub xs 8 16)) := y5; clear y5 u1; have u2 : (0 : Nat) = 0 := rfl)
        | (have q := u0; refine idx_law _ rfl (.tmp 7) (.tmp 8) 86 rfl _ _ (.int .i64 8) rfl rfl (by kernel_rfl) ?_; clear u0; have u1 : (0 : Nat) = 0 := rfl))
      go_roundw
      case rel => exact ⟨.inr (.inr (.inr (.inr (.inl ⟨rfl, rfl, G5.out⟩)))), HR.out.other _ hne, NB.out.heap (heap_one _ _ _ _ _ hne), C4.out.setCell (p := ⟨w1.heap.size, 3, none⟩) (show _ ≤ w1.heap.size from LE_HG.out) _⟩
      case measure => simp [intOf]
    · have c1 := g4.cell 4 _ rfl
      have c2 := g4.free 4 (show (4 : Nat) < 5 by decide)
      have G5 : Hid (Vr (wr.setCell ⟨w1.heap.size, 4, none⟩ (.int .u64 n4)) w1.heap.size (nv [n0, n1, n2, n3, n4])) := g4.set 4 (show (4 : Nat) < 5 by decide) (.int .u64 n4)
      clear g4
      have u0 : (0 : Nat) = 0 := rfl
      go_wp2_with (first
        | (have q := u2; go_at_call 37; refine (num_any _ _ _ Y5.out).mono ?_; rintro e9 w9 ⟨rfl, hw⟩; obtain rfl := hw.symm; rw [N4.out]; clear u2)
        | (have q := u1; refine cut_part _ rfl (.tmp 13) (.tmp 14) (.tmp 17) rfl _ xs _ _ 16 24 rfl rfl rfl rfl rfl (by omega) (by have := HL.out; omega) Y4.out ?_; intro v5 y5; have Y5 : Hid (Byt wr v5 (sub xs 16 24)) := y5; clear y5 u1; have u2 : (0 : Nat) = 0 := rfl)
        | (have q := u0; refine idx_law _ rfl (.tmp 7) (.tmp 8) 86 rfl _ _ (.int .i64 8) rfl rfl (by kernel_rfl) ?_; clear u0; have u1 : (0 : Nat) = 0 := rfl))
      go_roundw
      case rel => exact ⟨.inr (.inr (.inr (.inr (.inr (⟨rfl, rfl, G5.out⟩))))), HR.out.other _ hne, NB.out.heap (heap_one _ _ _ _ _ hne), C4.out.setCell (p := ⟨w1.heap.size, 4, none⟩) (show _ ≤ w1.heap.size from LE_HG.out) _⟩
      case measure => simp [intOf]
    · have HG : Hid (Vr wr w1.heap.size (nv [n0, n1, n2, n3, n4])) := g4
      have c0 := g4.cell 0 _ rfl
      clear g4
      go_wp2
      have HR : Hid (Vr wr.drew w.heap.size (sv false 0 0 0 (.slice none 0 0))) := HR.out.drewN 1
      have NB : Hid (NoB wr.drew w.heap.size) := NB.out.heap rfl
      refine wp_region_held_drew (S := fun w' => Below w.heap.size w w' ∧ w'.rangeAt w1.heap.size 0 (nv [n0, n1, n2, n3, n4])) (by kernel_rfl) ⟨C4.out.drew, HG.out.1⟩ (fun hS => ?_)
      obtain ⟨x1, hx0⟩ : ∃ x, x = wr.drew := ⟨_, rfl⟩
      rw [← hx0] at hS HR NB ⊢
      clear hx0
      refine take_lawH 0 (some 29) (.pointer (some ⟨w1.heap.size, 2, none⟩)) rfl rfl (by kernel_rfl) (by kernel_rfl) (by kernel_rfl) (fun _ _ _ h => h) (Or.inl ⟨by rfl, fun w' hw' => by go_simp⟩) hS ?_
      simp only [Act.put, List.setIfInBounds_toArray, List.set_cons_zero, List.set_cons_succ]
      refine take_lawH 1 (some 30) (.int .u64 n2) rfl rfl (by kernel_rfl) (by kernel_rfl) (by kernel_rfl) (fun _ _ _ h => h) (Or.inl ⟨by rfl, fun w' hw' => by exact exec_loadN 22 (.tmp 29) rfl _ rfl _ _ (load_one one_u64 (by have := hw'.2 2 _ rfl; rwa [Nat.zero_add] at this))⟩) hS ?_
      simp only [Act.put, List.setIfInBounds_toArray, List.set_cons_zero, List.set_cons_succ]
      refine take_lawH 2 (some 31) (.int .i64 n2) rfl rfl (by kernel_rfl) (by kernel_rfl) (by kernel_rfl) (fun _ _ _ h => h) (Or.inl ⟨by rfl, fun w' hw' => by exact exec_conv (.tmp 30) rfl n2 rfl WN.out _⟩) hS ?_
      simp only [Act.put, List.setIfInBounds_toArray, List.set_cons_zero, List.set_cons_succ]
      refine take_lawH 3 (some 32) (.pointer (some ⟨w1.heap.size, 3, none⟩)) rfl rfl (by kernel_rfl) (by kernel_rfl) (by kernel_rfl) (fun _ _ _ h => h) (Or.inl ⟨by rfl, fun w' hw' => by go_simp⟩) hS ?_
      simp only [Act.put, List.setIfInBounds_toArray, List.set_cons_zero, List.set_cons_succ]
      refine take_lawH 4 (some 33) (.int .u64 n3) rfl rfl (by kernel_rfl) (by kernel_rfl) (by kernel_rfl) (fun _ _ _ h => h) (Or.inl ⟨by rfl, fun w' hw' => by exact exec_loadN 22 (.tmp 32) rfl _ rfl _ _ (load_one one_u64 (by have := hw'.2 3 _ rfl; rwa [Nat.zero_add] at this))⟩) hS ?_
      simp only [Act.put, List.setIfInBounds_toArray, List.set_cons_zero, List.set_cons_succ]
      refine take_lawH 5 (some 34) (.pointer (some ⟨w1.heap.size, 4, none⟩)) rfl rfl (by kernel_rfl) (by kernel_rfl) (by kernel_rfl) (fun _ _ _ h => h) (Or.inl ⟨by rfl, fun w' hw' => by go_simp⟩) hS ?_
      simp only [Act.put, List.setIfInBounds_toArray, List.set_cons_zero, List.set_cons_succ]
      refine take_lawH 6 (some 35) (.int .u64 n4) rfl rfl (by kernel_rfl) (by kernel_rfl) (by kernel_rfl) (fun _ _ _ h => h) (Or.inl ⟨by rfl, fun w' hw' => by exact exec_loadN 22 (.tmp 34) rfl _ rfl _ _ (load_one one_u64 (by have := hw'.2 4 _ rfl; rwa [Nat.zero_add] at this))⟩) hS ?_
      simp only [Act.put, List.setIfInBounds_toArray, List.set_cons_zero, List.set_cons_succ]
      refine take_lawH 7 (some 36) (.slice bo 128 bc) rfl rfl (by kernel_rfl) (by kernel_rfl) (by kernel_rfl) (fun _ _ _ h => h) (Or.inl ⟨by rfl, fun w' hw' => by rfl⟩) hS ?_
      simp only [Act.put, List.setIfInBounds_toArray, List.set_cons_zero, List.set_cons_succ]
      refine take_lawH 8 (some 37) (.int .i64 24) rfl rfl (by kernel_rfl) (by kernel_rfl) (by kernel_rfl) (fun _ _ _ h => h) (Or.inl ⟨by rfl, fun w' hw' => by rfl⟩) hS ?_
      simp only [Act.put, List.setIfInBounds_toArray, List.set_cons_zero, List.set_cons_succ]
      refine take_lawH 9 (some 38) (sl (.slice bo 128 bc) 24 128) rfl rfl (by kernel_rfl) (by kernel_rfl) (by kernel_rfl) (fun _ _ _ h => h) (Or.inl ⟨by rfl, fun w' hw' => by exact exec_from (.tmp 36) (.tmp 37) rfl _ xs _ HB.out 24 128 rfl rfl HL.out (by omega) _⟩) hS ?_
      simp only [Act.put, List.setIfInBounds_toArray, List.set_cons_zero, List.set_cons_succ]
      refine wpAnyH_ready (rs := [10]) (by kernel_rfl) (by simp) ?_
      refine AllReadyH.cons rfl (fun K hK => ?_) AllReadyH.nil
      refine he.step_callW _ (by rfl) (some 39) rfl 31 #[.tmp 38] #[23] rfl (fun q w' => by rfl) #[sl (.slice bo 128 bc) 24 128] (by simp only [List.map_toArray, List.map_cons, List.map_nil]; rfl) (fun z9 w' => (∃ yo yc, z9 = .slice yo 104 yc ∧ Byt w' (.slice yo 104 yc) (gw xs)) ∧ Below x1.heap.size x1 w') ?_ ?_
      · have y0 : Byt x1 (sl (.slice bo 128 bc) 24 128) (gw xs) := (by have z := sl_from (HB.out.below hS.1) 24 (by rw [HL.out]; omega); rw [HL.out, ED.out] at z; exact z)
        exact (clone_byt x1 _ _ y0 (by rw [HL5.out]; omega) (by rw [HL5.out]; omega)).mono fun e w' ⟨z, h1, h2, h3⟩ => (by obtain ⟨yo, yc, rfl⟩ := byt_form (h2.byt HW5.out) HL5.out; exact ⟨_, h1, ⟨yo, yc, rfl, h2.byt HW5.out⟩, h3⟩)
      rintro _ x2 ⟨⟨yo, yc, rfl, y1⟩, hb⟩
      have YZ : Hid (Byt x2 (.slice yo 104 yc) (gw xs)) := y1
      have HR9 := HR
      have HR : Hid (Vr x2 w.heap.size (sv false 0 0 0 (.slice none 0 0))) := HR.out.below hb (range_lt HR.out.1 (Nat.succ_pos _))
      have NB : Hid (NoB x2 w.heap.size) := NB.out.heap (hb.block _ (range_lt HR9.out.1 (Nat.succ_pos _)))
      have hS : Below w.heap.size w x2 ∧ x2.rangeAt w1.heap.size 0 (nv [n0, n1, n2, n3, n4]) := ⟨hS.1.trans (hb.mono hS.1.size), range_heap hS.2 (hb.block _ (range_lt hS.2 (Nat.succ_pos _)))⟩
      clear y1 hb HR9
      refine hK.out _ _ hS (fun _ => ?_)
      simp only [Act.put, List.setIfInBounds_toArray, List.set_cons_zero, List.set_cons_succ]
      clear hK K
      refine take_lawH 11 (some 40) (.agg (sv true n2 n3 n4 (.slice yo 104 yc)).toArray) rfl rfl (by kernel_rfl) (by kernel_rfl) (by kernel_rfl) (fun _ _ _ h => h) (Or.inl ⟨by rfl, fun w' hw' => by exact exec_build 25 _ rfl _ _ (by kernel_rfl)⟩) hS ?_
      simp only [Act.put, List.setIfInBounds_toArray, List.set_cons_zero, List.set_cons_succ]
      refine wpAnyH_ready (rs := [12]) (by kernel_rfl) (by simp) ?_
      refine AllReadyH.cons rfl (fun K hK => ?_) AllReadyH.nil
      refine step_storeK _ rfl none rfl (.tmp 2) (.tmp 40) 25 rfl w.heap.size (sv false 0 0 0 (.slice none 0 0)) (sv true n2 n3 n4 (.slice yo 104 yc)) rfl rfl HR.out rfl rowy_slot.2 (sv_one _ _ _ _ rfl) ?_
      intro x3 v9 B9 E9
      have HQ : Hid (Vr x3 w.heap.size (sv true n2 n3 n4 (.slice yo 104 yc))) := v9
      have YZ : Hid (Byt x3 (.slice yo 104 yc) (gw xs)) := byt_nob YZ.out NB.out E9
      have hS : Below w.heap.size w x3 ∧ x3.rangeAt w1.heap.size 0 (nv [n0, n1, n2, n3, n4]) := ⟨hS.1.trans B9, range_heap hS.2 (E9 _ hne.symm)⟩
      clear v9 B9 E9
      refine hK.out _ _ hS (fun _ => ?_)
      simp only [Act.put]
      clear hK K
      refine wpAnyH_done (by kernel_rfl) ?_ _
      have BZ : Hid (Below w.heap.size w x3) := hS.1
      clear hS
      go_wp2
      exact bodyPost_ret (v := .agg (sv true n2 n3 n4 (.slice yo 104 yc)).toArray) (results_c rfl _ _ w.heap.size _ rowy_slot rfl HQ.out.1) rfl ⟨_, _, rfl, YZ.out, BZ.out⟩
end Go.Proofs.YtmbfccclghnaeaaDoor.so

