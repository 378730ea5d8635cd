/- What head's numbersIn answers. No claim of its own. -/
import Derived.Test.YtpmakkjcpoillaaDoorHSml
namespace Go.Proofs.YtpmakkjcpoillaaDoor.he
open Go.RowKit Go.Proofs.YtpmakkjcpoillaaDoor.fa
set_option maxRecDepth 20000

/-- a struct, or an array, is read -/
theorem load_lawC {ops : Array Oper} {rest : List Oper} {a : Act} {Q : Exit → Act → World → Prop} {d : Option Tmp} {x : Operand} {t ty : TypeId} {pos : String} {af : Array Edge} {gd : Option (Nat × Bool)} (w : World) (hw : Region.wanted ⟨d, Op.load t x, ty, pos, af, gd⟩ (yielded ops a.tmps) = true) (cs : List Value) (b p : Nat) (hx : a.eval x = .pointer (some ⟨b, p, none⟩)) (h : w.rangeAt b p cs) (ht : Rowy t cs.length)
    (hK : wpList Tryd.prog ops Q rest (a.put d (.agg cs.toArray)) w) : wpList Tryd.prog ops Q (⟨d, Op.load t x, ty, pos, af, gd⟩ :: rest) a w := by
  refine wpList_step fun K hK' => ?_
  rw [if_pos hw]
  unfold Oper.wp execOp
  simp only [hx, Sem.run_bind, Result.andThen_ok, load_cells ht h]
  exact hK' _ _ hK
theorem num_one (xs : List Int) (i : Nat) (h : i < xs.length) (ha : AllB xs) : num (last8 (sub xs i (i + 1))) = gb xs i := by
  have l := sub_len xs i (i + 1) (by omega)
  have g := sub_gb xs i (i + 1) 0 (by omega)
  have b := ha i
  generalize sub xs i (i + 1) = ys at *
  match ys, l with
  | [y], _ =>
    have : y = gb xs i := g
    subst this
    show (0 * 256) % 18446744073709551616 + gb xs i = gb xs i
    omega
  | [], l => simp at l
  | _ :: _ :: _, l => simp at l

set_option maxHeartbeats 8000000 in
theorem in_any (v : Value) (xs : List Int) (w : World) (hb : Byt w v xs) (hl : xs.length = 24) (hT : Tab w) :
    Calls Tryd.prog 48 #[v] w fun x w' => x = .returned (.agg (nv [gb xs 0, gb xs 1, gb xs 2, gb xs 3, ql xs, qe xs, qt xs]).toArray) ∧ Below w.heap.size w w' := by
  have HB : Hid (Byt w v xs) := hb
  have HL : Hid (xs.length = 24) := hl
  have HT : Hid (Tab w) := hT
  have hA := hb.all
  have N0 : Hid (num (last8 (sub xs 0 1)) = gb xs 0) := num_one xs 0 (by omega) hA
  have N1 : Hid (num (last8 (sub xs 1 2)) = gb xs 1) := num_one xs 1 (by omega) hA
  have N2 : Hid (num (last8 (sub xs 2 3)) = gb xs 2) := num_one xs 2 (by omega) hA
  have N3 : Hid (num (last8 (sub xs 3 4)) = gb xs 3) := num_one xs 3 (by omega) hA
  have N4 : Hid (num (last8 (sub xs 4 8)) = ql xs) := rfl
  have N5 : Hid (num (last8 (sub xs 8 16)) = qe xs) := rfl
  have N6 : Hid (num (last8 (sub xs 16 24)) = qt xs) := rfl
  generalize gb xs 0 = n0 at *
  generalize gb xs 1 = n1 at *
  generalize gb xs 2 = n2 at *
  generalize gb xs 3 = n3 at *
  generalize ql xs = n4 at *
  generalize qe xs = n5 at *
  generalize qt xs = n6 at *
  clear hb hl hT hA
  have t0 : (0 : Nat) = 0 := rfl
  go_enter Tryd.func48, Tryd.ntmps48
  go_wp2_with (first
    | (have q2 := t2; refine load_lawC _ rfl (([1, 1, 1, 1, 4, 8, 8] : List Int).map (Value.int .i64)) 0 0 rfl (HT2.out.range) rowy_sizes ?_; clear t2)
    | (have q1 := t1; refine new_lawC _ (nv [0, 0, 0, 0, 0, 0, 0]) zero_nums ?_; intro w2 V2 B2 s2; have HG : Hid (Vr w2 w1.heap.size (nv [0, 0, 0, 0, 0, 0, 0])) := V2; have HR : Hid (Vr w2 w.heap.size (nv [0, 0, 0, 0, 0, 0, 0])) := HR.out.below B2 s1; have C2 : Below w.heap.size w w2 := B1.trans (B2.mono (by omega)); have HT2 : Hid (Tab w2) := HT.out.below C2; clear V2 B2 t1; have t2 : (0 : Nat) = 0 := rfl)
    | (have q0 := t0; refine new_lawC _ (nv [0, 0, 0, 0, 0, 0, 0]) zero_nums ?_; intro w1 V1 B1 s1; have HR : Hid (Vr w1 w.heap.size (nv [0, 0, 0, 0, 0, 0, 0])) := V1; clear V1 t0; have t1 : (0 : Nat) = 0 := rfl))
  have hne : w.heap.size ≠ w1.heap.size := by omega
  go_loopw [8, 4] (fun i z wr => ((i = .int .i64 0 ∧ z = .int .i64 0 ∧ Vr wr w1.heap.size (nv [0, 0, 0, 0, 0, 0, 0])) ∨ (i = .int .i64 1 ∧ z = .int .i64 1 ∧ Vr wr w1.heap.size (nv [n0, 0, 0, 0, 0, 0, 0])) ∨ (i = .int .i64 2 ∧ z = .int .i64 2 ∧ Vr wr w1.heap.size (nv [n0, n1, 0, 0, 0, 0, 0])) ∨ (i = .int .i64 3 ∧ z = .int .i64 3 ∧ Vr wr w1.heap.size (nv [n0, n1, n2, 0, 0, 0, 0])) ∨ (i = .int .i64 4 ∧ z = .int .i64 4 ∧ Vr wr w1.heap.size (nv [n0, n1, n2, n3, 0, 0, 0])) ∨ (i = .int .i64 5 ∧ z = .int .i64 8 ∧ Vr wr w1.heap.size (nv [n0, n1, n2, n3, n4, 0, 0])) ∨ (i = .int .i64 6 ∧ z = .int .i64 16 ∧ Vr wr w1.heap.size (nv [n0, n1, n2, n3, n4, n5, 0])) ∨ (i = .int .i64 7 ∧ z = .int .i64 24 ∧ Vr wr w1.heap.size (nv [n0, n1, n2, n3, n4, n5, n6]))) ∧ Vr wr w.heap.size (nv [0, 0, 0, 0, 0, 0, 0]) ∧ Below w.heap.size w wr) (fun i _ _ => 7 - (intOf i).toNat)
  case atStart => exact ⟨.inl ⟨rfl, rfl, HG.out⟩, HR.out, C2⟩
  case round =>
    clear HG HR C2 HT2
    obtain ⟨hrel, hr, b4⟩ := hrel
    have HR : Hid (Vr wr w.heap.size (nv [0, 0, 0, 0, 0, 0, 0])) := hr
    have C4 : Hid (Below w.heap.size w wr) := b4
    have Y4 : Hid (Byt wr v xs) := HB.out.below b4
    clear hr b4
    obtain ⟨rfl, rfl, g4⟩ | ⟨rfl, rfl, g4⟩ | ⟨rfl, rfl, g4⟩ | ⟨rfl, rfl, g4⟩ | ⟨rfl, rfl, g4⟩ | ⟨rfl, rfl, g4⟩ | ⟨rfl, rfl, g4⟩ | ⟨rfl, rfl, g4⟩ := hrel
    · have c1 := g4.cell 0 _ rfl
      have c2 := g4.free 0 (by simp [nv])
      have G5 : Hid (Vr (wr.setCell ⟨w1.heap.size, 0, none⟩ (.int .u64 n0)) w1.heap.size (nv [n0, 0, 0, 0, 0, 0, 0])) := g4.set 0 (by simp [nv]) (.int .u64 n0)
      clear g4
      have u0 : (0 : Nat) = 0 := rfl
      go_wp2_with (first
        | (have q := u2; go_at_call 62; refine (num_any _ _ _ Y5.out).mono ?_; rintro e9 w9 ⟨rfl, hw⟩; obtain rfl := hw.symm; rw [N0.out]; clear u2)
        | (have q := u1; refine cut_part _ rfl (.tmp 13) (.tmp 14) (.tmp 17) rfl _ xs _ _ 0 1 rfl rfl rfl rfl rfl (by omega) (by have := HL.out; omega) Y4.out ?_; intro v5 y5; have Y5 : Hid (Byt wr v5 (sub xs 0 1)) := y5; clear y5 u1; have u2 : (0 : Nat) = 0 := rfl)
        | (have q := u0; refine idx_law _ rfl (.tmp 7) (.tmp 8) 87 rfl _ _ (.int .i64 1) rfl rfl (by kernel_rfl) ?_; clear u0; have u1 : (0 : Nat) = 0 := rfl))
      go_roundw
      case rel => exact ⟨.inr (.inl ⟨rfl, rfl, G5.out⟩), HR.out.other _ hne, C4.out.setCell (p := ⟨w1.heap.size, 0, none⟩) (by show _ ≤ w1.heap.size; omega) _⟩
      case measure => simp [intOf]
    · have c1 := g4.cell 1 _ rfl
      have c2 := g4.free 1 (by simp [nv])
      have G5 : Hid (Vr (wr.setCell ⟨w1.heap.size, 1, none⟩ (.int .u64 n1)) w1.heap.size (nv [n0, n1, 0, 0, 0, 0, 0])) := g4.set 1 (by simp [nv]) (.int .u64 n1)
      clear g4
      have u0 : (0 : Nat) = 0 := rfl
      go_wp2_with (first
        | (have q := u2; go_at_call 62; refine (num_any _ _ _ Y5.out).mono ?_; rintro e9 w9 ⟨rfl, hw⟩; obtain rfl := hw.symm; rw [N1.out]; clear u2)
        | (have q := u1; refine cut_part _ rfl (.tmp 13) (.tmp 14) (.tmp 17) rfl _ xs _ _ 1 2 rfl rfl rfl rfl rfl (by omega) (by have := HL.out; omega) Y4.out ?_; intro v5 y5; have Y5 : Hid (Byt wr v5 (sub xs 1 2)) := y5; clear y5 u1; have u2 : (0 : Nat) = 0 := rfl)
        | (have q := u0; refine idx_law _ rfl (.tmp 7) (.tmp 8) 87 rfl _ _ (.int .i64 1) rfl rfl (by kernel_rfl) ?_; clear u0; have u1 : (0 : Nat) = 0 := rfl))
      go_roundw
      case rel => exact ⟨.inr (.inr (.inl ⟨rfl, rfl, G5.out⟩)), HR.out.other _ hne, C4.out.setCell (p := ⟨w1.heap.size, 1, none⟩) (by show _ ≤ w1.heap.size; omega) _⟩
      case measure => simp [intOf]
    · have c1 := g4.cell 2 _ rfl
      have c2 := g4.free 2 (by simp [nv])
      have G5 : Hid (Vr (wr.setCell ⟨w1.heap.size, 2, none⟩ (.int .u64 n2)) w1.heap.size (nv [n0, n1, n2, 0, 0, 0, 0])) := g4.set 2 (by simp [nv]) (.int .u64 n2)
      clear g4
      have u0 : (0 : Nat) = 0 := rfl
      go_wp2_with (first
        | (have q := u2; go_at_call 62; refine (num_any _ _ _ Y5.out).mono ?_; rintro e9 w9 ⟨rfl, hw⟩; obtain rfl := hw.symm; rw [N2.out]; clear u2)
        | (have q := u1; refine cut_part _ rfl (.tmp 13) (.tmp 14) (.tmp 17) rfl _ xs _ _ 2 3 rfl rfl rfl rfl rfl (by omega) (by have := HL.out; omega) Y4.out ?_; intro v5 y5; have Y5 : Hid (Byt wr v5 (sub xs 2 3)) := y5; clear y5 u1; have u2 : (0 : Nat) = 0 := rfl)
        | (have q := u0; refine idx_law _ rfl (.tmp 7) (.tmp 8) 87 rfl _ _ (.int .i64 1) rfl rfl (by kernel_rfl) ?_; clear u0; have u1 : (0 : Nat) = 0 := rfl))
      go_roundw
      case rel => exact ⟨.inr (.inr (.inr (.inl ⟨rfl, rfl, G5.out⟩))), HR.out.other _ hne, C4.out.setCell (p := ⟨w1.heap.size, 2, none⟩) (by show _ ≤ w1.heap.size; omega) _⟩
      case measure => simp [intOf]
    · have c1 := g4.cell 3 _ rfl
      have c2 := g4.free 3 (by simp [nv])
      have G5 : Hid (Vr (wr.setCell ⟨w1.heap.size, 3, none⟩ (.int .u64 n3)) w1.heap.size (nv [n0, n1, n2, n3, 0, 0, 0])) := g4.set 3 (by simp [nv]) (.int .u64 n3)
      clear g4
      have u0 : (0 : Nat) = 0 := rfl
      go_wp2_with (first
        | (have q := u2; go_at_call 62; refine (num_any _ _ _ Y5.out).mono ?_; rintro e9 w9 ⟨rfl, hw⟩; obtain rfl := hw.symm; rw [N3.out]; clear u2)
        | (have q := u1; refine cut_part _ rfl (.tmp 13) (.tmp 14) (.tmp 17) rfl _ xs _ _ 3 4 rfl rfl rfl rfl rfl (by omega) (by have := HL.out; omega) Y4.out ?_; intro v5 y5; have Y5 : Hid (Byt wr v5 (sub xs 3 4)) := y5; clear y5 u1; have u2 : (0 : Nat) = 0 := rfl)
        | (have q := u0; refine idx_law _ rfl (.tmp 7) (.tmp 8) 87 rfl _ _ (.int .i64 1) rfl rfl (by kernel_rfl) ?_; clear u0; have u1 : (0 : Nat) = 0 := rfl))
      go_roundw
      case rel => exact ⟨.inr (.inr (.inr (.inr (.inl ⟨rfl, rfl, G5.out⟩)))), HR.out.other _ hne, C4.out.setCell (p := ⟨w1.heap.size, 3, none⟩) (by show _ ≤ w1.heap.size; omega) _⟩
      case measure => simp [intOf]
    · have c1 := g4.cell 4 _ rfl
      have c2 := g4.free 4 (by simp [nv])
      have G5 : Hid (Vr (wr.setCell ⟨w1.heap.size, 4, none⟩ (.int .u64 n4)) w1.heap.size (nv [n0, n1, n2, n3, n4, 0, 0])) := g4.set 4 (by simp [nv]) (.int .u64 n4)
      clear g4
      have u0 : (0 : Nat) = 0 := rfl
      go_wp2_with (first
        | (have q := u2; go_at_call 62; refine (num_any _ _ _ Y5.out).mono ?_; rintro e9 w9 ⟨rfl, hw⟩; obtain rfl := hw.symm; rw [N4.out]; clear u2)
        | (have q := u1; refine cut_part _ rfl (.tmp 13) (.tmp 14) (.tmp 17) rfl _ xs _ _ 4 8 rfl rfl rfl rfl rfl (by omega) (by have := HL.out; omega) Y4.out ?_; intro v5 y5; have Y5 : Hid (Byt wr v5 (sub xs 4 8)) := y5; clear y5 u1; have u2 : (0 : Nat) = 0 := rfl)
        | (have q := u0; refine idx_law _ rfl (.tmp 7) (.tmp 8) 87 rfl _ _ (.int .i64 4) rfl rfl (by kernel_rfl) ?_; clear u0; have u1 : (0 : Nat) = 0 := rfl))
      go_roundw
      case rel => exact ⟨.inr (.inr (.inr (.inr (.inr (.inl ⟨rfl, rfl, G5.out⟩))))), HR.out.other _ hne, C4.out.setCell (p := ⟨w1.heap.size, 4, none⟩) (by show _ ≤ w1.heap.size; omega) _⟩
      case measure => simp [intOf]
    · have c1 := g4.cell 5 _ rfl
      have c2 := g4.free 5 (by simp [nv])
      have G5 : Hid (Vr (wr.setCell ⟨w1.heap.size, 5, none⟩ (.int .u64 n5)) w1.heap.size (nv [n0, n1, n2, n3, n4, n5, 0])) := g4.set 5 (by simp [nv]) (.int .u64 n5)
      clear g4
      have u0 : (0 : Nat) = 0 := rfl
      go_wp2_with (first
        | (have q := u2; go_at_call 62; refine (num_any _ _ _ Y5.out).mono ?_; rintro e9 w9 ⟨rfl, hw⟩; obtain rfl := hw.symm; rw [N5.out]; clear u2)
        | (have q := u1; refine cut_part _ rfl (.tmp 13) (.tmp 14) (.tmp 17) rfl _ xs _ _ 8 16 rfl rfl rfl rfl rfl (by omega) (by have := HL.out; omega) Y4.out ?_; intro v5 y5; have Y5 : Hid (Byt wr v5 (sub xs 8 16)) := y5; clear y5 u1; have u2 : (0 : Nat) = 0 := rfl)
        | (have q := u0; refine idx_law _ rfl (.tmp 7) (.tmp 8) 87 rfl _ _ (.int .i64 8) rfl rfl (by kernel_rfl) ?_; clear u0; have u1 : (0 : Nat) = 0 := rfl))
      go_roundw
      case rel => exact ⟨.inr (.inr (.inr (.inr (.inr (.inr (.inl ⟨rfl, rfl, G5.out⟩)))))), HR.out.other _ hne, C4.out.setCell (p := ⟨w1.heap.size, 5, none⟩) (by show _ ≤ w1.heap.size; omega) _⟩
      case measure => simp [intOf]
    · have c1 := g4.cell 6 _ rfl
      have c2 := g4.free 6 (by simp [nv])
      have G5 : Hid (Vr (wr.setCell ⟨w1.heap.size, 6, none⟩ (.int .u64 n6)) w1.heap.size (nv [n0, n1, n2, n3, n4, n5, n6])) := g4.set 6 (by simp [nv]) (.int .u64 n6)
      clear g4
      have u0 : (0 : Nat) = 0 := rfl
      go_wp2_with (first
        | (have q := u2; go_at_call 62; refine (num_any _ _ _ Y5.out).mono ?_; rintro e9 w9 ⟨rfl, hw⟩; obtain rfl := hw.symm; rw [N6.out]; clear u2)
        | (have q := u1; refine cut_part _ rfl (.tmp 13) (.tmp 14) (.tmp 17) rfl _ xs _ _ 16 24 rfl rfl rfl rfl rfl (by omega) (by have := HL.out; omega) Y4.out ?_; intro v5 y5; have Y5 : Hid (Byt wr v5 (sub xs 16 24)) := y5; clear y5 u1; have u2 : (0 : Nat) = 0 := rfl)
        | (have q := u0; refine idx_law _ rfl (.tmp 7) (.tmp 8) 87 rfl _ _ (.int .i64 8) rfl rfl (by kernel_rfl) ?_; clear u0; have u1 : (0 : Nat) = 0 := rfl))
      go_roundw
      case rel => exact ⟨.inr (.inr (.inr (.inr (.inr (.inr (.inr (⟨rfl, rfl, G5.out⟩))))))), HR.out.other _ hne, C4.out.setCell (p := ⟨w1.heap.size, 6, none⟩) (by show _ ≤ w1.heap.size; omega) _⟩
      case measure => simp [intOf]
    · have G4 : Hid (Vr wr w1.heap.size (nv [n0, n1, n2, n3, n4, n5, n6])) := g4
      clear g4
      have u0 : (0 : Nat) = 0 := rfl
      go_wp2_with (first
        | (have q := u1; refine store_lawC _ (nv [n0, n1, n2, n3, n4, n5, n6]) w.heap.size 0 rfl rfl HR.out.2 rowy_nums.2 (nv_one _) ?_; intro w5 E5 R5 T5 B5; have HQ : Hid (w5.rangeAt w.heap.size 0 (nv [n0, n1, n2, n3, n4, n5, n6])) := R5; clear u1 E5 R5 T5)
        | (have q := u0; refine load_lawC _ rfl (nv [n0, n1, n2, n3, n4, n5, n6]) w1.heap.size 0 rfl G4.out.1 rowy_nums ?_; clear u0; have u1 : (0 : Nat) = 0 := rfl))
      refine bodyPost_ret (v := .agg (nv [n0, n1, n2, n3, n4, n5, n6]).toArray) (results_c rfl _ _ w.heap.size _ rowy_nums rfl HQ.out) rfl ⟨rfl, ?_⟩
      exact C4.out.trans B5
end Go.Proofs.YtpmakkjcpoillaaDoor.he
