/- Parts of the proof: what KeyboxCrashes reaches. No claim of its own. -/
import Derived.Laws.AppendOwnNone
import Derived.Deep.RegionHeld3
import Derived.Lib.SliceRun
import Derived.Deep.DeepCutAuto
import Derived.Deep.Slices
import Derived.ArgAppend
import Derived.WalkKit
import Derived.Deep.QuietTactic
import Derived.Deep.WholeRow
import Derived.Deep.MidRow
import Derived.Laws.StructEq
import Derived.Laws.Tables
import Derived.Deep.LoopGhost
import Derived.WalkSmall
import Derived.ProofKit
import Derived.OpenShut
import Derived.BigQuiet
import Derived.Lib.AppendZeros
import Derived.Lib.MakeNoZero
import Derived.Deep.DeepHandedRow
import Derived.Lib.LaidTab
import Derived.Deep.Matrix
import Derived.Test.YtakibiigcdgohaaGreatDoorC00
import Derived.Test.YtakibiigcdgohaaGreatDoorC01
import Derived.Test.YtakibiigcdgohaaGreatDoorC02
import Derived.Test.YtakibiigcdgohaaGreatDoorC03
import Derived.Test.YtakibiigcdgohaaGreatDoorC04
import Derived.Test.YtakibiigcdgohaaGreatDoorC05
import Derived.Test.YtakibiigcdgohaaGreatDoorC06
import Derived.Test.YtakibiigcdgohaaGreatDoorC07
import Derived.Test.YtakibiigcdgohaaGreatDoorC08
import Derived.Test.YtakibiigcdgohaaGreatDoorC09
import Derived.Test.YtakibiigcdgohaaGreatDoorC10
import Derived.Test.YtakibiigcdgohaaGreatDoorC11
import Derived.Test.YtakibiigcdgohaaGreatDoorC12
import Derived.Test.YtakibiigcdgohaaGreatDoorC13
import Derived.Test.YtakibiigcdgohaaGreatDoorC14
import Derived.Test.YtakibiigcdgohaaGreatDoorC15
import Derived.Test.YtakibiigcdgohaaGreatDoorC16
import Derived.Test.YtakibiigcdgohaaGreatDoorC17
import Derived.Test.YtakibiigcdgohaaGreatDoorC18
import Derived.Test.YtakibiigcdgohaaGreatDoorC19
import Derived.Test.YtakibiigcdgohaaGreatDoorC20
import Derived.Test.YtakibiigcdgohaaGreatDoorC21
import Derived.Test.YtakibiigcdgohaaGreatDoorC22
import Derived.Test.YtakibiigcdgohaaGreatDoorC23
import Derived.Test.YtakibiigcdgohaaGreatDoorC24
import Derived.Test.YtakibiigcdgohaaGreatDoorC25
set_option maxHeartbeats 8000000
namespace Go.Proofs.YtakibiigcdgohaaGreatDoor.vb
open Go.RowKit Go.Proofs.YtakibiigcdgohaaGreatDoor.fa Go.Proofs.YtakibiigcdgohaaGreatDoor.he Go.Proofs.YtakibiigcdgohaaGreatDoor.pa Go.Proofs.YtakibiigcdgohaaGreatDoor.ck
set_option maxRecDepth 20000
theorem zero_case : (Tryz.prog.info? 27).map (fun i => (i.zero, i.size)) = some (some (.agg ([.int .i64 0, .int .i64 0, .int .i64 0, .int .i64 0, .int .i64 0, .int .i64 0, .slice none 0 0, .slice none 0 0] : List Value).toArray), 8) := by kernel_rfl
theorem fls_nil (w : World) : Fls w (.slice none 0 ([] : List (Int × Bool × Value)).length) [] := ⟨none, 0, rfl, by simp, by simp, fun _ => rfl, fun h => by simp at h⟩
theorem cr_A (g0 g1 g2 g3 g4 g5 : Int) (po : Option Addr) (pc : Nat) (fs : List (Int × Bool × Value)) (sa sb : Int) (w : World) (hT : Tab w) (hn : ¬ (ge.Rt [g0, g1, g2, g3, g4, g5] ∧ g0 ≤ 12 ∧ g1 ≤ 20 ∧ g2 ≤ 128)) :
    Calls Tryz.prog 4 #[.agg (ints .i64 [g0, g1, g2, g3, g4, g5]), .slice po fs.length pc, .agg (ints .u8 [sa, sb])] w fun x w' => x = .returned (.bool true) ∧ Below w.heap.size w w' := by
  have HT : Hid (Tab w) := hT
  have SL : Hid (∀ w0, Calls Tryz.prog 7 #[.agg ([.int .i64 g0, .int .i64 g1, .int .i64 g2, .int .i64 g3, .int .i64 g4, .int .i64 g5, .slice none 0 0, .slice none 0 0] : List Value).toArray] w0 fun x w' => x = .returned (.bool false) ∧ Below w0.heap.size w0 w') := fun w0 => light_any g0 g1 g2 g3 g4 g5 none none 0 0 0 [] (fun _ => []) w0 (fls_nil w0) (fun t ht => absurd ht (Nat.not_lt_zero _)) false ⟨fun z => absurd z Bool.false_ne_true, fun z => absurd ⟨z.1, z.2.2.1, z.2.2.2.1, z.2.2.2.2.1⟩ hn⟩
  clear hn hT
  have t0 := tR
  go_enter Tryz.func4, Tryz.ntmps4
  go_wp2_with (first
      | (have q5 := t5; go_at_call 8; refine (awake_any _ (tab_up HT.out BB.out (Nat.le_refl _))).mono ?_; rintro e9 w9 ⟨rfl, B9⟩; have BB : Hid (Below w.heap.size w w9) := BB.out.trans (B9.mono BB.out.size); clear B9 t5; have t99 := tR)
      | (have q4 := t4; go_at_call 7; refine (SL.out w4).mono ?_; rintro e9 w5 ⟨rfl, B9⟩; have HG : Hid (Vr w5 w.heap.size [.int .i64 g0, .int .i64 g1, .int .i64 g2, .int .i64 g3, .int .i64 g4, .int .i64 g5]) := HG.out.below B9 LG.out.1; have HSD : Hid (Vr w5 w1.heap.size [.int .u8 sa, .int .u8 sb]) := HSD.out.below B9 LG.out.2; have LG : Hid (w.heap.size < w5.heap.size ∧ w1.heap.size < w5.heap.size) := ⟨Nat.lt_of_lt_of_le LG.out.1 B9.size, Nat.lt_of_lt_of_le LG.out.2 B9.size⟩; have BB : Hid (Below w.heap.size w w5) := BB.out.trans (B9.mono BB.out.size); clear B9 t4 x_0 x_1 x_2 x_3 x_4 x_5 x_6 x_7; have g_0 := HG.out.cell 0 _ rfl; have g_1 := HG.out.cell 1 _ rfl; have g_2 := HG.out.cell 2 _ rfl; have g_3 := HG.out.cell 3 _ rfl; have g_4 := HG.out.cell 4 _ rfl; have g_5 := HG.out.cell 5 _ rfl; have t5 := tR)
      | (have q3 := t3; (with_reducible refine at_store ?_); refine store_lawC _ [.int .i64 g0, .int .i64 g1, .int .i64 g2, .int .i64 g3, .int .i64 g4, .int .i64 g5, .slice none 0 0, .slice none 0 0] w2.heap.size 0 rfl rfl HN.out.2 (by kernel_rfl) (by intro v hv; simp at hv; rcases hv with rfl | rfl | rfl | rfl | rfl | rfl | rfl <;> rfl) ?_; intro w4 E9 R9 T9 B9; have BA : Hid (Below w2.heap.size w2 w4) := BA.out.trans B9; have HX : Hid (Vr w4 w2.heap.size [.int .i64 g0, .int .i64 g1, .int .i64 g2, .int .i64 g3, .int .i64 g4, .int .i64 g5, .slice none 0 0, .slice none 0 0]) := ⟨R9, T9⟩; have HG : Hid (Vr w4 w.heap.size [.int .i64 g0, .int .i64 g1, .int .i64 g2, .int .i64 g3, .int .i64 g4, .int .i64 g5]) := HG.out.below BA.out LG.out; have HSD : Hid (Vr w4 w1.heap.size [.int .u8 sa, .int .u8 sb]) := HSD.out.below BA.out LS.out; have LG : Hid (w.heap.size < w4.heap.size ∧ w1.heap.size < w4.heap.size) := ⟨Nat.lt_of_lt_of_le LG.out BA.out.size, Nat.lt_of_lt_of_le LS.out BA.out.size⟩; have BB : Hid (Below w.heap.size w w4) := BB.out.trans (BA.out.mono BB.out.size); clear E9 R9 T9 B9 HN t3 g_0 g_1 g_2 g_3 g_4 g_5; have x_0 := HX.out.cell 0 _ rfl; have x_1 := HX.out.cell 1 _ rfl; have x_2 := HX.out.cell 2 _ rfl; have x_3 := HX.out.cell 3 _ rfl; have x_4 := HX.out.cell 4 _ rfl; have x_5 := HX.out.cell 5 _ rfl; have x_6 := HX.out.cell 6 _ rfl; have x_7 := HX.out.cell 7 _ rfl; have t4 := tR)
      | (have q2 := t2; (with_reducible refine at_alloc ?_); refine new_lawC _ [.int .i64 0, .int .i64 0, .int .i64 0, .int .i64 0, .int .i64 0, .int .i64 0, .slice none 0 0, .slice none 0 0] zero_case ?_; intro w3 X9 B9 l9; have HN : Hid (Vr w3 w2.heap.size [.int .i64 0, .int .i64 0, .int .i64 0, .int .i64 0, .int .i64 0, .int .i64 0, .slice none 0 0, .slice none 0 0]) := X9; have BA : Hid (Below w2.heap.size w2 w3) := B9; clear X9 B9 l9 t2; have t3 := tR)
      | (have q1 := t1; refine box_lawC _ [.int .u8 sa, .int .u8 sb] rfl ?_; intro w2 X9 B9 l9; have HSD : Hid (Vr w2 w1.heap.size [.int .u8 sa, .int .u8 sb]) := X9; have HG : Hid (Vr w2 w.heap.size [.int .i64 g0, .int .i64 g1, .int .i64 g2, .int .i64 g3, .int .i64 g4, .int .i64 g5]) := HG.out.below B9 LG.out; have LS : Hid (w1.heap.size < w2.heap.size) := l9; have LG : Hid (w.heap.size < w2.heap.size) := Nat.lt_of_lt_of_le LG.out B9.size; have BB : Hid (Below w.heap.size w w2) := BB.out.trans (B9.mono BB.out.size); have g_0 := HG.out.cell 0 _ rfl; have g_1 := HG.out.cell 1 _ rfl; have g_2 := HG.out.cell 2 _ rfl; have g_3 := HG.out.cell 3 _ rfl; have g_4 := HG.out.cell 4 _ rfl; have g_5 := HG.out.cell 5 _ rfl; clear X9 B9 l9 t1; have t2 := tR)
      | (have q0 := t0; refine box_lawC _ [.int .i64 g0, .int .i64 g1, .int .i64 g2, .int .i64 g3, .int .i64 g4, .int .i64 g5] rfl ?_; intro w1 X9 B9 l9; have HG : Hid (Vr w1 w.heap.size [.int .i64 g0, .int .i64 g1, .int .i64 g2, .int .i64 g3, .int .i64 g4, .int .i64 g5]) := X9; have BB : Hid (Below w.heap.size w w1) := B9; have LG : Hid (w.heap.size < w1.heap.size) := l9; clear X9 B9 l9 t0; have t1 := tR))
  go_ret
  exact ⟨rfl, BB.out⟩
theorem cr_B (g0 g1 g2 g3 g4 g5 : Int) (po : Option Addr) (pc : Nat) (fs : List (Int × Bool × Value)) (ms : Nat → List Int) (sa sb : Int) (w : World) (hf : Fls w (.slice po fs.length pc) fs) (hm : Mks w fs ms) (hT : Tab w) (hl : (ge.Rt [g0, g1, g2, g3, g4, g5] ∧ g0 ≤ 12 ∧ g1 ≤ 20 ∧ g2 ≤ 128)) (hn : ¬ (fs.length ≤ 64 ∧ Okp fs ms fs.length)) :
    Calls Tryz.prog 4 #[.agg (ints .i64 [g0, g1, g2, g3, g4, g5]), .slice po fs.length pc, .agg (ints .u8 [sa, sb])] w fun x w' => x = .returned (.bool true) ∧ Below w.heap.size w w' := by
  have HT : Hid (Tab w) := hT
  have SL : Hid (∀ w0, Calls Tryz.prog 7 #[.agg ([.int .i64 g0, .int .i64 g1, .int .i64 g2, .int .i64 g3, .int .i64 g4, .int .i64 g5, .slice none 0 0, .slice none 0 0] : List Value).toArray] w0 fun x w' => x = .returned (.bool true) ∧ Below w0.heap.size w0 w') := fun w0 => light_any g0 g1 g2 g3 g4 g5 none none 0 0 0 [] (fun _ => []) w0 (fls_nil w0) (fun t ht => absurd ht (Nat.not_lt_zero _)) true ⟨fun _ => ⟨hl.1, ⟨by simp, fun t ht => absurd ht (Nat.not_lt_zero _)⟩, hl.2.1, hl.2.2.1, hl.2.2.2, by omega⟩, fun _ => rfl⟩
  have SR : Hid (∀ w0, Below w.heap.size w w0 → Calls Tryz.prog 21 #[.slice po fs.length pc] w0 fun x w' => x = .returned (.bool false) ∧ Below w0.heap.size w0 w') := fun w0 b0 => (rright_any _ fs ms w0 (hf.below b0) (hm.below b0) false ⟨fun z => absurd z Bool.false_ne_true, fun z => absurd z hn⟩).mono fun _ _ ⟨z1, m, z2⟩ => ⟨z1, by rw [z2]; exact fa.below_drawn (Below.refl _ _) m⟩
  clear hn hf hm hT hl
  have t0 := tR
  go_enter Tryz.func4, Tryz.ntmps4
  go_wp2_with (first
      | (have q6 := t6; go_at_call 8; refine (awake_any _ (tab_up HT.out BB.out (Nat.le_refl _))).mono ?_; rintro e9 w9 ⟨rfl, B9⟩; have BB : Hid (Below w.heap.size w w9) := BB.out.trans (B9.mono BB.out.size); clear B9 t6; have t99 := tR)
      | (have q5 := t5; go_at_call 21; refine (SR.out w5 BB.out).mono ?_; rintro e9 w6 ⟨rfl, B9⟩; have HG : Hid (Vr w6 w.heap.size [.int .i64 g0, .int .i64 g1, .int .i64 g2, .int .i64 g3, .int .i64 g4, .int .i64 g5]) := HG.out.below B9 LG.out.1; have HSD : Hid (Vr w6 w1.heap.size [.int .u8 sa, .int .u8 sb]) := HSD.out.below B9 LG.out.2; have LG : Hid (w.heap.size < w6.heap.size ∧ w1.heap.size < w6.heap.size) := ⟨Nat.lt_of_lt_of_le LG.out.1 B9.size, Nat.lt_of_lt_of_le LG.out.2 B9.size⟩; have BB : Hid (Below w.heap.size w w6) := BB.out.trans (B9.mono BB.out.size); clear B9 t5 g_0 g_1 g_2 g_3 g_4 g_5; have g_0 := HG.out.cell 0 _ rfl; have g_1 := HG.out.cell 1 _ rfl; have g_2 := HG.out.cell 2 _ rfl; have g_3 := HG.out.cell 3 _ rfl; have g_4 := HG.out.cell 4 _ rfl; have g_5 := HG.out.cell 5 _ rfl; have t6 := tR)
      | (have q4 := t4; go_at_call 7; refine (SL.out w4).mono ?_; rintro e9 w5 ⟨rfl, B9⟩; have HG : Hid (Vr w5 w.heap.size [.int .i64 g0, .int .i64 g1, .int .i64 g2, .int .i64 g3, .int .i64 g4, .int .i64 g5]) := HG.out.below B9 LG.out.1; have HSD : Hid (Vr w5 w1.heap.size [.int .u8 sa, .int .u8 sb]) := HSD.out.below B9 LG.out.2; have LG : Hid (w.heap.size < w5.heap.size ∧ w1.heap.size < w5.heap.size) := ⟨Nat.lt_of_lt_of_le LG.out.1 B9.size, Nat.lt_of_lt_of_le LG.out.2 B9.size⟩; have BB : Hid (Below w.heap.size w w5) := BB.out.trans (B9.mono BB.out.size); clear B9 t4 x_0 x_1 x_2 x_3 x_4 x_5 x_6 x_7; have g_0 := HG.out.cell 0 _ rfl; have g_1 := HG.out.cell 1 _ rfl; have g_2 := HG.out.cell 2 _ rfl; have g_3 := HG.out.cell 3 _ rfl; have g_4 := HG.out.cell 4 _ rfl; have g_5 := HG.out.cell 5 _ rfl; have t5 := tR)
      | (have q3 := t3; (with_reducible refine at_store ?_); refine store_lawC _ [.int .i64 g0, .int .i64 g1, .int .i64 g2, .int .i64 g3, .int .i64 g4, .int .i64 g5, .slice none 0 0, .slice none 0 0] w2.heap.size 0 rfl rfl HN.out.2 (by kernel_rfl) (by intro v hv; simp at hv; rcases hv with rfl | rfl | rfl | rfl | rfl | rfl | rfl <;> rfl) ?_; intro w4 E9 R9 T9 B9; have BA : Hid (Below w2.heap.size w2 w4) := BA.out.trans B9; have HX : Hid (Vr w4 w2.heap.size [.int .i64 g0, .int .i64 g1, .int .i64 g2, .int .i64 g3, .int .i64 g4, .int .i64 g5, .slice none 0 0, .slice none 0 0]) := ⟨R9, T9⟩; have HG : Hid (Vr w4 w.heap.size [.int .i64 g0, .int .i64 g1, .int .i64 g2, .int .i64 g3, .int .i64 g4, .int .i64 g5]) := HG.out.below BA.out LG.out; have HSD : Hid (Vr w4 w1.heap.size [.int .u8 sa, .int .u8 sb]) := HSD.out.below BA.out LS.out; have LG : Hid (w.heap.size < w4.heap.size ∧ w1.heap.size < w4.heap.size) := ⟨Nat.lt_of_lt_of_le LG.out BA.out.size, Nat.lt_of_lt_of_le LS.out BA.out.size⟩; have BB : Hid (Below w.heap.size w w4) := BB.out.trans (BA.out.mono BB.out.size); clear E9 R9 T9 B9 HN t3 g_0 g_1 g_2 g_3 g_4 g_5; have x_0 := HX.out.cell 0 _ rfl; have x_1 := HX.out.cell 1 _ rfl; have x_2 := HX.out.cell 2 _ rfl; have x_3 := HX.out.cell 3 _ rfl; have x_4 := HX.out.cell 4 _ rfl; have x_5 := HX.out.cell 5 _ rfl; have x_6 := HX.out.cell 6 _ rfl; have x_7 := HX.out.cell 7 _ rfl; have t4 := tR)
      | (have q2 := t2; (with_reducible refine at_alloc ?_); refine new_lawC _ [.int .i64 0, .int .i64 0, .int .i64 0, .int .i64 0, .int .i64 0, .int .i64 0, .slice none 0 0, .slice none 0 0] zero_case ?_; intro w3 X9 B9 l9; have HN : Hid (Vr w3 w2.heap.size [.int .i64 0, .int .i64 0, .int .i64 0, .int .i64 0, .int .i64 0, .int .i64 0, .slice none 0 0, .slice none 0 0]) := X9; have BA : Hid (Below w2.heap.size w2 w3) := B9; clear X9 B9 l9 t2; have t3 := tR)
      | (have q1 := t1; refine box_lawC _ [.int .u8 sa, .int .u8 sb] rfl ?_; intro w2 X9 B9 l9; have HSD : Hid (Vr w2 w1.heap.size [.int .u8 sa, .int .u8 sb]) := X9; have HG : Hid (Vr w2 w.heap.size [.int .i64 g0, .int .i64 g1, .int .i64 g2, .int .i64 g3, .int .i64 g4, .int .i64 g5]) := HG.out.below B9 LG.out; have LS : Hid (w1.heap.size < w2.heap.size) := l9; have LG : Hid (w.heap.size < w2.heap.size) := Nat.lt_of_lt_of_le LG.out B9.size; have BB : Hid (Below w.heap.size w w2) := BB.out.trans (B9.mono BB.out.size); have g_0 := HG.out.cell 0 _ rfl; have g_1 := HG.out.cell 1 _ rfl; have g_2 := HG.out.cell 2 _ rfl; have g_3 := HG.out.cell 3 _ rfl; have g_4 := HG.out.cell 4 _ rfl; have g_5 := HG.out.cell 5 _ rfl; clear X9 B9 l9 t1; have t2 := tR)
      | (have q0 := t0; refine box_lawC _ [.int .i64 g0, .int .i64 g1, .int .i64 g2, .int .i64 g3, .int .i64 g4, .int .i64 g5] rfl ?_; intro w1 X9 B9 l9; have HG : Hid (Vr w1 w.heap.size [.int .i64 g0, .int .i64 g1, .int .i64 g2, .int .i64 g3, .int .i64 g4, .int .i64 g5]) := X9; have BB : Hid (Below w.heap.size w w1) := B9; have LG : Hid (w.heap.size < w1.heap.size) := l9; clear X9 B9 l9 t0; have t1 := tR))
  go_ret
  exact ⟨rfl, BB.out⟩
theorem cr_C (g0 g1 g2 g3 g4 g5 : Int) (po : Option Addr) (pc : Nat) (fs : List (Int × Bool × Value)) (ms : Nat → List Int) (sa sb : Int) (w : World) (hf : Fls w (.slice po fs.length pc) fs) (hm : Mks w fs ms) (hT : Tab w) (hl : (ge.Rt [g0, g1, g2, g3, g4, g5] ∧ g0 ≤ 12 ∧ g1 ≤ 20 ∧ g2 ≤ 128)) (hk : (fs.length ≤ 64 ∧ Okp fs ms fs.length)) (hn : ¬ fs.length ≤ 10) :
    Calls Tryz.prog 4 #[.agg (ints .i64 [g0, g1, g2, g3, g4, g5]), .slice po fs.length pc, .agg (ints .u8 [sa, sb])] w fun x w' => x = .returned (.bool true) ∧ Below w.heap.size w w' := by
  have HT : Hid (Tab w) := hT
  have SL : Hid (∀ w0, Calls Tryz.prog 7 #[.agg ([.int .i64 g0, .int .i64 g1, .int .i64 g2, .int .i64 g3, .int .i64 g4, .int .i64 g5, .slice none 0 0, .slice none 0 0] : List Value).toArray] w0 fun x w' => x = .returned (.bool true) ∧ Below w0.heap.size w0 w') := fun w0 => light_any g0 g1 g2 g3 g4 g5 none none 0 0 0 [] (fun _ => []) w0 (fls_nil w0) (fun t ht => absurd ht (Nat.not_lt_zero _)) true ⟨fun _ => ⟨hl.1, ⟨by simp, fun t ht => absurd ht (Nat.not_lt_zero _)⟩, hl.2.1, hl.2.2.1, hl.2.2.2, by omega⟩, fun _ => rfl⟩
  have SR : Hid (∀ w0, Below w.heap.size w w0 → Calls Tryz.prog 21 #[.slice po fs.length pc] w0 fun x w' => x = .returned (.bool true) ∧ Below w0.heap.size w0 w') := fun w0 b0 => (rright_any _ fs ms w0 (hf.below b0) (hm.below b0) true ⟨fun _ => hk, fun _ => rfl⟩).mono fun _ _ ⟨z1, m, z2⟩ => ⟨z1, by rw [z2]; exact fa.below_drawn (Below.refl _ _) m⟩
  have n1 : (10 : Int) < (fs.length : Int) := by omega
  generalize fs.length = nf at SR n1 ⊢
  clear hn hf hm hT hl hk
  have t0 := tR
  go_enter Tryz.func4, Tryz.ntmps4
  go_wp2_with (first
      | (have q6 := t6; go_at_call 8; refine (awake_any _ (tab_up HT.out BB.out (Nat.le_refl _))).mono ?_; rintro e9 w9 ⟨rfl, B9⟩; have BB : Hid (Below w.heap.size w w9) := BB.out.trans (B9.mono BB.out.size); clear B9 t6; have t99 := tR)
      | (have q5 := t5; go_at_call 21; refine (SR.out w5 BB.out).mono ?_; rintro e9 w6 ⟨rfl, B9⟩; have HG : Hid (Vr w6 w.heap.size [.int .i64 g0, .int .i64 g1, .int .i64 g2, .int .i64 g3, .int .i64 g4, .int .i64 g5]) := HG.out.below B9 LG.out.1; have HSD : Hid (Vr w6 w1.heap.size [.int .u8 sa, .int .u8 sb]) := HSD.out.below B9 LG.out.2; have LG : Hid (w.heap.size < w6.heap.size ∧ w1.heap.size < w6.heap.size) := ⟨Nat.lt_of_lt_of_le LG.out.1 B9.size, Nat.lt_of_lt_of_le LG.out.2 B9.size⟩; have BB : Hid (Below w.heap.size w w6) := BB.out.trans (B9.mono BB.out.size); clear B9 t5 g_0 g_1 g_2 g_3 g_4 g_5; have g_0 := HG.out.cell 0 _ rfl; have g_1 := HG.out.cell 1 _ rfl; have g_2 := HG.out.cell 2 _ rfl; have g_3 := HG.out.cell 3 _ rfl; have g_4 := HG.out.cell 4 _ rfl; have g_5 := HG.out.cell 5 _ rfl; have t6 := tR)
      | (have q4 := t4; go_at_call 7; refine (SL.out w4).mono ?_; rintro e9 w5 ⟨rfl, B9⟩; have HG : Hid (Vr w5 w.heap.size [.int .i64 g0, .int .i64 g1, .int .i64 g2, .int .i64 g3, .int .i64 g4, .int .i64 g5]) := HG.out.below B9 LG.out.1; have HSD : Hid (Vr w5 w1.heap.size [.int .u8 sa, .int .u8 sb]) := HSD.out.below B9 LG.out.2; have LG : Hid (w.heap.size < w5.heap.size ∧ w1.heap.size < w5.heap.size) := ⟨Nat.lt_of_lt_of_le LG.out.1 B9.size, Nat.lt_of_lt_of_le LG.out.2 B9.size⟩; have BB : Hid (Below w.heap.size w w5) := BB.out.trans (B9.mono BB.out.size); clear B9 t4 x_0 x_1 x_2 x_3 x_4 x_5 x_6 x_7; have g_0 := HG.out.cell 0 _ rfl; have g_1 := HG.out.cell 1 _ rfl; have g_2 := HG.out.cell 2 _ rfl; have g_3 := HG.out.cell 3 _ rfl; have g_4 := HG.out.cell 4 _ rfl; have g_5 := HG.out.cell 5 _ rfl; have t5 := tR)
      | (have q3 := t3; (with_reducible refine at_store ?_); refine store_lawC _ [.int .i64 g0, .int .i64 g1, .int .i64 g2, .int .i64 g3, .int .i64 g4, .int .i64 g5, .slice none 0 0, .slice none 0 0] w2.heap.size 0 rfl rfl HN.out.2 (by kernel_rfl) (by intro v hv; simp at hv; rcases hv with rfl | rfl | rfl | rfl | rfl | rfl | rfl <;> rfl) ?_; intro w4 E9 R9 T9 B9; have BA : Hid (Below w2.heap.size w2 w4) := BA.out.trans B9; have HX : Hid (Vr w4 w2.heap.size [.int .i64 g0, .int .i64 g1, .int .i64 g2, .int .i64 g3, .int .i64 g4, .int .i64 g5, .slice none 0 0, .slice none 0 0]) := ⟨R9, T9⟩; have HG : Hid (Vr w4 w.heap.size [.int .i64 g0, .int .i64 g1, .int .i64 g2, .int .i64 g3, .int .i64 g4, .int .i64 g5]) := HG.out.below BA.out LG.out; have HSD : Hid (Vr w4 w1.heap.size [.int .u8 sa, .int .u8 sb]) := HSD.out.below BA.out LS.out; have LG : Hid (w.heap.size < w4.heap.size ∧ w1.heap.size < w4.heap.size) := ⟨Nat.lt_of_lt_of_le LG.out BA.out.size, Nat.lt_of_lt_of_le LS.out BA.out.size⟩; have BB : Hid (Below w.heap.size w w4) := BB.out.trans (BA.out.mono BB.out.size); clear E9 R9 T9 B9 HN t3 g_0 g_1 g_2 g_3 g_4 g_5; have x_0 := HX.out.cell 0 _ rfl; have x_1 := HX.out.cell 1 _ rfl; have x_2 := HX.out.cell 2 _ rfl; have x_3 := HX.out.cell 3 _ rfl; have x_4 := HX.out.cell 4 _ rfl; have x_5 := HX.out.cell 5 _ rfl; have x_6 := HX.out.cell 6 _ rfl; have x_7 := HX.out.cell 7 _ rfl; have t4 := tR)
      | (have q2 := t2; (with_reducible refine at_alloc ?_); refine new_lawC _ [.int .i64 0, .int .i64 0, .int .i64 0, .int .i64 0, .int .i64 0, .int .i64 0, .slice none 0 0, .slice none 0 0] zero_case ?_; intro w3 X9 B9 l9; have HN : Hid (Vr w3 w2.heap.size [.int .i64 0, .int .i64 0, .int .i64 0, .int .i64 0, .int .i64 0, .int .i64 0, .slice none 0 0, .slice none 0 0]) := X9; have BA : Hid (Below w2.heap.size w2 w3) := B9; clear X9 B9 l9 t2; have t3 := tR)
      | (have q1 := t1; refine box_lawC _ [.int .u8 sa, .int .u8 sb] rfl ?_; intro w2 X9 B9 l9; have HSD : Hid (Vr w2 w1.heap.size [.int .u8 sa, .int .u8 sb]) := X9; have HG : Hid (Vr w2 w.heap.size [.int .i64 g0, .int .i64 g1, .int .i64 g2, .int .i64 g3, .int .i64 g4, .int .i64 g5]) := HG.out.below B9 LG.out; have LS : Hid (w1.heap.size < w2.heap.size) := l9; have LG : Hid (w.heap.size < w2.heap.size) := Nat.lt_of_lt_of_le LG.out B9.size; have BB : Hid (Below w.heap.size w w2) := BB.out.trans (B9.mono BB.out.size); have g_0 := HG.out.cell 0 _ rfl; have g_1 := HG.out.cell 1 _ rfl; have g_2 := HG.out.cell 2 _ rfl; have g_3 := HG.out.cell 3 _ rfl; have g_4 := HG.out.cell 4 _ rfl; have g_5 := HG.out.cell 5 _ rfl; clear X9 B9 l9 t1; have t2 := tR)
      | (have q0 := t0; refine box_lawC _ [.int .i64 g0, .int .i64 g1, .int .i64 g2, .int .i64 g3, .int .i64 g4, .int .i64 g5] rfl ?_; intro w1 X9 B9 l9; have HG : Hid (Vr w1 w.heap.size [.int .i64 g0, .int .i64 g1, .int .i64 g2, .int .i64 g3, .int .i64 g4, .int .i64 g5]) := X9; have BB : Hid (Below w.heap.size w w1) := B9; have LG : Hid (w.heap.size < w1.heap.size) := l9; clear X9 B9 l9 t0; have t1 := tR))
  go_ret
  exact ⟨rfl, BB.out⟩
theorem cr_D (N P S : Nat) (g3 g4 g5 : Int) (po : Option Addr) (pc : Nat) (fs : List (Int × Bool × Value)) (ms : Nat → List Int) (sa sb : Int) (w : World) (hf : Fls w (.slice po fs.length pc) fs) (hm : Mks w fs ms) (hT : Tab w) (ha : 0 ≤ sa ∧ sa ≤ 255) (hb : 0 ≤ sb ∧ sb ≤ 255) (hl : (ge.Rt [(N : Int), (P : Int), (S : Int), g3, g4, g5] ∧ (N : Int) ≤ 12 ∧ (P : Int) ≤ 20 ∧ (S : Int) ≤ 128)) (hk : (fs.length ≤ 64 ∧ Okp fs ms fs.length)) (hn : fs.length ≤ 10) :
    Calls Tryz.prog 4 #[.agg (ints .i64 [(N : Int), (P : Int), (S : Int), g3, g4, g5]), .slice po fs.length pc, .agg (ints .u8 [sa, sb])] w fun x w' => x = .returned (.bool true) ∧ Below w.heap.size w w' := by
  have HT : Hid (Tab w) := hT
  have SL : Hid (∀ w0, Calls Tryz.prog 7 #[.agg ([.int .i64 (N : Int), .int .i64 (P : Int), .int .i64 (S : Int), .int .i64 g3, .int .i64 g4, .int .i64 g5, .slice none 0 0, .slice none 0 0] : List Value).toArray] w0 fun x w' => x = .returned (.bool true) ∧ Below w0.heap.size w0 w') := fun w0 => light_any (N : Int) (P : Int) (S : Int) g3 g4 g5 none none 0 0 0 [] (fun _ => []) w0 (fls_nil w0) (fun t ht => absurd ht (Nat.not_lt_zero _)) true ⟨fun _ => ⟨hl.1, ⟨by simp, fun t ht => absurd ht (Nat.not_lt_zero _)⟩, hl.2.1, hl.2.2.1, hl.2.2.2, by omega⟩, fun _ => rfl⟩
  have SR : Hid (∀ w0, Below w.heap.size w w0 → Calls Tryz.prog 21 #[.slice po fs.length pc] w0 fun x w' => x = .returned (.bool true) ∧ Below w0.heap.size w0 w') := fun w0 b0 => (rright_any _ fs ms w0 (hf.below b0) (hm.below b0) true ⟨fun _ => hk, fun _ => rfl⟩).mono fun _ _ ⟨z1, m, z2⟩ => ⟨z1, by rw [z2]; exact fa.below_drawn (Below.refl _ _) m⟩
  have hr := hl.1
  have HRT : Hid (ge.Rt [(N : Int), (P : Int), (S : Int), g3, g4, g5]) := hr
  have s12 := rt_sec hr
  have nl := nc_le s12.1 s12.2
  have SCH : Hid (∀ w0, Calls Tryz.prog 22 #[.agg (ints .i64 [(N : Int), (P : Int), (S : Int), g3, g4, g5])] w0 fun x w' => x = .returned (.int .i64 (nc S : Int)) ∧ Below w0.heap.size w0 w') := fun w0 => rchunks_nc hr w0
  obtain ⟨n, en⟩ : ∃ n, nc S = n := ⟨_, rfl⟩
  have HNC : Hid (nc S = n ∧ 1 ≤ n ∧ n ≤ 20) := ⟨en, by omega, by omega⟩
  rw [en] at SCH
  have wn : IntKind.i64.wrap ((n : Int) + 20) = (n : Int) + 20 := by rw [IntKind.wrap_i64]; omega
  have HFL : Hid (Fls w (.slice po fs.length pc) fs) := hf
  have HMK : Hid (Mks w fs ms) := hm
  have HOK : Hid ((fs.length ≤ 64 ∧ Okp fs ms fs.length) ∧ fs.length ≤ 10) := ⟨hk, hn⟩
  have HAB : Hid ((0 ≤ sa ∧ sa ≤ 255) ∧ (0 ≤ sb ∧ sb ≤ 255)) := ⟨ha, hb⟩
  obtain ⟨nf, enf⟩ : ∃ nf, fs.length = nf := ⟨_, rfl⟩
  have ENF : Hid (fs.length = nf) := enf
  have hnf : nf ≤ 10 := by omega
  have nf10 : ¬ (10 : Int) < (nf : Int) := by omega
  rw [enf] at SR ⊢
  clear hf hm hT ha hb hl hk hn s12 nl en enf hr
  have t0 := tR
  go_enter Tryz.func4, Tryz.ntmps4
  go_wp2_with (first
    | (have q6 := t6; go_at_call 22; refine (SCH.out w6).mono ?_; rintro e9 w7 ⟨rfl, B9⟩; have HG : Hid (Vr w7 w.heap.size [.int .i64 (N : Int), .int .i64 (P : Int), .int .i64 (S : Int), .int .i64 g3, .int .i64 g4, .int .i64 g5]) := HG.out.below B9 LG.out.1; have HSD : Hid (Vr w7 w1.heap.size [.int .u8 sa, .int .u8 sb]) := HSD.out.below B9 LG.out.2; have LG : Hid (w.heap.size < w7.heap.size ∧ w1.heap.size < w7.heap.size) := ⟨Nat.lt_of_lt_of_le LG.out.1 B9.size, Nat.lt_of_lt_of_le LG.out.2 B9.size⟩; have BB : Hid (Below w.heap.size w w7) := BB.out.trans (B9.mono BB.out.size); clear B9 t6 g_0 g_1 g_2 g_3 g_4 g_5; have t7 := tR)
    | (have q5 := t5; go_at_call 21; refine (SR.out w5 BB.out).mono ?_; rintro e9 w6 ⟨rfl, B9⟩; have HG : Hid (Vr w6 w.heap.size [.int .i64 (N : Int), .int .i64 (P : Int), .int .i64 (S : Int), .int .i64 g3, .int .i64 g4, .int .i64 g5]) := HG.out.below B9 LG.out.1; have HSD : Hid (Vr w6 w1.heap.size [.int .u8 sa, .int .u8 sb]) := HSD.out.below B9 LG.out.2; have LG : Hid (w.heap.size < w6.heap.size ∧ w1.heap.size < w6.heap.size) := ⟨Nat.lt_of_lt_of_le LG.out.1 B9.size, Nat.lt_of_lt_of_le LG.out.2 B9.size⟩; have BB : Hid (Below w.heap.size w w6) := BB.out.trans (B9.mono BB.out.size); clear B9 t5 g_0 g_1 g_2 g_3 g_4 g_5; have g_0 := HG.out.cell 0 _ rfl; have g_1 := HG.out.cell 1 _ rfl; have g_2 := HG.out.cell 2 _ rfl; have g_3 := HG.out.cell 3 _ rfl; have g_4 := HG.out.cell 4 _ rfl; have g_5 := HG.out.cell 5 _ rfl; have t6 := tR)
    | (have q4 := t4; go_at_call 7; refine (SL.out w4).mono ?_; rintro e9 w5 ⟨rfl, B9⟩; have HG : Hid (Vr w5 w.heap.size [.int .i64 (N : Int), .int .i64 (P : Int), .int .i64 (S : Int), .int .i64 g3, .int .i64 g4, .int .i64 g5]) := HG.out.below B9 LG.out.1; have HSD : Hid (Vr w5 w1.heap.size [.int .u8 sa, .int .u8 sb]) := HSD.out.below B9 LG.out.2; have LG : Hid (w.heap.size < w5.heap.size ∧ w1.heap.size < w5.heap.size) := ⟨Nat.lt_of_lt_of_le LG.out.1 B9.size, Nat.lt_of_lt_of_le LG.out.2 B9.size⟩; have BB : Hid (Below w.heap.size w w5) := BB.out.trans (B9.mono BB.out.size); clear B9 t4 x_0 x_1 x_2 x_3 x_4 x_5 x_6 x_7; have g_0 := HG.out.cell 0 _ rfl; have g_1 := HG.out.cell 1 _ rfl; have g_2 := HG.out.cell 2 _ rfl; have g_3 := HG.out.cell 3 _ rfl; have g_4 := HG.out.cell 4 _ rfl; have g_5 := HG.out.cell 5 _ rfl; have t5 := tR)
    | (have q3 := t3; (with_reducible refine at_store ?_); refine store_lawC _ [.int .i64 (N : Int), .int .i64 (P : Int), .int .i64 (S : Int), .int .i64 g3, .int .i64 g4, .int .i64 g5, .slice none 0 0, .slice none 0 0] w2.heap.size 0 rfl rfl HN.out.2 (by kernel_rfl) (by intro v hv; simp at hv; rcases hv with rfl | rfl | rfl | rfl | rfl | rfl | rfl <;> rfl) ?_; intro w4 E9 R9 T9 B9; have BA : Hid (Below w2.heap.size w2 w4) := BA.out.trans B9; have HX : Hid (Vr w4 w2.heap.size [.int .i64 (N : Int), .int .i64 (P : Int), .int .i64 (S : Int), .int .i64 g3, .int .i64 g4, .int .i64 g5, .slice none 0 0, .slice none 0 0]) := ⟨R9, T9⟩; have HG : Hid (Vr w4 w.heap.size [.int .i64 (N : Int), .int .i64 (P : Int), .int .i64 (S : Int), .int .i64 g3, .int .i64 g4, .int .i64 g5]) := HG.out.below BA.out LG.out; have HSD : Hid (Vr w4 w1.heap.size [.int .u8 sa, .int .u8 sb]) := HSD.out.below BA.out LS.out; have LG : Hid (w.heap.size < w4.heap.size ∧ w1.heap.size < w4.heap.size) := ⟨Nat.lt_of_lt_of_le LG.out BA.out.size, Nat.lt_of_lt_of_le LS.out BA.out.size⟩; have BB : Hid (Below w.heap.size w w4) := BB.out.trans (BA.out.mono BB.out.size); clear E9 R9 T9 B9 HN t3 g_0 g_1 g_2 g_3 g_4 g_5; have x_0 := HX.out.cell 0 _ rfl; have x_1 := HX.out.cell 1 _ rfl; have x_2 := HX.out.cell 2 _ rfl; have x_3 := HX.out.cell 3 _ rfl; have x_4 := HX.out.cell 4 _ rfl; have x_5 := HX.out.cell 5 _ rfl; have x_6 := HX.out.cell 6 _ rfl; have x_7 := HX.out.cell 7 _ rfl; have t4 := tR)
    | (have q2 := t2; (with_reducible refine at_alloc ?_); refine new_lawC _ [.int .i64 0, .int .i64 0, .int .i64 0, .int .i64 0, .int .i64 0, .int .i64 0, .slice none 0 0, .slice none 0 0] zero_case ?_; intro w3 X9 B9 l9; have HN : Hid (Vr w3 w2.heap.size [.int .i64 0, .int .i64 0, .int .i64 0, .int .i64 0, .int .i64 0, .int .i64 0, .slice none 0 0, .slice none 0 0]) := X9; have BA : Hid (Below w2.heap.size w2 w3) := B9; clear X9 B9 l9 t2; have t3 := tR)
    | (have q1 := t1; refine box_lawC _ [.int .u8 sa, .int .u8 sb] rfl ?_; intro w2 X9 B9 l9; have HSD : Hid (Vr w2 w1.heap.size [.int .u8 sa, .int .u8 sb]) := X9; have HG : Hid (Vr w2 w.heap.size [.int .i64 (N : Int), .int .i64 (P : Int), .int .i64 (S : Int), .int .i64 g3, .int .i64 g4, .int .i64 g5]) := HG.out.below B9 LG.out; have LS : Hid (w1.heap.size < w2.heap.size) := l9; have LG : Hid (w.heap.size < w2.heap.size) := Nat.lt_of_lt_of_le LG.out B9.size; have BB : Hid (Below w.heap.size w w2) := BB.out.trans (B9.mono BB.out.size); have g_0 := HG.out.cell 0 _ rfl; have g_1 := HG.out.cell 1 _ rfl; have g_2 := HG.out.cell 2 _ rfl; have g_3 := HG.out.cell 3 _ rfl; have g_4 := HG.out.cell 4 _ rfl; have g_5 := HG.out.cell 5 _ rfl; clear X9 B9 l9 t1; have t2 := tR)
    | (have q0 := t0; refine box_lawC _ [.int .i64 (N : Int), .int .i64 (P : Int), .int .i64 (S : Int), .int .i64 g3, .int .i64 g4, .int .i64 g5] rfl ?_; intro w1 X9 B9 l9; have HG : Hid (Vr w1 w.heap.size [.int .i64 (N : Int), .int .i64 (P : Int), .int .i64 (S : Int), .int .i64 g3, .int .i64 g4, .int .i64 g5]) := X9; have BB : Hid (Below w.heap.size w w1) := B9; have LG : Hid (w.heap.size < w1.heap.size) := l9; clear X9 B9 l9 t0; have t1 := tR))
  have HG0 : Hid (Vr w7 w.heap.size [.int .i64 (N : Int), .int .i64 (P : Int), .int .i64 (S : Int), .int .i64 g3, .int .i64 g4, .int .i64 g5]) := HG.out
  have HSD0 : Hid (Vr w7 w1.heap.size [.int .u8 sa, .int .u8 sb]) := HSD.out
  have BW : Hid (Below w.heap.size w w7) := BB.out
  have LW : Hid (w.heap.size < w7.heap.size ∧ w1.heap.size < w7.heap.size) := LG.out
  clear HG HSD BB LG
  go_loopw [9, 10] (fun v i wr => ∃ (k : Nat) (v0 : Value), k ≤ nf ∧ i = .int .i64 (k : Int) ∧ v = v0 ∧ Hid (na.OwR w7.heap.size wr v0 63 3 ((lfs fs (lates fs ((n + 20 : Nat) : Int) k)).map fl)) ∧ Hid (Below w7.heap.size w7 wr)) (fun _ i _ => nf - (intOf i).toNat)
  case atStart => exact ⟨0, _, Nat.zero_le _, rfl, rfl, na.OwR.empty w7 63 3 (Nat.le_refl _), (Below.refl _ _).alloc (Nat.le_refl _) _⟩
  case round =>
    obtain ⟨k, _, hk, rfl, rfl, HO, HB⟩ := hrel
    by_cases hlt : k < nf
    · have lk1 : (k : Int) < (nf : Int) := by omega
      have lk0 : (0 : Int) ≤ (k : Int) := by omega
      have lk2 : IntKind.i64.wrap ((k : Int) + 1) = (k : Int) + 1 := by rw [IntKind.wrap_i64]; omega
      have hkl : k < fs.length := by rw [ENF.out]; exact hlt
      have BX : Below w.heap.size w wr := BW.out.trans (HB.out.mono BW.out.size)
      obtain ⟨ao, cap, e1, -, -, -, h5⟩ := HFL.out.below BX
      obtain ⟨fb, fo, e2, hc⟩ := h5 (by omega)
      rw [ENF.out] at e1
      injection e1 with e1 e3 e4
      rw [e2] at e1
      subst e1
      clear e3 e4 h5
      obtain ⟨c0, c1, c2⟩ := hc k hkl
      obtain ⟨mo, mc, em⟩ := fa.byt_form (HMK.out k hkl).1
      have EF : Hid (fl (gf fs k) = [.int .i64 (gf fs k).1, .bool (gf fs k).2.1, (gf fs k).2.2]) := rfl
      rw [em] at c2 EF
      have HYS : Hid (n + 20 ≤ (gf fs k).1 → lates fs ((n + 20 : Nat) : Int) (k + 1) = lates fs ((n + 20 : Nat) : Int) k ++ [k]) := fun z => lates_yes (by omega)
      have HNO : Hid (¬ (n + 20 : Int) ≤ (gf fs k).1 → lates fs ((n + 20 : Nat) : Int) (k + 1) = lates fs ((n + 20 : Nat) : Int) k) := fun z => lates_no (by omega)
      have HLE : Hid ((lates fs ((n + 20 : Nat) : Int) k).length ≤ 10) := by have := lates_len fs ((n + 20 : Nat) : Int) k; show _ ≤ _; omega
      generalize (ms k).length = mn at c2 EF em
      generalize hA : (gf fs k).1 = At at c0 EF HYS HNO
      generalize hC : (gf fs k).2.1 = Cr at c1 EF
      clear hA hC em hc hkl BX
      by_cases hge : (n + 20 : Int) ≤ At
      · have HY : Hid (lates fs ((n + 20 : Nat) : Int) (k + 1) = lates fs ((n + 20 : Nat) : Int) k ++ [k]) := HYS.out hge
        clear HYS HNO
        have t8 := tR
        go_wp2_with (first
          | (have q8 := t8; at_builtin; refine pushQ_law _ rfl (.tmp 54) (.tmp 59) rfl w7.heap.size (by have := HB.out.size; simp; omega) u9 ((lfs fs (lates fs ((n + 20 : Nat) : Int) k)).map fl) [.int .i64 At, .bool Cr, .slice mo mn mc] ⟨wr.heap.size, 0, none⟩ 1 rfl rfl ⟨World.ownsRow.alloc HO.out.1 _, HO.out.2⟩ rfl (fun j u hj => one_new wr 63 [.int .i64 At, .bool Cr, .slice mo mn mc] j u hj) (by intro u hu; simp at hu; rcases hu with h | h | h <;> (subst h; rfl)) (by unfold lfs; rw [List.length_map, List.length_map]; have := HLE.out; omega) ?_; intro v1 w8 o9 b9; have HO1 : Hid (na.OwR w7.heap.size w8 v1 63 3 ((lfs fs (lates fs ((n + 20 : Nat) : Int) (k + 1))).map fl)) := (by show na.OwR _ _ _ _ _ _; rw [HY.out]; unfold lfs; rw [List.map_append, List.map_append]; show na.OwR _ _ _ _ _ (_ ++ [fl (gf fs k)]); rw [EF.out]; exact o9); have HB1 : Hid (Below w7.heap.size w7 w8) := (HB.out.trans (((Below.refl _ _).alloc (Nat.le_refl _) _).mono HB.out.size)).trans b9; clear o9 b9 t8 c0 c1 c2; have t9 := tR))
        go_roundw
        case rel => exact ⟨k + 1, v1, by omega, by go_num, rfl, HO1, HB1⟩
        case measure => simp [intOf]; omega
      · have HN : Hid (lates fs ((n + 20 : Nat) : Int) (k + 1) = lates fs ((n + 20 : Nat) : Int) k) := HNO.out hge
        have nge : ¬ At ≥ (n + 20 : Int) := hge
        clear HYS HNO
        go_wp2
        go_roundw
        case rel => exact ⟨k + 1, u9, by omega, by go_num, rfl, by rw [HN.out]; exact HO, HB⟩
        case measure => simp [intOf]; omega
    · have ek : k = nf := by omega
      subst ek
      have BX : Below w.heap.size w wr := BW.out.trans (HB.out.mono BW.out.size)
      have HBX : Hid (Below w.heap.size w wr) := BX
      have HTR : Hid (Tab wr) := HT.out.below BX
      have HSR : Hid (Vr wr w1.heap.size [.int .u8 sa, .int .u8 sb]) := HSD0.out.below HB.out LW.out.2
      have LSR : Hid (w1.heap.size < wr.heap.size) := Nat.lt_of_lt_of_le LW.out.2 HB.out.size
      have HGR := HG0.out.below HB.out LW.out.1
      have g_0 := HGR.cell 0 _ rfl
      have g_1 := HGR.cell 1 _ rfl
      have g_2 := HGR.cell 2 _ rfl
      have g_3 := HGR.cell 3 _ rfl
      have g_4 := HGR.cell 4 _ rfl
      have g_5 := HGR.cell 5 _ rfl
      have hll : (lfs fs (lates fs ((n + 20 : Nat) : Int) k)).length = (lates fs ((n + 20 : Nat) : Int) k).length := by unfold lfs; rw [List.length_map]
      have hl10 : (lates fs ((n + 20 : Nat) : Int) k).length ≤ 10 := Nat.le_trans (lates_len _ _ _) hnf
      have lat : ∀ t, t < (lfs fs (lates fs ((n + 20 : Nat) : Int) k)).length → gf (lfs fs (lates fs ((n + 20 : Nat) : Int) k)) t = gf fs ((lates fs ((n + 20 : Nat) : Int) k).getD t 0) ∧ (lates fs ((n + 20 : Nat) : Int) k).getD t 0 < fs.length := fun t ht => by
        rw [hll] at ht
        exact ⟨gf_lfs ht, by rw [ENF.out]; exact (lates_at ht).1⟩
      have HFQ : Fls wr u9 (lfs fs (lates fs ((n + 20 : Nat) : Int) k)) := owq_fls HO.out
      have HMQ : Mks wr (lfs fs (lates fs ((n + 20 : Nat) : Int) k)) (lms ms (lates fs ((n + 20 : Nat) : Int) k)) := fun t ht => by
        rw [(lat t ht).1]
        exact (HMK.out.below BX) _ (lat t ht).2
      have OKQ : Okp (lfs fs (lates fs ((n + 20 : Nat) : Int) k)) (lms ms (lates fs ((n + 20 : Nat) : Int) k)) (lfs fs (lates fs ((n + 20 : Nat) : Int) k)).length := fun t ht => by
        rw [(lat t ht).1]
        exact HOK.out.1.2 _ (lat t ht).2
      obtain ⟨pl, epl⟩ : ∃ pl, na.plnOf (lfs fs (lates fs ((n + 20 : Nat) : Int) k)) (lms ms (lates fs ((n + 20 : Nat) : Int) k)) = pl := ⟨_, rfl⟩
      have HPN : ∀ j, j < n + 20 → pl j = none := fun j hj => by rw [← epl]; exact late_none hj
      have SN : Hid (∀ w0, w0 = wr → Calls Tryz.prog 9 #[.agg (ints .i64 [(N : Int), (P : Int), (S : Int), g3, g4, g5]), u9] w0 fun e w' => ∃ H M, e = .returned (.tuple #[.pointer (some ⟨H.c, 0, none⟩), .int .i64 0]) ∧ Cs H M w' (na.new (S + 88)) [] ∧ (∀ k, M k = true → wr.heap.size ≤ k) ∧ Below wr.heap.size wr w' ∧ HIs H N P S g3 g4 g5 pl) := fun w0 e => by
        subst e
        refine (new_cs N P S g3 g4 g5 ⟨rfl, HRT.out, rfl, rfl, by show (S : Int) + 88 = ((S + 88 : Nat) : Int); omega⟩ u9 _ _ w0 HFQ HMQ (by omega) OKQ).mono ?_
        rintro e w' ⟨H, M, h1, h2, h3, h4, n1, n2, n3, n4, n5, n6, n7⟩
        exact ⟨H, M, h1, h2, h3, h4, n1, n2, n3, n4, n5, n6, n7.trans epl⟩
      have s12 := rt_sec HRT.out
      have hP : nc S ≤ P := by
        have z := HRT.out.2.2.1
        rw [rec_nc] at z
        have e : gb [(N : Int), (P : Int), (S : Int), g3, g4, g5] 1 = (P : Int) := rfl
        rw [e] at z
        omega
      have hN4 : 4 ≤ N := by
        have z := HRT.out.1.1.1
        have e : gb [(N : Int), (P : Int), (S : Int), g3, g4, g5] 0 = (N : Int) := rfl
        rw [e] at z
        omega
      have xa : (rcd sa 624).length = 624 := rcd_len _ _
      have xb : (rcd sb 624).length = 624 := rcd_len _ _
      have hnc := HNC.out
      obtain ⟨c1, c2, c3, c4, c5, c6, c7⟩ := cmt_first (N := N) (P := P) (pl := pl) (xs := rcd sa 624) (g := 7) s12.1 s12.2 hP hN4 xa (rcd_all HAB.out.1 _) (by omega) (fun j hj => HPN j (by omega))
      have o2 := cmt_ops (N := N) (P := P) (T := S + 88) (pl := pl) (b := (cmt N P (S + 88) pl (b0 (S + 88)) (lps S (rcd sa 624) 7) 7).1) (l := lps S (rcd sb 624) 8) (gen := 8)
      have o3 := cmt_ops (N := N) (P := P) (T := S + 88) (pl := pl) (b := (cmt N P (S + 88) pl (cmt N P (S + 88) pl (b0 (S + 88)) (lps S (rcd sa 624) 7) 7).1 (lps S (rcd sb 624) 8) 8).1) (l := lps S (rcd sb 624) 9) (gen := 9)
      rw [lps_len] at o2 o3
      have p1 : Plc (cmt N P (S + 88) pl (b0 (S + 88)) (lps S (rcd sa 624) 7) 7).1.cur := ⟨1, by omega, c7.trans (by omega)⟩
      have p2 := cmt_plc (N := N) (P := P) (T := S + 88) (pl := pl) (l := lps S (rcd sb 624) 8) (gen := 8) p1
      have cro := crash_out (N := N) (P := P) (pl := pl) (x0 := rcd sa 624) (x1 := rcd sb 624) (b := (cmt N P (S + 88) pl (b0 (S + 88)) (lps S (rcd sa 624) 7) 7).1) s12.1 s12.2 hP hN4 xb (rcd_all HAB.out.2 _) c2 c3 c6
      have sc1 : ∀ H M w0 B l v, HIs H N P S g3 g4 g5 pl → Bs H M w0 B (b0 (S + 88)) l → Byt w0 v (rcd sa 624) → Tab w0 → Calls Tryz.prog 18 #[.pointer (some ⟨B, 0, none⟩), v, .int .u64 7] w0 (Opd H M w0 B (cmt N P (S + 88) pl (b0 (S + 88)) (lps S (rcd sa 624) 7) 7).2 (cmt N P (S + 88) pl (b0 (S + 88)) (lps S (rcd sa 624) 7) 7).1) := fun H M w0 B l v hh hb hy ht => commit_at hh hb ⟨0, by omega, rfl⟩ v _ hy xa 7 (by omega) ht (show (0 : Nat) ≤ 900000 by omega)
      have sc2 : ∀ H M w0 B l v, HIs H N P S g3 g4 g5 pl → Bs H M w0 B (cmt N P (S + 88) pl (b0 (S + 88)) (lps S (rcd sa 624) 7) 7).1 l → Byt w0 v (rcd sb 624) → Tab w0 → Calls Tryz.prog 18 #[.pointer (some ⟨B, 0, none⟩), v, .int .u64 8] w0 (Opd H M w0 B (cmt N P (S + 88) pl (cmt N P (S + 88) pl (b0 (S + 88)) (lps S (rcd sa 624) 7) 7).1 (lps S (rcd sb 624) 8) 8).2 (cmt N P (S + 88) pl (cmt N P (S + 88) pl (b0 (S + 88)) (lps S (rcd sa 624) 7) 7).1 (lps S (rcd sb 624) 8) 8).1) := fun H M w0 B l v hh hb hy ht => commit_at hh hb p1 v _ hy xb 8 (by omega) ht (by have : na.ops (cmt N P (S + 88) pl (b0 (S + 88)) (lps S (rcd sa 624) 7) 7).1.s = nc S + 5 := c4; omega)
      have sc3 : ∀ H M w0 B l v, HIs H N P S g3 g4 g5 pl → Bs H M w0 B (cmt N P (S + 88) pl (cmt N P (S + 88) pl (b0 (S + 88)) (lps S (rcd sa 624) 7) 7).1 (lps S (rcd sb 624) 8) 8).1 l → Byt w0 v (rcd sb 624) → Tab w0 → Calls Tryz.prog 18 #[.pointer (some ⟨B, 0, none⟩), v, .int .u64 9] w0 (Opd H M w0 B (cmt N P (S + 88) pl (cmt N P (S + 88) pl (cmt N P (S + 88) pl (b0 (S + 88)) (lps S (rcd sa 624) 7) 7).1 (lps S (rcd sb 624) 8) 8).1 (lps S (rcd sb 624) 9) 9).2 (cmt N P (S + 88) pl (cmt N P (S + 88) pl (cmt N P (S + 88) pl (b0 (S + 88)) (lps S (rcd sa 624) 7) 7).1 (lps S (rcd sb 624) 8) 8).1 (lps S (rcd sb 624) 9) 9).1) := fun H M w0 B l v hh hb hy ht => commit_at hh hb p2 v _ hy xb 9 (by omega) ht (by have : na.ops (cmt N P (S + 88) pl (b0 (S + 88)) (lps S (rcd sa 624) 7) 7).1.s = nc S + 5 := c4; omega)
      have c1 : (cmt N P (S + 88) pl (b0 (S + 88)) (lps S (rcd sa 624) 7) 7).2 = 0 := c1
      have c4 : na.ops (cmt N P (S + 88) pl (b0 (S + 88)) (lps S (rcd sa 624) 7) 7).1.s = nc S + 5 := c4
      clear c2 c3 c5 c6 c7 p1 p2 hP hN4 s12 xa xb HFQ HMQ OKQ lat hl10 hll HPN epl HGR BX
      generalize cmt N P (S + 88) pl (b0 (S + 88)) (lps S (rcd sa 624) 7) 7 = r1 at c1 c4 o2 o3 cro sc1 sc2 sc3
      generalize cmt N P (S + 88) pl r1.1 (lps S (rcd sb 624) 8) 8 = r2 at o2 o3 cro sc2 sc3
      generalize cmt N P (S + 88) pl r2.1 (lps S (rcd sb 624) 9) 9 = r3 at o3 cro sc3
      obtain ⟨b1, y1⟩ := r1
      obtain ⟨b2, y2⟩ := r2
      obtain ⟨b3, y3⟩ := r3
      have ey : y1 = 0 := c1
      subst ey
      have HOP : Hid ((na.ops b1.s : Int) = (n : Int) + 5) := by have : na.ops b1.s = nc S + 5 := c4; show _ = _; omega
      have HO3 : Hid (na.ops b3.s ≤ 500) := by
        have z1 : na.ops b1.s = nc S + 5 := c4
        have z2 : na.ops b2.s ≤ na.ops b1.s + 8 * (nc S + 6) := o2
        have z3 : na.ops b3.s ≤ na.ops b2.s + 8 * (nc S + 6) := o3
        show _ ≤ _
        omega
      have SC1 : Hid (∀ H M w0 B l v, HIs H N P S g3 g4 g5 pl → Bs H M w0 B (b0 (S + 88)) l → Byt w0 v (rcd sa 624) → Tab w0 → Calls Tryz.prog 18 #[.pointer (some ⟨B, 0, none⟩), v, .int .u64 7] w0 (Opd H M w0 B 0 b1)) := sc1
      have SC2 : Hid (∀ H M w0 B l v, HIs H N P S g3 g4 g5 pl → Bs H M w0 B b1 l → Byt w0 v (rcd sb 624) → Tab w0 → Calls Tryz.prog 18 #[.pointer (some ⟨B, 0, none⟩), v, .int .u64 8] w0 (Opd H M w0 B y2 b2)) := sc2
      have SC3 : Hid (∀ H M w0 B l v, HIs H N P S g3 g4 g5 pl → Bs H M w0 B b2 l → Byt w0 v (rcd sb 624) → Tab w0 → Calls Tryz.prog 18 #[.pointer (some ⟨B, 0, none⟩), v, .int .u64 9] w0 (Opd H M w0 B y3 b3)) := sc3
      have SRA : Hid (∀ w0, Calls Tryz.prog 17 #[.int .u8 sa] w0 fun e w' => ∃ v, e = .returned v ∧ Byt w' v (rcd sa 624) ∧ Below w0.heap.size w0 w') := fun w0 => record_any sa HAB.out.1 w0
      have SRB : Hid (∀ w0, Calls Tryz.prog 17 #[.int .u8 sb] w0 fun e w' => ∃ v, e = .returned v ∧ Byt w' v (rcd sb 624) ∧ Below w0.heap.size w0 w') := fun w0 => record_any sb HAB.out.2 w0
      have ngt : ¬ ((n : Int) + 5 > (n : Int) + 20) := by omega
      generalize rcd sa 624 = xa at cro SC1 SRA
      generalize rcd sb 624 = xb at cro SC2 SC3 SRB
      have CRO : Hid (b3.hf = false → ∃ rec g, Found S b3.s rec g ∧ (rec = xb ∨ (rec = xa ∧ y2 ≠ 0 ∧ y3 ≠ 0))) := cro
      clear c1 c4 o2 o3 cro sc1 sc2 sc3 hnc
      cases hfv : b3.hf with
      | true =>
        have HFV : Hid (b3.hf = true) := hfv
        clear hfv CRO
        have t20 := tR
        go_wp2_with (first
            | (have q32 := t32; go_at_call 8; refine (awake_any _ (HTR.out.below BB.out)).mono ?_; rintro e9 v90 ⟨rfl, B9⟩; have BB : Hid (Below wr.heap.size wr v90) := BB.out.trans (B9.mono BB.out.size); clear t32; have t90 := tR)
            | (have q31 := t31; go_at_call 24; refine (half_any HC2.out (by rw [HC2.out.2.2.2.2.1]; exact Nat.le_trans HO3.out (by omega))).mono ?_; rintro e9 v11 ⟨rfl, B9⟩; have HC3 : Hid (Cs H M8 v11 (na.pwr (na.pwr b3.s false) true) l8) := HC2.out.below B9; rw [← HHF.out, HFV.out]; have BB : Hid (Below wr.heap.size wr v11) := BB.out.trans (B9.mono BB.out.size); clear sd_0 sd_1; have sd_0 := (HSR.out.below BB.out LSR.out).cell 0 _ rfl; have sd_1 := (HSR.out.below BB.out LSR.out).cell 1 _ rfl; clear t31; have t32 := tR)
            | (have q30 := t30; go_at_call 14; refine (power_cs HC1.out true).mono ?_; rintro e9 v10 ⟨⟨pv2, rfl⟩, c9, f9⟩; have HC2 : Hid (Cs H M8 v10 (na.pwr (na.pwr b3.s false) true) l8) := c9; clear c9; have BB : Hid (Below wr.heap.size wr v10) := BB.out.trans (f9.below BB.out.size HM8.out); clear sd_0 sd_1; have sd_0 := (HSR.out.below BB.out LSR.out).cell 0 _ rfl; have sd_1 := (HSR.out.below BB.out LSR.out).cell 1 _ rfl; clear t30; have t31 := tR)
            | (have q29 := t29; go_at_call 14; refine (power_cs HB4.out.1 false).mono ?_; rintro e9 v9 ⟨⟨pv1, rfl⟩, c9, f9⟩; have HC1 : Hid (Cs H M8 v9 (na.pwr b3.s false) l8) := c9; have HHF : Hid (b3.hf = hfl l8) := HB4.out.2.2.2.2.2; clear c9; have BB : Hid (Below wr.heap.size wr v9) := BB.out.trans (f9.below BB.out.size HM8.out); clear sd_0 sd_1; have sd_0 := (HSR.out.below BB.out LSR.out).cell 0 _ rfl; have sd_1 := (HSR.out.below BB.out LSR.out).cell 1 _ rfl; clear t29; have t30 := tR)
            | (have q28 := t28; go_at_call 18; refine (SC3.out H M6 v7 B l6 rv3 HH.out HB3.out HY3.out (HTR.out.below BB.out)).mono ?_; rintro e9 v8 ⟨M8, l8, rfl, b9, f9⟩; have HB4 : Hid (Bs H M8 v8 B b3 l8) := b9; have HM8 : Hid (∀ k, M8 k = true → wr.heap.size ≤ k) := f9.up BB.out.size HM6.out; have BB : Hid (Below wr.heap.size wr v8) := BB.out.trans (f9.below BB.out.size HM6.out HLB.out); clear sd_0 sd_1; have sd_0 := (HSR.out.below BB.out LSR.out).cell 0 _ rfl; have sd_1 := (HSR.out.below BB.out LSR.out).cell 1 _ rfl; clear t28; have t29 := tR)
            | (have q27 := t27; go_at_call 17; refine (SRB.out v6).mono ?_; rintro e9 v7 ⟨rv3, rfl, y9, B9⟩; have HY3 : Hid (Byt v7 rv3 xb) := y9; have HB3 : Hid (Bs H M6 v7 B b2 l6) := HB3.out.below B9; clear y9; have BB : Hid (Below wr.heap.size wr v7) := BB.out.trans (B9.mono BB.out.size); clear sd_0 sd_1; have sd_0 := (HSR.out.below BB.out LSR.out).cell 0 _ rfl; have sd_1 := (HSR.out.below BB.out LSR.out).cell 1 _ rfl; clear t27; have t28 := tR)
            | (have q26 := t26; go_at_call 18; refine (SC2.out H M4 v5 B l4 rv2 HH.out HB2.out HY2.out (HTR.out.below BB.out)).mono ?_; rintro e9 v6 ⟨M6, l6, rfl, b9, f9⟩; have HB3 : Hid (Bs H M6 v6 B b2 l6) := b9; have HM6 : Hid (∀ k, M6 k = true → wr.heap.size ≤ k) := f9.up BB.out.size HM4.out; have BB : Hid (Below wr.heap.size wr v6) := BB.out.trans (f9.below BB.out.size HM4.out HLB.out); clear sd_0 sd_1; have sd_0 := (HSR.out.below BB.out LSR.out).cell 0 _ rfl; have sd_1 := (HSR.out.below BB.out LSR.out).cell 1 _ rfl; clear t26; have t27 := tR)
            | (have q25 := t25; go_at_call 17; refine (SRB.out v4).mono ?_; rintro e9 v5 ⟨rv2, rfl, y9, B9⟩; have HY2 : Hid (Byt v5 rv2 xb) := y9; have HB2 : Hid (Bs H M4 v5 B b1 l4) := HB2.out.below B9; clear y9; have BB : Hid (Below wr.heap.size wr v5) := BB.out.trans (B9.mono BB.out.size); clear sd_0 sd_1; have sd_0 := (HSR.out.below BB.out LSR.out).cell 0 _ rfl; have sd_1 := (HSR.out.below BB.out LSR.out).cell 1 _ rfl; clear t25; have t26 := tR)
            | (have q24 := t24; go_at_call 23; refine (ops_cs HB2.out.1).mono ?_; rintro e9 v99 ⟨rfl, hw⟩; obtain rfl := hw.symm; rw [HOP.out]; clear t24; have t25 := tR)
            | (have q23 := t23; go_at_call 18; refine (SC1.out H M v3 B [] rv1 HH.out HB1.out HY1.out (HTR.out.below BB.out)).mono ?_; rintro e9 v4 ⟨M4, l4, rfl, b9, f9⟩; have HB2 : Hid (Bs H M4 v4 B b1 l4) := b9; have HM4 : Hid (∀ k, M4 k = true → wr.heap.size ≤ k) := f9.up BB.out.size HM.out; have BB : Hid (Below wr.heap.size wr v4) := BB.out.trans (f9.below BB.out.size HM.out HLB.out); clear sd_0 sd_1; have sd_0 := (HSR.out.below BB.out LSR.out).cell 0 _ rfl; have sd_1 := (HSR.out.below BB.out LSR.out).cell 1 _ rfl; clear t23; have t24 := tR)
            | (have q22 := t22; go_at_call 17; refine (SRA.out v2).mono ?_; rintro e9 v3 ⟨rv1, rfl, y9, B9⟩; have HY1 : Hid (Byt v3 rv1 xa) := y9; have HB1 : Hid (Bs H M v3 B (b0 (S + 88)) []) := HB1.out.below B9; clear y9; have BB : Hid (Below wr.heap.size wr v3) := BB.out.trans (B9.mono BB.out.size); clear sd_0 sd_1; have sd_0 := (HSR.out.below BB.out LSR.out).cell 0 _ rfl; have sd_1 := (HSR.out.below BB.out LSR.out).cell 1 _ rfl; clear t22; have t23 := tR)
            | (have q21 := t21; go_at_call 10; refine (open_new_at HH.out HC.out (HTR.out.below BB.out)).mono ?_; rintro e9 v2 ⟨B, zo, zc, rfl, b9, lb9, B9⟩; have HB1 : Hid (Bs H M v2 B (b0 (S + 88)) []) := b9; have HLB : Hid (wr.heap.size ≤ B) := Nat.le_trans BB.out.size lb9; clear b9 lb9; have BB : Hid (Below wr.heap.size wr v2) := BB.out.trans (B9.mono BB.out.size); clear sd_0 sd_1; have sd_0 := (HSR.out.below BB.out LSR.out).cell 0 _ rfl; have sd_1 := (HSR.out.below BB.out LSR.out).cell 1 _ rfl; clear t21; have t22 := tR)
            | (have q20 := t20; go_at_call 9; refine (SN.out wr rfl).mono ?_; rintro e9 v1 ⟨H, M, rfl, c9, m9, B9, h9⟩; have HC : Hid (Cs H M v1 (na.new (S + 88)) []) := c9; have HM : Hid (∀ k, M k = true → wr.heap.size ≤ k) := m9; have HH : Hid (HIs H N P S g3 g4 g5 pl) := h9; clear g_0 g_1 g_2 g_3 g_4 g_5 c9 m9 h9; have BB : Hid (Below wr.heap.size wr v1) := B9; have sd_0 := (HSR.out.below BB.out LSR.out).cell 0 _ rfl; have sd_1 := (HSR.out.below BB.out LSR.out).cell 1 _ rfl; clear t20; have t21 := tR))
        go_ret
        exact ⟨rfl, HBX.out.trans (BB.out.mono HBX.out.size)⟩
      | false =>
        have HFV : Hid (b3.hf = false) := hfv
        obtain ⟨rec, gg, hfd, hre⟩ := CRO.out hfv
        have HFD : Hid (Found S b3.s rec gg) := hfd
        clear hfv CRO hfd
        by_cases h2 : y2 = 0
        · subst h2
          have HEQ : Hid (xb = rec) := by
            rcases hre with z | z
            · exact z.symm
            · exact absurd rfl z.2.1
          clear hre
          have t20 := tR
          go_wp2_with (first
              | (have q35 := t35; go_at_call 8; refine (awake_any _ (HTR.out.below BB.out)).mono ?_; rintro e9 v90 ⟨rfl, B9⟩; have BB : Hid (Below wr.heap.size wr v90) := BB.out.trans (B9.mono BB.out.size); clear t35; have t90 := tR)
              | (have q34 := t34; go_at_call 15; refine (he.same_yes _ _ _ rec HYR.out (HEQ.out ▸ HYB.out)).mono ?_; rintro e9 v14 ⟨rfl, B9⟩; have HYR : Hid (Byt v14 (.slice ro rn rc) rec) := HYR.out.below B9; have BB : Hid (Below wr.heap.size wr v14) := BB.out.trans (B9.mono BB.out.size); clear sd_0 sd_1; have sd_0 := (HSR.out.below BB.out LSR.out).cell 0 _ rfl; have sd_1 := (HSR.out.below BB.out LSR.out).cell 1 _ rfl; clear t34; have t35 := tR)
              | (have q33 := t33; go_at_call 17; refine (SRB.out v12).mono ?_; rintro e9 v13 ⟨rwv13, rfl, y9, B9⟩; have HYB : Hid (Byt v13 rwv13 xb) := y9; have HYR : Hid (Byt v13 (.slice ro rn rc) rec) := HYR.out.below B9; clear y9; have BB : Hid (Below wr.heap.size wr v13) := BB.out.trans (B9.mono BB.out.size); clear sd_0 sd_1; have sd_0 := (HSR.out.below BB.out LSR.out).cell 0 _ rfl; have sd_1 := (HSR.out.below BB.out LSR.out).cell 1 _ rfl; clear t33; have t34 := tR)
              | (have q32 := t32; go_at_call 10; refine (open_found_at HH.out HC3.out rfl (HTR.out.below BB.out) rec gg HFD.out).mono ?_; rintro e9 v12 ⟨B2, c2, ro, rn, rc, rfl, y9, -, -, B9⟩; have HYR : Hid (Byt v12 (.slice ro rn rc) rec) := y9; clear y9; have BB : Hid (Below wr.heap.size wr v12) := BB.out.trans (B9.mono BB.out.size); clear sd_0 sd_1; have sd_0 := (HSR.out.below BB.out LSR.out).cell 0 _ rfl; have sd_1 := (HSR.out.below BB.out LSR.out).cell 1 _ rfl; clear t32; have t33 := tR)
              | (have q31 := t31; go_at_call 24; refine (half_any HC2.out (by rw [HC2.out.2.2.2.2.1]; exact Nat.le_trans HO3.out (by omega))).mono ?_; rintro e9 v11 ⟨rfl, B9⟩; have HC3 : Hid (Cs H M8 v11 (na.pwr (na.pwr b3.s false) true) l8) := HC2.out.below B9; rw [← HHF.out, HFV.out]; have BB : Hid (Below wr.heap.size wr v11) := BB.out.trans (B9.mono BB.out.size); clear sd_0 sd_1; have sd_0 := (HSR.out.below BB.out LSR.out).cell 0 _ rfl; have sd_1 := (HSR.out.below BB.out LSR.out).cell 1 _ rfl; clear t31; have t32 := tR)
              | (have q30 := t30; go_at_call 14; refine (power_cs HC1.out true).mono ?_; rintro e9 v10 ⟨⟨pv2, rfl⟩, c9, f9⟩; have HC2 : Hid (Cs H M8 v10 (na.pwr (na.pwr b3.s false) true) l8) := c9; clear c9; have BB : Hid (Below wr.heap.size wr v10) := BB.out.trans (f9.below BB.out.size HM8.out); clear sd_0 sd_1; have sd_0 := (HSR.out.below BB.out LSR.out).cell 0 _ rfl; have sd_1 := (HSR.out.below BB.out LSR.out).cell 1 _ rfl; clear t30; have t31 := tR)
              | (have q29 := t29; go_at_call 14; refine (power_cs HB4.out.1 false).mono ?_; rintro e9 v9 ⟨⟨pv1, rfl⟩, c9, f9⟩; have HC1 : Hid (Cs H M8 v9 (na.pwr b3.s false) l8) := c9; have HHF : Hid (b3.hf = hfl l8) := HB4.out.2.2.2.2.2; clear c9; have BB : Hid (Below wr.heap.size wr v9) := BB.out.trans (f9.below BB.out.size HM8.out); clear sd_0 sd_1; have sd_0 := (HSR.out.below BB.out LSR.out).cell 0 _ rfl; have sd_1 := (HSR.out.below BB.out LSR.out).cell 1 _ rfl; clear t29; have t30 := tR)
              | (have q28 := t28; go_at_call 18; refine (SC3.out H M6 v7 B l6 rv3 HH.out HB3.out HY3.out (HTR.out.below BB.out)).mono ?_; rintro e9 v8 ⟨M8, l8, rfl, b9, f9⟩; have HB4 : Hid (Bs H M8 v8 B b3 l8) := b9; have HM8 : Hid (∀ k, M8 k = true → wr.heap.size ≤ k) := f9.up BB.out.size HM6.out; have BB : Hid (Below wr.heap.size wr v8) := BB.out.trans (f9.below BB.out.size HM6.out HLB.out); clear sd_0 sd_1; have sd_0 := (HSR.out.below BB.out LSR.out).cell 0 _ rfl; have sd_1 := (HSR.out.below BB.out LSR.out).cell 1 _ rfl; clear t28; have t29 := tR)
              | (have q27 := t27; go_at_call 17; refine (SRB.out v6).mono ?_; rintro e9 v7 ⟨rv3, rfl, y9, B9⟩; have HY3 : Hid (Byt v7 rv3 xb) := y9; have HB3 : Hid (Bs H M6 v7 B b2 l6) := HB3.out.below B9; clear y9; have BB : Hid (Below wr.heap.size wr v7) := BB.out.trans (B9.mono BB.out.size); clear sd_0 sd_1; have sd_0 := (HSR.out.below BB.out LSR.out).cell 0 _ rfl; have sd_1 := (HSR.out.below BB.out LSR.out).cell 1 _ rfl; clear t27; have t28 := tR)
              | (have q26 := t26; go_at_call 18; refine (SC2.out H M4 v5 B l4 rv2 HH.out HB2.out HY2.out (HTR.out.below BB.out)).mono ?_; rintro e9 v6 ⟨M6, l6, rfl, b9, f9⟩; have HB3 : Hid (Bs H M6 v6 B b2 l6) := b9; have HM6 : Hid (∀ k, M6 k = true → wr.heap.size ≤ k) := f9.up BB.out.size HM4.out; have BB : Hid (Below wr.heap.size wr v6) := BB.out.trans (f9.below BB.out.size HM4.out HLB.out); clear sd_0 sd_1; have sd_0 := (HSR.out.below BB.out LSR.out).cell 0 _ rfl; have sd_1 := (HSR.out.below BB.out LSR.out).cell 1 _ rfl; clear t26; have t27 := tR)
              | (have q25 := t25; go_at_call 17; refine (SRB.out v4).mono ?_; rintro e9 v5 ⟨rv2, rfl, y9, B9⟩; have HY2 : Hid (Byt v5 rv2 xb) := y9; have HB2 : Hid (Bs H M4 v5 B b1 l4) := HB2.out.below B9; clear y9; have BB : Hid (Below wr.heap.size wr v5) := BB.out.trans (B9.mono BB.out.size); clear sd_0 sd_1; have sd_0 := (HSR.out.below BB.out LSR.out).cell 0 _ rfl; have sd_1 := (HSR.out.below BB.out LSR.out).cell 1 _ rfl; clear t25; have t26 := tR)
              | (have q24 := t24; go_at_call 23; refine (ops_cs HB2.out.1).mono ?_; rintro e9 v99 ⟨rfl, hw⟩; obtain rfl := hw.symm; rw [HOP.out]; clear t24; have t25 := tR)
              | (have q23 := t23; go_at_call 18; refine (SC1.out H M v3 B [] rv1 HH.out HB1.out HY1.out (HTR.out.below BB.out)).mono ?_; rintro e9 v4 ⟨M4, l4, rfl, b9, f9⟩; have HB2 : Hid (Bs H M4 v4 B b1 l4) := b9; have HM4 : Hid (∀ k, M4 k = true → wr.heap.size ≤ k) := f9.up BB.out.size HM.out; have BB : Hid (Below wr.heap.size wr v4) := BB.out.trans (f9.below BB.out.size HM.out HLB.out); clear sd_0 sd_1; have sd_0 := (HSR.out.below BB.out LSR.out).cell 0 _ rfl; have sd_1 := (HSR.out.below BB.out LSR.out).cell 1 _ rfl; clear t23; have t24 := tR)
              | (have q22 := t22; go_at_call 17; refine (SRA.out v2).mono ?_; rintro e9 v3 ⟨rv1, rfl, y9, B9⟩; have HY1 : Hid (Byt v3 rv1 xa) := y9; have HB1 : Hid (Bs H M v3 B (b0 (S + 88)) []) := HB1.out.below B9; clear y9; have BB : Hid (Below wr.heap.size wr v3) := BB.out.trans (B9.mono BB.out.size); clear sd_0 sd_1; have sd_0 := (HSR.out.below BB.out LSR.out).cell 0 _ rfl; have sd_1 := (HSR.out.below BB.out LSR.out).cell 1 _ rfl; clear t22; have t23 := tR)
              | (have q21 := t21; go_at_call 10; refine (open_new_at HH.out HC.out (HTR.out.below BB.out)).mono ?_; rintro e9 v2 ⟨B, zo, zc, rfl, b9, lb9, B9⟩; have HB1 : Hid (Bs H M v2 B (b0 (S + 88)) []) := b9; have HLB : Hid (wr.heap.size ≤ B) := Nat.le_trans BB.out.size lb9; clear b9 lb9; have BB : Hid (Below wr.heap.size wr v2) := BB.out.trans (B9.mono BB.out.size); clear sd_0 sd_1; have sd_0 := (HSR.out.below BB.out LSR.out).cell 0 _ rfl; have sd_1 := (HSR.out.below BB.out LSR.out).cell 1 _ rfl; clear t21; have t22 := tR)
              | (have q20 := t20; go_at_call 9; refine (SN.out wr rfl).mono ?_; rintro e9 v1 ⟨H, M, rfl, c9, m9, B9, h9⟩; have HC : Hid (Cs H M v1 (na.new (S + 88)) []) := c9; have HM : Hid (∀ k, M k = true → wr.heap.size ≤ k) := m9; have HH : Hid (HIs H N P S g3 g4 g5 pl) := h9; clear g_0 g_1 g_2 g_3 g_4 g_5 c9 m9 h9; have BB : Hid (Below wr.heap.size wr v1) := B9; have sd_0 := (HSR.out.below BB.out LSR.out).cell 0 _ rfl; have sd_1 := (HSR.out.below BB.out LSR.out).cell 1 _ rfl; clear t20; have t21 := tR))
          go_ret
          exact ⟨rfl, HBX.out.trans (BB.out.mono HBX.out.size)⟩
        · have m2 : (y2 == 0) = false := beq_eq_false_iff_ne.2 h2
          by_cases h3 : y3 = 0
          · subst h3
            have HEQ : Hid (xb = rec) := by
              rcases hre with z | z
              · exact z.symm
              · exact absurd rfl z.2.2
            clear hre h2
            have t20 := tR
            go_wp2_with (first
                | (have q35 := t35; go_at_call 8; refine (awake_any _ (HTR.out.below BB.out)).mono ?_; rintro e9 v90 ⟨rfl, B9⟩; have BB : Hid (Below wr.heap.size wr v90) := BB.out.trans (B9.mono BB.out.size); clear t35; have t90 := tR)
                | (have q34 := t34; go_at_call 15; refine (he.same_yes _ _ _ rec HYR.out (HEQ.out ▸ HYB.out)).mono ?_; rintro e9 v14 ⟨rfl, B9⟩; have HYR : Hid (Byt v14 (.slice ro rn rc) rec) := HYR.out.below B9; have BB : Hid (Below wr.heap.size wr v14) := BB.out.trans (B9.mono BB.out.size); clear sd_0 sd_1; have sd_0 := (HSR.out.below BB.out LSR.out).cell 0 _ rfl; have sd_1 := (HSR.out.below BB.out LSR.out).cell 1 _ rfl; clear t34; have t35 := tR)
                | (have q33 := t33; go_at_call 17; refine (SRB.out v12).mono ?_; rintro e9 v13 ⟨rwv13, rfl, y9, B9⟩; have HYB : Hid (Byt v13 rwv13 xb) := y9; have HYR : Hid (Byt v13 (.slice ro rn rc) rec) := HYR.out.below B9; clear y9; have BB : Hid (Below wr.heap.size wr v13) := BB.out.trans (B9.mono BB.out.size); clear sd_0 sd_1; have sd_0 := (HSR.out.below BB.out LSR.out).cell 0 _ rfl; have sd_1 := (HSR.out.below BB.out LSR.out).cell 1 _ rfl; clear t33; have t34 := tR)
                | (have q32 := t32; go_at_call 10; refine (open_found_at HH.out HC3.out rfl (HTR.out.below BB.out) rec gg HFD.out).mono ?_; rintro e9 v12 ⟨B2, c2, ro, rn, rc, rfl, y9, -, -, B9⟩; have HYR : Hid (Byt v12 (.slice ro rn rc) rec) := y9; clear y9; have BB : Hid (Below wr.heap.size wr v12) := BB.out.trans (B9.mono BB.out.size); clear sd_0 sd_1; have sd_0 := (HSR.out.below BB.out LSR.out).cell 0 _ rfl; have sd_1 := (HSR.out.below BB.out LSR.out).cell 1 _ rfl; clear t32; have t33 := tR)
                | (have q31 := t31; go_at_call 24; refine (half_any HC2.out (by rw [HC2.out.2.2.2.2.1]; exact Nat.le_trans HO3.out (by omega))).mono ?_; rintro e9 v11 ⟨rfl, B9⟩; have HC3 : Hid (Cs H M8 v11 (na.pwr (na.pwr b3.s false) true) l8) := HC2.out.below B9; rw [← HHF.out, HFV.out]; have BB : Hid (Below wr.heap.size wr v11) := BB.out.trans (B9.mono BB.out.size); clear sd_0 sd_1; have sd_0 := (HSR.out.below BB.out LSR.out).cell 0 _ rfl; have sd_1 := (HSR.out.below BB.out LSR.out).cell 1 _ rfl; clear t31; have t32 := tR)
                | (have q30 := t30; go_at_call 14; refine (power_cs HC1.out true).mono ?_; rintro e9 v10 ⟨⟨pv2, rfl⟩, c9, f9⟩; have HC2 : Hid (Cs H M8 v10 (na.pwr (na.pwr b3.s false) true) l8) := c9; clear c9; have BB : Hid (Below wr.heap.size wr v10) := BB.out.trans (f9.below BB.out.size HM8.out); clear sd_0 sd_1; have sd_0 := (HSR.out.below BB.out LSR.out).cell 0 _ rfl; have sd_1 := (HSR.out.below BB.out LSR.out).cell 1 _ rfl; clear t30; have t31 := tR)
                | (have q29 := t29; go_at_call 14; refine (power_cs HB4.out.1 false).mono ?_; rintro e9 v9 ⟨⟨pv1, rfl⟩, c9, f9⟩; have HC1 : Hid (Cs H M8 v9 (na.pwr b3.s false) l8) := c9; have HHF : Hid (b3.hf = hfl l8) := HB4.out.2.2.2.2.2; clear c9; have BB : Hid (Below wr.heap.size wr v9) := BB.out.trans (f9.below BB.out.size HM8.out); clear sd_0 sd_1; have sd_0 := (HSR.out.below BB.out LSR.out).cell 0 _ rfl; have sd_1 := (HSR.out.below BB.out LSR.out).cell 1 _ rfl; clear t29; have t30 := tR)
                | (have q28 := t28; go_at_call 18; refine (SC3.out H M6 v7 B l6 rv3 HH.out HB3.out HY3.out (HTR.out.below BB.out)).mono ?_; rintro e9 v8 ⟨M8, l8, rfl, b9, f9⟩; have HB4 : Hid (Bs H M8 v8 B b3 l8) := b9; have HM8 : Hid (∀ k, M8 k = true → wr.heap.size ≤ k) := f9.up BB.out.size HM6.out; have BB : Hid (Below wr.heap.size wr v8) := BB.out.trans (f9.below BB.out.size HM6.out HLB.out); clear sd_0 sd_1; have sd_0 := (HSR.out.below BB.out LSR.out).cell 0 _ rfl; have sd_1 := (HSR.out.below BB.out LSR.out).cell 1 _ rfl; clear t28; have t29 := tR)
                | (have q27 := t27; go_at_call 17; refine (SRB.out v6).mono ?_; rintro e9 v7 ⟨rv3, rfl, y9, B9⟩; have HY3 : Hid (Byt v7 rv3 xb) := y9; have HB3 : Hid (Bs H M6 v7 B b2 l6) := HB3.out.below B9; clear y9; have BB : Hid (Below wr.heap.size wr v7) := BB.out.trans (B9.mono BB.out.size); clear sd_0 sd_1; have sd_0 := (HSR.out.below BB.out LSR.out).cell 0 _ rfl; have sd_1 := (HSR.out.below BB.out LSR.out).cell 1 _ rfl; clear t27; have t28 := tR)
                | (have q26 := t26; go_at_call 18; refine (SC2.out H M4 v5 B l4 rv2 HH.out HB2.out HY2.out (HTR.out.below BB.out)).mono ?_; rintro e9 v6 ⟨M6, l6, rfl, b9, f9⟩; have HB3 : Hid (Bs H M6 v6 B b2 l6) := b9; have HM6 : Hid (∀ k, M6 k = true → wr.heap.size ≤ k) := f9.up BB.out.size HM4.out; have BB : Hid (Below wr.heap.size wr v6) := BB.out.trans (f9.below BB.out.size HM4.out HLB.out); clear sd_0 sd_1; have sd_0 := (HSR.out.below BB.out LSR.out).cell 0 _ rfl; have sd_1 := (HSR.out.below BB.out LSR.out).cell 1 _ rfl; clear t26; have t27 := tR)
                | (have q25 := t25; go_at_call 17; refine (SRB.out v4).mono ?_; rintro e9 v5 ⟨rv2, rfl, y9, B9⟩; have HY2 : Hid (Byt v5 rv2 xb) := y9; have HB2 : Hid (Bs H M4 v5 B b1 l4) := HB2.out.below B9; clear y9; have BB : Hid (Below wr.heap.size wr v5) := BB.out.trans (B9.mono BB.out.size); clear sd_0 sd_1; have sd_0 := (HSR.out.below BB.out LSR.out).cell 0 _ rfl; have sd_1 := (HSR.out.below BB.out LSR.out).cell 1 _ rfl; clear t25; have t26 := tR)
                | (have q24 := t24; go_at_call 23; refine (ops_cs HB2.out.1).mono ?_; rintro e9 v99 ⟨rfl, hw⟩; obtain rfl := hw.symm; rw [HOP.out]; clear t24; have t25 := tR)
                | (have q23 := t23; go_at_call 18; refine (SC1.out H M v3 B [] rv1 HH.out HB1.out HY1.out (HTR.out.below BB.out)).mono ?_; rintro e9 v4 ⟨M4, l4, rfl, b9, f9⟩; have HB2 : Hid (Bs H M4 v4 B b1 l4) := b9; have HM4 : Hid (∀ k, M4 k = true → wr.heap.size ≤ k) := f9.up BB.out.size HM.out; have BB : Hid (Below wr.heap.size wr v4) := BB.out.trans (f9.below BB.out.size HM.out HLB.out); clear sd_0 sd_1; have sd_0 := (HSR.out.below BB.out LSR.out).cell 0 _ rfl; have sd_1 := (HSR.out.below BB.out LSR.out).cell 1 _ rfl; clear t23; have t24 := tR)
                | (have q22 := t22; go_at_call 17; refine (SRA.out v2).mono ?_; rintro e9 v3 ⟨rv1, rfl, y9, B9⟩; have HY1 : Hid (Byt v3 rv1 xa) := y9; have HB1 : Hid (Bs H M v3 B (b0 (S + 88)) []) := HB1.out.below B9; clear y9; have BB : Hid (Below wr.heap.size wr v3) := BB.out.trans (B9.mono BB.out.size); clear sd_0 sd_1; have sd_0 := (HSR.out.below BB.out LSR.out).cell 0 _ rfl; have sd_1 := (HSR.out.below BB.out LSR.out).cell 1 _ rfl; clear t22; have t23 := tR)
                | (have q21 := t21; go_at_call 10; refine (open_new_at HH.out HC.out (HTR.out.below BB.out)).mono ?_; rintro e9 v2 ⟨B, zo, zc, rfl, b9, lb9, B9⟩; have HB1 : Hid (Bs H M v2 B (b0 (S + 88)) []) := b9; have HLB : Hid (wr.heap.size ≤ B) := Nat.le_trans BB.out.size lb9; clear b9 lb9; have BB : Hid (Below wr.heap.size wr v2) := BB.out.trans (B9.mono BB.out.size); clear sd_0 sd_1; have sd_0 := (HSR.out.below BB.out LSR.out).cell 0 _ rfl; have sd_1 := (HSR.out.below BB.out LSR.out).cell 1 _ rfl; clear t21; have t22 := tR)
                | (have q20 := t20; go_at_call 9; refine (SN.out wr rfl).mono ?_; rintro e9 v1 ⟨H, M, rfl, c9, m9, B9, h9⟩; have HC : Hid (Cs H M v1 (na.new (S + 88)) []) := c9; have HM : Hid (∀ k, M k = true → wr.heap.size ≤ k) := m9; have HH : Hid (HIs H N P S g3 g4 g5 pl) := h9; clear g_0 g_1 g_2 g_3 g_4 g_5 c9 m9 h9; have BB : Hid (Below wr.heap.size wr v1) := B9; have sd_0 := (HSR.out.below BB.out LSR.out).cell 0 _ rfl; have sd_1 := (HSR.out.below BB.out LSR.out).cell 1 _ rfl; clear t20; have t21 := tR))
            go_ret
            exact ⟨rfl, HBX.out.trans (BB.out.mono HBX.out.size)⟩
          · have m3 : (y3 == 0) = false := beq_eq_false_iff_ne.2 h3
            by_cases hx : rec = xa
            · have HEQ : Hid (xa = rec) := hx.symm
              clear hre h2 h3 hx
              have t20 := tR
              go_wp2_with (first
                  | (have q35 := t35; go_at_call 8; refine (awake_any _ (HTR.out.below BB.out)).mono ?_; rintro e9 v90 ⟨rfl, B9⟩; have BB : Hid (Below wr.heap.size wr v90) := BB.out.trans (B9.mono BB.out.size); clear t35; have t90 := tR)
                  | (have q34 := t34; go_at_call 15; refine (he.same_yes _ _ _ rec HYR.out (HEQ.out ▸ HYA.out)).mono ?_; rintro e9 v14 ⟨rfl, B9⟩; have HYR : Hid (Byt v14 (.slice ro rn rc) rec) := HYR.out.below B9; have BB : Hid (Below wr.heap.size wr v14) := BB.out.trans (B9.mono BB.out.size); clear sd_0 sd_1; have sd_0 := (HSR.out.below BB.out LSR.out).cell 0 _ rfl; have sd_1 := (HSR.out.below BB.out LSR.out).cell 1 _ rfl; clear t34; have t35 := tR)
                  | (have q33 := t33; go_at_call 17; refine (SRA.out v12).mono ?_; rintro e9 v13 ⟨rwv13, rfl, y9, B9⟩; have HYA : Hid (Byt v13 rwv13 xa) := y9; have HYR : Hid (Byt v13 (.slice ro rn rc) rec) := HYR.out.below B9; clear y9; have BB : Hid (Below wr.heap.size wr v13) := BB.out.trans (B9.mono BB.out.size); clear sd_0 sd_1; have sd_0 := (HSR.out.below BB.out LSR.out).cell 0 _ rfl; have sd_1 := (HSR.out.below BB.out LSR.out).cell 1 _ rfl; clear t33; have t34 := tR)
                  | (have q32 := t32; go_at_call 10; refine (open_found_at HH.out HC3.out rfl (HTR.out.below BB.out) rec gg HFD.out).mono ?_; rintro e9 v12 ⟨B2, c2, ro, rn, rc, rfl, y9, -, -, B9⟩; have HYR : Hid (Byt v12 (.slice ro rn rc) rec) := y9; clear y9; have BB : Hid (Below wr.heap.size wr v12) := BB.out.trans (B9.mono BB.out.size); clear sd_0 sd_1; have sd_0 := (HSR.out.below BB.out LSR.out).cell 0 _ rfl; have sd_1 := (HSR.out.below BB.out LSR.out).cell 1 _ rfl; clear t32; have t33 := tR)
                  | (have q31 := t31; go_at_call 24; refine (half_any HC2.out (by rw [HC2.out.2.2.2.2.1]; exact Nat.le_trans HO3.out (by omega))).mono ?_; rintro e9 v11 ⟨rfl, B9⟩; have HC3 : Hid (Cs H M8 v11 (na.pwr (na.pwr b3.s false) true) l8) := HC2.out.below B9; rw [← HHF.out, HFV.out]; have BB : Hid (Below wr.heap.size wr v11) := BB.out.trans (B9.mono BB.out.size); clear sd_0 sd_1; have sd_0 := (HSR.out.below BB.out LSR.out).cell 0 _ rfl; have sd_1 := (HSR.out.below BB.out LSR.out).cell 1 _ rfl; clear t31; have t32 := tR)
                  | (have q30 := t30; go_at_call 14; refine (power_cs HC1.out true).mono ?_; rintro e9 v10 ⟨⟨pv2, rfl⟩, c9, f9⟩; have HC2 : Hid (Cs H M8 v10 (na.pwr (na.pwr b3.s false) true) l8) := c9; clear c9; have BB : Hid (Below wr.heap.size wr v10) := BB.out.trans (f9.below BB.out.size HM8.out); clear sd_0 sd_1; have sd_0 := (HSR.out.below BB.out LSR.out).cell 0 _ rfl; have sd_1 := (HSR.out.below BB.out LSR.out).cell 1 _ rfl; clear t30; have t31 := tR)
                  | (have q29 := t29; go_at_call 14; refine (power_cs HB4.out.1 false).mono ?_; rintro e9 v9 ⟨⟨pv1, rfl⟩, c9, f9⟩; have HC1 : Hid (Cs H M8 v9 (na.pwr b3.s false) l8) := c9; have HHF : Hid (b3.hf = hfl l8) := HB4.out.2.2.2.2.2; clear c9; have BB : Hid (Below wr.heap.size wr v9) := BB.out.trans (f9.below BB.out.size HM8.out); clear sd_0 sd_1; have sd_0 := (HSR.out.below BB.out LSR.out).cell 0 _ rfl; have sd_1 := (HSR.out.below BB.out LSR.out).cell 1 _ rfl; clear t29; have t30 := tR)
                  | (have q28 := t28; go_at_call 18; refine (SC3.out H M6 v7 B l6 rv3 HH.out HB3.out HY3.out (HTR.out.below BB.out)).mono ?_; rintro e9 v8 ⟨M8, l8, rfl, b9, f9⟩; have HB4 : Hid (Bs H M8 v8 B b3 l8) := b9; have HM8 : Hid (∀ k, M8 k = true → wr.heap.size ≤ k) := f9.up BB.out.size HM6.out; have BB : Hid (Below wr.heap.size wr v8) := BB.out.trans (f9.below BB.out.size HM6.out HLB.out); clear sd_0 sd_1; have sd_0 := (HSR.out.below BB.out LSR.out).cell 0 _ rfl; have sd_1 := (HSR.out.below BB.out LSR.out).cell 1 _ rfl; clear t28; have t29 := tR)
                  | (have q27 := t27; go_at_call 17; refine (SRB.out v6).mono ?_; rintro e9 v7 ⟨rv3, rfl, y9, B9⟩; have HY3 : Hid (Byt v7 rv3 xb) := y9; have HB3 : Hid (Bs H M6 v7 B b2 l6) := HB3.out.below B9; clear y9; have BB : Hid (Below wr.heap.size wr v7) := BB.out.trans (B9.mono BB.out.size); clear sd_0 sd_1; have sd_0 := (HSR.out.below BB.out LSR.out).cell 0 _ rfl; have sd_1 := (HSR.out.below BB.out LSR.out).cell 1 _ rfl; clear t27; have t28 := tR)
                  | (have q26 := t26; go_at_call 18; refine (SC2.out H M4 v5 B l4 rv2 HH.out HB2.out HY2.out (HTR.out.below BB.out)).mono ?_; rintro e9 v6 ⟨M6, l6, rfl, b9, f9⟩; have HB3 : Hid (Bs H M6 v6 B b2 l6) := b9; have HM6 : Hid (∀ k, M6 k = true → wr.heap.size ≤ k) := f9.up BB.out.size HM4.out; have BB : Hid (Below wr.heap.size wr v6) := BB.out.trans (f9.below BB.out.size HM4.out HLB.out); clear sd_0 sd_1; have sd_0 := (HSR.out.below BB.out LSR.out).cell 0 _ rfl; have sd_1 := (HSR.out.below BB.out LSR.out).cell 1 _ rfl; clear t26; have t27 := tR)
                  | (have q25 := t25; go_at_call 17; refine (SRB.out v4).mono ?_; rintro e9 v5 ⟨rv2, rfl, y9, B9⟩; have HY2 : Hid (Byt v5 rv2 xb) := y9; have HB2 : Hid (Bs H M4 v5 B b1 l4) := HB2.out.below B9; clear y9; have BB : Hid (Below wr.heap.size wr v5) := BB.out.trans (B9.mono BB.out.size); clear sd_0 sd_1; have sd_0 := (HSR.out.below BB.out LSR.out).cell 0 _ rfl; have sd_1 := (HSR.out.below BB.out LSR.out).cell 1 _ rfl; clear t25; have t26 := tR)
                  | (have q24 := t24; go_at_call 23; refine (ops_cs HB2.out.1).mono ?_; rintro e9 v99 ⟨rfl, hw⟩; obtain rfl := hw.symm; rw [HOP.out]; clear t24; have t25 := tR)
                  | (have q23 := t23; go_at_call 18; refine (SC1.out H M v3 B [] rv1 HH.out HB1.out HY1.out (HTR.out.below BB.out)).mono ?_; rintro e9 v4 ⟨M4, l4, rfl, b9, f9⟩; have HB2 : Hid (Bs H M4 v4 B b1 l4) := b9; have HM4 : Hid (∀ k, M4 k = true → wr.heap.size ≤ k) := f9.up BB.out.size HM.out; have BB : Hid (Below wr.heap.size wr v4) := BB.out.trans (f9.below BB.out.size HM.out HLB.out); clear sd_0 sd_1; have sd_0 := (HSR.out.below BB.out LSR.out).cell 0 _ rfl; have sd_1 := (HSR.out.below BB.out LSR.out).cell 1 _ rfl; clear t23; have t24 := tR)
                  | (have q22 := t22; go_at_call 17; refine (SRA.out v2).mono ?_; rintro e9 v3 ⟨rv1, rfl, y9, B9⟩; have HY1 : Hid (Byt v3 rv1 xa) := y9; have HB1 : Hid (Bs H M v3 B (b0 (S + 88)) []) := HB1.out.below B9; clear y9; have BB : Hid (Below wr.heap.size wr v3) := BB.out.trans (B9.mono BB.out.size); clear sd_0 sd_1; have sd_0 := (HSR.out.below BB.out LSR.out).cell 0 _ rfl; have sd_1 := (HSR.out.below BB.out LSR.out).cell 1 _ rfl; clear t22; have t23 := tR)
                  | (have q21 := t21; go_at_call 10; refine (open_new_at HH.out HC.out (HTR.out.below BB.out)).mono ?_; rintro e9 v2 ⟨B, zo, zc, rfl, b9, lb9, B9⟩; have HB1 : Hid (Bs H M v2 B (b0 (S + 88)) []) := b9; have HLB : Hid (wr.heap.size ≤ B) := Nat.le_trans BB.out.size lb9; clear b9 lb9; have BB : Hid (Below wr.heap.size wr v2) := BB.out.trans (B9.mono BB.out.size); clear sd_0 sd_1; have sd_0 := (HSR.out.below BB.out LSR.out).cell 0 _ rfl; have sd_1 := (HSR.out.below BB.out LSR.out).cell 1 _ rfl; clear t21; have t22 := tR)
                  | (have q20 := t20; go_at_call 9; refine (SN.out wr rfl).mono ?_; rintro e9 v1 ⟨H, M, rfl, c9, m9, B9, h9⟩; have HC : Hid (Cs H M v1 (na.new (S + 88)) []) := c9; have HM : Hid (∀ k, M k = true → wr.heap.size ≤ k) := m9; have HH : Hid (HIs H N P S g3 g4 g5 pl) := h9; clear g_0 g_1 g_2 g_3 g_4 g_5 c9 m9 h9; have BB : Hid (Below wr.heap.size wr v1) := B9; have sd_0 := (HSR.out.below BB.out LSR.out).cell 0 _ rfl; have sd_1 := (HSR.out.below BB.out LSR.out).cell 1 _ rfl; clear t20; have t21 := tR))
              go_ret
              exact ⟨rfl, HBX.out.trans (BB.out.mono HBX.out.size)⟩
            · have HEQ : Hid (xb = rec) := by
                rcases hre with z | z
                · exact z.symm
                · exact absurd z.1 hx
              have SDN : Hid (∀ w0 va vb, Byt w0 va rec → Byt w0 vb xa → Calls Tryz.prog 15 #[va, vb] w0 fun e w' => e = .returned (.bool false) ∧ Below w0.heap.size w0 w') := fun w0 va vb h1 h2 => (same_any w0 va vb rec xa h1 h2).mono fun _ _ ⟨z1, m, z2⟩ => ⟨by rw [z1, decide_eq_false hx], by rw [z2]; exact fa.below_drawn (Below.refl _ _) m⟩
              clear hre h2 h3 hx
              have t20 := tR
              go_wp2_with (first
                  | (have q37 := t37; go_at_call 8; refine (awake_any _ (HTR.out.below BB.out)).mono ?_; rintro e9 v90 ⟨rfl, B9⟩; have BB : Hid (Below wr.heap.size wr v90) := BB.out.trans (B9.mono BB.out.size); clear t37; have t90 := tR)
                  | (have q36 := t36; go_at_call 15; refine (he.same_yes _ _ _ rec HYR.out (HEQ.out ▸ HYB.out)).mono ?_; rintro e9 v16 ⟨rfl, B9⟩; have HYR : Hid (Byt v16 (.slice ro rn rc) rec) := HYR.out.below B9; have BB : Hid (Below wr.heap.size wr v16) := BB.out.trans (B9.mono BB.out.size); clear sd_0 sd_1; have sd_0 := (HSR.out.below BB.out LSR.out).cell 0 _ rfl; have sd_1 := (HSR.out.below BB.out LSR.out).cell 1 _ rfl; clear t36; have t37 := tR)
                  | (have q35 := t35; go_at_call 17; refine (SRB.out v14).mono ?_; rintro e9 v15 ⟨rwv15, rfl, y9, B9⟩; have HYB : Hid (Byt v15 rwv15 xb) := y9; have HYR : Hid (Byt v15 (.slice ro rn rc) rec) := HYR.out.below B9; clear y9; have BB : Hid (Below wr.heap.size wr v15) := BB.out.trans (B9.mono BB.out.size); clear sd_0 sd_1; have sd_0 := (HSR.out.below BB.out LSR.out).cell 0 _ rfl; have sd_1 := (HSR.out.below BB.out LSR.out).cell 1 _ rfl; clear t35; have t36 := tR)
                  | (have q34 := t34; go_at_call 15; refine (SDN.out _ _ _ HYR.out HYA.out).mono ?_; rintro e9 v14 ⟨rfl, B9⟩; have HYR : Hid (Byt v14 (.slice ro rn rc) rec) := HYR.out.below B9; have BB : Hid (Below wr.heap.size wr v14) := BB.out.trans (B9.mono BB.out.size); clear sd_0 sd_1; have sd_0 := (HSR.out.below BB.out LSR.out).cell 0 _ rfl; have sd_1 := (HSR.out.below BB.out LSR.out).cell 1 _ rfl; clear t34; have t35 := tR)
                  | (have q33 := t33; go_at_call 17; refine (SRA.out v12).mono ?_; rintro e9 v13 ⟨rwv13, rfl, y9, B9⟩; have HYA : Hid (Byt v13 rwv13 xa) := y9; have HYR : Hid (Byt v13 (.slice ro rn rc) rec) := HYR.out.below B9; clear y9; have BB : Hid (Below wr.heap.size wr v13) := BB.out.trans (B9.mono BB.out.size); clear sd_0 sd_1; have sd_0 := (HSR.out.below BB.out LSR.out).cell 0 _ rfl; have sd_1 := (HSR.out.below BB.out LSR.out).cell 1 _ rfl; clear t33; have t34 := tR)
                  | (have q32 := t32; go_at_call 10; refine (open_found_at HH.out HC3.out rfl (HTR.out.below BB.out) rec gg HFD.out).mono ?_; rintro e9 v12 ⟨B2, c2, ro, rn, rc, rfl, y9, -, -, B9⟩; have HYR : Hid (Byt v12 (.slice ro rn rc) rec) := y9; clear y9; have BB : Hid (Below wr.heap.size wr v12) := BB.out.trans (B9.mono BB.out.size); clear sd_0 sd_1; have sd_0 := (HSR.out.below BB.out LSR.out).cell 0 _ rfl; have sd_1 := (HSR.out.below BB.out LSR.out).cell 1 _ rfl; clear t32; have t33 := tR)
                  | (have q31 := t31; go_at_call 24; refine (half_any HC2.out (by rw [HC2.out.2.2.2.2.1]; exact Nat.le_trans HO3.out (by omega))).mono ?_; rintro e9 v11 ⟨rfl, B9⟩; have HC3 : Hid (Cs H M8 v11 (na.pwr (na.pwr b3.s false) true) l8) := HC2.out.below B9; rw [← HHF.out, HFV.out]; have BB : Hid (Below wr.heap.size wr v11) := BB.out.trans (B9.mono BB.out.size); clear sd_0 sd_1; have sd_0 := (HSR.out.below BB.out LSR.out).cell 0 _ rfl; have sd_1 := (HSR.out.below BB.out LSR.out).cell 1 _ rfl; clear t31; have t32 := tR)
                  | (have q30 := t30; go_at_call 14; refine (power_cs HC1.out true).mono ?_; rintro e9 v10 ⟨⟨pv2, rfl⟩, c9, f9⟩; have HC2 : Hid (Cs H M8 v10 (na.pwr (na.pwr b3.s false) true) l8) := c9; clear c9; have BB : Hid (Below wr.heap.size wr v10) := BB.out.trans (f9.below BB.out.size HM8.out); clear sd_0 sd_1; have sd_0 := (HSR.out.below BB.out LSR.out).cell 0 _ rfl; have sd_1 := (HSR.out.below BB.out LSR.out).cell 1 _ rfl; clear t30; have t31 := tR)
                  | (have q29 := t29; go_at_call 14; refine (power_cs HB4.out.1 false).mono ?_; rintro e9 v9 ⟨⟨pv1, rfl⟩, c9, f9⟩; have HC1 : Hid (Cs H M8 v9 (na.pwr b3.s false) l8) := c9; have HHF : Hid (b3.hf = hfl l8) := HB4.out.2.2.2.2.2; clear c9; have BB : Hid (Below wr.heap.size wr v9) := BB.out.trans (f9.below BB.out.size HM8.out); clear sd_0 sd_1; have sd_0 := (HSR.out.below BB.out LSR.out).cell 0 _ rfl; have sd_1 := (HSR.out.below BB.out LSR.out).cell 1 _ rfl; clear t29; have t30 := tR)
                  | (have q28 := t28; go_at_call 18; refine (SC3.out H M6 v7 B l6 rv3 HH.out HB3.out HY3.out (HTR.out.below BB.out)).mono ?_; rintro e9 v8 ⟨M8, l8, rfl, b9, f9⟩; have HB4 : Hid (Bs H M8 v8 B b3 l8) := b9; have HM8 : Hid (∀ k, M8 k = true → wr.heap.size ≤ k) := f9.up BB.out.size HM6.out; have BB : Hid (Below wr.heap.size wr v8) := BB.out.trans (f9.below BB.out.size HM6.out HLB.out); clear sd_0 sd_1; have sd_0 := (HSR.out.below BB.out LSR.out).cell 0 _ rfl; have sd_1 := (HSR.out.below BB.out LSR.out).cell 1 _ rfl; clear t28; have t29 := tR)
                  | (have q27 := t27; go_at_call 17; refine (SRB.out v6).mono ?_; rintro e9 v7 ⟨rv3, rfl, y9, B9⟩; have HY3 : Hid (Byt v7 rv3 xb) := y9; have HB3 : Hid (Bs H M6 v7 B b2 l6) := HB3.out.below B9; clear y9; have BB : Hid (Below wr.heap.size wr v7) := BB.out.trans (B9.mono BB.out.size); clear sd_0 sd_1; have sd_0 := (HSR.out.below BB.out LSR.out).cell 0 _ rfl; have sd_1 := (HSR.out.below BB.out LSR.out).cell 1 _ rfl; clear t27; have t28 := tR)
                  | (have q26 := t26; go_at_call 18; refine (SC2.out H M4 v5 B l4 rv2 HH.out HB2.out HY2.out (HTR.out.below BB.out)).mono ?_; rintro e9 v6 ⟨M6, l6, rfl, b9, f9⟩; have HB3 : Hid (Bs H M6 v6 B b2 l6) := b9; have HM6 : Hid (∀ k, M6 k = true → wr.heap.size ≤ k) := f9.up BB.out.size HM4.out; have BB : Hid (Below wr.heap.size wr v6) := BB.out.trans (f9.below BB.out.size HM4.out HLB.out); clear sd_0 sd_1; have sd_0 := (HSR.out.below BB.out LSR.out).cell 0 _ rfl; have sd_1 := (HSR.out.below BB.out LSR.out).cell 1 _ rfl; clear t26; have t27 := tR)
                  | (have q25 := t25; go_at_call 17; refine (SRB.out v4).mono ?_; rintro e9 v5 ⟨rv2, rfl, y9, B9⟩; have HY2 : Hid (Byt v5 rv2 xb) := y9; have HB2 : Hid (Bs H M4 v5 B b1 l4) := HB2.out.below B9; clear y9; have BB : Hid (Below wr.heap.size wr v5) := BB.out.trans (B9.mono BB.out.size); clear sd_0 sd_1; have sd_0 := (HSR.out.below BB.out LSR.out).cell 0 _ rfl; have sd_1 := (HSR.out.below BB.out LSR.out).cell 1 _ rfl; clear t25; have t26 := tR)
                  | (have q24 := t24; go_at_call 23; refine (ops_cs HB2.out.1).mono ?_; rintro e9 v99 ⟨rfl, hw⟩; obtain rfl := hw.symm; rw [HOP.out]; clear t24; have t25 := tR)
                  | (have q23 := t23; go_at_call 18; refine (SC1.out H M v3 B [] rv1 HH.out HB1.out HY1.out (HTR.out.below BB.out)).mono ?_; rintro e9 v4 ⟨M4, l4, rfl, b9, f9⟩; have HB2 : Hid (Bs H M4 v4 B b1 l4) := b9; have HM4 : Hid (∀ k, M4 k = true → wr.heap.size ≤ k) := f9.up BB.out.size HM.out; have BB : Hid (Below wr.heap.size wr v4) := BB.out.trans (f9.below BB.out.size HM.out HLB.out); clear sd_0 sd_1; have sd_0 := (HSR.out.below BB.out LSR.out).cell 0 _ rfl; have sd_1 := (HSR.out.below BB.out LSR.out).cell 1 _ rfl; clear t23; have t24 := tR)
                  | (have q22 := t22; go_at_call 17; refine (SRA.out v2).mono ?_; rintro e9 v3 ⟨rv1, rfl, y9, B9⟩; have HY1 : Hid (Byt v3 rv1 xa) := y9; have HB1 : Hid (Bs H M v3 B (b0 (S + 88)) []) := HB1.out.below B9; clear y9; have BB : Hid (Below wr.heap.size wr v3) := BB.out.trans (B9.mono BB.out.size); clear sd_0 sd_1; have sd_0 := (HSR.out.below BB.out LSR.out).cell 0 _ rfl; have sd_1 := (HSR.out.below BB.out LSR.out).cell 1 _ rfl; clear t22; have t23 := tR)
                  | (have q21 := t21; go_at_call 10; refine (open_new_at HH.out HC.out (HTR.out.below BB.out)).mono ?_; rintro e9 v2 ⟨B, zo, zc, rfl, b9, lb9, B9⟩; have HB1 : Hid (Bs H M v2 B (b0 (S + 88)) []) := b9; have HLB : Hid (wr.heap.size ≤ B) := Nat.le_trans BB.out.size lb9; clear b9 lb9; have BB : Hid (Below wr.heap.size wr v2) := BB.out.trans (B9.mono BB.out.size); clear sd_0 sd_1; have sd_0 := (HSR.out.below BB.out LSR.out).cell 0 _ rfl; have sd_1 := (HSR.out.below BB.out LSR.out).cell 1 _ rfl; clear t21; have t22 := tR)
                  | (have q20 := t20; go_at_call 9; refine (SN.out wr rfl).mono ?_; rintro e9 v1 ⟨H, M, rfl, c9, m9, B9, h9⟩; have HC : Hid (Cs H M v1 (na.new (S + 88)) []) := c9; have HM : Hid (∀ k, M k = true → wr.heap.size ≤ k) := m9; have HH : Hid (HIs H N P S g3 g4 g5 pl) := h9; clear g_0 g_1 g_2 g_3 g_4 g_5 c9 m9 h9; have BB : Hid (Below wr.heap.size wr v1) := B9; have sd_0 := (HSR.out.below BB.out LSR.out).cell 0 _ rfl; have sd_1 := (HSR.out.below BB.out LSR.out).cell 1 _ rfl; clear t20; have t21 := tR))
              go_ret
              exact ⟨rfl, HBX.out.trans (BB.out.mono HBX.out.size)⟩
end Go.Proofs.YtakibiigcdgohaaGreatDoor.vb
