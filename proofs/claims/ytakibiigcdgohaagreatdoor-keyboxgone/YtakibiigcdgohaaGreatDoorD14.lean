/- Parts of the proof: what KeyboxGone reaches. No claim of its own. -/
import Derived.WalkKit
import Derived.Deep.QuietTactic
import Derived.Laws.AppendOwnNone
import Derived.Deep.RegionHeld3
import Derived.Deep.DeepCutAuto
import Derived.Deep.WholeRow
import Derived.Deep.MidRow
import Derived.Laws.StructEq
import Derived.Lib.AppendZeros
import Derived.Lib.SliceRun
import Derived.WalkSmall
import Derived.ProofKit
import Derived.OpenShut
import Derived.BigQuiet
import Derived.Deep.DeepHandedRow
import Derived.Lib.LaidTab
import Derived.Deep.Matrix
import Derived.Test.YtakibiigcdgohaaGreatDoorD00
import Derived.Test.YtakibiigcdgohaaGreatDoorD01
import Derived.Test.YtakibiigcdgohaaGreatDoorD02
import Derived.Test.YtakibiigcdgohaaGreatDoorD03
import Derived.Test.YtakibiigcdgohaaGreatDoorD04
import Derived.Test.YtakibiigcdgohaaGreatDoorD05
import Derived.Test.YtakibiigcdgohaaGreatDoorD09
import Derived.Test.YtakibiigcdgohaaGreatDoorD10
import Derived.Test.YtakibiigcdgohaaGreatDoorD11
import Derived.Test.YtakibiigcdgohaaGreatDoorD12
import Derived.Test.YtakibiigcdgohaaGreatDoorD13
set_option maxHeartbeats 8000000
namespace Go.Proofs.YtakibiigcdgohaaGreatDoor.pa
open Go.RowKit Go.Proofs.YtakibiigcdgohaaGreatDoor.fa Go.Proofs.YtakibiigcdgohaaGreatDoor.he
set_option maxRecDepth 20000
section
variable {ops : Array Oper} {rest : List Oper} {a : Act} {Q : Exit → Act → World → Prop} {w : World} {d : Option Tmp} {ty : TypeId} {pos : String} {af : Array Edge} {gd : Option (Nat × Bool)}
theorem at_store {t : TypeId} {x y : Operand} (h : wpList Tryz.prog ops Q (⟨d, Op.store t x y, ty, pos, af, gd⟩ :: rest) a w) : wpList Tryz.prog ops Q (⟨d, Op.store t x y, ty, pos, af, gd⟩ :: rest) a w := h
theorem at_alloc {t : TypeId} (h : wpList Tryz.prog ops Q (⟨d, Op.alloc t, ty, pos, af, gd⟩ :: rest) a w) : wpList Tryz.prog ops Q (⟨d, Op.alloc t, ty, pos, af, gd⟩ :: rest) a w := h
end
def plo (S : Nat) (p : List Int) : List Int := if p.length = 0 then List.replicate S 255 else p
theorem sec_of {g0 g1 g2 g3 g4 g5 : Int} (h : ge.Rt [g0, g1, g2, g3, g4, g5]) : ∃ S : Nat, g2 = S ∧ 32 ≤ S ∧ S ≤ 4096 := by
  obtain ⟨⟨-, -, a2, -⟩, -⟩ := h
  simp only [gb, List.getD, List.getElem?_cons_zero, List.getElem?_cons_succ, Option.getD_some] at a2
  exact ⟨g2.toNat, by omega, by omega, by omega⟩
theorem sec_le {g0 g1 g3 g4 g5 : Int} {S : Nat} (h : ge.Rt [g0, g1, (S : Int), g3, g4, g5]) : 32 ≤ S ∧ S ≤ 4096 := by
  obtain ⟨T, h1, h2, h3⟩ := sec_of h
  omega
theorem clampS {S : Nat} (h : S ≤ 4184) : clamp (S : Int) 65536 = S := by unfold clamp; omega
theorem own_form {B : Nat} {w : World} {v : Value} {xs : List Int} (h : Own B w v xs) (ha : AllB xs) : ∃ ao cap, v = .slice ao xs.length cap := by
  obtain ⟨ao, cap, e, -⟩ := h.byt ha
  exact ⟨ao, cap, e⟩
theorem hend_all {k n c l e t : Int} (h : Rh k n c) {tag mk : List Int} (h1 : AllB tag) (h2 : AllB mk) : AllB (hend (hb k n c l e t) tag mk) := by
  have hb1 := hb_all h l e t
  exact allB_app hb1 (allB_app (inv_all _ hb1) (allB_app h1 h2))
theorem tgo_all {tag : List Int} (h : AllB tag) : AllB (tgo tag) := by
  unfold tgo
  split
  · exact allB_replicate 255 _ (by omega)
  · exact h
theorem make_yf (g0 g1 g3 g4 g5 : Int) (S : Nat) (k n c l e t : Int) (pv tv : Value) (p tag : List Int) (w : World) (hp : Byt w pv p) (ht : Byt w tv tag) (hH : Hb l e t) (hT : Tab w) (hr : ge.Rt [g0, g1, (S : Int), g3, g4, g5]) (hl : p.length = S) (hk : Rh k n c) (hn : tag.length = 0 ∨ tag.length = 32) :
    Calls Tryz.prog 90 #[.agg (ints .i64 [g0, g1, (S : Int), g3, g4, g5]), .agg (hv k n c l e t).toArray, pv, tv] w fun x w' => ∃ v, x = .returned (.tuple #[v, .int .i64 0]) ∧ Own w.heap.size w' v (plo S p ++ hend (hb k n c l e t) (tgo tag) (List.replicate 8 255)) ∧ Below w.heap.size w w' := by
  have ⟨s1, s2⟩ := sec_le hr
  have SK : Hid (∀ w0, Calls Tryz.prog 33 #[.agg (ints .i64 [g0, g1, (S : Int), g3, g4, g5])] w0 fun x w' => x = .returned (.int .i64 0) ∧ Below w0.heap.size w0 w') := ge.check_yes [g0, g1, (S : Int), g3, g4, g5] rfl hr
  have SE : Hid (∀ w0, Below w.heap.size w w0 → Calls Tryz.prog 115 #[.agg (hv k n c l e t).toArray, tv] w0 fun x w' => ∃ v, x = .returned (.tuple #[v, .int .i64 0]) ∧ Own w0.heap.size w' v (hend (hb k n c l e t) (tgo tag) (List.replicate 8 255)) ∧ Below w0.heap.size w0 w') := fun w0 hb => end_yes k n c l e t tv tag w0 (ht.below hb) hH.1 hH.2.1 hH.2.2 (hT.below hb) hk hn
  have EL : Hid ((hend (hb k n c l e t) (tgo tag) (List.replicate 8 255)).length = 88) := hend_len (hb_len _ _ _ _ _ _) (tgo_len hn) (by simp)
  have EA : Hid (AllB (hend (hb k n c l e t) (tgo tag) (List.replicate 8 255))) := hend_all hk (tgo_all ht.all) (allB_replicate 255 _ (by omega))
  obtain ⟨po, pn, pc, hpf, hpn⟩ : ∃ po pn pc, pv = .slice po pn pc ∧ p.length = pn := (by obtain ⟨ao, cap, e, _⟩ := hp; exact ⟨ao, _, cap, e, rfl⟩)
  subst hpf
  have e0 : pn = S := by omega
  subst e0
  have n0 : ((pn : Int) == 0) = false := beq_eq_false_iff_ne.2 (by omega)
  have ez : plo pn p = p := if_neg (by omega)
  rw [ez]
  have ZL : Hid (p.length ≤ 10000 ∧ 0 < p.length) := ⟨by omega, by omega⟩
  have HP : Hid (Byt w (.slice po pn pc) p) := hp
  clear ez
  generalize hend (hb k n c l e t) (tgo tag) (List.replicate 8 255) = E at SE EL EA ⊢
  clear hr hT hk hl hpn s1 s2 hn hH
  clear hp ht
  have t0 := tR
  go_enter Tryz.func90, Tryz.ntmps90
  go_wp2_with (first
    | (have q4 := t4; go_at_call 116; refine (join_any _ _ p E w4 (HP.out.below BB.out) (HE.out.byt EA.out) ZL.out.1 (by rw [EL.out]; omega) ZL.out.2).mono ?_; rintro e9 w5 ⟨r9, rfl, O9, B9⟩; have HB0 : Hid (Vr w5 w.heap.size [.int .i64 g0, .int .i64 g1, .int .i64 (pn : Int), .int .i64 g3, .int .i64 g4, .int .i64 g5]) := HB0.out.below B9 (range_lt HB0.out.1 (Nat.succ_pos _)); have HB1 : Hid (Vr w5 w1.heap.size (hv k n c l e t)) := HB1.out.below B9 (range_lt HB1.out.1 (Nat.succ_pos _)); have HE : Hid (Own w3.heap.size w5 (.slice eo 88 ec) E) := own_low HE.out B9; have HR : Hid (Own w.heap.size w5 r9 (p ++ E)) := own_less O9 BB.out.size; have BB : Hid (Below w.heap.size w w5) := BB.out.trans (B9.mono BB.out.size); clear hb0_0 hb0_1 hb0_2 hb0_3 hb0_4 hb0_5 hb1_0 hb1_1 hb1_2 hb1_3 hb1_4 hb1_5; have hb0_0 := HB0.out.cell 0 _ rfl; have hb0_1 := HB0.out.cell 1 _ rfl; have hb0_2 := HB0.out.cell 2 _ rfl; have hb0_3 := HB0.out.cell 3 _ rfl; have hb0_4 := HB0.out.cell 4 _ rfl; have hb0_5 := HB0.out.cell 5 _ rfl; have hb1_0 := HB1.out.cell 0 _ rfl; have hb1_1 := HB1.out.cell 1 _ rfl; have hb1_2 := HB1.out.cell 2 _ rfl; have hb1_3 := HB1.out.cell 3 _ rfl; have hb1_4 := HB1.out.cell 4 _ rfl; have hb1_5 := HB1.out.cell 5 _ rfl; clear B9 O9; clear t4; have t5 := tR)
    | (have q3 := t3; go_at_call 115; refine (SE.out w3 BB.out).mono ?_; rintro e9 w4 ⟨v9, rfl, O9, B9⟩; have HB0 : Hid (Vr w4 w.heap.size [.int .i64 g0, .int .i64 g1, .int .i64 (pn : Int), .int .i64 g3, .int .i64 g4, .int .i64 g5]) := HB0.out.below B9 (range_lt HB0.out.1 (Nat.succ_pos _)); have HB1 : Hid (Vr w4 w1.heap.size (hv k n c l e t)) := HB1.out.below B9 (range_lt HB1.out.1 (Nat.succ_pos _)); obtain ⟨eo, ec, rfl⟩ := own_form O9 EA.out; rw [EL.out] at O9 ⊢; have HE : Hid (Own w3.heap.size w4 (.slice eo 88 ec) E) := O9; have BB : Hid (Below w.heap.size w w4) := BB.out.trans (B9.mono BB.out.size); clear hb0_0 hb0_1 hb0_2 hb0_3 hb0_4 hb0_5 hb1_0 hb1_1 hb1_2 hb1_3 hb1_4 hb1_5; have hb0_0 := HB0.out.cell 0 _ rfl; have hb0_1 := HB0.out.cell 1 _ rfl; have hb0_2 := HB0.out.cell 2 _ rfl; have hb0_3 := HB0.out.cell 3 _ rfl; have hb0_4 := HB0.out.cell 4 _ rfl; have hb0_5 := HB0.out.cell 5 _ rfl; have hb1_0 := HB1.out.cell 0 _ rfl; have hb1_1 := HB1.out.cell 1 _ rfl; have hb1_2 := HB1.out.cell 2 _ rfl; have hb1_3 := HB1.out.cell 3 _ rfl; have hb1_4 := HB1.out.cell 4 _ rfl; have hb1_5 := HB1.out.cell 5 _ rfl; clear B9 O9; clear t3; have t4 := tR)
    | (have q2 := t2; go_at_call 33; refine (SK.out w2).mono ?_; rintro e9 w3 ⟨rfl, B9⟩; have HB0 : Hid (Vr w3 w.heap.size [.int .i64 g0, .int .i64 g1, .int .i64 (pn : Int), .int .i64 g3, .int .i64 g4, .int .i64 g5]) := HB0.out.below B9 (range_lt HB0.out.1 (Nat.succ_pos _)); have HB1 : Hid (Vr w3 w1.heap.size (hv k n c l e t)) := HB1.out.below B9 (range_lt HB1.out.1 (Nat.succ_pos _)); have BB : Hid (Below w.heap.size w w3) := BB.out.trans (B9.mono BB.out.size); clear hb0_0 hb0_1 hb0_2 hb0_3 hb0_4 hb0_5 hb1_0 hb1_1 hb1_2 hb1_3 hb1_4 hb1_5; have hb0_0 := HB0.out.cell 0 _ rfl; have hb0_1 := HB0.out.cell 1 _ rfl; have hb0_2 := HB0.out.cell 2 _ rfl; have hb0_3 := HB0.out.cell 3 _ rfl; have hb0_4 := HB0.out.cell 4 _ rfl; have hb0_5 := HB0.out.cell 5 _ rfl; have hb1_0 := HB1.out.cell 0 _ rfl; have hb1_1 := HB1.out.cell 1 _ rfl; have hb1_2 := HB1.out.cell 2 _ rfl; have hb1_3 := HB1.out.cell 3 _ rfl; have hb1_4 := HB1.out.cell 4 _ rfl; have hb1_5 := HB1.out.cell 5 _ rfl; clear B9; clear t2; have t3 := tR)
    | (have q1 := t1; refine box_lawC _ (hv k n c l e t) rfl ?_; intro w2 X9 B9 l9; have HB0 : Hid (Vr w2 w.heap.size [.int .i64 g0, .int .i64 g1, .int .i64 (pn : Int), .int .i64 g3, .int .i64 g4, .int .i64 g5]) := HB0.out.below B9 (range_lt HB0.out.1 (Nat.succ_pos _)); have HB1 : Hid (Vr w2 w1.heap.size (hv k n c l e t)) := X9; have BB : Hid (Below w.heap.size w w2) := BB.out.trans (B9.mono BB.out.size); have hb0_0 := HB0.out.cell 0 _ rfl; have hb0_1 := HB0.out.cell 1 _ rfl; have hb0_2 := HB0.out.cell 2 _ rfl; have hb0_3 := HB0.out.cell 3 _ rfl; have hb0_4 := HB0.out.cell 4 _ rfl; have hb0_5 := HB0.out.cell 5 _ rfl; have hb1_0 := HB1.out.cell 0 _ rfl; have hb1_1 := HB1.out.cell 1 _ rfl; have hb1_2 := HB1.out.cell 2 _ rfl; have hb1_3 := HB1.out.cell 3 _ rfl; have hb1_4 := HB1.out.cell 4 _ rfl; have hb1_5 := HB1.out.cell 5 _ rfl; clear X9 B9 l9; clear t1; have t2 := tR)
    | (have q0 := t0; refine box_lawC _ [.int .i64 g0, .int .i64 g1, .int .i64 (pn : Int), .int .i64 g3, .int .i64 g4, .int .i64 g5] rfl ?_; intro w1 X9 B9 l9; have HB0 : Hid (Vr w1 w.heap.size [.int .i64 g0, .int .i64 g1, .int .i64 (pn : Int), .int .i64 g3, .int .i64 g4, .int .i64 g5]) := X9; have BB : Hid (Below w.heap.size w w1) := B9; clear X9 B9 l9; clear t0; have t1 := tR))
  go_ret2
  exact ⟨_, rfl, HR.out, BB.out⟩
theorem make_ye (g0 g1 g3 g4 g5 : Int) (S : Nat) (k n c l e t : Int) (pv tv : Value) (p tag : List Int) (w : World) (hp : Byt w pv p) (ht : Byt w tv tag) (hH : Hb l e t) (hT : Tab w) (hr : ge.Rt [g0, g1, (S : Int), g3, g4, g5]) (hl : p.length = 0) (hk : Rh k n c) (hn : tag.length = 0 ∨ tag.length = 32) :
    Calls Tryz.prog 90 #[.agg (ints .i64 [g0, g1, (S : Int), g3, g4, g5]), .agg (hv k n c l e t).toArray, pv, tv] w fun x w' => ∃ v, x = .returned (.tuple #[v, .int .i64 0]) ∧ Own w.heap.size w' v (plo S p ++ hend (hb k n c l e t) (tgo tag) (List.replicate 8 255)) ∧ Below w.heap.size w w' := by
  have ⟨s1, s2⟩ := sec_le hr
  have SK : Hid (∀ w0, Calls Tryz.prog 33 #[.agg (ints .i64 [g0, g1, (S : Int), g3, g4, g5])] w0 fun x w' => x = .returned (.int .i64 0) ∧ Below w0.heap.size w0 w') := ge.check_yes [g0, g1, (S : Int), g3, g4, g5] rfl hr
  have SE : Hid (∀ w0, Below w.heap.size w w0 → Calls Tryz.prog 115 #[.agg (hv k n c l e t).toArray, tv] w0 fun x w' => ∃ v, x = .returned (.tuple #[v, .int .i64 0]) ∧ Own w0.heap.size w' v (hend (hb k n c l e t) (tgo tag) (List.replicate 8 255)) ∧ Below w0.heap.size w0 w') := fun w0 hb => end_yes k n c l e t tv tag w0 (ht.below hb) hH.1 hH.2.1 hH.2.2 (hT.below hb) hk hn
  have SF : Hid (∀ w0, Calls Tryz.prog 114 #[.int .u8 255, .int .i64 (S : Int)] w0 fun x w' => ∃ ao cap, x = .returned (.slice ao S cap) ∧ Byt w' (.slice ao S cap) (List.replicate S 255) ∧ Below w0.heap.size w0 w') := fun w0 => (fill_any 255 S w0 (by omega)).mono (by rintro _ _ ⟨v, rfl, h1, h2⟩; rw [clampS (by omega)] at h1; obtain ⟨ao, cap, e, z⟩ := h1; rw [List.length_replicate] at e; subst e; exact ⟨ao, cap, rfl, ⟨ao, cap, by rw [List.length_replicate], z⟩, h2⟩)
  have EL : Hid ((hend (hb k n c l e t) (tgo tag) (List.replicate 8 255)).length = 88) := hend_len (hb_len _ _ _ _ _ _) (tgo_len hn) (by simp)
  have EA : Hid (AllB (hend (hb k n c l e t) (tgo tag) (List.replicate 8 255))) := hend_all hk (tgo_all ht.all) (allB_replicate 255 _ (by omega))
  obtain ⟨po, pn, pc, hpf, hpn⟩ : ∃ po pn pc, pv = .slice po pn pc ∧ p.length = pn := (by obtain ⟨ao, cap, e, _⟩ := hp; exact ⟨ao, _, cap, e, rfl⟩)
  subst hpf
  have e0 : pn = 0 := by omega
  subst e0
  have ez : plo S p = List.replicate S 255 := if_pos hpn
  rw [ez]
  obtain ⟨Z, hZ⟩ : ∃ Z, List.replicate S (255 : Int) = Z := ⟨_, rfl⟩
  rw [hZ] at SF ⊢
  have ZL : Hid (Z.length ≤ 10000 ∧ 0 < Z.length) := (by rw [← hZ, List.length_replicate]; exact ⟨by omega, by omega⟩)
  clear ez hZ
  generalize hend (hb k n c l e t) (tgo tag) (List.replicate 8 255) = E at SE EL EA ⊢
  clear hr hT hk hl hpn s1 s2 hn hH
  clear hp ht
  have t0 := tR
  go_enter Tryz.func90, Tryz.ntmps90
  go_wp2_with (first
    | (have q5 := t5; go_at_call 116; refine (join_any _ _ Z E w5 HP.out (HE.out.byt EA.out) ZL.out.1 (by rw [EL.out]; omega) ZL.out.2).mono ?_; rintro e9 w6 ⟨r9, rfl, O9, B9⟩; have HB0 : Hid (Vr w6 w.heap.size [.int .i64 g0, .int .i64 g1, .int .i64 (S : Int), .int .i64 g3, .int .i64 g4, .int .i64 g5]) := HB0.out.below B9 (range_lt HB0.out.1 (Nat.succ_pos _)); have HB1 : Hid (Vr w6 w1.heap.size (hv k n c l e t)) := HB1.out.below B9 (range_lt HB1.out.1 (Nat.succ_pos _)); have HP : Hid (Byt w6 (.slice fo S fc) Z) := HP.out.below B9; have HE : Hid (Own w4.heap.size w6 (.slice eo 88 ec) E) := own_low HE.out B9; have HR : Hid (Own w.heap.size w6 r9 (Z ++ E)) := own_less O9 BB.out.size; have BB : Hid (Below w.heap.size w w6) := BB.out.trans (B9.mono BB.out.size); clear hb0_0 hb0_1 hb0_2 hb0_3 hb0_4 hb0_5 hb1_0 hb1_1 hb1_2 hb1_3 hb1_4 hb1_5; have hb0_0 := HB0.out.cell 0 _ rfl; have hb0_1 := HB0.out.cell 1 _ rfl; have hb0_2 := HB0.out.cell 2 _ rfl; have hb0_3 := HB0.out.cell 3 _ rfl; have hb0_4 := HB0.out.cell 4 _ rfl; have hb0_5 := HB0.out.cell 5 _ rfl; have hb1_0 := HB1.out.cell 0 _ rfl; have hb1_1 := HB1.out.cell 1 _ rfl; have hb1_2 := HB1.out.cell 2 _ rfl; have hb1_3 := HB1.out.cell 3 _ rfl; have hb1_4 := HB1.out.cell 4 _ rfl; have hb1_5 := HB1.out.cell 5 _ rfl; clear B9 O9; clear t5; have t6 := tR)
    | (have q4 := t4; go_at_call 115; refine (SE.out w4 BB.out).mono ?_; rintro e9 w5 ⟨v9, rfl, O9, B9⟩; have HB0 : Hid (Vr w5 w.heap.size [.int .i64 g0, .int .i64 g1, .int .i64 (S : Int), .int .i64 g3, .int .i64 g4, .int .i64 g5]) := HB0.out.below B9 (range_lt HB0.out.1 (Nat.succ_pos _)); have HB1 : Hid (Vr w5 w1.heap.size (hv k n c l e t)) := HB1.out.below B9 (range_lt HB1.out.1 (Nat.succ_pos _)); have HP : Hid (Byt w5 (.slice fo S fc) Z) := HP.out.below B9; obtain ⟨eo, ec, rfl⟩ := own_form O9 EA.out; rw [EL.out] at O9 ⊢; have HE : Hid (Own w4.heap.size w5 (.slice eo 88 ec) E) := O9; have BB : Hid (Below w.heap.size w w5) := BB.out.trans (B9.mono BB.out.size); clear hb0_0 hb0_1 hb0_2 hb0_3 hb0_4 hb0_5 hb1_0 hb1_1 hb1_2 hb1_3 hb1_4 hb1_5; have hb0_0 := HB0.out.cell 0 _ rfl; have hb0_1 := HB0.out.cell 1 _ rfl; have hb0_2 := HB0.out.cell 2 _ rfl; have hb0_3 := HB0.out.cell 3 _ rfl; have hb0_4 := HB0.out.cell 4 _ rfl; have hb0_5 := HB0.out.cell 5 _ rfl; have hb1_0 := HB1.out.cell 0 _ rfl; have hb1_1 := HB1.out.cell 1 _ rfl; have hb1_2 := HB1.out.cell 2 _ rfl; have hb1_3 := HB1.out.cell 3 _ rfl; have hb1_4 := HB1.out.cell 4 _ rfl; have hb1_5 := HB1.out.cell 5 _ rfl; clear B9 O9; clear t4; have t5 := tR)
    | (have q3 := t3; go_at_call 114; refine (SF.out w3).mono ?_; rintro e9 w4 ⟨fo, fc, rfl, Y9, B9⟩; have HB0 : Hid (Vr w4 w.heap.size [.int .i64 g0, .int .i64 g1, .int .i64 (S : Int), .int .i64 g3, .int .i64 g4, .int .i64 g5]) := HB0.out.below B9 (range_lt HB0.out.1 (Nat.succ_pos _)); have HB1 : Hid (Vr w4 w1.heap.size (hv k n c l e t)) := HB1.out.below B9 (range_lt HB1.out.1 (Nat.succ_pos _)); have HP : Hid (Byt w4 (.slice fo S fc) Z) := Y9; have BB : Hid (Below w.heap.size w w4) := BB.out.trans (B9.mono BB.out.size); clear hb0_0 hb0_1 hb0_2 hb0_3 hb0_4 hb0_5 hb1_0 hb1_1 hb1_2 hb1_3 hb1_4 hb1_5; have hb0_0 := HB0.out.cell 0 _ rfl; have hb0_1 := HB0.out.cell 1 _ rfl; have hb0_2 := HB0.out.cell 2 _ rfl; have hb0_3 := HB0.out.cell 3 _ rfl; have hb0_4 := HB0.out.cell 4 _ rfl; have hb0_5 := HB0.out.cell 5 _ rfl; have hb1_0 := HB1.out.cell 0 _ rfl; have hb1_1 := HB1.out.cell 1 _ rfl; have hb1_2 := HB1.out.cell 2 _ rfl; have hb1_3 := HB1.out.cell 3 _ rfl; have hb1_4 := HB1.out.cell 4 _ rfl; have hb1_5 := HB1.out.cell 5 _ rfl; clear B9 Y9; clear t3; have t4 := tR)
    | (have q2 := t2; go_at_call 33; refine (SK.out w2).mono ?_; rintro e9 w3 ⟨rfl, B9⟩; have HB0 : Hid (Vr w3 w.heap.size [.int .i64 g0, .int .i64 g1, .int .i64 (S : Int), .int .i64 g3, .int .i64 g4, .int .i64 g5]) := HB0.out.below B9 (range_lt HB0.out.1 (Nat.succ_pos _)); have HB1 : Hid (Vr w3 w1.heap.size (hv k n c l e t)) := HB1.out.below B9 (range_lt HB1.out.1 (Nat.succ_pos _)); have BB : Hid (Below w.heap.size w w3) := BB.out.trans (B9.mono BB.out.size); clear hb0_0 hb0_1 hb0_2 hb0_3 hb0_4 hb0_5 hb1_0 hb1_1 hb1_2 hb1_3 hb1_4 hb1_5; have hb0_0 := HB0.out.cell 0 _ rfl; have hb0_1 := HB0.out.cell 1 _ rfl; have hb0_2 := HB0.out.cell 2 _ rfl; have hb0_3 := HB0.out.cell 3 _ rfl; have hb0_4 := HB0.out.cell 4 _ rfl; have hb0_5 := HB0.out.cell 5 _ rfl; have hb1_0 := HB1.out.cell 0 _ rfl; have hb1_1 := HB1.out.cell 1 _ rfl; have hb1_2 := HB1.out.cell 2 _ rfl; have hb1_3 := HB1.out.cell 3 _ rfl; have hb1_4 := HB1.out.cell 4 _ rfl; have hb1_5 := HB1.out.cell 5 _ rfl; clear B9; clear t2; have t3 := tR)
    | (have q1 := t1; refine box_lawC _ (hv k n c l e t) rfl ?_; intro w2 X9 B9 l9; have HB0 : Hid (Vr w2 w.heap.size [.int .i64 g0, .int .i64 g1, .int .i64 (S : Int), .int .i64 g3, .int .i64 g4, .int .i64 g5]) := HB0.out.below B9 (range_lt HB0.out.1 (Nat.succ_pos _)); have HB1 : Hid (Vr w2 w1.heap.size (hv k n c l e t)) := X9; have BB : Hid (Below w.heap.size w w2) := BB.out.trans (B9.mono BB.out.size); have hb0_0 := HB0.out.cell 0 _ rfl; have hb0_1 := HB0.out.cell 1 _ rfl; have hb0_2 := HB0.out.cell 2 _ rfl; have hb0_3 := HB0.out.cell 3 _ rfl; have hb0_4 := HB0.out.cell 4 _ rfl; have hb0_5 := HB0.out.cell 5 _ rfl; have hb1_0 := HB1.out.cell 0 _ rfl; have hb1_1 := HB1.out.cell 1 _ rfl; have hb1_2 := HB1.out.cell 2 _ rfl; have hb1_3 := HB1.out.cell 3 _ rfl; have hb1_4 := HB1.out.cell 4 _ rfl; have hb1_5 := HB1.out.cell 5 _ rfl; clear X9 B9 l9; clear t1; have t2 := tR)
    | (have q0 := t0; refine box_lawC _ [.int .i64 g0, .int .i64 g1, .int .i64 (S : Int), .int .i64 g3, .int .i64 g4, .int .i64 g5] rfl ?_; intro w1 X9 B9 l9; have HB0 : Hid (Vr w1 w.heap.size [.int .i64 g0, .int .i64 g1, .int .i64 (S : Int), .int .i64 g3, .int .i64 g4, .int .i64 g5]) := X9; have BB : Hid (Below w.heap.size w w1) := B9; clear X9 B9 l9; clear t0; have t1 := tR))
  go_ret2
  exact ⟨_, rfl, HR.out, BB.out⟩
theorem make_yes (g0 g1 g3 g4 g5 : Int) (S : Nat) (k n c l e t : Int) (pv tv : Value) (p tag : List Int) (w : World) (hp : Byt w pv p) (ht : Byt w tv tag) (hH : Hb l e t) (hT : Tab w) (hr : ge.Rt [g0, g1, (S : Int), g3, g4, g5]) (hl : p.length = 0 ∨ p.length = S) (hk : Rh k n c) (hn : tag.length = 0 ∨ tag.length = 32) :
    Calls Tryz.prog 90 #[.agg (ints .i64 [g0, g1, (S : Int), g3, g4, g5]), .agg (hv k n c l e t).toArray, pv, tv] w fun x w' => ∃ v, x = .returned (.tuple #[v, .int .i64 0]) ∧ Own w.heap.size w' v (plo S p ++ hend (hb k n c l e t) (tgo tag) (List.replicate 8 255)) ∧ Below w.heap.size w w' := by
  rcases hl with hl | hl
  · exact make_ye g0 g1 g3 g4 g5 S k n c l e t pv tv p tag w hp ht hH hT hr hl hk hn
  · exact make_yf g0 g1 g3 g4 g5 S k n c l e t pv tv p tag w hp ht hH hT hr hl hk hn
theorem commit_yes (g0 g1 g3 g4 g5 : Int) (S : Nat) (w : World) (hr : ge.Rt [g0, g1, (S : Int), g3, g4, g5]) :
    Calls Tryz.prog 68 #[.agg (ints .i64 [g0, g1, (S : Int), g3, g4, g5])] w fun x w' => ∃ v, x = .returned (.tuple #[v, .int .i64 0]) ∧ Own w.heap.size w' v (he.mark (S + 88)) ∧ Below w.heap.size w w' := by
  have ⟨s1, s2⟩ := sec_le hr
  have SK : Hid (∀ w0, Calls Tryz.prog 33 #[.agg (ints .i64 [g0, g1, (S : Int), g3, g4, g5])] w0 fun x w' => x = .returned (.int .i64 0) ∧ Below w0.heap.size w0 w') := ge.check_yes [g0, g1, (S : Int), g3, g4, g5] rfl hr
  have SZ : Hid (∀ w0, Calls Tryz.prog 37 #[.agg (ints .i64 [g0, g1, (S : Int), g3, g4, g5])] w0 fun x w' => x = .returned (.int .i64 ((S + 88 : Nat) : Int)) ∧ Below w0.heap.size w0 w') := fun w0 => ge.psize_yes [g0, g1, (S : Int), g3, g4, g5] rfl hr w0
  have SM : Hid (∀ w0, Calls Tryz.prog 91 #[.int .i64 ((S + 88 : Nat) : Int)] w0 fun x w' => ∃ v, x = .returned v ∧ Own w0.heap.size w' v (he.mark (S + 88)) ∧ Below w0.heap.size w0 w') := fun w0 => mark_yes (S + 88) w0 (by omega) (by omega)
  generalize he.mark (S + 88) = Z at SM ⊢
  generalize S + 88 = T at SM SZ
  clear s1 s2
  clear hr
  have t0 := tR
  go_enter Tryz.func68, Tryz.ntmps68
  go_wp2_with (first
    | (have q3 := t3; go_at_call 91; refine (SM.out w3).mono ?_; rintro e9 w4 ⟨v9, rfl, O9, B9⟩; have HB0 : Hid (Vr w4 w.heap.size [.int .i64 g0, .int .i64 g1, .int .i64 (S : Int), .int .i64 g3, .int .i64 g4, .int .i64 g5]) := HB0.out.below B9 (range_lt HB0.out.1 (Nat.succ_pos _)); have HR : Hid (Own w.heap.size w4 v9 Z) := own_less O9 BB.out.size; have BB : Hid (Below w.heap.size w w4) := BB.out.trans (B9.mono BB.out.size); clear hb0_0 hb0_1 hb0_2 hb0_3 hb0_4 hb0_5; have hb0_0 := HB0.out.cell 0 _ rfl; have hb0_1 := HB0.out.cell 1 _ rfl; have hb0_2 := HB0.out.cell 2 _ rfl; have hb0_3 := HB0.out.cell 3 _ rfl; have hb0_4 := HB0.out.cell 4 _ rfl; have hb0_5 := HB0.out.cell 5 _ rfl; clear B9 O9; clear t3; have t4 := tR)
    | (have q2 := t2; go_at_call 37; refine (SZ.out w2).mono ?_; rintro e9 w3 ⟨rfl, B9⟩; have HB0 : Hid (Vr w3 w.heap.size [.int .i64 g0, .int .i64 g1, .int .i64 (S : Int), .int .i64 g3, .int .i64 g4, .int .i64 g5]) := HB0.out.below B9 (range_lt HB0.out.1 (Nat.succ_pos _)); have BB : Hid (Below w.heap.size w w3) := BB.out.trans (B9.mono BB.out.size); clear hb0_0 hb0_1 hb0_2 hb0_3 hb0_4 hb0_5; have hb0_0 := HB0.out.cell 0 _ rfl; have hb0_1 := HB0.out.cell 1 _ rfl; have hb0_2 := HB0.out.cell 2 _ rfl; have hb0_3 := HB0.out.cell 3 _ rfl; have hb0_4 := HB0.out.cell 4 _ rfl; have hb0_5 := HB0.out.cell 5 _ rfl; clear B9; clear t2; have t3 := tR)
    | (have q1 := t1; go_at_call 33; refine (SK.out w1).mono ?_; rintro e9 w2 ⟨rfl, B9⟩; have HB0 : Hid (Vr w2 w.heap.size [.int .i64 g0, .int .i64 g1, .int .i64 (S : Int), .int .i64 g3, .int .i64 g4, .int .i64 g5]) := HB0.out.below B9 (range_lt HB0.out.1 (Nat.succ_pos _)); have BB : Hid (Below w.heap.size w w2) := BB.out.trans (B9.mono BB.out.size); clear hb0_0 hb0_1 hb0_2 hb0_3 hb0_4 hb0_5; have hb0_0 := HB0.out.cell 0 _ rfl; have hb0_1 := HB0.out.cell 1 _ rfl; have hb0_2 := HB0.out.cell 2 _ rfl; have hb0_3 := HB0.out.cell 3 _ rfl; have hb0_4 := HB0.out.cell 4 _ rfl; have hb0_5 := HB0.out.cell 5 _ rfl; clear B9; clear t1; have t2 := tR)
    | (have q0 := t0; refine box_lawC _ [.int .i64 g0, .int .i64 g1, .int .i64 (S : Int), .int .i64 g3, .int .i64 g4, .int .i64 g5] rfl ?_; intro w1 X9 B9 l9; have HB0 : Hid (Vr w1 w.heap.size [.int .i64 g0, .int .i64 g1, .int .i64 (S : Int), .int .i64 g3, .int .i64 g4, .int .i64 g5]) := X9; have BB : Hid (Below w.heap.size w w1) := B9; have hb0_0 := HB0.out.cell 0 _ rfl; have hb0_1 := HB0.out.cell 1 _ rfl; have hb0_2 := HB0.out.cell 2 _ rfl; have hb0_3 := HB0.out.cell 3 _ rfl; have hb0_4 := HB0.out.cell 4 _ rfl; have hb0_5 := HB0.out.cell 5 _ rfl; clear X9 B9 l9; clear t0; have t1 := tR))
  go_ret2
  exact ⟨_, rfl, HR.out, BB.out⟩
end Go.Proofs.YtakibiigcdgohaaGreatDoor.pa
