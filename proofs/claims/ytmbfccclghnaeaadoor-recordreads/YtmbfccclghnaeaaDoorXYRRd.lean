/- What the reference's Read of records answers. No claim of its own. -/
import Derived.Test.YtmbfccclghnaeaaDoorPackJ
import Derived.Test.YtmbfccclghnaeaaDoorPackK
namespace Go.Proofs.YtmbfccclghnaeaaDoor.re
open Go.RowKit Go.Proofs.YtmbfccclghnaeaaDoor.fa Go.Proofs.YtmbfccclghnaeaaDoor.he Go.Proofs.YtmbfccclghnaeaaDoor.so
set_option maxRecDepth 20000

theorem rsread_yes (v : Value) (ys : List Int) (w : World) (hb : Byt w v ys) (hl : ys.length = 128) (h : Sok ys) :
    Calls Tryd.prog 45 #[v] w fun x w' => ∃ s : Sc, x = .returned (.tuple #[.agg s.cs.toArray, .bool true]) ∧ (s.d = sw ys ∧ Byt w' s.v s.xs) ∧ Below w.heap.size w w' := by
  rcases h with rfl | h
  · exact (so.rread_free v w hb).mono fun _ w' ⟨a, b⟩ => ⟨sc0, a, ⟨(if_pos rfl).symm, Byt.nil w'⟩, b⟩
  · exact (so.rread_yes v ys w hb hl h).mono fun _ w' ⟨yo, yc, a, b, c⟩ => ⟨⟨true, _, _, _, .slice yo 104 yc, so.gw ys⟩, a, ⟨(if_neg (ur_not h)).symm, b⟩, c⟩
theorem rsread_no (v : Value) (ys : List Int) (w : World) (hb : Byt w v ys) (hl : ys.length = 128) (h : ¬ Sok ys) :
    Calls Tryd.prog 45 #[v] w fun x w' => ∃ s : Sc, x = .returned (.tuple #[.agg s.cs.toArray, .bool false]) ∧ Byt w' s.v s.xs ∧ Below w.heap.size w w' :=
  (so.rread_no v ys w hb hl (fun e => h (.inl e)) (fun e => h (.inr e))).mono fun _ w' ⟨a, b⟩ => ⟨sc0, a, Byt.nil w', b⟩
theorem qw_cut2 (xs : List Int) (k : Nat) : (xs.take (208 + 128 * k)).drop (80 + 128 * k) = qw xs k := rfl

theorem run_brec (w : World) (G P B : Int) (a c : Value) (ha : Slc a) (hc : Slc c) : (Instr.build 39 #[(0, .int .u64 G), (1, .int .u64 P), (2, a), (3, .int .u64 B), (4, c)]).run Tryd.prog w = .ok (.agg (rv G P a B c z4).toArray) w := by
  obtain ⟨-, -, -, ao, m, cap, rfl⟩ := ha
  obtain ⟨-, -, -, co, n, cap', rfl⟩ := hc
  kernel_rfl
theorem exec_buildV {ev : Operand → Value} {o : Oper} (t : TypeId) (parts : Array (Nat × Operand)) (hop : o.op = Op.build t parts) (vs : Array (Nat × Value)) (hvs : (parts.map fun (i, x) => (i, ev x)) = vs) (v : Value) (w : World) (hrun : (Instr.build t vs).run Tryd.prog w = .ok v w) : (execOp ev o).run Tryd.prog w = .ok (.value v) w :=
  exec_build t parts hop v w (by rw [hvs]; exact hrun)

set_option maxHeartbeats 8000000 in
theorem rread_all (v : Value) (xs : List Int) (w : World) (hb : Byt w v xs) (hl : xs.length = 624) (hi : Isr xs) :
    Calls Tryd.prog 22 #[v] w fun x w' => ∃ a c T, x = .returned (.tuple #[.agg (rv (qg xs) (qp xs) a (qb xs) c T).toArray, .bool true]) ∧ Byt w' a (re.qs xs) ∧ Byt w' c (re.qc xs) ∧ (∀ k, k < 4 → (T k).d = sw (qw xs k) ∧ Byt w' (T k).v (T k).xs) ∧ Below w.heap.size w w' := by
  have HL : Hid (xs.length = 624) := hl
  have HB : Hid (Byt w v xs) := hb
  have SD : Hid (∀ k, k < 4 → ∀ w0 z, Sok (qw xs k) → Byt w0 z (qw xs k) → Calls Tryd.prog 45 #[z] w0 fun x w' => ∃ s : Sc, x = .returned (.tuple #[.agg s.cs.toArray, .bool true]) ∧ (s.d = sw (qw xs k) ∧ Byt w' s.v s.xs) ∧ Below w0.heap.size w0 w') := fun k hk w0 z hs hz => rsread_yes z _ w0 hz (qw_len hl k hk) hs
  have N0 : Hid (qg xs = num (last8 (sub xs 0 8))) := rfl
  have N1 : Hid (qp xs = num (last8 (sub xs 8 16))) := rfl
  have N3 : Hid (qb xs = num (last8 (sub xs 32 40))) := rfl
  obtain ⟨Z, hZ⟩ : ∃ z, num (last8 (sub xs 40 48)) = z := ⟨_, rfl⟩
  have N4 : Hid (num (last8 (sub xs 40 48)) = Z) := hZ
  have L4 : Hid ((sub xs 40 48).length ≤ 1048576) := (by show _ ≤ _; rw [sub_len _ _ _ (by omega)]; omega)
  have HS0 : Hid (∀ k, k < 4 → Sok (qw xs k)) := hi.2
  have hz0 : Z = 0 := by rw [← hZ]; exact hi.1
  subst hz0
  generalize qg xs = G at N0 ⊢
  generalize qp xs = P at N1 ⊢
  generalize qb xs = B at N3 ⊢
  obtain ⟨bo, bc, rfl⟩ := byt_form hb hl
  have SA : Hid (Slc (sl (.slice bo 624 bc) 16 32)) := slc_byt (sl_sub HB.out 16 32 (by omega) (by omega))
  have SK : Hid (Slc (sl (.slice bo 624 bc) 48 80)) := slc_byt (sl_sub HB.out 48 80 (by omega) (by omega))
  clear hb hl hi hZ
  have t0 : (0 : Nat) = 0 := rfl
  go_enter Tryd.func22, Tryd.ntmps22
  go_wp2_with (first
    | (have q0 := t0; (with_reducible refine at_alloc ?_); refine new_lawN _ rv0 zero_rrecord rv0_nob ?_; intro w1 X9 N9 B9; have LE_HR : Hid (w.heap.size ≤ w.heap.size) := Nat.le_refl _; have HR : Hid (Vr w1 w.heap.size rv0) := X9; have NB_HR : Hid (NoB w1 w.heap.size) := N9; have BB : Hid (Below w.heap.size w w1) := B9; clear X9 N9 B9; clear t0; have t1 : (1 : Nat) = 1 := rfl))
  go_cut [4] (fun r4 wc => ∃ (gv : Nat), r4 = .pointer (some ⟨gv, 0, none⟩) ∧ Vr wc gv (rv G P (sl (.slice bo 624 bc) 16 32) B (sl (.slice bo 624 bc) 48 80) z4) ∧ NoB wc gv ∧ w1.heap.size ≤ gv ∧ Below w1.heap.size w1 wc)
  case first =>
    refine wp_region_held_drew (S := fun w' => Below w1.heap.size w1 w') (by kernel_rfl) (Below.refl _ _).drew (fun hS => ?_)
    obtain ⟨x1, hx0⟩ : ∃ x, x = w1.drew := ⟨_, rfl⟩
    rw [← hx0] at hS  ⊢
    clear hx0
    refine take_lawH 0 (some 9) (.slice bo 624 bc) rfl rfl (by kernel_rfl) (by kernel_rfl) (by kernel_rfl) (fun _ _ _ h => h) (Or.inl ⟨by rfl, fun w' hw' => by rfl⟩) hS ?_
    simp only [Act.put, List.setIfInBounds_toArray, List.set_cons_zero, List.set_cons_succ]
    refine take_lawH 1 (some 10) (sl (.slice bo 624 bc) 0 8) rfl rfl (by kernel_rfl) (by kernel_rfl) (by kernel_rfl) (fun _ _ _ h => h) (Or.inl ⟨by rfl, fun w' hw' => by exact exec_to (.tmp 9) (.const (.int .i64 8)) rfl _ xs _ HB.out 8 rfl rfl (by rw [HL.out]; omega) _⟩) hS ?_
    simp only [Act.put, List.setIfInBounds_toArray, List.set_cons_zero, List.set_cons_succ]
    refine take_lawH 3 (some 12) (.slice bo 624 bc) rfl rfl (by kernel_rfl) (by kernel_rfl) (by kernel_rfl) (fun _ _ _ h => h) (Or.inl ⟨by rfl, fun w' hw' => by rfl⟩) hS ?_
    simp only [Act.put, List.setIfInBounds_toArray, List.set_cons_zero, List.set_cons_succ]
    refine take_lawH 4 (some 13) (sl (.slice bo 624 bc) 8 16) rfl rfl (by kernel_rfl) (by kernel_rfl) (by kernel_rfl) (fun _ _ _ h => h) (Or.inl ⟨by rfl, fun w' hw' => by exact exec_part (.tmp 12) (.const (.int .i64 8)) (.const (.int .i64 16)) rfl _ xs _ HB.out 8 16 rfl rfl rfl (by omega) (by rw [HL.out]; omega) _⟩) hS ?_
    simp only [Act.put, List.setIfInBounds_toArray, List.set_cons_zero, List.set_cons_succ]
    refine take_lawH 6 (some 15) (.slice bo 624 bc) rfl rfl (by kernel_rfl) (by kernel_rfl) (by kernel_rfl) (fun _ _ _ h => h) (Or.inl ⟨by rfl, fun w' hw' => by rfl⟩) hS ?_
    simp only [Act.put, List.setIfInBounds_toArray, List.set_cons_zero, List.set_cons_succ]
    refine take_lawH 7 (some 16) (sl (.slice bo 624 bc) 16 32) rfl rfl (by kernel_rfl) (by kernel_rfl) (by kernel_rfl) (fun _ _ _ h => h) (Or.inl ⟨by rfl, fun w' hw' => by exact exec_part (.tmp 15) (.const (.int .i64 16)) (.const (.int .i64 32)) rfl _ xs _ HB.out 16 32 rfl rfl rfl (by omega) (by rw [HL.out]; omega) _⟩) hS ?_
    simp only [Act.put, List.setIfInBounds_toArray, List.set_cons_zero, List.set_cons_succ]
    refine take_lawH 8 (some 17) (.slice bo 624 bc) rfl rfl (by kernel_rfl) (by kernel_rfl) (by kernel_rfl) (fun _ _ _ h => h) (Or.inl ⟨by rfl, fun w' hw' => by rfl⟩) hS ?_
    simp only [Act.put, List.setIfInBounds_toArray, List.set_cons_zero, List.set_cons_succ]
    refine take_lawH 9 (some 18) (sl (.slice bo 624 bc) 32 40) rfl rfl (by kernel_rfl) (by kernel_rfl) (by kernel_rfl) (fun _ _ _ h => h) (Or.inl ⟨by rfl, fun w' hw' => by exact exec_part (.tmp 17) (.const (.int .i64 32)) (.const (.int .i64 40)) rfl _ xs _ HB.out 32 40 rfl rfl rfl (by omega) (by rw [HL.out]; omega) _⟩) hS ?_
    simp only [Act.put, List.setIfInBounds_toArray, List.set_cons_zero, List.set_cons_succ]
    refine take_lawH 11 (some 20) (.slice bo 624 bc) rfl rfl (by kernel_rfl) (by kernel_rfl) (by kernel_rfl) (fun _ _ _ h => h) (Or.inl ⟨by rfl, fun w' hw' => by rfl⟩) hS ?_
    simp only [Act.put, List.setIfInBounds_toArray, List.set_cons_zero, List.set_cons_succ]
    refine take_lawH 12 (some 21) (sl (.slice bo 624 bc) 48 80) rfl rfl (by kernel_rfl) (by kernel_rfl) (by kernel_rfl) (fun _ _ _ h => h) (Or.inl ⟨by rfl, fun w' hw' => by exact exec_part (.tmp 20) (.const (.int .i64 48)) (.const (.int .i64 80)) rfl _ xs _ HB.out 48 80 rfl rfl rfl (by omega) (by rw [HL.out]; omega) _⟩) hS ?_
    simp only [Act.put, List.setIfInBounds_toArray, List.set_cons_zero, List.set_cons_succ]
    refine wpAnyH_ready (rs := [2, 14]) (by kernel_rfl) (by simp) ?_
    refine AllReadyH.cons rfl (fun K hK => ?_) (AllReadyH.cons rfl (fun K hK => ?_) AllReadyH.nil)
    · refine he.step_callW _ (by rfl) (some 11) rfl 44 #[.tmp 10] #[23] rfl (fun q w' => by rfl) #[sl (.slice bo 624 bc) 0 8] (by simp only [List.map_toArray, List.map_cons, List.map_nil]; rfl) (fun z9 w' => z9 = .int .u64 G ∧ Below x1.heap.size x1 w') ?_ ?_
      · exact (rnum_any _ (sub xs 0 8) x1 (sl_sub (HB.out.below (BB.out.trans (hS.mono BB.out.size))) 0 8 (by omega) (by rw [HL.out]; omega)) (by rw [sub_len _ _ _ (by rw [HL.out]; omega)]; omega)).mono fun e w' ⟨h1, h2⟩ => ⟨_, h1, N0.out.symm ▸ rfl, h2⟩
      rintro _ x2 ⟨rfl, hb⟩
      have hS : Below w1.heap.size w1 x2 := hS.trans (hb.mono hS.size)
      clear hb
      refine hK.out _ _ hS (fun _ => ?_)
      simp only [Act.put, List.setIfInBounds_toArray, List.set_cons_zero, List.set_cons_succ]
      clear hK K
      refine wpAnyH_ready (rs := [5, 14]) (by kernel_rfl) (by simp) ?_
      refine AllReadyH.cons rfl (fun K hK => ?_) (AllReadyH.cons rfl (fun K hK => ?_) AllReadyH.nil)
      · refine he.step_callW _ (by rfl) (some 14) rfl 44 #[.tmp 13] #[23] rfl (fun q w' => by rfl) #[sl (.slice bo 624 bc) 8 16] (by simp only [List.map_toArray, List.map_cons, List.map_nil]; rfl) (fun z9 w' => z9 = .int .u64 P ∧ Below x2.heap.size x2 w') ?_ ?_
        · exact (rnum_any _ (sub xs 8 16) x2 (sl_sub (HB.out.below (BB.out.trans (hS.mono BB.out.size))) 8 16 (by omega) (by rw [HL.out]; omega)) (by rw [sub_len _ _ _ (by rw [HL.out]; omega)]; omega)).mono fun e w' ⟨h1, h2⟩ => ⟨_, h1, N1.out.symm ▸ rfl, h2⟩
        rintro _ x3 ⟨rfl, hb⟩
        have hS : Below w1.heap.size w1 x3 := hS.trans (hb.mono hS.size)
        clear hb
        refine hK.out _ _ hS (fun _ => ?_)
        simp only [Act.put, List.setIfInBounds_toArray, List.set_cons_zero, List.set_cons_succ]
        clear hK K
        refine wpAnyH_ready (rs := [10, 14]) (by kernel_rfl) (by simp) ?_
        refine AllReadyH.cons rfl (fun K hK => ?_) (AllReadyH.cons rfl (fun K hK => ?_) AllReadyH.nil)
        · refine he.step_callW _ (by rfl) (some 19) rfl 44 #[.tmp 18] #[23] rfl (fun q w' => by rfl) #[sl (.slice bo 624 bc) 32 40] (by simp only [List.map_toArray, List.map_cons, List.map_nil]; rfl) (fun z9 w' => z9 = .int .u64 B ∧ Below x3.heap.size x3 w') ?_ ?_
          · exact (rnum_any _ (sub xs 32 40) x3 (sl_sub (HB.out.below (BB.out.trans (hS.mono BB.out.size))) 32 40 (by omega) (by rw [HL.out]; omega)) (by rw [sub_len _ _ _ (by rw [HL.out]; omega)]; omega)).mono fun e w' ⟨h1, h2⟩ => ⟨_, h1, N3.out.symm ▸ rfl, h2⟩
          rintro _ x4 ⟨rfl, hb⟩
          have hS : Below w1.heap.size w1 x4 := hS.trans (hb.mono hS.size)
          clear hb
          refine hK.out _ _ hS (fun _ => ?_)
          simp only [Act.put, List.setIfInBounds_toArray, List.set_cons_zero, List.set_cons_succ]
          clear hK K
          refine take_lawH 13 (some 22) (.agg (rv G P (sl (.slice bo 624 bc) 16 32) B (sl (.slice bo 624 bc) 48 80) z4).toArray) rfl rfl (by kernel_rfl) (by kernel_rfl) (by kernel_rfl) (fun _ _ _ h => h) (Or.inl ⟨by rfl, fun w' hw' => by exact exec_buildV 39 _ rfl #[(0, .int .u64 G), (1, .int .u64 P), (2, (sl (.slice bo 624 bc) 16 32)), (3, .int .u64 B), (4, (sl (.slice bo 624 bc) 48 80))] (by kernel_rfl) _ _ (run_brec _ G P B _ _ SA.out SK.out)⟩) hS ?_
          simp only [Act.put, List.setIfInBounds_toArray, List.set_cons_zero, List.set_cons_succ]
          refine wpAnyH_ready (rs := [14]) (by kernel_rfl) (by simp) ?_
          refine AllReadyH.cons rfl (fun K hK => ?_) AllReadyH.nil
          refine step_newN _ rfl (some 4) rfl 39 rfl rv0 zero_rrecord rv0_nob ?_
          intro x5 v9 n9 hb
          have HV : Hid (Vr x5 x4.heap.size rv0) := v9
          have NB_HV : Hid (NoB x5 x4.heap.size) := n9
          have LV : Hid (w1.heap.size ≤ x4.heap.size) := hS.size
          have hS : Below w1.heap.size w1 x5 := hS.trans (hb.mono hS.size)
          clear v9 n9 hb
          obtain ⟨gv, hg9⟩ : ∃ g, g = x4.heap.size := ⟨_, rfl⟩
          rw [← hg9] at HV NB_HV LV ⊢
          clear hg9
          refine hK.out _ _ hS (fun _ => ?_)
          simp only [Act.put, List.setIfInBounds_toArray, List.set_cons_zero, List.set_cons_succ]
          clear hK K
          refine wpAnyH_ready (rs := [15]) (by kernel_rfl) (by simp) ?_
          refine AllReadyH.cons rfl (fun K hK => ?_) AllReadyH.nil
          refine step_storeN _ rfl none rfl (.tmp 4) (.tmp 22) 39 rfl gv rv0 (rv G P (sl (.slice bo 624 bc) 16 32) B (sl (.slice bo 624 bc) 48 80) z4) rfl rfl HV.out NB_HV.out rfl rowy_rrecord.2 (rv_one SA.out SK.out slc_z4) (rv_nob SA.out SK.out slc_z4) ?_
          intro x6 v9 n9 B9 E9
          have HV : Hid (Vr x6 gv (rv G P (sl (.slice bo 624 bc) 16 32) B (sl (.slice bo 624 bc) 48 80) z4)) := v9
          have NB_HV : Hid (NoB x6 gv) := n9
          have hS : Below w1.heap.size w1 x6 := hS.trans (B9.mono LV.out)
          clear v9 n9 B9 E9
          refine hK.out _ _ hS (fun _ => ?_)
          simp only [Act.put]
          clear hK K
          refine wpAnyH_done (by kernel_rfl) ?_ _
          go_wp2_with fail
          go_meet
          exact ⟨gv, rfl, HV.out, NB_HV.out, LV.out, hS⟩
        · refine step_newN _ rfl (some 4) rfl 39 rfl rv0 zero_rrecord rv0_nob ?_
          intro x7 v9 n9 hb
          have HV : Hid (Vr x7 x3.heap.size rv0) := v9
          have NB_HV : Hid (NoB x7 x3.heap.size) := n9
          have LV : Hid (w1.heap.size ≤ x3.heap.size) := hS.size
          have hS : Below w1.heap.size w1 x7 := hS.trans (hb.mono hS.size)
          clear v9 n9 hb
          obtain ⟨gv, hg9⟩ : ∃ g, g = x3.heap.size := ⟨_, rfl⟩
          rw [← hg9] at HV NB_HV LV ⊢
          clear hg9
          refine hK.out _ _ hS (fun _ => ?_)
          simp only [Act.put, List.setIfInBounds_toArray, List.set_cons_zero, List.set_cons_succ]
          clear hK K
          refine wpAnyH_ready (rs := [10]) (by kernel_rfl) (by simp) ?_
          refine AllReadyH.cons rfl (fun K hK => ?_) AllReadyH.nil
          refine he.step_callW _ (by rfl) (some 19) rfl 44 #[.tmp 18] #[23] rfl (fun q w' => by rfl) #[sl (.slice bo 624 bc) 32 40] (by simp only [List.map_toArray, List.map_cons, List.map_nil]; rfl) (fun z9 w' => z9 = .int .u64 B ∧ Below x7.heap.size x7 w') ?_ ?_
          · exact (rnum_any _ (sub xs 32 40) x7 (sl_sub (HB.out.below (BB.out.trans (hS.mono BB.out.size))) 32 40 (by omega) (by rw [HL.out]; omega)) (by rw [sub_len _ _ _ (by rw [HL.out]; omega)]; omega)).mono fun e w' ⟨h1, h2⟩ => ⟨_, h1, N3.out.symm ▸ rfl, h2⟩
          rintro _ x8 ⟨rfl, hb⟩
          have NB_HV : Hid (NoB x8 gv) := NB_HV.out.heap (hb.block _ (range_lt HV.out.1 (Nat.succ_pos _)))
          have HV : Hid (Vr x8 gv rv0) := HV.out.below hb (range_lt HV.out.1 (Nat.succ_pos _))
          have hS : Below w1.heap.size w1 x8 := hS.trans (hb.mono hS.size)
          clear hb
          refine hK.out _ _ hS (fun _ => ?_)
          simp only [Act.put, List.setIfInBounds_toArray, List.set_cons_zero, List.set_cons_succ]
          clear hK K
          refine take_lawH 13 (some 22) (.agg (rv G P (sl (.slice bo 624 bc) 16 32) B (sl (.slice bo 624 bc) 48 80) z4).toArray) rfl rfl (by kernel_rfl) (by kernel_rfl) (by kernel_rfl) (fun _ _ _ h => h) (Or.inl ⟨by rfl, fun w' hw' => by exact exec_buildV 39 _ rfl #[(0, .int .u64 G), (1, .int .u64 P), (2, (sl (.slice bo 624 bc) 16 32)), (3, .int .u64 B), (4, (sl (.slice bo 624 bc) 48 80))] (by kernel_rfl) _ _ (run_brec _ G P B _ _ SA.out SK.out)⟩) hS ?_
          simp only [Act.put, List.setIfInBounds_toArray, List.set_cons_zero, List.set_cons_succ]
          refine wpAnyH_ready (rs := [15]) (by kernel_rfl) (by simp) ?_
          refine AllReadyH.cons rfl (fun K hK => ?_) AllReadyH.nil
          refine step_storeN _ rfl none rfl (.tmp 4) (.tmp 22) 39 rfl gv rv0 (rv G P (sl (.slice bo 624 bc) 16 32) B (sl (.slice bo 624 bc) 48 80) z4) rfl rfl HV.out NB_HV.out rfl rowy_rrecord.2 (rv_one SA.out SK.out slc_z4) (rv_nob SA.out SK.out slc_z4) ?_
          intro x9 v9 n9 B9 E9
          have HV : Hid (Vr x9 gv (rv G P (sl (.slice bo 624 bc) 16 32) B (sl (.slice bo 624 bc) 48 80) z4)) := v9
          have NB_HV : Hid (NoB x9 gv) := n9
          have hS : Below w1.heap.size w1 x9 := hS.trans (B9.mono LV.out)
          clear v9 n9 B9 E9
          refine hK.out _ _ hS (fun _ => ?_)
          simp only [Act.put]
          clear hK K
          refine wpAnyH_done (by kernel_rfl) ?_ _
          go_wp2_with fail
          go_meet
          exact ⟨gv, rfl, HV.out, NB_HV.out, LV.out, hS⟩
      · refine step_newN _ rfl (some 4) rfl 39 rfl rv0 zero_rrecord rv0_nob ?_
        intro x10 v9 n9 hb
        have HV : Hid (Vr x10 x2.heap.size rv0) := v9
        have NB_HV : Hid (NoB x10 x2.heap.size) := n9
        have LV : Hid (w1.heap.size ≤ x2.heap.size) := hS.size
        have hS : Below w1.heap.size w1 x10 := hS.trans (hb.mono hS.size)
        clear v9 n9 hb
        obtain ⟨gv, hg9⟩ : ∃ g, g = x2.heap.size := ⟨_, rfl⟩
        rw [← hg9] at HV NB_HV LV ⊢
        clear hg9
        refine hK.out _ _ hS (fun _ => ?_)
        simp only [Act.put, List.setIfInBounds_toArray, List.set_cons_zero, List.set_cons_succ]
        clear hK K
        refine wpAnyH_ready (rs := [5]) (by kernel_rfl) (by simp) ?_
        refine AllReadyH.cons rfl (fun K hK => ?_) AllReadyH.nil
        refine he.step_callW _ (by rfl) (some 14) rfl 44 #[.tmp 13] #[23] rfl (fun q w' => by rfl) #[sl (.slice bo 624 bc) 8 16] (by simp only [List.map_toArray, List.map_cons, List.map_nil]; rfl) (fun z9 w' => z9 = .int .u64 P ∧ Below x10.heap.size x10 w') ?_ ?_
        · exact (rnum_any _ (sub xs 8 16) x10 (sl_sub (HB.out.below (BB.out.trans (hS.mono BB.out.size))) 8 16 (by omega) (by rw [HL.out]; omega)) (by rw [sub_len _ _ _ (by rw [HL.out]; omega)]; omega)).mono fun e w' ⟨h1, h2⟩ => ⟨_, h1, N1.out.symm ▸ rfl, h2⟩
        rintro _ x11 ⟨rfl, hb⟩
        have NB_HV : Hid (NoB x11 gv) := NB_HV.out.heap (hb.block _ (range_lt HV.out.1 (Nat.succ_pos _)))
        have HV : Hid (Vr x11 gv rv0) := HV.out.below hb (range_lt HV.out.1 (Nat.succ_pos _))
        have hS : Below w1.heap.size w1 x11 := hS.trans (hb.mono hS.size)
        clear hb
        refine hK.out _ _ hS (fun _ => ?_)
        simp only [Act.put, List.setIfInBounds_toArray, List.set_cons_zero, List.set_cons_succ]
        clear hK K
        refine wpAnyH_ready (rs := [10]) (by kernel_rfl) (by simp) ?_
        refine AllReadyH.cons rfl (fun K hK => ?_) AllReadyH.nil
        refine he.step_callW _ (by rfl) (some 19) rfl 44 #[.tmp 18] #[23] rfl (fun q w' => by rfl) #[sl (.slice bo 624 bc) 32 40] (by simp only [List.map_toArray, List.map_cons, List.map_nil]; rfl) (fun z9 w' => z9 = .int .u64 B ∧ Below x11.heap.size x11 w') ?_ ?_
        · exact (rnum_any _ (sub xs 32 40) x11 (sl_sub (HB.out.below (BB.out.trans (hS.mono BB.out.size))) 32 40 (by omega) (by rw [HL.out]; omega)) (by rw [sub_len _ _ _ (by rw [HL.out]; omega)]; omega)).mono fun e w' ⟨h1, h2⟩ => ⟨_, h1, N3.out.symm ▸ rfl, h2⟩
        rintro _ x12 ⟨rfl, hb⟩
        have NB_HV : Hid (NoB x12 gv) := NB_HV.out.heap (hb.block _ (range_lt HV.out.1 (Nat.succ_pos _)))
        have HV : Hid (Vr x12 gv rv0) := HV.out.below hb (range_lt HV.out.1 (Nat.succ_pos _))
        have hS : Below w1.heap.size w1 x12 := hS.trans (hb.mono hS.size)
        clear hb
        refine hK.out _ _ hS (fun _ => ?_)
        simp only [Act.put, List.setIfInBounds_toArray, List.set_cons_zero, List.set_cons_succ]
        clear hK K
        refine take_lawH 13 (some 22) (.agg (rv G P (sl (.slice bo 624 bc) 16 32) B (sl (.slice bo 624 bc) 48 80) z4).toArray) rfl rfl (by kernel_rfl) (by kernel_rfl) (by kernel_rfl) (fun _ _ _ h => h) (Or.inl ⟨by rfl, fun w' hw' => by exact exec_buildV 39 _ rfl #[(0, .int .u64 G), (1, .int .u64 P), (2, (sl (.slice bo 624 bc) 16 32)), (3, .int .u64 B), (4, (sl (.slice bo 624 bc) 48 80))] (by kernel_rfl) _ _ (run_brec _ G P B _ _ SA.out SK.out)⟩) hS ?_
        simp only [Act.put, List.setIfInBounds_toArray, List.set_cons_zero, List.set_cons_succ]
        refine wpAnyH_ready (rs := [15]) (by kernel_rfl) (by simp) ?_
        refine AllReadyH.cons rfl (fun K hK => ?_) AllReadyH.nil
        refine step_storeN _ rfl none rfl (.tmp 4) (.tmp 22) 39 rfl gv rv0 (rv G P (sl (.slice bo 624 bc) 16 32) B (sl (.slice bo 624 bc) 48 80) z4) rfl rfl HV.out NB_HV.out rfl rowy_rrecord.2 (rv_one SA.out SK.out slc_z4) (rv_nob SA.out SK.out slc_z4) ?_
        intro x13 v9 n9 B9 E9
        have HV : Hid (Vr x13 gv (rv G P (sl (.slice bo 624 bc) 16 32) B (sl (.slice bo 624 bc) 48 80) z4)) := v9
        have NB_HV : Hid (NoB x13 gv) := n9
        have hS : Below w1.heap.size w1 x13 := hS.trans (B9.mono LV.out)
        clear v9 n9 B9 E9
        refine hK.out _ _ hS (fun _ => ?_)
        simp only [Act.put]
        clear hK K
        refine wpAnyH_done (by kernel_rfl) ?_ _
        go_wp2_with fail
        go_meet
        exact ⟨gv, rfl, HV.out, NB_HV.out, LV.out, hS⟩
    · refine step_newN _ rfl (some 4) rfl 39 rfl rv0 zero_rrecord rv0_nob ?_
      intro x14 v9 n9 hb
      have HV : Hid (Vr x14 x1.heap.size rv0) := v9
      have NB_HV : Hid (NoB x14 x1.heap.size) := n9
      have LV : Hid (w1.heap.size ≤ x1.heap.size) := hS.size
      have hS : Below w1.heap.size w1 x14 := hS.trans (hb.mono hS.size)
      clear v9 n9 hb
      obtain ⟨gv, hg9⟩ : ∃ g, g = x1.heap.size := ⟨_, rfl⟩
      rw [← hg9] at HV NB_HV LV ⊢
      clear hg9
      refine hK.out _ _ hS (fun _ => ?_)
      simp only [Act.put, List.setIfInBounds_toArray, List.set_cons_zero, List.set_cons_succ]
      clear hK K
      refine wpAnyH_ready (rs := [2]) (by kernel_rfl) (by simp) ?_
      refine AllReadyH.cons rfl (fun K hK => ?_) AllReadyH.nil
      refine he.step_callW _ (by rfl) (some 11) rfl 44 #[.tmp 10] #[23] rfl (fun q w' => by rfl) #[sl (.slice bo 624 bc) 0 8] (by simp only [List.map_toArray, List.map_cons, List.map_nil]; rfl) (fun z9 w' => z9 = .int .u64 G ∧ Below x14.heap.size x14 w') ?_ ?_
      · exact (rnum_any _ (sub xs 0 8) x14 (sl_sub (HB.out.below (BB.out.trans (hS.mono BB.out.size))) 0 8 (by omega) (by rw [HL.out]; omega)) (by rw [sub_len _ _ _ (by rw [HL.out]; omega)]; omega)).mono fun e w' ⟨h1, h2⟩ => ⟨_, h1, N0.out.symm ▸ rfl, h2⟩
      rintro _ x15 ⟨rfl, hb⟩
      have NB_HV : Hid (NoB x15 gv) := NB_HV.out.heap (hb.block _ (range_lt HV.out.1 (Nat.succ_pos _)))
      have HV : Hid (Vr x15 gv rv0) := HV.out.below hb (range_lt HV.out.1 (Nat.succ_pos _))
      have hS : Below w1.heap.size w1 x15 := hS.trans (hb.mono hS.size)
      clear hb
      refine hK.out _ _ hS (fun _ => ?_)
      simp only [Act.put, List.setIfInBounds_toArray, List.set_cons_zero, List.set_cons_succ]
      clear hK K
      refine wpAnyH_ready (rs := [5]) (by kernel_rfl) (by simp) ?_
      refine AllReadyH.cons rfl (fun K hK => ?_) AllReadyH.nil
      refine he.step_callW _ (by rfl) (some 14) rfl 44 #[.tmp 13] #[23] rfl (fun q w' => by rfl) #[sl (.slice bo 624 bc) 8 16] (by simp only [List.map_toArray, List.map_cons, List.map_nil]; rfl) (fun z9 w' => z9 = .int .u64 P ∧ Below x15.heap.size x15 w') ?_ ?_
      · exact (rnum_any _ (sub xs 8 16) x15 (sl_sub (HB.out.below (BB.out.trans (hS.mono BB.out.size))) 8 16 (by omega) (by rw [HL.out]; omega)) (by rw [sub_len _ _ _ (by rw [HL.out]; omega)]; omega)).mono fun e w' ⟨h1, h2⟩ => ⟨_, h1, N1.out.symm ▸ rfl, h2⟩
      rintro _ x16 ⟨rfl, hb⟩
      have NB_HV : Hid (NoB x16 gv) := NB_HV.out.heap (hb.block _ (range_lt HV.out.1 (Nat.succ_pos _)))
      have HV : Hid (Vr x16 gv rv0) := HV.out.below hb (range_lt HV.out.1 (Nat.succ_pos _))
      have hS : Below w1.heap.size w1 x16 := hS.trans (hb.mono hS.size)
      clear hb
      refine hK.out _ _ hS (fun _ => ?_)
      simp only [Act.put, List.setIfInBounds_toArray, List.set_cons_zero, List.set_cons_succ]
      clear hK K
      refine wpAnyH_ready (rs := [10]) (by kernel_rfl) (by simp) ?_
      refine AllReadyH.cons rfl (fun K hK => ?_) AllReadyH.nil
      refine he.step_callW _ (by rfl) (some 19) rfl 44 #[.tmp 18] #[23] rfl (fun q w' => by rfl) #[sl (.slice bo 624 bc) 32 40] (by simp only [List.map_toArray, List.map_cons, List.map_nil]; rfl) (fun z9 w' => z9 = .int .u64 B ∧ Below x16.heap.size x16 w') ?_ ?_
      · exact (rnum_any _ (sub xs 32 40) x16 (sl_sub (HB.out.below (BB.out.trans (hS.mono BB.out.size))) 32 40 (by omega) (by rw [HL.out]; omega)) (by rw [sub_len _ _ _ (by rw [HL.out]; omega)]; omega)).mono fun e w' ⟨h1, h2⟩ => ⟨_, h1, N3.out.symm ▸ rfl, h2⟩
      rintro _ x17 ⟨rfl, hb⟩
      have NB_HV : Hid (NoB x17 gv) := NB_HV.out.heap (hb.block _ (range_lt HV.out.1 (Nat.succ_pos _)))
      have HV : Hid (Vr x17 gv rv0) := HV.out.below hb (range_lt HV.out.1 (Nat.succ_pos _))
      have hS : Below w1.heap.size w1 x17 := hS.trans (hb.mono hS.size)
      clear hb
      refine hK.out _ _ hS (fun _ => ?_)
      simp only [Act.put, List.setIfInBounds_toArray, List.set_cons_zero, List.set_cons_succ]
      clear hK K
      refine take_lawH 13 (some 22) (.agg (rv G P (sl (.slice bo 624 bc) 16 32) B (sl (.slice bo 624 bc) 48 80) z4).toArray) rfl rfl (by kernel_rfl) (by kernel_rfl) (by kernel_rfl) (fun _ _ _ h => h) (Or.inl ⟨by rfl, fun w' hw' => by exact exec_buildV 39 _ rfl #[(0, .int .u64 G), (1, .int .u64 P), (2, (sl (.slice bo 624 bc) 16 32)), (3, .int .u64 B), (4, (sl (.slice bo 624 bc) 48 80))] (by kernel_rfl) _ _ (run_brec _ G P B _ _ SA.out SK.out)⟩) hS ?_
      simp only [Act.put, List.setIfInBounds_toArray, List.set_cons_zero, List.set_cons_succ]
      refine wpAnyH_ready (rs := [15]) (by kernel_rfl) (by simp) ?_
      refine AllReadyH.cons rfl (fun K hK => ?_) AllReadyH.nil
      refine step_storeN _ rfl none rfl (.tmp 4) (.tmp 22) 39 rfl gv rv0 (rv G P (sl (.slice bo 624 bc) 16 32) B (sl (.slice bo 624 bc) 48 80) z4) rfl rfl HV.out NB_HV.out rfl rowy_rrecord.2 (rv_one SA.out SK.out slc_z4) (rv_nob SA.out SK.out slc_z4) ?_
      intro x18 v9 n9 B9 E9
      have HV : Hid (Vr x18 gv (rv G P (sl (.slice bo 624 bc) 16 32) B (sl (.slice bo 624 bc) 48 80) z4)) := v9
      have NB_HV : Hid (NoB x18 gv) := n9
      have hS : Below w1.heap.size w1 x18 := hS.trans (B9.mono LV.out)
      clear v9 n9 B9 E9
      refine hK.out _ _ hS (fun _ => ?_)
      simp only [Act.put]
      clear hK K
      refine wpAnyH_done (by kernel_rfl) ?_ _
      go_wp2_with fail
      go_meet
      exact ⟨gv, rfl, HV.out, NB_HV.out, LV.out, hS⟩
  case rest =>
    obtain ⟨gv, rfl, x1, x2, x5, x6⟩ := hcut
    have HV : Hid (Vr wc gv (rv G P (sl (.slice bo 624 bc) 16 32) B (sl (.slice bo 624 bc) 48 80) z4)) := x1
    have NB_HV : Hid (NoB wc gv) := x2
    have LTV : Hid (w.heap.size < gv) := Nat.lt_of_lt_of_le (range_lt HR.out.1 (Nat.succ_pos _)) x5
    have NB_HR : Hid (NoB wc w.heap.size) := NB_HR.out.heap (x6.block _ (range_lt HR.out.1 (Nat.succ_pos _)))
    have HR : Hid (Vr wc w.heap.size rv0) := HR.out.below x6 (range_lt HR.out.1 (Nat.succ_pos _))
    have BB : Hid (Below w.heap.size w wc) := BB.out.trans (x6.mono BB.out.size)
    clear x1 x2 x5 x6
    have t0 : (0 : Nat) = 0 := rfl
    go_wp2_with (first
      | (have q1 := t1; go_at_call 44; refine (rnum_any _ (sub xs 40 48) wc Y9.out L4.out).mono ?_; rintro e9 w61 ⟨rfl, B9⟩; have NB_HR : Hid (NoB w61 w.heap.size) := NB_HR.out.heap (B9.block _ (range_lt HR.out.1 (Nat.succ_pos _))); have HR : Hid (Vr w61 w.heap.size rv0) := HR.out.below B9 (range_lt HR.out.1 (Nat.succ_pos _)); have NB_HV : Hid (NoB w61 gv) := NB_HV.out.heap (B9.block _ (range_lt HV.out.1 (Nat.succ_pos _))); have HV : Hid (Vr w61 gv (rv G P (sl (.slice bo 624 bc) 16 32) B (sl (.slice bo 624 bc) 48 80) z4)) := HV.out.below B9 (range_lt HV.out.1 (Nat.succ_pos _)); rw [N4.out]; have BB : Hid (Below w.heap.size w w61) := BB.out.trans (B9.mono BB.out.size); clear B9; clear t1; have t2 : (1 : Nat) = 1 := rfl)
      | (have q0 := t0; refine cut_part _ rfl (.tmp 23) (.const (.int .i64 40)) (.const (.int .i64 48)) rfl _ xs _ _ 40 48 rfl rfl rfl rfl rfl (by omega) (by rw [HL.out]; omega) (HB.out.below BB.out) ?_; intro v9 y9; have Y9 : Hid (Byt wc v9 (sub xs 40 48)) := y9; clear y9; clear t0; have t1 : (1 : Nat) = 1 := rfl))
    go_loopw [6, 5] (fun i z wr => ∃ (k : Nat) (T : Nat → Sc), k ≤ 4 ∧ i = .int .i64 (k : Int) ∧ (z = .bool true ∧ ∀ j, j < k → (T j).d = sw (qw xs j) ∧ Byt wr (T j).v (T j).xs) ∧ (∀ j, j < 4 → Slc (T j).v) ∧ Vr wr gv (rv G P (sl (.slice bo 624 bc) 16 32) B (sl (.slice bo 624 bc) 48 80) T) ∧ (NoB wr gv ∧ Vr wr w.heap.size rv0 ∧ NoB wr w.heap.size) ∧ Below w.heap.size w wr) (fun i _ _ => 4 - (intOf i).toNat)
    case atStart => exact ⟨0, z4, Nat.zero_le _, rfl, ⟨rfl, upto_zero⟩, slc_z4, HV.out, ⟨NB_HV.out, HR.out, NB_HR.out⟩, BB.out⟩
    case round =>
      clear HV NB_HV HR NB_HR BB
      obtain ⟨k, T, hk4, rfl, hz9, hs, hv, ⟨nv9, hr9, nr9⟩, hBl⟩ := hrel
      have HSl : Hid (∀ j, j < 4 → Slc (T j).v) := hs
      have HV : Hid (Vr wr gv (rv G P (sl (.slice bo 624 bc) 16 32) B (sl (.slice bo 624 bc) 48 80) T)) := hv
      have NB_HV : Hid (NoB wr gv) := nv9
      have HR : Hid (Vr wr w.heap.size rv0) := hr9
      have NB_HR : Hid (NoB wr w.heap.size) := nr9
      have BB : Hid (Below w.heap.size w wr) := hBl
      have LT_HR_HV := LTV
      have LE_HV : Hid (w.heap.size ≤ gv) := Nat.le_of_lt LTV.out
      clear hs hv nv9 hr9 nr9 hBl
      obtain ⟨rfl, hj⟩ := hz9
      have HJ : Hid (∀ j, j < k → (T j).d = sw (qw xs j) ∧ Byt wr (T j).v (T j).xs) := hj
      have HJ2 : Hid (∀ j, j < k → Byt wr (T j).v (T j).xs) := fun j h => (hj j h).2
      clear hj
      by_cases hk : k < 4
      · have ki : (k : Int) < 4 := by omega
        have k1 : IntKind.i64.wrap (128 * (k : Int)) = 128 * (k : Int) := by rw [IntKind.wrap_i64]; omega
        have k2 : IntKind.i64.wrap (80 + 128 * (k : Int)) = 80 + 128 * (k : Int) := by rw [IntKind.wrap_i64]; omega
        have k3 : IntKind.i64.wrap (208 + 128 * (k : Int)) = 208 + 128 * (k : Int) := by rw [IntKind.wrap_i64]; omega
        have LC : Hid (208 + 128 * k ≤ xs.length) := (by show _ ≤ _; rw [HL.out]; omega)
        have SH := HS0.out k hk
        have SK2 : Hid (Sok (qw xs k)) := SH
        have t0 : (1 : Nat) = 1 := rfl
        go_wp2_with (first
          | (have q4 := t4; (with_reducible refine at_store ?_); refine store_lawC _ s9.cs gv (5 + k * 5) rfl rfl (Vr.sthere HV.out k hk) rowy_rslot.2 (cs_one SL.out) ?_; intro w44 E9 R9 T9 B9; have K9 : ∀ k, k ≠ gv → w44.heap[k]? = w43.heap[k]? := (by rw [E9.out]; exact fun k hk => heap_cells _ _ _ _ k hk); have HJ2 : Hid (∀ j, j < k → Byt w44 (T j).v (T j).xs) := fun j hj => byt_nob (HJ2.out j hj) NB_HV.out K9; have NB_HR : Hid (NoB w44 w.heap.size) := NB_HR.out.heap (K9 _ (Nat.ne_of_lt LT_HR_HV.out)); have HR : Hid (Vr w44 w.heap.size rv0) := HR.out.heap (K9 _ (Nat.ne_of_lt LT_HR_HV.out)); have YD : Hid (Byt w44 s9.v s9.xs) := byt_nob YD.out NB_HV.out K9; have NB_HS : Hid (NoB w44 w41.heap.size) := NB_HS.out.heap (K9 _ (Nat.ne_of_gt LT_HV_HS.out)); have HS : Hid (Vr w44 w41.heap.size s9.cs) := HS.out.heap (K9 _ (Nat.ne_of_gt LT_HV_HS.out)); have NB9 : Hid (NoB w44 gv) := (by rw [E9.out]; exact NoB.upd NB_HV.out HV.out k hk s9 SL.out); have V9 : Hid (Vr w44 gv (rv G P (sl (.slice bo 624 bc) 16 32) B (sl (.slice bo 624 bc) 48 80) (upd T k s9))) := (by rw [E9.out]; exact Vr.upd HV.out k hk s9); clear NB_HV HV; have NB_HV := NB9; have HV := V9; clear NB9 V9; have BB : Hid (Below w.heap.size w w44) := BB.out.trans (B9.mono LE_HV.out); clear hs_0 hs_1 hs_2 hs_3 hs_4; have hs_0 := HS.out.cell 0 _ rfl; have hs_1 := HS.out.cell 1 _ rfl; have hs_2 := HS.out.cell 2 _ rfl; have hs_3 := HS.out.cell 3 _ rfl; have hs_4 := HS.out.cell 4 _ rfl; clear E9 R9 T9 B9 K9; clear t4; have t5 : (1 : Nat) = 1 := rfl)
          | (have q3 := t3; (with_reducible refine at_store ?_); refine store_lawC _ s9.cs w41.heap.size 0 rfl rfl HS.out.2 rowy_rslot.2 (cs_one SL.out) ?_; intro w43 E9 R9 T9 B9; have K9 : ∀ k, k ≠ w41.heap.size → w43.heap[k]? = w42.heap[k]? := (by rw [E9.out]; exact fun k hk => heap_cells _ _ _ _ k hk); have HJ2 : Hid (∀ j, j < k → Byt w43 (T j).v (T j).xs) := fun j hj => byt_nob (HJ2.out j hj) NB_HS.out K9; have NB_HR : Hid (NoB w43 w.heap.size) := NB_HR.out.heap (K9 _ (Nat.ne_of_lt LT_HR_HS.out)); have HR : Hid (Vr w43 w.heap.size rv0) := HR.out.heap (K9 _ (Nat.ne_of_lt LT_HR_HS.out)); have NB_HV : Hid (NoB w43 gv) := NB_HV.out.heap (K9 _ (Nat.ne_of_lt LT_HV_HS.out)); have HV : Hid (Vr w43 gv (rv G P (sl (.slice bo 624 bc) 16 32) B (sl (.slice bo 624 bc) 48 80) T)) := HV.out.heap (K9 _ (Nat.ne_of_lt LT_HV_HS.out)); have YD : Hid (Byt w43 s9.v s9.xs) := byt_nob YD.out NB_HS.out K9; have NB_HS : Hid (NoB w43 w41.heap.size) := (by rw [E9.out]; exact NB_HS.out.set HS.out rfl (cs_nob SL.out)); have HS : Hid (Vr w43 w41.heap.size s9.cs) := ⟨R9, T9⟩; have BB : Hid (Below w.heap.size w w43) := BB.out.trans (B9.mono LE_HS.out); have hs_0 := HS.out.cell 0 _ rfl; have hs_1 := HS.out.cell 1 _ rfl; have hs_2 := HS.out.cell 2 _ rfl; have hs_3 := HS.out.cell 3 _ rfl; have hs_4 := HS.out.cell 4 _ rfl; clear E9 R9 T9 B9 K9; clear t3; have t4 : (1 : Nat) = 1 := rfl)
          | (have q2 := t2; (with_reducible refine at_alloc ?_); refine new_lawN _ (sv false 0 0 0 (.slice none 0 0)) zero_rslot (sv_nob _ _ _ _ _ _ _) ?_; intro w42 X9 N9 B9; have LT_HR_HS : Hid (w.heap.size < w41.heap.size) := range_lt HR.out.1 (Nat.succ_pos _); have LT_HV_HS : Hid (gv < w41.heap.size) := range_lt HV.out.1 (Nat.succ_pos _); have LE_HS : Hid (w.heap.size ≤ w41.heap.size) := BB.out.size; have NB_HR : Hid (NoB w42 w.heap.size) := NB_HR.out.heap (B9.block _ (range_lt HR.out.1 (Nat.succ_pos _))); have HR : Hid (Vr w42 w.heap.size rv0) := HR.out.below B9 (range_lt HR.out.1 (Nat.succ_pos _)); have NB_HV : Hid (NoB w42 gv) := NB_HV.out.heap (B9.block _ (range_lt HV.out.1 (Nat.succ_pos _))); have HV : Hid (Vr w42 gv (rv G P (sl (.slice bo 624 bc) 16 32) B (sl (.slice bo 624 bc) 48 80) T)) := HV.out.below B9 (range_lt HV.out.1 (Nat.succ_pos _)); have YD : Hid (Byt w42 s9.v s9.xs) := YD.out.below B9; have HS : Hid (Vr w42 w41.heap.size (sv false 0 0 0 (.slice none 0 0))) := X9; have NB_HS : Hid (NoB w42 w41.heap.size) := N9; have HJ2 : Hid (∀ j, j < k → Byt w42 (T j).v (T j).xs) := fun j hj => (HJ2.out j hj).below B9; have BB : Hid (Below w.heap.size w w42) := BB.out.trans (B9.mono BB.out.size); clear X9 N9 B9; clear t2; have t3 : (1 : Nat) = 1 := rfl)
          | (have q1 := t1; go_at_call 45; refine (SD.out k hk wr _ SK2.out Y9.out).mono ?_; rintro e9 w41 ⟨s9, rfl, ⟨e8, z8⟩, B9⟩; have NB_HR : Hid (NoB w41 w.heap.size) := NB_HR.out.heap (B9.block _ (range_lt HR.out.1 (Nat.succ_pos _))); have HR : Hid (Vr w41 w.heap.size rv0) := HR.out.below B9 (range_lt HR.out.1 (Nat.succ_pos _)); have NB_HV : Hid (NoB w41 gv) := NB_HV.out.heap (B9.block _ (range_lt HV.out.1 (Nat.succ_pos _))); have HV : Hid (Vr w41 gv (rv G P (sl (.slice bo 624 bc) 16 32) B (sl (.slice bo 624 bc) 48 80) T)) := HV.out.below B9 (range_lt HV.out.1 (Nat.succ_pos _)); have YD : Hid (Byt w41 s9.v s9.xs) := z8; have ED : Hid (s9.d = sw (qw xs k)) := e8; have SL : Hid (Slc s9.v) := slc_byt z8; have HJ2 : Hid (∀ j, j < k → Byt w41 (T j).v (T j).xs) := fun j hj => (HJ2.out j hj).below B9; have BB : Hid (Below w.heap.size w w41) := BB.out.trans (B9.mono BB.out.size); clear B9 e8 z8; clear t1; have t2 : (1 : Nat) = 1 := rfl)
          | (have q0 := t0; refine cut_part _ rfl (.tmp 32) (.tmp 35) (.tmp 38) rfl _ xs _ _ (80 + 128 * k) (208 + 128 * k) rfl rfl rfl (by omega) (by omega) (by omega) LC.out (HB.out.below BB.out) ?_; intro v9 y9; rw [qw_cut2] at y9; have Y9 : Hid (Byt wr v9 (qw xs k)) := y9; clear y9; clear t0; have t1 : (1 : Nat) = 1 := rfl))
        go_roundw
        case rel => exact ⟨k + 1, upd T k s9, by omega, by go_num, ⟨rfl, upto_succ (fun j hj => by rw [upd_other _ _ _ _ (Nat.ne_of_lt hj)]; exact ⟨(HJ.out j hj).1, HJ2.out j hj⟩) (by rw [upd_same]; exact ⟨ED.out, YD.out⟩)⟩, (fun j hj => by by_cases e : j = k <;> first | (rw [e, upd_same]; exact SL.out) | (rw [upd_other _ _ _ _ e]; exact HSl.out j hj)), HV.out, ⟨NB_HV.out, HR.out, NB_HR.out⟩, BB.out⟩
        case measure => simp [intOf]; omega
      · have e4 : k = 4 := by omega
        subst e4
        have LE_HR : Hid (w.heap.size ≤ w.heap.size) := Nat.le_refl _
        have t0 : (1 : Nat) = 1 := rfl
        go_wp2_with (first
          | (have q1 := t1; (with_reducible refine at_store ?_); refine store_lawC _ (rv G P (sl (.slice bo 624 bc) 16 32) B (sl (.slice bo 624 bc) 48 80) T) w.heap.size 0 rfl rfl HR.out.2 rowy_rrecord.2 (rv_one SA.out SK.out HSl.out) ?_; intro w41 E9 R9 T9 B9; have K9 : ∀ k, k ≠ w.heap.size → w41.heap[k]? = wr.heap[k]? := (by rw [E9.out]; exact fun k hk => heap_cells _ _ _ _ k hk); have HJ2 : Hid (∀ j, j < 4 → Byt w41 (T j).v (T j).xs) := fun j hj => byt_nob (HJ2.out j hj) NB_HR.out K9; have NB_HV : Hid (NoB w41 gv) := NB_HV.out.heap (K9 _ (Nat.ne_of_gt LT_HR_HV.out)); have HV : Hid (Vr w41 gv (rv G P (sl (.slice bo 624 bc) 16 32) B (sl (.slice bo 624 bc) 48 80) T)) := HV.out.heap (K9 _ (Nat.ne_of_gt LT_HR_HV.out)); have NB_HR : Hid (NoB w41 w.heap.size) := (by rw [E9.out]; exact NB_HR.out.set HR.out rfl (rv_nob SA.out SK.out HSl.out)); have HR : Hid (Vr w41 w.heap.size (rv G P (sl (.slice bo 624 bc) 16 32) B (sl (.slice bo 624 bc) 48 80) T)) := ⟨R9, T9⟩; have BB : Hid (Below w.heap.size w w41) := BB.out.trans (B9.mono LE_HR.out); clear E9 R9 T9 B9 K9; clear t1; have t2 : (1 : Nat) = 1 := rfl)
          | (have q0 := t0; refine load_lawC _ rfl (rv G P (sl (.slice bo 624 bc) 16 32) B (sl (.slice bo 624 bc) 48 80) T) gv 0 rfl HV.out.1 rowy_rrecord ?_; clear t0; have t1 : (1 : Nat) = 1 := rfl))
        exact bodyPost_ret (v := .tuple #[.agg (rv G P (sl (.slice bo 624 bc) 16 32) B (sl (.slice bo 624 bc) 48 80) T).toArray, .bool true]) (results_cv rfl _ _ w.heap.size _ _ rowy_rrecord rfl rfl HR.out.1) rfl ⟨_, _, _, rfl, sl_sub (HB.out.below BB.out) 16 32 (by omega) (by rw [HL.out]; omega), sl_sub (HB.out.below BB.out) 48 80 (by omega) (by rw [HL.out]; omega), fun j hj => ⟨(HJ.out j hj).1, HJ2.out j hj⟩, BB.out⟩

set_option maxHeartbeats 8000000 in
theorem rread_none (v : Value) (xs : List Int) (w : World) (hb : Byt w v xs) (hl : xs.length = 624) (hi : ¬ Isr xs) :
    Calls Tryd.prog 22 #[v] w fun x w' => x = .returned (.tuple #[.agg rv0.toArray, .bool false]) ∧ Below w.heap.size w w' := by
  have HL : Hid (xs.length = 624) := hl
  have HB : Hid (Byt w v xs) := hb
  have SD : Hid (∀ k, k < 4 → ∀ w0 z, Sok (qw xs k) → Byt w0 z (qw xs k) → Calls Tryd.prog 45 #[z] w0 fun x w' => ∃ s : Sc, x = .returned (.tuple #[.agg s.cs.toArray, .bool true]) ∧ (s.d = sw (qw xs k) ∧ Byt w' s.v s.xs) ∧ Below w0.heap.size w0 w') := fun k hk w0 z hs hz => rsread_yes z _ w0 hz (qw_len hl k hk) hs
  have N0 : Hid (qg xs = num (last8 (sub xs 0 8))) := rfl
  have N1 : Hid (qp xs = num (last8 (sub xs 8 16))) := rfl
  have N3 : Hid (qb xs = num (last8 (sub xs 32 40))) := rfl
  obtain ⟨Z, hZ⟩ : ∃ z, num (last8 (sub xs 40 48)) = z := ⟨_, rfl⟩
  have N4 : Hid (num (last8 (sub xs 40 48)) = Z) := hZ
  have L4 : Hid ((sub xs 40 48).length ≤ 1048576) := (by show _ ≤ _; rw [sub_len _ _ _ (by omega)]; omega)
  have SX : Hid (∀ k, k < 4 → ∀ w0 z, ¬ Sok (qw xs k) → Byt w0 z (qw xs k) → Calls Tryd.prog 45 #[z] w0 fun x w' => ∃ s : Sc, x = .returned (.tuple #[.agg s.cs.toArray, .bool false]) ∧ Byt w' s.v s.xs ∧ Below w0.heap.size w0 w') := fun k hk w0 z hs hz => rsread_no z _ w0 hz (qw_len hl k hk) hs
  have HI : Hid (Z = 0 → ¬ ∀ k, k < 4 → Sok (qw xs k)) := fun q q2 => hi ⟨hZ.trans q, q2⟩
  generalize qg xs = G at N0
  generalize qp xs = P at N1
  generalize qb xs = B at N3
  obtain ⟨bo, bc, rfl⟩ := byt_form hb hl
  have SA : Hid (Slc (sl (.slice bo 624 bc) 16 32)) := slc_byt (sl_sub HB.out 16 32 (by omega) (by omega))
  have SK : Hid (Slc (sl (.slice bo 624 bc) 48 80)) := slc_byt (sl_sub HB.out 48 80 (by omega) (by omega))
  clear hb hl hi hZ
  have t0 : (0 : Nat) = 0 := rfl
  go_enter Tryd.func22, Tryd.ntmps22
  go_wp2_with (first
    | (have q0 := t0; (with_reducible refine at_alloc ?_); refine new_lawN _ rv0 zero_rrecord rv0_nob ?_; intro w1 X9 N9 B9; have LE_HR : Hid (w.heap.size ≤ w.heap.size) := Nat.le_refl _; have HR : Hid (Vr w1 w.heap.size rv0) := X9; have NB_HR : Hid (NoB w1 w.heap.size) := N9; have BB : Hid (Below w.heap.size w w1) := B9; clear X9 N9 B9; clear t0; have t1 : (1 : Nat) = 1 := rfl))
  go_cut [4] (fun r4 wc => ∃ (gv : Nat), r4 = .pointer (some ⟨gv, 0, none⟩) ∧ Vr wc gv (rv G P (sl (.slice bo 624 bc) 16 32) B (sl (.slice bo 624 bc) 48 80) z4) ∧ NoB wc gv ∧ w1.heap.size ≤ gv ∧ Below w1.heap.size w1 wc)
  case first =>
    refine wp_region_held_drew (S := fun w' => Below w1.heap.size w1 w') (by kernel_rfl) (Below.refl _ _).drew (fun hS => ?_)
    obtain ⟨x1, hx0⟩ : ∃ x, x = w1.drew := ⟨_, rfl⟩
    rw [← hx0] at hS  ⊢
    clear hx0
    refine take_lawH 0 (some 9) (.slice bo 624 bc) rfl rfl (by kernel_rfl) (by kernel_rfl) (by kernel_rfl) (fun _ _ _ h => h) (Or.inl ⟨by rfl, fun w' hw' => by rfl⟩) hS ?_
    simp only [Act.put, List.setIfInBounds_toArray, List.set_cons_zero, List.set_cons_succ]
    refine take_lawH 1 (some 10) (sl (.slice bo 624 bc) 0 8) rfl rfl (by kernel_rfl) (by kernel_rfl) (by kernel_rfl) (fun _ _ _ h => h) (Or.inl ⟨by rfl, fun w' hw' => by exact exec_to (.tmp 9) (.const (.int .i64 8)) rfl _ xs _ HB.out 8 rfl rfl (by rw [HL.out]; omega) _⟩) hS ?_
    simp only [Act.put, List.setIfInBounds_toArray, List.set_cons_zero, List.set_cons_succ]
    refine take_lawH 3 (some 12) (.slice bo 624 bc) rfl rfl (by kernel_rfl) (by kernel_rfl) (by kernel_rfl) (fun _ _ _ h => h) (Or.inl ⟨by rfl, fun w' hw' => by rfl⟩) hS ?_
    simp only [Act.put, List.setIfInBounds_toArray, List.set_cons_zero, List.set_cons_succ]
    refine take_lawH 4 (some 13) (sl (.slice bo 624 bc) 8 16) rfl rfl (by kernel_rfl) (by kernel_rfl) (by kernel_rfl) (fun _ _ _ h => h) (Or.inl ⟨by rfl, fun w' hw' => by exact exec_part (.tmp 12) (.const (.int .i64 8)) (.const (.int .i64 16)) rfl _ xs _ HB.out 8 16 rfl rfl rfl (by omega) (by rw [HL.out]; omega) _⟩) hS ?_
    simp only [Act.put, List.setIfInBounds_toArray, List.set_cons_zero, List.set_cons_succ]
    refine take_lawH 6 (some 15) (.slice bo 624 bc) rfl rfl (by kernel_rfl) (by kernel_rfl) (by kernel_rfl) (fun _ _ _ h => h) (Or.inl ⟨by rfl, fun w' hw' => by rfl⟩) hS ?_
    simp only [Act.put, List.setIfInBounds_toArray, List.set_cons_zero, List.set_cons_succ]
    refine take_lawH 7 (some 16) (sl (.slice bo 624 bc) 16 32) rfl rfl (by kernel_rfl) (by kernel_rfl) (by kernel_rfl) (fun _ _ _ h => h) (Or.inl ⟨by rfl, fun w' hw' => by exact exec_part (.tmp 15) (.const (.int .i64 16)) (.const (.int .i64 32)) rfl _ xs _ HB.out 16 32 rfl rfl rfl (by omega) (by rw [HL.out]; omega) _⟩) hS ?_
    simp only [Act.put, List.setIfInBounds_toArray, List.set_cons_zero, List.set_cons_succ]
    refine take_lawH 8 (some 17) (.slice bo 624 bc) rfl rfl (by kernel_rfl) (by kernel_rfl) (by kernel_rfl) (fun _ _ _ h => h) (Or.inl ⟨by rfl, fun w' hw' => by rfl⟩) hS ?_
    simp only [Act.put, List.setIfInBounds_toArray, List.set_cons_zero, List.set_cons_succ]
    refine take_lawH 9 (some 18) (sl (.slice bo 624 bc) 32 40) rfl rfl (by kernel_rfl) (by kernel_rfl) (by kernel_rfl) (fun _ _ _ h => h) (Or.inl ⟨by rfl, fun w' hw' => by exact exec_part (.tmp 17) (.const (.int .i64 32)) (.const (.int .i64 40)) rfl _ xs _ HB.out 32 40 rfl rfl rfl (by omega) (by rw [HL.out]; omega) _⟩) hS ?_
    simp only [Act.put, List.setIfInBounds_toArray, List.set_cons_zero, List.set_cons_succ]
    refine take_lawH 11 (some 20) (.slice bo 624 bc) rfl rfl (by kernel_rfl) (by kernel_rfl) (by kernel_rfl) (fun _ _ _ h => h) (Or.inl ⟨by rfl, fun w' hw' => by rfl⟩) hS ?_
    simp only [Act.put, List.setIfInBounds_toArray, List.set_cons_zero, List.set_cons_succ]
    refine take_lawH 12 (some 21) (sl (.slice bo 624 bc) 48 80) rfl rfl (by kernel_rfl) (by kernel_rfl) (by kernel_rfl) (fun _ _ _ h => h) (Or.inl ⟨by rfl, fun w' hw' => by exact exec_part (.tmp 20) (.const (.int .i64 48)) (.const (.int .i64 80)) rfl _ xs _ HB.out 48 80 rfl rfl rfl (by omega) (by rw [HL.out]; omega) _⟩) hS ?_
    simp only [Act.put, List.setIfInBounds_toArray, List.set_cons_zero, List.set_cons_succ]
    refine wpAnyH_ready (rs := [2, 14]) (by kernel_rfl) (by simp) ?_
    refine AllReadyH.cons rfl (fun K hK => ?_) (AllReadyH.cons rfl (fun K hK => ?_) AllReadyH.nil)
    · refine he.step_callW _ (by rfl) (some 11) rfl 44 #[.tmp 10] #[23] rfl (fun q w' => by rfl) #[sl (.slice bo 624 bc) 0 8] (by simp only [List.map_toArray, List.map_cons, List.map_nil]; rfl) (fun z9 w' => z9 = .int .u64 G ∧ Below x1.heap.size x1 w') ?_ ?_
      · exact (rnum_any _ (sub xs 0 8) x1 (sl_sub (HB.out.below (BB.out.trans (hS.mono BB.out.size))) 0 8 (by omega) (by rw [HL.out]; omega)) (by rw [sub_len _ _ _ (by rw [HL.out]; omega)]; omega)).mono fun e w' ⟨h1, h2⟩ => ⟨_, h1, N0.out.symm ▸ rfl, h2⟩
      rintro _ x2 ⟨rfl, hb⟩
      have hS : Below w1.heap.size w1 x2 := hS.trans (hb.mono hS.size)
      clear hb
      refine hK.out _ _ hS (fun _ => ?_)
      simp only [Act.put, List.setIfInBounds_toArray, List.set_cons_zero, List.set_cons_succ]
      clear hK K
      refine wpAnyH_ready (rs := [5, 14]) (by kernel_rfl) (by simp) ?_
      refine AllReadyH.cons rfl (fun K hK => ?_) (AllReadyH.cons rfl (fun K hK => ?_) AllReadyH.nil)
      · refine he.step_callW _ (by rfl) (some 14) rfl 44 #[.tmp 13] #[23] rfl (fun q w' => by rfl) #[sl (.slice bo 624 bc) 8 16] (by simp only [List.map_toArray, List.map_cons, List.map_nil]; rfl) (fun z9 w' => z9 = .int .u64 P ∧ Below x2.heap.size x2 w') ?_ ?_
        · exact (rnum_any _ (sub xs 8 16) x2 (sl_sub (HB.out.below (BB.out.trans (hS.mono BB.out.size))) 8 16 (by omega) (by rw [HL.out]; omega)) (by rw [sub_len _ _ _ (by rw [HL.out]; omega)]; omega)).mono fun e w' ⟨h1, h2⟩ => ⟨_, h1, N1.out.symm ▸ rfl, h2⟩
        rintro _ x3 ⟨rfl, hb⟩
        have hS : Below w1.heap.size w1 x3 := hS.trans (hb.mono hS.size)
        clear hb
        refine hK.out _ _ hS (fun _ => ?_)
        simp only [Act.put, List.setIfInBounds_toArray, List.set_cons_zero, List.set_cons_succ]
        clear hK K
        refine wpAnyH_ready (rs := [10, 14]) (by kernel_rfl) (by simp) ?_
        refine AllReadyH.cons rfl (fun K hK => ?_) (AllReadyH.cons rfl (fun K hK => ?_) AllReadyH.nil)
        · refine he.step_callW _ (by rfl) (some 19) rfl 44 #[.tmp 18] #[23] rfl (fun q w' => by rfl) #[sl (.slice bo 624 bc) 32 40] (by simp only [List.map_toArray, List.map_cons, List.map_nil]; rfl) (fun z9 w' => z9 = .int .u64 B ∧ Below x3.heap.size x3 w') ?_ ?_
          · exact (rnum_any _ (sub xs 32 40) x3 (sl_sub (HB.out.below (BB.out.trans (hS.mono BB.out.size))) 32 40 (by omega) (by rw [HL.out]; omega)) (by rw [sub_len _ _ _ (by rw [HL.out]; omega)]; omega)).mono fun e w' ⟨h1, h2⟩ => ⟨_, h1, N3.out.symm ▸ rfl, h2⟩
          rintro _ x4 ⟨rfl, hb⟩
          have hS : Below w1.heap.size w1 x4 := hS.trans (hb.mono hS.size)
          clear hb
          refine hK.out _ _ hS (fun _ => ?_)
          simp only [Act.put, List.setIfInBounds_toArray, List.set_cons_zero, List.set_cons_succ]
          clear hK K
          refine take_lawH 13 (some 22) (.agg (rv G P (sl (.slice bo 624 bc) 16 32) B (sl (.slice bo 624 bc) 48 80) z4).toArray) rfl rfl (by kernel_rfl) (by kernel_rfl) (by kernel_rfl) (fun _ _ _ h => h) (Or.inl ⟨by rfl, fun w' hw' => by exact exec_buildV 39 _ rfl #[(0, .int .u64 G), (1, .int .u64 P), (2, (sl (.slice bo 624 bc) 16 32)), (3, .int .u64 B), (4, (sl (.slice bo 624 bc) 48 80))] (by kernel_rfl) _ _ (run_brec _ G P B _ _ SA.out SK.out)⟩) hS ?_
          simp only [Act.put, List.setIfInBounds_toArray, List.set_cons_zero, List.set_cons_succ]
          refine wpAnyH_ready (rs := [14]) (by kernel_rfl) (by simp) ?_
          refine AllReadyH.cons rfl (fun K hK => ?_) AllReadyH.nil
          refine step_newN _ rfl (some 4) rfl 39 rfl rv0 zero_rrecord rv0_nob ?_
          intro x5 v9 n9 hb
          have HV : Hid (Vr x5 x4.heap.size rv0) := v9
          have NB_HV : Hid (NoB x5 x4.heap.size) := n9
          have LV : Hid (w1.heap.size ≤ x4.heap.size) := hS.size
          have hS : Below w1.heap.size w1 x5 := hS.trans (hb.mono hS.size)
          clear v9 n9 hb
          obtain ⟨gv, hg9⟩ : ∃ g, g = x4.heap.size := ⟨_, rfl⟩
          rw [← hg9] at HV NB_HV LV ⊢
          clear hg9
          refine hK.out _ _ hS (fun _ => ?_)
          simp only [Act.put, List.setIfInBounds_toArray, List.set_cons_zero, List.set_cons_succ]
          clear hK K
          refine wpAnyH_ready (rs := [15]) (by kernel_rfl) (by simp) ?_
          refine AllReadyH.cons rfl (fun K hK => ?_) AllReadyH.nil
          refine step_storeN _ rfl none rfl (.tmp 4) (.tmp 22) 39 rfl gv rv0 (rv G P (sl (.slice bo 624 bc) 16 32) B (sl (.slice bo 624 bc) 48 80) z4) rfl rfl HV.out NB_HV.out rfl rowy_rrecord.2 (rv_one SA.out SK.out slc_z4) (rv_nob SA.out SK.out slc_z4) ?_
          intro x6 v9 n9 B9 E9
          have HV : Hid (Vr x6 gv (rv G P (sl (.slice bo 624 bc) 16 32) B (sl (.slice bo 624 bc) 48 80) z4)) := v9
          have NB_HV : Hid (NoB x6 gv) := n9
          have hS : Below w1.heap.size w1 x6 := hS.trans (B9.mono LV.out)
          clear v9 n9 B9 E9
          refine hK.out _ _ hS (fun _ => ?_)
          simp only [Act.put]
          clear hK K
          refine wpAnyH_done (by kernel_rfl) ?_ _
          go_wp2_with fail
          go_meet
          exact ⟨gv, rfl, HV.out, NB_HV.out, LV.out, hS⟩
        · refine step_newN _ rfl (some 4) rfl 39 rfl rv0 zero_rrecord rv0_nob ?_
          intro x7 v9 n9 hb
          have HV : Hid (Vr x7 x3.heap.size rv0) := v9
          have NB_HV : Hid (NoB x7 x3.heap.size) := n9
          have LV : Hid (w1.heap.size ≤ x3.heap.size) := hS.size
          have hS : Below w1.heap.size w1 x7 := hS.trans (hb.mono hS.size)
          clear v9 n9 hb
          obtain ⟨gv, hg9⟩ : ∃ g, g = x3.heap.size := ⟨_, rfl⟩
          rw [← hg9] at HV NB_HV LV ⊢
          clear hg9
          refine hK.out _ _ hS (fun _ => ?_)
          simp only [Act.put, List.setIfInBounds_toArray, List.set_cons_zero, List.set_cons_succ]
          clear hK K
          refine wpAnyH_ready (rs := [10]) (by kernel_rfl) (by simp) ?_
          refine AllReadyH.cons rfl (fun K hK => ?_) AllReadyH.nil
          refine he.step_callW _ (by rfl) (some 19) rfl 44 #[.tmp 18] #[23] rfl (fun q w' => by rfl) #[sl (.slice bo 624 bc) 32 40] (by simp only [List.map_toArray, List.map_cons, List.map_nil]; rfl) (fun z9 w' => z9 = .int .u64 B ∧ Below x7.heap.size x7 w') ?_ ?_
          · exact (rnum_any _ (sub xs 32 40) x7 (sl_sub (HB.out.below (BB.out.trans (hS.mono BB.out.size))) 32 40 (by omega) (by rw [HL.out]; omega)) (by rw [sub_len _ _ _ (by rw [HL.out]; omega)]; omega)).mono fun e w' ⟨h1, h2⟩ => ⟨_, h1, N3.out.symm ▸ rfl, h2⟩
          rintro _ x8 ⟨rfl, hb⟩
          have NB_HV : Hid (NoB x8 gv) := NB_HV.out.heap (hb.block _ (range_lt HV.out.1 (Nat.succ_pos _)))
          have HV : Hid (Vr x8 gv rv0) := HV.out.below hb (range_lt HV.out.1 (Nat.succ_pos _))
          have hS : Below w1.heap.size w1 x8 := hS.trans (hb.mono hS.size)
          clear hb
          refine hK.out _ _ hS (fun _ => ?_)
          simp only [Act.put, List.setIfInBounds_toArray, List.set_cons_zero, List.set_cons_succ]
          clear hK K
          refine take_lawH 13 (some 22) (.agg (rv G P (sl (.slice bo 624 bc) 16 32) B (sl (.slice bo 624 bc) 48 80) z4).toArray) rfl rfl (by kernel_rfl) (by kernel_rfl) (by kernel_rfl) (fun _ _ _ h => h) (Or.inl ⟨by rfl, fun w' hw' => by exact exec_buildV 39 _ rfl #[(0, .int .u64 G), (1, .int .u64 P), (2, (sl (.slice bo 624 bc) 16 32)), (3, .int .u64 B), (4, (sl (.slice bo 624 bc) 48 80))] (by kernel_rfl) _ _ (run_brec _ G P B _ _ SA.out SK.out)⟩) hS ?_
          simp only [Act.put, List.setIfInBounds_toArray, List.set_cons_zero, List.set_cons_succ]
          refine wpAnyH_ready (rs := [15]) (by kernel_rfl) (by simp) ?_
          refine AllReadyH.cons rfl (fun K hK => ?_) AllReadyH.nil
          refine step_storeN _ rfl none rfl (.tmp 4) (.tmp 22) 39 rfl gv rv0 (rv G P (sl (.slice bo 624 bc) 16 32) B (sl (.slice bo 624 bc) 48 80) z4) rfl rfl HV.out NB_HV.out rfl rowy_rrecord.2 (rv_one SA.out SK.out slc_z4) (rv_nob SA.out SK.out slc_z4) ?_
          intro x9 v9 n9 B9 E9
          have HV : Hid (Vr x9 gv (rv G P (sl (.slice bo 624 bc) 16 32) B (sl (.slice bo 624 bc) 48 80) z4)) := v9
          have NB_HV : Hid (NoB x9 gv) := n9
          have hS : Below w1.heap.size w1 x9 := hS.trans (B9.mono LV.out)
          clear v9 n9 B9 E9
          refine hK.out _ _ hS (fun _ => ?_)
          simp only [Act.put]
          clear hK K
          refine wpAnyH_done (by kernel_rfl) ?_ _
          go_wp2_with fail
          go_meet
          exact ⟨gv, rfl, HV.out, NB_HV.out, LV.out, hS⟩
      · refine step_newN _ rfl (some 4) rfl 39 rfl rv0 zero_rrecord rv0_nob ?_
        intro x10 v9 n9 hb
        have HV : Hid (Vr x10 x2.heap.size rv0) := v9
        have NB_HV : Hid (NoB x10 x2.heap.size) := n9
        have LV : Hid (w1.heap.size ≤ x2.heap.size) := hS.size
        have hS : Below w1.heap.size w1 x10 := hS.trans (hb.mono hS.size)
        clear v9 n9 hb
        obtain ⟨gv, hg9⟩ : ∃ g, g = x2.heap.size := ⟨_, rfl⟩
        rw [← hg9] at HV NB_HV LV ⊢
        clear hg9
        refine hK.out _ _ hS (fun _ => ?_)
        simp only [Act.put, List.setIfInBounds_toArray, List.set_cons_zero, List.set_cons_succ]
        clear hK K
        refine wpAnyH_ready (rs := [5]) (by kernel_rfl) (by simp) ?_
        refine AllReadyH.cons rfl (fun K hK => ?_) AllReadyH.nil
        refine he.step_callW _ (by rfl) (some 14) rfl 44 #[.tmp 13] #[23] rfl (fun q w' => by rfl) #[sl (.slice bo 624 bc) 8 16] (by simp only [List.map_toArray, List.map_cons, List.map_nil]; rfl) (fun z9 w' => z9 = .int .u64 P ∧ Below x10.heap.size x10 w') ?_ ?_
        · exact (rnum_any _ (sub xs 8 16) x10 (sl_sub (HB.out.below (BB.out.trans (hS.mono BB.out.size))) 8 16 (by omega) (by rw [HL.out]; omega)) (by rw [sub_len _ _ _ (by rw [HL.out]; omega)]; omega)).mono fun e w' ⟨h1, h2⟩ => ⟨_, h1, N1.out.symm ▸ rfl, h2⟩
        rintro _ x11 ⟨rfl, hb⟩
        have NB_HV : Hid (NoB x11 gv) := NB_HV.out.heap (hb.block _ (range_lt HV.out.1 (Nat.succ_pos _)))
        have HV : Hid (Vr x11 gv rv0) := HV.out.below hb (range_lt HV.out.1 (Nat.succ_pos _))
        have hS : Below w1.heap.size w1 x11 := hS.trans (hb.mono hS.size)
        clear hb
        refine hK.out _ _ hS (fun _ => ?_)
        simp only [Act.put, List.setIfInBounds_toArray, List.set_cons_zero, List.set_cons_succ]
        clear hK K
        refine wpAnyH_ready (rs := [10]) (by kernel_rfl) (by simp) ?_
        refine AllReadyH.cons rfl (fun K hK => ?_) AllReadyH.nil
        refine he.step_callW _ (by rfl) (some 19) rfl 44 #[.tmp 18] #[23] rfl (fun q w' => by rfl) #[sl (.slice bo 624 bc) 32 40] (by simp only [List.map_toArray, List.map_cons, List.map_nil]; rfl) (fun z9 w' => z9 = .int .u64 B ∧ Below x11.heap.size x11 w') ?_ ?_
        · exact (rnum_any _ (sub xs 32 40) x11 (sl_sub (HB.out.below (BB.out.trans (hS.mono BB.out.size))) 32 40 (by omega) (by rw [HL.out]; omega)) (by rw [sub_len _ _ _ (by rw [HL.out]; omega)]; omega)).mono fun e w' ⟨h1, h2⟩ => ⟨_, h1, N3.out.symm ▸ rfl, h2⟩
        rintro _ x12 ⟨rfl, hb⟩
        have NB_HV : Hid (NoB x12 gv) := NB_HV.out.heap (hb.block _ (range_lt HV.out.1 (Nat.succ_pos _)))
        have HV : Hid (Vr x12 gv rv0) := HV.out.below hb (range_lt HV.out.1 (Nat.succ_pos _))
        have hS : Below w1.heap.size w1 x12 := hS.trans (hb.mono hS.size)
        clear hb
        refine hK.out _ _ hS (fun _ => ?_)
        simp only [Act.put, List.setIfInBounds_toArray, List.set_cons_zero, List.set_cons_succ]
        clear hK K
        refine take_lawH 13 (some 22) (.agg (rv G P (sl (.slice bo 624 bc) 16 32) B (sl (.slice bo 624 bc) 48 80) z4).toArray) rfl rfl (by kernel_rfl) (by kernel_rfl) (by kernel_rfl) (fun _ _ _ h => h) (Or.inl ⟨by rfl, fun w' hw' => by exact exec_buildV 39 _ rfl #[(0, .int .u64 G), (1, .int .u64 P), (2, (sl (.slice bo 624 bc) 16 32)), (3, .int .u64 B), (4, (sl (.slice bo 624 bc) 48 80))] (by kernel_rfl) _ _ (run_brec _ G P B _ _ SA.out SK.out)⟩) hS ?_
        simp only [Act.put, List.setIfInBounds_toArray, List.set_cons_zero, List.set_cons_succ]
        refine wpAnyH_ready (rs := [15]) (by kernel_rfl) (by simp) ?_
        refine AllReadyH.cons rfl (fun K hK => ?_) AllReadyH.nil
        refine step_storeN _ rfl none rfl (.tmp 4) (.tmp 22) 39 rfl gv rv0 (rv G P (sl (.slice bo 624 bc) 16 32) B (sl (.slice bo 624 bc) 48 80) z4) rfl rfl HV.out NB_HV.out rfl rowy_rrecord.2 (rv_one SA.out SK.out slc_z4) (rv_nob SA.out SK.out slc_z4) ?_
        intro x13 v9 n9 B9 E9
        have HV : Hid (Vr x13 gv (rv G P (sl (.slice bo 624 bc) 16 32) B (sl (.slice bo 624 bc) 48 80) z4)) := v9
        have NB_HV : Hid (NoB x13 gv) := n9
        have hS : Below w1.heap.size w1 x13 := hS.trans (B9.mono LV.out)
        clear v9 n9 B9 E9
        refine hK.out _ _ hS (fun _ => ?_)
        simp only [Act.put]
        clear hK K
        refine wpAnyH_done (by kernel_rfl) ?_ _
        go_wp2_with fail
        go_meet
        exact ⟨gv, rfl, HV.out, NB_HV.out, LV.out, hS⟩
    · refine step_newN _ rfl (some 4) rfl 39 rfl rv0 zero_rrecord rv0_nob ?_
      intro x14 v9 n9 hb
      have HV : Hid (Vr x14 x1.heap.size rv0) := v9
      have NB_HV : Hid (NoB x14 x1.heap.size) := n9
      have LV : Hid (w1.heap.size ≤ x1.heap.size) := hS.size
      have hS : Below w1.heap.size w1 x14 := hS.trans (hb.mono hS.size)
      clear v9 n9 hb
      obtain ⟨gv, hg9⟩ : ∃ g, g = x1.heap.size := ⟨_, rfl⟩
      rw [← hg9] at HV NB_HV LV ⊢
      clear hg9
      refine hK.out _ _ hS (fun _ => ?_)
      simp only [Act.put, List.setIfInBounds_toArray, List.set_cons_zero, List.set_cons_succ]
      clear hK K
      refine wpAnyH_ready (rs := [2]) (by kernel_rfl) (by simp) ?_
      refine AllReadyH.cons rfl (fun K hK => ?_) AllReadyH.nil
      refine he.step_callW _ (by rfl) (some 11) rfl 44 #[.tmp 10] #[23] rfl (fun q w' => by rfl) #[sl (.slice bo 624 bc) 0 8] (by simp only [List.map_toArray, List.map_cons, List.map_nil]; rfl) (fun z9 w' => z9 = .int .u64 G ∧ Below x14.heap.size x14 w') ?_ ?_
      · exact (rnum_any _ (sub xs 0 8) x14 (sl_sub (HB.out.below (BB.out.trans (hS.mono BB.out.size))) 0 8 (by omega) (by rw [HL.out]; omega)) (by rw [sub_len _ _ _ (by rw [HL.out]; omega)]; omega)).mono fun e w' ⟨h1, h2⟩ => ⟨_, h1, N0.out.symm ▸ rfl, h2⟩
      rintro _ x15 ⟨rfl, hb⟩
      have NB_HV : Hid (NoB x15 gv) := NB_HV.out.heap (hb.block _ (range_lt HV.out.1 (Nat.succ_pos _)))
      have HV : Hid (Vr x15 gv rv0) := HV.out.below hb (range_lt HV.out.1 (Nat.succ_pos _))
      have hS : Below w1.heap.size w1 x15 := hS.trans (hb.mono hS.size)
      clear hb
      refine hK.out _ _ hS (fun _ => ?_)
      simp only [Act.put, List.setIfInBounds_toArray, List.set_cons_zero, List.set_cons_succ]
      clear hK K
      refine wpAnyH_ready (rs := [5]) (by kernel_rfl) (by simp) ?_
      refine AllReadyH.cons rfl (fun K hK => ?_) AllReadyH.nil
      refine he.step_callW _ (by rfl) (some 14) rfl 44 #[.tmp 13] #[23] rfl (fun q w' => by rfl) #[sl (.slice bo 624 bc) 8 16] (by simp only [List.map_toArray, List.map_cons, List.map_nil]; rfl) (fun z9 w' => z9 = .int .u64 P ∧ Below x15.heap.size x15 w') ?_ ?_
      · exact (rnum_any _ (sub xs 8 16) x15 (sl_sub (HB.out.below (BB.out.trans (hS.mono BB.out.size))) 8 16 (by omega) (by rw [HL.out]; omega)) (by rw [sub_len _ _ _ (by rw [HL.out]; omega)]; omega)).mono fun e w' ⟨h1, h2⟩ => ⟨_, h1, N1.out.symm ▸ rfl, h2⟩
      rintro _ x16 ⟨rfl, hb⟩
      have NB_HV : Hid (NoB x16 gv) := NB_HV.out.heap (hb.block _ (range_lt HV.out.1 (Nat.succ_pos _)))
      have HV : Hid (Vr x16 gv rv0) := HV.out.below hb (range_lt HV.out.1 (Nat.succ_pos _))
      have hS : Below w1.heap.size w1 x16 := hS.trans (hb.mono hS.size)
      clear hb
      refine hK.out _ _ hS (fun _ => ?_)
      simp only [Act.put, List.setIfInBounds_toArray, List.set_cons_zero, List.set_cons_succ]
      clear hK K
      refine wpAnyH_ready (rs := [10]) (by kernel_rfl) (by simp) ?_
      refine AllReadyH.cons rfl (fun K hK => ?_) AllReadyH.nil
      refine he.step_callW _ (by rfl) (some 19) rfl 44 #[.tmp 18] #[23] rfl (fun q w' => by rfl) #[sl (.slice bo 624 bc) 32 40] (by simp only [List.map_toArray, List.map_cons, List.map_nil]; rfl) (fun z9 w' => z9 = .int .u64 B ∧ Below x16.heap.size x16 w') ?_ ?_
      · exact (rnum_any _ (sub xs 32 40) x16 (sl_sub (HB.out.below (BB.out.trans (hS.mono BB.out.size))) 32 40 (by omega) (by rw [HL.out]; omega)) (by rw [sub_len _ _ _ (by rw [HL.out]; omega)]; omega)).mono fun e w' ⟨h1, h2⟩ => ⟨_, h1, N3.out.symm ▸ rfl, h2⟩
      rintro _ x17 ⟨rfl, hb⟩
      have NB_HV : Hid (NoB x17 gv) := NB_HV.out.heap (hb.block _ (range_lt HV.out.1 (Nat.succ_pos _)))
      have HV : Hid (Vr x17 gv rv0) := HV.out.below hb (range_lt HV.out.1 (Nat.succ_pos _))
      have hS : Below w1.heap.size w1 x17 := hS.trans (hb.mono hS.size)
      clear hb
      refine hK.out _ _ hS (fun _ => ?_)
      simp only [Act.put, List.setIfInBounds_toArray, List.set_cons_zero, List.set_cons_succ]
      clear hK K
      refine take_lawH 13 (some 22) (.agg (rv G P (sl (.slice bo 624 bc) 16 32) B (sl (.slice bo 624 bc) 48 80) z4).toArray) rfl rfl (by kernel_rfl) (by kernel_rfl) (by kernel_rfl) (fun _ _ _ h => h) (Or.inl ⟨by rfl, fun w' hw' => by exact exec_buildV 39 _ rfl #[(0, .int .u64 G), (1, .int .u64 P), (2, (sl (.slice bo 624 bc) 16 32)), (3, .int .u64 B), (4, (sl (.slice bo 624 bc) 48 80))] (by kernel_rfl) _ _ (run_brec _ G P B _ _ SA.out SK.out)⟩) hS ?_
      simp only [Act.put, List.setIfInBounds_toArray, List.set_cons_zero, List.set_cons_succ]
      refine wpAnyH_ready (rs := [15]) (by kernel_rfl) (by simp) ?_
      refine AllReadyH.cons rfl (fun K hK => ?_) AllReadyH.nil
      refine step_storeN _ rfl none rfl (.tmp 4) (.tmp 22) 39 rfl gv rv0 (rv G P (sl (.slice bo 624 bc) 16 32) B (sl (.slice bo 624 bc) 48 80) z4) rfl rfl HV.out NB_HV.out rfl rowy_rrecord.2 (rv_one SA.out SK.out slc_z4) (rv_nob SA.out SK.out slc_z4) ?_
      intro x18 v9 n9 B9 E9
      have HV : Hid (Vr x18 gv (rv G P (sl (.slice bo 624 bc) 16 32) B (sl (.slice bo 624 bc) 48 80) z4)) := v9
      have NB_HV : Hid (NoB x18 gv) := n9
      have hS : Below w1.heap.size w1 x18 := hS.trans (B9.mono LV.out)
      clear v9 n9 B9 E9
      refine hK.out _ _ hS (fun _ => ?_)
      simp only [Act.put]
      clear hK K
      refine wpAnyH_done (by kernel_rfl) ?_ _
      go_wp2_with fail
      go_meet
      exact ⟨gv, rfl, HV.out, NB_HV.out, LV.out, hS⟩
  case rest =>
    obtain ⟨gv, rfl, x1, x2, x5, x6⟩ := hcut
    have HV : Hid (Vr wc gv (rv G P (sl (.slice bo 624 bc) 16 32) B (sl (.slice bo 624 bc) 48 80) z4)) := x1
    have NB_HV : Hid (NoB wc gv) := x2
    have LTV : Hid (w.heap.size < gv) := Nat.lt_of_lt_of_le (range_lt HR.out.1 (Nat.succ_pos _)) x5
    have NB_HR : Hid (NoB wc w.heap.size) := NB_HR.out.heap (x6.block _ (range_lt HR.out.1 (Nat.succ_pos _)))
    have HR : Hid (Vr wc w.heap.size rv0) := HR.out.below x6 (range_lt HR.out.1 (Nat.succ_pos _))
    have BB : Hid (Below w.heap.size w wc) := BB.out.trans (x6.mono BB.out.size)
    clear x1 x2 x5 x6
    by_cases hz : Z = 0
    · subst hz
      have t0 : (0 : Nat) = 0 := rfl
      go_wp2_with (first
        | (have q1 := t1; go_at_call 44; refine (rnum_any _ (sub xs 40 48) wc Y9.out L4.out).mono ?_; rintro e9 w61 ⟨rfl, B9⟩; have NB_HR : Hid (NoB w61 w.heap.size) := NB_HR.out.heap (B9.block _ (range_lt HR.out.1 (Nat.succ_pos _))); have HR : Hid (Vr w61 w.heap.size rv0) := HR.out.below B9 (range_lt HR.out.1 (Nat.succ_pos _)); have NB_HV : Hid (NoB w61 gv) := NB_HV.out.heap (B9.block _ (range_lt HV.out.1 (Nat.succ_pos _))); have HV : Hid (Vr w61 gv (rv G P (sl (.slice bo 624 bc) 16 32) B (sl (.slice bo 624 bc) 48 80) z4)) := HV.out.below B9 (range_lt HV.out.1 (Nat.succ_pos _)); rw [N4.out]; have BB : Hid (Below w.heap.size w w61) := BB.out.trans (B9.mono BB.out.size); clear B9; clear t1; have t2 : (1 : Nat) = 1 := rfl)
        | (have q0 := t0; refine cut_part _ rfl (.tmp 23) (.const (.int .i64 40)) (.const (.int .i64 48)) rfl _ xs _ _ 40 48 rfl rfl rfl rfl rfl (by omega) (by rw [HL.out]; omega) (HB.out.below BB.out) ?_; intro v9 y9; have Y9 : Hid (Byt wc v9 (sub xs 40 48)) := y9; clear y9; clear t0; have t1 : (1 : Nat) = 1 := rfl))
      go_loopw [6, 5] (fun i z wr => ∃ (k : Nat) (T : Nat → Sc), k ≤ 4 ∧ i = .int .i64 (k : Int) ∧ ((z = .bool true ∧ ∀ j, j < k → Sok (qw xs j)) ∨ z = .bool false) ∧ (∀ j, j < 4 → Slc (T j).v) ∧ Vr wr gv (rv G P (sl (.slice bo 624 bc) 16 32) B (sl (.slice bo 624 bc) 48 80) T) ∧ (NoB wr gv ∧ Vr wr w.heap.size rv0 ∧ NoB wr w.heap.size) ∧ Below w.heap.size w wr) (fun i _ _ => 4 - (intOf i).toNat)
      case atStart => exact ⟨0, z4, Nat.zero_le _, rfl, .inl ⟨rfl, upto_zero⟩, slc_z4, HV.out, ⟨NB_HV.out, HR.out, NB_HR.out⟩, BB.out⟩
      case round =>
        clear HV NB_HV HR NB_HR BB
        obtain ⟨k, T, hk4, rfl, hz9, hs, hv, ⟨nv9, hr9, nr9⟩, hBl⟩ := hrel
        have HSl : Hid (∀ j, j < 4 → Slc (T j).v) := hs
        have HV : Hid (Vr wr gv (rv G P (sl (.slice bo 624 bc) 16 32) B (sl (.slice bo 624 bc) 48 80) T)) := hv
        have NB_HV : Hid (NoB wr gv) := nv9
        have HR : Hid (Vr wr w.heap.size rv0) := hr9
        have NB_HR : Hid (NoB wr w.heap.size) := nr9
        have BB : Hid (Below w.heap.size w wr) := hBl
        have LT_HR_HV := LTV
        have LE_HV : Hid (w.heap.size ≤ gv) := Nat.le_of_lt LTV.out
        clear hs hv nv9 hr9 nr9 hBl
        rcases hz9 with ⟨rfl, hj⟩ | rfl
        · have HJ : Hid (∀ j, j < k → Sok (qw xs j)) := hj
          clear hj
          by_cases hk : k < 4
          · have ki : (k : Int) < 4 := by omega
            have k1 : IntKind.i64.wrap (128 * (k : Int)) = 128 * (k : Int) := by rw [IntKind.wrap_i64]; omega
            have k2 : IntKind.i64.wrap (80 + 128 * (k : Int)) = 80 + 128 * (k : Int) := by rw [IntKind.wrap_i64]; omega
            have k3 : IntKind.i64.wrap (208 + 128 * (k : Int)) = 208 + 128 * (k : Int) := by rw [IntKind.wrap_i64]; omega
            have LC : Hid (208 + 128 * k ≤ xs.length) := (by show _ ≤ _; rw [HL.out]; omega)
            by_cases SH : Sok (qw xs k)
            · have SK2 : Hid (Sok (qw xs k)) := SH
              have t0 : (1 : Nat) = 1 := rfl
              go_wp2_with (first
                | (have q4 := t4; (with_reducible refine at_store ?_); refine store_lawC _ s9.cs gv (5 + k * 5) rfl rfl (Vr.sthere HV.out k hk) rowy_rslot.2 (cs_one SL.out) ?_; intro w44 E9 R9 T9 B9; have K9 : ∀ k, k ≠ gv → w44.heap[k]? = w43.heap[k]? := (by rw [E9.out]; exact fun k hk => heap_cells _ _ _ _ k hk); have NB_HR : Hid (NoB w44 w.heap.size) := NB_HR.out.heap (K9 _ (Nat.ne_of_lt LT_HR_HV.out)); have HR : Hid (Vr w44 w.heap.size rv0) := HR.out.heap (K9 _ (Nat.ne_of_lt LT_HR_HV.out)); have YD : Hid (Byt w44 s9.v s9.xs) := byt_nob YD.out NB_HV.out K9; have NB_HS : Hid (NoB w44 w41.heap.size) := NB_HS.out.heap (K9 _ (Nat.ne_of_gt LT_HV_HS.out)); have HS : Hid (Vr w44 w41.heap.size s9.cs) := HS.out.heap (K9 _ (Nat.ne_of_gt LT_HV_HS.out)); have NB9 : Hid (NoB w44 gv) := (by rw [E9.out]; exact NoB.upd NB_HV.out HV.out k hk s9 SL.out); have V9 : Hid (Vr w44 gv (rv G P (sl (.slice bo 624 bc) 16 32) B (sl (.slice bo 624 bc) 48 80) (upd T k s9))) := (by rw [E9.out]; exact Vr.upd HV.out k hk s9); clear NB_HV HV; have NB_HV := NB9; have HV := V9; clear NB9 V9; have BB : Hid (Below w.heap.size w w44) := BB.out.trans (B9.mono LE_HV.out); clear hs_0 hs_1 hs_2 hs_3 hs_4; have hs_0 := HS.out.cell 0 _ rfl; have hs_1 := HS.out.cell 1 _ rfl; have hs_2 := HS.out.cell 2 _ rfl; have hs_3 := HS.out.cell 3 _ rfl; have hs_4 := HS.out.cell 4 _ rfl; clear E9 R9 T9 B9 K9; clear t4; have t5 : (1 : Nat) = 1 := rfl)
                | (have q3 := t3; (with_reducible refine at_store ?_); refine store_lawC _ s9.cs w41.heap.size 0 rfl rfl HS.out.2 rowy_rslot.2 (cs_one SL.out) ?_; intro w43 E9 R9 T9 B9; have K9 : ∀ k, k ≠ w41.heap.size → w43.heap[k]? = w42.heap[k]? := (by rw [E9.out]; exact fun k hk => heap_cells _ _ _ _ k hk); have NB_HR : Hid (NoB w43 w.heap.size) := NB_HR.out.heap (K9 _ (Nat.ne_of_lt LT_HR_HS.out)); have HR : Hid (Vr w43 w.heap.size rv0) := HR.out.heap (K9 _ (Nat.ne_of_lt LT_HR_HS.out)); have NB_HV : Hid (NoB w43 gv) := NB_HV.out.heap (K9 _ (Nat.ne_of_lt LT_HV_HS.out)); have HV : Hid (Vr w43 gv (rv G P (sl (.slice bo 624 bc) 16 32) B (sl (.slice bo 624 bc) 48 80) T)) := HV.out.heap (K9 _ (Nat.ne_of_lt LT_HV_HS.out)); have YD : Hid (Byt w43 s9.v s9.xs) := byt_nob YD.out NB_HS.out K9; have NB_HS : Hid (NoB w43 w41.heap.size) := (by rw [E9.out]; exact NB_HS.out.set HS.out rfl (cs_nob SL.out)); have HS : Hid (Vr w43 w41.heap.size s9.cs) := ⟨R9, T9⟩; have BB : Hid (Below w.heap.size w w43) := BB.out.trans (B9.mono LE_HS.out); have hs_0 := HS.out.cell 0 _ rfl; have hs_1 := HS.out.cell 1 _ rfl; have hs_2 := HS.out.cell 2 _ rfl; have hs_3 := HS.out.cell 3 _ rfl; have hs_4 := HS.out.cell 4 _ rfl; clear E9 R9 T9 B9 K9; clear t3; have t4 : (1 : Nat) = 1 := rfl)
                | (have q2 := t2; (with_reducible refine at_alloc ?_); refine new_lawN _ (sv false 0 0 0 (.slice none 0 0)) zero_rslot (sv_nob _ _ _ _ _ _ _) ?_; intro w42 X9 N9 B9; have LT_HR_HS : Hid (w.heap.size < w41.heap.size) := range_lt HR.out.1 (Nat.succ_pos _); have LT_HV_HS : Hid (gv < w41.heap.size) := range_lt HV.out.1 (Nat.succ_pos _); have LE_HS : Hid (w.heap.size ≤ w41.heap.size) := BB.out.size; have NB_HR : Hid (NoB w42 w.heap.size) := NB_HR.out.heap (B9.block _ (range_lt HR.out.1 (Nat.succ_pos _))); have HR : Hid (Vr w42 w.heap.size rv0) := HR.out.below B9 (range_lt HR.out.1 (Nat.succ_pos _)); have NB_HV : Hid (NoB w42 gv) := NB_HV.out.heap (B9.block _ (range_lt HV.out.1 (Nat.succ_pos _))); have HV : Hid (Vr w42 gv (rv G P (sl (.slice bo 624 bc) 16 32) B (sl (.slice bo 624 bc) 48 80) T)) := HV.out.below B9 (range_lt HV.out.1 (Nat.succ_pos _)); have YD : Hid (Byt w42 s9.v s9.xs) := YD.out.below B9; have HS : Hid (Vr w42 w41.heap.size (sv false 0 0 0 (.slice none 0 0))) := X9; have NB_HS : Hid (NoB w42 w41.heap.size) := N9; have BB : Hid (Below w.heap.size w w42) := BB.out.trans (B9.mono BB.out.size); clear X9 N9 B9; clear t2; have t3 : (1 : Nat) = 1 := rfl)
                | (have q1 := t1; go_at_call 45; refine (SD.out k hk wr _ SK2.out Y9.out).mono ?_; rintro e9 w41 ⟨s9, rfl, ⟨e8, z8⟩, B9⟩; have NB_HR : Hid (NoB w41 w.heap.size) := NB_HR.out.heap (B9.block _ (range_lt HR.out.1 (Nat.succ_pos _))); have HR : Hid (Vr w41 w.heap.size rv0) := HR.out.below B9 (range_lt HR.out.1 (Nat.succ_pos _)); have NB_HV : Hid (NoB w41 gv) := NB_HV.out.heap (B9.block _ (range_lt HV.out.1 (Nat.succ_pos _))); have HV : Hid (Vr w41 gv (rv G P (sl (.slice bo 624 bc) 16 32) B (sl (.slice bo 624 bc) 48 80) T)) := HV.out.below B9 (range_lt HV.out.1 (Nat.succ_pos _)); have YD : Hid (Byt w41 s9.v s9.xs) := z8; have ED : Hid (s9.d = sw (qw xs k)) := e8; have SL : Hid (Slc s9.v) := slc_byt z8; have BB : Hid (Below w.heap.size w w41) := BB.out.trans (B9.mono BB.out.size); clear B9 e8 z8; clear t1; have t2 : (1 : Nat) = 1 := rfl)
                | (have q0 := t0; refine cut_part _ rfl (.tmp 32) (.tmp 35) (.tmp 38) rfl _ xs _ _ (80 + 128 * k) (208 + 128 * k) rfl rfl rfl (by omega) (by omega) (by omega) LC.out (HB.out.below BB.out) ?_; intro v9 y9; rw [qw_cut2] at y9; have Y9 : Hid (Byt wr v9 (qw xs k)) := y9; clear y9; clear t0; have t1 : (1 : Nat) = 1 := rfl))
              go_roundw
              case rel => exact ⟨k + 1, upd T k s9, by omega, by go_num, .inl ⟨rfl, upto_succ HJ.out SK2.out⟩, (fun j hj => by by_cases e : j = k <;> first | (rw [e, upd_same]; exact SL.out) | (rw [upd_other _ _ _ _ e]; exact HSl.out j hj)), HV.out, ⟨NB_HV.out, HR.out, NB_HR.out⟩, BB.out⟩
              case measure => simp [intOf]; omega
            · have SK2 : Hid (¬ Sok (qw xs k)) := SH
              have t0 : (1 : Nat) = 1 := rfl
              go_wp2_with (first
                | (have q4 := t4; (with_reducible refine at_store ?_); refine store_lawC _ s9.cs gv (5 + k * 5) rfl rfl (Vr.sthere HV.out k hk) rowy_rslot.2 (cs_one SL.out) ?_; intro w44 E9 R9 T9 B9; have K9 : ∀ k, k ≠ gv → w44.heap[k]? = w43.heap[k]? := (by rw [E9.out]; exact fun k hk => heap_cells _ _ _ _ k hk); have NB_HR : Hid (NoB w44 w.heap.size) := NB_HR.out.heap (K9 _ (Nat.ne_of_lt LT_HR_HV.out)); have HR : Hid (Vr w44 w.heap.size rv0) := HR.out.heap (K9 _ (Nat.ne_of_lt LT_HR_HV.out)); have YD : Hid (Byt w44 s9.v s9.xs) := byt_nob YD.out NB_HV.out K9; have NB_HS : Hid (NoB w44 w41.heap.size) := NB_HS.out.heap (K9 _ (Nat.ne_of_gt LT_HV_HS.out)); have HS : Hid (Vr w44 w41.heap.size s9.cs) := HS.out.heap (K9 _ (Nat.ne_of_gt LT_HV_HS.out)); have NB9 : Hid (NoB w44 gv) := (by rw [E9.out]; exact NoB.upd NB_HV.out HV.out k hk s9 SL.out); have V9 : Hid (Vr w44 gv (rv G P (sl (.slice bo 624 bc) 16 32) B (sl (.slice bo 624 bc) 48 80) (upd T k s9))) := (by rw [E9.out]; exact Vr.upd HV.out k hk s9); clear NB_HV HV; have NB_HV := NB9; have HV := V9; clear NB9 V9; have BB : Hid (Below w.heap.size w w44) := BB.out.trans (B9.mono LE_HV.out); clear hs_0 hs_1 hs_2 hs_3 hs_4; have hs_0 := HS.out.cell 0 _ rfl; have hs_1 := HS.out.cell 1 _ rfl; have hs_2 := HS.out.cell 2 _ rfl; have hs_3 := HS.out.cell 3 _ rfl; have hs_4 := HS.out.cell 4 _ rfl; clear E9 R9 T9 B9 K9; clear t4; have t5 : (1 : Nat) = 1 := rfl)
                | (have q3 := t3; (with_reducible refine at_store ?_); refine store_lawC _ s9.cs w41.heap.size 0 rfl rfl HS.out.2 rowy_rslot.2 (cs_one SL.out) ?_; intro w43 E9 R9 T9 B9; have K9 : ∀ k, k ≠ w41.heap.size → w43.heap[k]? = w42.heap[k]? := (by rw [E9.out]; exact fun k hk => heap_cells _ _ _ _ k hk); have NB_HR : Hid (NoB w43 w.heap.size) := NB_HR.out.heap (K9 _ (Nat.ne_of_lt LT_HR_HS.out)); have HR : Hid (Vr w43 w.heap.size rv0) := HR.out.heap (K9 _ (Nat.ne_of_lt LT_HR_HS.out)); have NB_HV : Hid (NoB w43 gv) := NB_HV.out.heap (K9 _ (Nat.ne_of_lt LT_HV_HS.out)); have HV : Hid (Vr w43 gv (rv G P (sl (.slice bo 624 bc) 16 32) B (sl (.slice bo 624 bc) 48 80) T)) := HV.out.heap (K9 _ (Nat.ne_of_lt LT_HV_HS.out)); have YD : Hid (Byt w43 s9.v s9.xs) := byt_nob YD.out NB_HS.out K9; have NB_HS : Hid (NoB w43 w41.heap.size) := (by rw [E9.out]; exact NB_HS.out.set HS.out rfl (cs_nob SL.out)); have HS : Hid (Vr w43 w41.heap.size s9.cs) := ⟨R9, T9⟩; have BB : Hid (Below w.heap.size w w43) := BB.out.trans (B9.mono LE_HS.out); have hs_0 := HS.out.cell 0 _ rfl; have hs_1 := HS.out.cell 1 _ rfl; have hs_2 := HS.out.cell 2 _ rfl; have hs_3 := HS.out.cell 3 _ rfl; have hs_4 := HS.out.cell 4 _ rfl; clear E9 R9 T9 B9 K9; clear t3; have t4 : (1 : Nat) = 1 := rfl)
                | (have q2 := t2; (with_reducible refine at_alloc ?_); refine new_lawN _ (sv false 0 0 0 (.slice none 0 0)) zero_rslot (sv_nob _ _ _ _ _ _ _) ?_; intro w42 X9 N9 B9; have LT_HR_HS : Hid (w.heap.size < w41.heap.size) := range_lt HR.out.1 (Nat.succ_pos _); have LT_HV_HS : Hid (gv < w41.heap.size) := range_lt HV.out.1 (Nat.succ_pos _); have LE_HS : Hid (w.heap.size ≤ w41.heap.size) := BB.out.size; have NB_HR : Hid (NoB w42 w.heap.size) := NB_HR.out.heap (B9.block _ (range_lt HR.out.1 (Nat.succ_pos _))); have HR : Hid (Vr w42 w.heap.size rv0) := HR.out.below B9 (range_lt HR.out.1 (Nat.succ_pos _)); have NB_HV : Hid (NoB w42 gv) := NB_HV.out.heap (B9.block _ (range_lt HV.out.1 (Nat.succ_pos _))); have HV : Hid (Vr w42 gv (rv G P (sl (.slice bo 624 bc) 16 32) B (sl (.slice bo 624 bc) 48 80) T)) := HV.out.below B9 (range_lt HV.out.1 (Nat.succ_pos _)); have YD : Hid (Byt w42 s9.v s9.xs) := YD.out.below B9; have HS : Hid (Vr w42 w41.heap.size (sv false 0 0 0 (.slice none 0 0))) := X9; have NB_HS : Hid (NoB w42 w41.heap.size) := N9; have BB : Hid (Below w.heap.size w w42) := BB.out.trans (B9.mono BB.out.size); clear X9 N9 B9; clear t2; have t3 : (1 : Nat) = 1 := rfl)
                | (have q1 := t1; go_at_call 45; refine (SX.out k hk wr _ SK2.out Y9.out).mono ?_; rintro e9 w41 ⟨s9, rfl, z8, B9⟩; have NB_HR : Hid (NoB w41 w.heap.size) := NB_HR.out.heap (B9.block _ (range_lt HR.out.1 (Nat.succ_pos _))); have HR : Hid (Vr w41 w.heap.size rv0) := HR.out.below B9 (range_lt HR.out.1 (Nat.succ_pos _)); have NB_HV : Hid (NoB w41 gv) := NB_HV.out.heap (B9.block _ (range_lt HV.out.1 (Nat.succ_pos _))); have HV : Hid (Vr w41 gv (rv G P (sl (.slice bo 624 bc) 16 32) B (sl (.slice bo 624 bc) 48 80) T)) := HV.out.below B9 (range_lt HV.out.1 (Nat.succ_pos _)); have YD : Hid (Byt w41 s9.v s9.xs) := z8; have SL : Hid (Slc s9.v) := slc_byt z8; have BB : Hid (Below w.heap.size w w41) := BB.out.trans (B9.mono BB.out.size); clear B9 z8; clear t1; have t2 : (1 : Nat) = 1 := rfl)
                | (have q0 := t0; refine cut_part _ rfl (.tmp 32) (.tmp 35) (.tmp 38) rfl _ xs _ _ (80 + 128 * k) (208 + 128 * k) rfl rfl rfl (by omega) (by omega) (by omega) LC.out (HB.out.below BB.out) ?_; intro v9 y9; rw [qw_cut2] at y9; have Y9 : Hid (Byt wr v9 (qw xs k)) := y9; clear y9; clear t0; have t1 : (1 : Nat) = 1 := rfl))
              go_roundw
              case rel => exact ⟨k + 1, upd T k s9, by omega, by go_num, .inr rfl, (fun j hj => by by_cases e : j = k <;> first | (rw [e, upd_same]; exact SL.out) | (rw [upd_other _ _ _ _ e]; exact HSl.out j hj)), HV.out, ⟨NB_HV.out, HR.out, NB_HR.out⟩, BB.out⟩
              case measure => simp [intOf]; omega
          · have e4 : k = 4 := by omega
            subst e4
            exact absurd HJ.out (HI.out (by trivial))
        · by_cases hk : k < 4
          · have ki : (k : Int) < 4 := by omega
            have k1 : IntKind.i64.wrap (128 * (k : Int)) = 128 * (k : Int) := by rw [IntKind.wrap_i64]; omega
            have k2 : IntKind.i64.wrap (80 + 128 * (k : Int)) = 80 + 128 * (k : Int) := by rw [IntKind.wrap_i64]; omega
            have k3 : IntKind.i64.wrap (208 + 128 * (k : Int)) = 208 + 128 * (k : Int) := by rw [IntKind.wrap_i64]; omega
            have LC : Hid (208 + 128 * k ≤ xs.length) := (by show _ ≤ _; rw [HL.out]; omega)
            by_cases SH : Sok (qw xs k)
            · have SK2 : Hid (Sok (qw xs k)) := SH
              have t0 : (1 : Nat) = 1 := rfl
              go_wp2_with (first
                | (have q4 := t4; (with_reducible refine at_store ?_); refine store_lawC _ s9.cs gv (5 + k * 5) rfl rfl (Vr.sthere HV.out k hk) rowy_rslot.2 (cs_one SL.out) ?_; intro w44 E9 R9 T9 B9; have K9 : ∀ k, k ≠ gv → w44.heap[k]? = w43.heap[k]? := (by rw [E9.out]; exact fun k hk => heap_cells _ _ _ _ k hk); have NB_HR : Hid (NoB w44 w.heap.size) := NB_HR.out.heap (K9 _ (Nat.ne_of_lt LT_HR_HV.out)); have HR : Hid (Vr w44 w.heap.size rv0) := HR.out.heap (K9 _ (Nat.ne_of_lt LT_HR_HV.out)); have YD : Hid (Byt w44 s9.v s9.xs) := byt_nob YD.out NB_HV.out K9; have NB_HS : Hid (NoB w44 w41.heap.size) := NB_HS.out.heap (K9 _ (Nat.ne_of_gt LT_HV_HS.out)); have HS : Hid (Vr w44 w41.heap.size s9.cs) := HS.out.heap (K9 _ (Nat.ne_of_gt LT_HV_HS.out)); have NB9 : Hid (NoB w44 gv) := (by rw [E9.out]; exact NoB.upd NB_HV.out HV.out k hk s9 SL.out); have V9 : Hid (Vr w44 gv (rv G P (sl (.slice bo 624 bc) 16 32) B (sl (.slice bo 624 bc) 48 80) (upd T k s9))) := (by rw [E9.out]; exact Vr.upd HV.out k hk s9); clear NB_HV HV; have NB_HV := NB9; have HV := V9; clear NB9 V9; have BB : Hid (Below w.heap.size w w44) := BB.out.trans (B9.mono LE_HV.out); clear hs_0 hs_1 hs_2 hs_3 hs_4; have hs_0 := HS.out.cell 0 _ rfl; have hs_1 := HS.out.cell 1 _ rfl; have hs_2 := HS.out.cell 2 _ rfl; have hs_3 := HS.out.cell 3 _ rfl; have hs_4 := HS.out.cell 4 _ rfl; clear E9 R9 T9 B9 K9; clear t4; have t5 : (1 : Nat) = 1 := rfl)
                | (have q3 := t3; (with_reducible refine at_store ?_); refine store_lawC _ s9.cs w41.heap.size 0 rfl rfl HS.out.2 rowy_rslot.2 (cs_one SL.out) ?_; intro w43 E9 R9 T9 B9; have K9 : ∀ k, k ≠ w41.heap.size → w43.heap[k]? = w42.heap[k]? := (by rw [E9.out]; exact fun k hk => heap_cells _ _ _ _ k hk); have NB_HR : Hid (NoB w43 w.heap.size) := NB_HR.out.heap (K9 _ (Nat.ne_of_lt LT_HR_HS.out)); have HR : Hid (Vr w43 w.heap.size rv0) := HR.out.heap (K9 _ (Nat.ne_of_lt LT_HR_HS.out)); have NB_HV : Hid (NoB w43 gv) := NB_HV.out.heap (K9 _ (Nat.ne_of_lt LT_HV_HS.out)); have HV : Hid (Vr w43 gv (rv G P (sl (.slice bo 624 bc) 16 32) B (sl (.slice bo 624 bc) 48 80) T)) := HV.out.heap (K9 _ (Nat.ne_of_lt LT_HV_HS.out)); have YD : Hid (Byt w43 s9.v s9.xs) := byt_nob YD.out NB_HS.out K9; have NB_HS : Hid (NoB w43 w41.heap.size) := (by rw [E9.out]; exact NB_HS.out.set HS.out rfl (cs_nob SL.out)); have HS : Hid (Vr w43 w41.heap.size s9.cs) := ⟨R9, T9⟩; have BB : Hid (Below w.heap.size w w43) := BB.out.trans (B9.mono LE_HS.out); have hs_0 := HS.out.cell 0 _ rfl; have hs_1 := HS.out.cell 1 _ rfl; have hs_2 := HS.out.cell 2 _ rfl; have hs_3 := HS.out.cell 3 _ rfl; have hs_4 := HS.out.cell 4 _ rfl; clear E9 R9 T9 B9 K9; clear t3; have t4 : (1 : Nat) = 1 := rfl)
                | (have q2 := t2; (with_reducible refine at_alloc ?_); refine new_lawN _ (sv false 0 0 0 (.slice none 0 0)) zero_rslot (sv_nob _ _ _ _ _ _ _) ?_; intro w42 X9 N9 B9; have LT_HR_HS : Hid (w.heap.size < w41.heap.size) := range_lt HR.out.1 (Nat.succ_pos _); have LT_HV_HS : Hid (gv < w41.heap.size) := range_lt HV.out.1 (Nat.succ_pos _); have LE_HS : Hid (w.heap.size ≤ w41.heap.size) := BB.out.size; have NB_HR : Hid (NoB w42 w.heap.size) := NB_HR.out.heap (B9.block _ (range_lt HR.out.1 (Nat.succ_pos _))); have HR : Hid (Vr w42 w.heap.size rv0) := HR.out.below B9 (range_lt HR.out.1 (Nat.succ_pos _)); have NB_HV : Hid (NoB w42 gv) := NB_HV.out.heap (B9.block _ (range_lt HV.out.1 (Nat.succ_pos _))); have HV : Hid (Vr w42 gv (rv G P (sl (.slice bo 624 bc) 16 32) B (sl (.slice bo 624 bc) 48 80) T)) := HV.out.below B9 (range_lt HV.out.1 (Nat.succ_pos _)); have YD : Hid (Byt w42 s9.v s9.xs) := YD.out.below B9; have HS : Hid (Vr w42 w41.heap.size (sv false 0 0 0 (.slice none 0 0))) := X9; have NB_HS : Hid (NoB w42 w41.heap.size) := N9; have BB : Hid (Below w.heap.size w w42) := BB.out.trans (B9.mono BB.out.size); clear X9 N9 B9; clear t2; have t3 : (1 : Nat) = 1 := rfl)
                | (have q1 := t1; go_at_call 45; refine (SD.out k hk wr _ SK2.out Y9.out).mono ?_; rintro e9 w41 ⟨s9, rfl, ⟨e8, z8⟩, B9⟩; have NB_HR : Hid (NoB w41 w.heap.size) := NB_HR.out.heap (B9.block _ (range_lt HR.out.1 (Nat.succ_pos _))); have HR : Hid (Vr w41 w.heap.size rv0) := HR.out.below B9 (range_lt HR.out.1 (Nat.succ_pos _)); have NB_HV : Hid (NoB w41 gv) := NB_HV.out.heap (B9.block _ (range_lt HV.out.1 (Nat.succ_pos _))); have HV : Hid (Vr w41 gv (rv G P (sl (.slice bo 624 bc) 16 32) B (sl (.slice bo 624 bc) 48 80) T)) := HV.out.below B9 (range_lt HV.out.1 (Nat.succ_pos _)); have YD : Hid (Byt w41 s9.v s9.xs) := z8; have ED : Hid (s9.d = sw (qw xs k)) := e8; have SL : Hid (Slc s9.v) := slc_byt z8; have BB : Hid (Below w.heap.size w w41) := BB.out.trans (B9.mono BB.out.size); clear B9 e8 z8; clear t1; have t2 : (1 : Nat) = 1 := rfl)
                | (have q0 := t0; refine cut_part _ rfl (.tmp 32) (.tmp 35) (.tmp 38) rfl _ xs _ _ (80 + 128 * k) (208 + 128 * k) rfl rfl rfl (by omega) (by omega) (by omega) LC.out (HB.out.below BB.out) ?_; intro v9 y9; rw [qw_cut2] at y9; have Y9 : Hid (Byt wr v9 (qw xs k)) := y9; clear y9; clear t0; have t1 : (1 : Nat) = 1 := rfl))
              go_roundw
              case rel => exact ⟨k + 1, upd T k s9, by omega, by go_num, .inr rfl, (fun j hj => by by_cases e : j = k <;> first | (rw [e, upd_same]; exact SL.out) | (rw [upd_other _ _ _ _ e]; exact HSl.out j hj)), HV.out, ⟨NB_HV.out, HR.out, NB_HR.out⟩, BB.out⟩
              case measure => simp [intOf]; omega
            · have SK2 : Hid (¬ Sok (qw xs k)) := SH
              have t0 : (1 : Nat) = 1 := rfl
              go_wp2_with (first
                | (have q4 := t4; (with_reducible refine at_store ?_); refine store_lawC _ s9.cs gv (5 + k * 5) rfl rfl (Vr.sthere HV.out k hk) rowy_rslot.2 (cs_one SL.out) ?_; intro w44 E9 R9 T9 B9; have K9 : ∀ k, k ≠ gv → w44.heap[k]? = w43.heap[k]? := (by rw [E9.out]; exact fun k hk => heap_cells _ _ _ _ k hk); have NB_HR : Hid (NoB w44 w.heap.size) := NB_HR.out.heap (K9 _ (Nat.ne_of_lt LT_HR_HV.out)); have HR : Hid (Vr w44 w.heap.size rv0) := HR.out.heap (K9 _ (Nat.ne_of_lt LT_HR_HV.out)); have YD : Hid (Byt w44 s9.v s9.xs) := byt_nob YD.out NB_HV.out K9; have NB_HS : Hid (NoB w44 w41.heap.size) := NB_HS.out.heap (K9 _ (Nat.ne_of_gt LT_HV_HS.out)); have HS : Hid (Vr w44 w41.heap.size s9.cs) := HS.out.heap (K9 _ (Nat.ne_of_gt LT_HV_HS.out)); have NB9 : Hid (NoB w44 gv) := (by rw [E9.out]; exact NoB.upd NB_HV.out HV.out k hk s9 SL.out); have V9 : Hid (Vr w44 gv (rv G P (sl (.slice bo 624 bc) 16 32) B (sl (.slice bo 624 bc) 48 80) (upd T k s9))) := (by rw [E9.out]; exact Vr.upd HV.out k hk s9); clear NB_HV HV; have NB_HV := NB9; have HV := V9; clear NB9 V9; have BB : Hid (Below w.heap.size w w44) := BB.out.trans (B9.mono LE_HV.out); clear hs_0 hs_1 hs_2 hs_3 hs_4; have hs_0 := HS.out.cell 0 _ rfl; have hs_1 := HS.out.cell 1 _ rfl; have hs_2 := HS.out.cell 2 _ rfl; have hs_3 := HS.out.cell 3 _ rfl; have hs_4 := HS.out.cell 4 _ rfl; clear E9 R9 T9 B9 K9; clear t4; have t5 : (1 : Nat) = 1 := rfl)
                | (have q3 := t3; (with_reducible refine at_store ?_); refine store_lawC _ s9.cs w41.heap.size 0 rfl rfl HS.out.2 rowy_rslot.2 (cs_one SL.out) ?_; intro w43 E9 R9 T9 B9; have K9 : ∀ k, k ≠ w41.heap.size → w43.heap[k]? = w42.heap[k]? := (by rw [E9.out]; exact fun k hk => heap_cells _ _ _ _ k hk); have NB_HR : Hid (NoB w43 w.heap.size) := NB_HR.out.heap (K9 _ (Nat.ne_of_lt LT_HR_HS.out)); have HR : Hid (Vr w43 w.heap.size rv0) := HR.out.heap (K9 _ (Nat.ne_of_lt LT_HR_HS.out)); have NB_HV : Hid (NoB w43 gv) := NB_HV.out.heap (K9 _ (Nat.ne_of_lt LT_HV_HS.out)); have HV : Hid (Vr w43 gv (rv G P (sl (.slice bo 624 bc) 16 32) B (sl (.slice bo 624 bc) 48 80) T)) := HV.out.heap (K9 _ (Nat.ne_of_lt LT_HV_HS.out)); have YD : Hid (Byt w43 s9.v s9.xs) := byt_nob YD.out NB_HS.out K9; have NB_HS : Hid (NoB w43 w41.heap.size) := (by rw [E9.out]; exact NB_HS.out.set HS.out rfl (cs_nob SL.out)); have HS : Hid (Vr w43 w41.heap.size s9.cs) := ⟨R9, T9⟩; have BB : Hid (Below w.heap.size w w43) := BB.out.trans (B9.mono LE_HS.out); have hs_0 := HS.out.cell 0 _ rfl; have hs_1 := HS.out.cell 1 _ rfl; have hs_2 := HS.out.cell 2 _ rfl; have hs_3 := HS.out.cell 3 _ rfl; have hs_4 := HS.out.cell 4 _ rfl; clear E9 R9 T9 B9 K9; clear t3; have t4 : (1 : Nat) = 1 := rfl)
                | (have q2 := t2; (with_reducible refine at_alloc ?_); refine new_lawN _ (sv false 0 0 0 (.slice none 0 0)) zero_rslot (sv_nob _ _ _ _ _ _ _) ?_; intro w42 X9 N9 B9; have LT_HR_HS : Hid (w.heap.size < w41.heap.size) := range_lt HR.out.1 (Nat.succ_pos _); have LT_HV_HS : Hid (gv < w41.heap.size) := range_lt HV.out.1 (Nat.succ_pos _); have LE_HS : Hid (w.heap.size ≤ w41.heap.size) := BB.out.size; have NB_HR : Hid (NoB w42 w.heap.size) := NB_HR.out.heap (B9.block _ (range_lt HR.out.1 (Nat.succ_pos _))); have HR : Hid (Vr w42 w.heap.size rv0) := HR.out.below B9 (range_lt HR.out.1 (Nat.succ_pos _)); have NB_HV : Hid (NoB w42 gv) := NB_HV.out.heap (B9.block _ (range_lt HV.out.1 (Nat.succ_pos _))); have HV : Hid (Vr w42 gv (rv G P (sl (.slice bo 624 bc) 16 32) B (sl (.slice bo 624 bc) 48 80) T)) := HV.out.below B9 (range_lt HV.out.1 (Nat.succ_pos _)); have YD : Hid (Byt w42 s9.v s9.xs) := YD.out.below B9; have HS : Hid (Vr w42 w41.heap.size (sv false 0 0 0 (.slice none 0 0))) := X9; have NB_HS : Hid (NoB w42 w41.heap.size) := N9; have BB : Hid (Below w.heap.size w w42) := BB.out.trans (B9.mono BB.out.size); clear X9 N9 B9; clear t2; have t3 : (1 : Nat) = 1 := rfl)
                | (have q1 := t1; go_at_call 45; refine (SX.out k hk wr _ SK2.out Y9.out).mono ?_; rintro e9 w41 ⟨s9, rfl, z8, B9⟩; have NB_HR : Hid (NoB w41 w.heap.size) := NB_HR.out.heap (B9.block _ (range_lt HR.out.1 (Nat.succ_pos _))); have HR : Hid (Vr w41 w.heap.size rv0) := HR.out.below B9 (range_lt HR.out.1 (Nat.succ_pos _)); have NB_HV : Hid (NoB w41 gv) := NB_HV.out.heap (B9.block _ (range_lt HV.out.1 (Nat.succ_pos _))); have HV : Hid (Vr w41 gv (rv G P (sl (.slice bo 624 bc) 16 32) B (sl (.slice bo 624 bc) 48 80) T)) := HV.out.below B9 (range_lt HV.out.1 (Nat.succ_pos _)); have YD : Hid (Byt w41 s9.v s9.xs) := z8; have SL : Hid (Slc s9.v) := slc_byt z8; have BB : Hid (Below w.heap.size w w41) := BB.out.trans (B9.mono BB.out.size); clear B9 z8; clear t1; have t2 : (1 : Nat) = 1 := rfl)
                | (have q0 := t0; refine cut_part _ rfl (.tmp 32) (.tmp 35) (.tmp 38) rfl _ xs _ _ (80 + 128 * k) (208 + 128 * k) rfl rfl rfl (by omega) (by omega) (by omega) LC.out (HB.out.below BB.out) ?_; intro v9 y9; rw [qw_cut2] at y9; have Y9 : Hid (Byt wr v9 (qw xs k)) := y9; clear y9; clear t0; have t1 : (1 : Nat) = 1 := rfl))
              go_roundw
              case rel => exact ⟨k + 1, upd T k s9, by omega, by go_num, .inr rfl, (fun j hj => by by_cases e : j = k <;> first | (rw [e, upd_same]; exact SL.out) | (rw [upd_other _ _ _ _ e]; exact HSl.out j hj)), HV.out, ⟨NB_HV.out, HR.out, NB_HR.out⟩, BB.out⟩
              case measure => simp [intOf]; omega
          · have e4 : k = 4 := by omega
            subst e4
            have LE_HR : Hid (w.heap.size ≤ w.heap.size) := Nat.le_refl _
            have t0 : (1 : Nat) = 1 := rfl
            go_wp2_with (first
              | (have q1 := t1; (with_reducible refine at_store ?_); refine store_lawC _ rv0 w.heap.size 0 rfl rfl HR.out.2 rowy_rrecord.2 rv0_one ?_; intro w41 E9 R9 T9 B9; have K9 : ∀ k, k ≠ w.heap.size → w41.heap[k]? = wr.heap[k]? := (by rw [E9.out]; exact fun k hk => heap_cells _ _ _ _ k hk); have NB_HV : Hid (NoB w41 gv) := NB_HV.out.heap (K9 _ (Nat.ne_of_gt LT_HR_HV.out)); have HV : Hid (Vr w41 gv (rv G P (sl (.slice bo 624 bc) 16 32) B (sl (.slice bo 624 bc) 48 80) T)) := HV.out.heap (K9 _ (Nat.ne_of_gt LT_HR_HV.out)); have NB_HR : Hid (NoB w41 w.heap.size) := (by rw [E9.out]; exact NB_HR.out.set HR.out rfl rv0_nob); have HR : Hid (Vr w41 w.heap.size rv0) := ⟨R9, T9⟩; have BB : Hid (Below w.heap.size w w41) := BB.out.trans (B9.mono LE_HR.out); clear E9 R9 T9 B9 K9; clear t1; have t2 : (1 : Nat) = 1 := rfl)
              | (have q0 := t0; refine build_law _ rfl 39 _ rfl (.agg rv0.toArray) (by kernel_rfl) ?_; clear t0; have t1 : (1 : Nat) = 1 := rfl))
            exact bodyPost_ret (v := .tuple #[.agg rv0.toArray, .bool false]) (results_cv rfl _ _ w.heap.size _ _ rowy_rrecord rfl rfl HR.out.1) rfl ⟨rfl, BB.out⟩
    · have nz : (Z == 0) = false := beq_eq_false_iff_ne.2 hz
      clear HI hz
      have t0 : (0 : Nat) = 0 := rfl
      go_wp2_with (first
        | (have q1 := t1; go_at_call 44; refine (rnum_any _ (sub xs 40 48) wc Y9.out L4.out).mono ?_; rintro e9 w61 ⟨rfl, B9⟩; have NB_HR : Hid (NoB w61 w.heap.size) := NB_HR.out.heap (B9.block _ (range_lt HR.out.1 (Nat.succ_pos _))); have HR : Hid (Vr w61 w.heap.size rv0) := HR.out.below B9 (range_lt HR.out.1 (Nat.succ_pos _)); have NB_HV : Hid (NoB w61 gv) := NB_HV.out.heap (B9.block _ (range_lt HV.out.1 (Nat.succ_pos _))); have HV : Hid (Vr w61 gv (rv G P (sl (.slice bo 624 bc) 16 32) B (sl (.slice bo 624 bc) 48 80) z4)) := HV.out.below B9 (range_lt HV.out.1 (Nat.succ_pos _)); rw [N4.out]; have BB : Hid (Below w.heap.size w w61) := BB.out.trans (B9.mono BB.out.size); clear B9; clear t1; have t2 : (1 : Nat) = 1 := rfl)
        | (have q0 := t0; refine cut_part _ rfl (.tmp 23) (.const (.int .i64 40)) (.const (.int .i64 48)) rfl _ xs _ _ 40 48 rfl rfl rfl rfl rfl (by omega) (by rw [HL.out]; omega) (HB.out.below BB.out) ?_; intro v9 y9; have Y9 : Hid (Byt wc v9 (sub xs 40 48)) := y9; clear y9; clear t0; have t1 : (1 : Nat) = 1 := rfl))
      go_loopw [6, 5] (fun i z wr => ∃ (k : Nat) (T : Nat → Sc), k ≤ 4 ∧ i = .int .i64 (k : Int) ∧ z = .bool false ∧ (∀ j, j < 4 → Slc (T j).v) ∧ Vr wr gv (rv G P (sl (.slice bo 624 bc) 16 32) B (sl (.slice bo 624 bc) 48 80) T) ∧ (NoB wr gv ∧ Vr wr w.heap.size rv0 ∧ NoB wr w.heap.size) ∧ Below w.heap.size w wr) (fun i _ _ => 4 - (intOf i).toNat)
      case atStart => exact ⟨0, z4, Nat.zero_le _, rfl, rfl, slc_z4, HV.out, ⟨NB_HV.out, HR.out, NB_HR.out⟩, BB.out⟩
      case round =>
        clear HV NB_HV HR NB_HR BB
        obtain ⟨k, T, hk4, rfl, hz9, hs, hv, ⟨nv9, hr9, nr9⟩, hBl⟩ := hrel
        have HSl : Hid (∀ j, j < 4 → Slc (T j).v) := hs
        have HV : Hid (Vr wr gv (rv G P (sl (.slice bo 624 bc) 16 32) B (sl (.slice bo 624 bc) 48 80) T)) := hv
        have NB_HV : Hid (NoB wr gv) := nv9
        have HR : Hid (Vr wr w.heap.size rv0) := hr9
        have NB_HR : Hid (NoB wr w.heap.size) := nr9
        have BB : Hid (Below w.heap.size w wr) := hBl
        have LT_HR_HV := LTV
        have LE_HV : Hid (w.heap.size ≤ gv) := Nat.le_of_lt LTV.out
        clear hs hv nv9 hr9 nr9 hBl
        subst hz9
        by_cases hk : k < 4
        · have ki : (k : Int) < 4 := by omega
          have k1 : IntKind.i64.wrap (128 * (k : Int)) = 128 * (k : Int) := by rw [IntKind.wrap_i64]; omega
          have k2 : IntKind.i64.wrap (80 + 128 * (k : Int)) = 80 + 128 * (k : Int) := by rw [IntKind.wrap_i64]; omega
          have k3 : IntKind.i64.wrap (208 + 128 * (k : Int)) = 208 + 128 * (k : Int) := by rw [IntKind.wrap_i64]; omega
          have LC : Hid (208 + 128 * k ≤ xs.length) := (by show _ ≤ _; rw [HL.out]; omega)
          by_cases SH : Sok (qw xs k)
          · have SK2 : Hid (Sok (qw xs k)) := SH
            have t0 : (1 : Nat) = 1 := rfl
            go_wp2_with (first
              | (have q4 := t4; (with_reducible refine at_store ?_); refine store_lawC _ s9.cs gv (5 + k * 5) rfl rfl (Vr.sthere HV.out k hk) rowy_rslot.2 (cs_one SL.out) ?_; intro w44 E9 R9 T9 B9; have K9 : ∀ k, k ≠ gv → w44.heap[k]? = w43.heap[k]? := (by rw [E9.out]; exact fun k hk => heap_cells _ _ _ _ k hk); have NB_HR : Hid (NoB w44 w.heap.size) := NB_HR.out.heap (K9 _ (Nat.ne_of_lt LT_HR_HV.out)); have HR : Hid (Vr w44 w.heap.size rv0) := HR.out.heap (K9 _ (Nat.ne_of_lt LT_HR_HV.out)); have YD : Hid (Byt w44 s9.v s9.xs) := byt_nob YD.out NB_HV.out K9; have NB_HS : Hid (NoB w44 w41.heap.size) := NB_HS.out.heap (K9 _ (Nat.ne_of_gt LT_HV_HS.out)); have HS : Hid (Vr w44 w41.heap.size s9.cs) := HS.out.heap (K9 _ (Nat.ne_of_gt LT_HV_HS.out)); have NB9 : Hid (NoB w44 gv) := (by rw [E9.out]; exact NoB.upd NB_HV.out HV.out k hk s9 SL.out); have V9 : Hid (Vr w44 gv (rv G P (sl (.slice bo 624 bc) 16 32) B (sl (.slice bo 624 bc) 48 80) (upd T k s9))) := (by rw [E9.out]; exact Vr.upd HV.out k hk s9); clear NB_HV HV; have NB_HV := NB9; have HV := V9; clear NB9 V9; have BB : Hid (Below w.heap.size w w44) := BB.out.trans (B9.mono LE_HV.out); clear hs_0 hs_1 hs_2 hs_3 hs_4; have hs_0 := HS.out.cell 0 _ rfl; have hs_1 := HS.out.cell 1 _ rfl; have hs_2 := HS.out.cell 2 _ rfl; have hs_3 := HS.out.cell 3 _ rfl; have hs_4 := HS.out.cell 4 _ rfl; clear E9 R9 T9 B9 K9; clear t4; have t5 : (1 : Nat) = 1 := rfl)
              | (have q3 := t3; (with_reducible refine at_store ?_); refine store_lawC _ s9.cs w41.heap.size 0 rfl rfl HS.out.2 rowy_rslot.2 (cs_one SL.out) ?_; intro w43 E9 R9 T9 B9; have K9 : ∀ k, k ≠ w41.heap.size → w43.heap[k]? = w42.heap[k]? := (by rw [E9.out]; exact fun k hk => heap_cells _ _ _ _ k hk); have NB_HR : Hid (NoB w43 w.heap.size) := NB_HR.out.heap (K9 _ (Nat.ne_of_lt LT_HR_HS.out)); have HR : Hid (Vr w43 w.heap.size rv0) := HR.out.heap (K9 _ (Nat.ne_of_lt LT_HR_HS.out)); have NB_HV : Hid (NoB w43 gv) := NB_HV.out.heap (K9 _ (Nat.ne_of_lt LT_HV_HS.out)); have HV : Hid (Vr w43 gv (rv G P (sl (.slice bo 624 bc) 16 32) B (sl (.slice bo 624 bc) 48 80) T)) := HV.out.heap (K9 _ (Nat.ne_of_lt LT_HV_HS.out)); have YD : Hid (Byt w43 s9.v s9.xs) := byt_nob YD.out NB_HS.out K9; have NB_HS : Hid (NoB w43 w41.heap.size) := (by rw [E9.out]; exact NB_HS.out.set HS.out rfl (cs_nob SL.out)); have HS : Hid (Vr w43 w41.heap.size s9.cs) := ⟨R9, T9⟩; have BB : Hid (Below w.heap.size w w43) := BB.out.trans (B9.mono LE_HS.out); have hs_0 := HS.out.cell 0 _ rfl; have hs_1 := HS.out.cell 1 _ rfl; have hs_2 := HS.out.cell 2 _ rfl; have hs_3 := HS.out.cell 3 _ rfl; have hs_4 := HS.out.cell 4 _ rfl; clear E9 R9 T9 B9 K9; clear t3; have t4 : (1 : Nat) = 1 := rfl)
              | (have q2 := t2; (with_reducible refine at_alloc ?_); refine new_lawN _ (sv false 0 0 0 (.slice none 0 0)) zero_rslot (sv_nob _ _ _ _ _ _ _) ?_; intro w42 X9 N9 B9; have LT_HR_HS : Hid (w.heap.size < w41.heap.size) := range_lt HR.out.1 (Nat.succ_pos _); have LT_HV_HS : Hid (gv < w41.heap.size) := range_lt HV.out.1 (Nat.succ_pos _); have LE_HS : Hid (w.heap.size ≤ w41.heap.size) := BB.out.size; have NB_HR : Hid (NoB w42 w.heap.size) := NB_HR.out.heap (B9.block _ (range_lt HR.out.1 (Nat.succ_pos _))); have HR : Hid (Vr w42 w.heap.size rv0) := HR.out.below B9 (range_lt HR.out.1 (Nat.succ_pos _)); have NB_HV : Hid (NoB w42 gv) := NB_HV.out.heap (B9.block _ (range_lt HV.out.1 (Nat.succ_pos _))); have HV : Hid (Vr w42 gv (rv G P (sl (.slice bo 624 bc) 16 32) B (sl (.slice bo 624 bc) 48 80) T)) := HV.out.below B9 (range_lt HV.out.1 (Nat.succ_pos _)); have YD : Hid (Byt w42 s9.v s9.xs) := YD.out.below B9; have HS : Hid (Vr w42 w41.heap.size (sv false 0 0 0 (.slice none 0 0))) := X9; have NB_HS : Hid (NoB w42 w41.heap.size) := N9; have BB : Hid (Below w.heap.size w w42) := BB.out.trans (B9.mono BB.out.size); clear X9 N9 B9; clear t2; have t3 : (1 : Nat) = 1 := rfl)
              | (have q1 := t1; go_at_call 45; refine (SD.out k hk wr _ SK2.out Y9.out).mono ?_; rintro e9 w41 ⟨s9, rfl, ⟨e8, z8⟩, B9⟩; have NB_HR : Hid (NoB w41 w.heap.size) := NB_HR.out.heap (B9.block _ (range_lt HR.out.1 (Nat.succ_pos _))); have HR : Hid (Vr w41 w.heap.size rv0) := HR.out.below B9 (range_lt HR.out.1 (Nat.succ_pos _)); have NB_HV : Hid (NoB w41 gv) := NB_HV.out.heap (B9.block _ (range_lt HV.out.1 (Nat.succ_pos _))); have HV : Hid (Vr w41 gv (rv G P (sl (.slice bo 624 bc) 16 32) B (sl (.slice bo 624 bc) 48 80) T)) := HV.out.below B9 (range_lt HV.out.1 (Nat.succ_pos _)); have YD : Hid (Byt w41 s9.v s9.xs) := z8; have ED : Hid (s9.d = sw (qw xs k)) := e8; have SL : Hid (Slc s9.v) := slc_byt z8; have BB : Hid (Below w.heap.size w w41) := BB.out.trans (B9.mono BB.out.size); clear B9 e8 z8; clear t1; have t2 : (1 : Nat) = 1 := rfl)
              | (have q0 := t0; refine cut_part _ rfl (.tmp 32) (.tmp 35) (.tmp 38) rfl _ xs _ _ (80 + 128 * k) (208 + 128 * k) rfl rfl rfl (by omega) (by omega) (by omega) LC.out (HB.out.below BB.out) ?_; intro v9 y9; rw [qw_cut2] at y9; have Y9 : Hid (Byt wr v9 (qw xs k)) := y9; clear y9; clear t0; have t1 : (1 : Nat) = 1 := rfl))
            go_roundw
            case rel => exact ⟨k + 1, upd T k s9, by omega, by go_num, rfl, (fun j hj => by by_cases e : j = k <;> first | (rw [e, upd_same]; exact SL.out) | (rw [upd_other _ _ _ _ e]; exact HSl.out j hj)), HV.out, ⟨NB_HV.out, HR.out, NB_HR.out⟩, BB.out⟩
            case measure => simp [intOf]; omega
          · have SK2 : Hid (¬ Sok (qw xs k)) := SH
            have t0 : (1 : Nat) = 1 := rfl
            go_wp2_with (first
              | (have q4 := t4; (with_reducible refine at_store ?_); refine store_lawC _ s9.cs gv (5 + k * 5) rfl rfl (Vr.sthere HV.out k hk) rowy_rslot.2 (cs_one SL.out) ?_; intro w44 E9 R9 T9 B9; have K9 : ∀ k, k ≠ gv → w44.heap[k]? = w43.heap[k]? := (by rw [E9.out]; exact fun k hk => heap_cells _ _ _ _ k hk); have NB_HR : Hid (NoB w44 w.heap.size) := NB_HR.out.heap (K9 _ (Nat.ne_of_lt LT_HR_HV.out)); have HR : Hid (Vr w44 w.heap.size rv0) := HR.out.heap (K9 _ (Nat.ne_of_lt LT_HR_HV.out)); have YD : Hid (Byt w44 s9.v s9.xs) := byt_nob YD.out NB_HV.out K9; have NB_HS : Hid (NoB w44 w41.heap.size) := NB_HS.out.heap (K9 _ (Nat.ne_of_gt LT_HV_HS.out)); have HS : Hid (Vr w44 w41.heap.size s9.cs) := HS.out.heap (K9 _ (Nat.ne_of_gt LT_HV_HS.out)); have NB9 : Hid (NoB w44 gv) := (by rw [E9.out]; exact NoB.upd NB_HV.out HV.out k hk s9 SL.out); have V9 : Hid (Vr w44 gv (rv G P (sl (.slice bo 624 bc) 16 32) B (sl (.slice bo 624 bc) 48 80) (upd T k s9))) := (by rw [E9.out]; exact Vr.upd HV.out k hk s9); clear NB_HV HV; have NB_HV := NB9; have HV := V9; clear NB9 V9; have BB : Hid (Below w.heap.size w w44) := BB.out.trans (B9.mono LE_HV.out); clear hs_0 hs_1 hs_2 hs_3 hs_4; have hs_0 := HS.out.cell 0 _ rfl; have hs_1 := HS.out.cell 1 _ rfl; have hs_2 := HS.out.cell 2 _ rfl; have hs_3 := HS.out.cell 3 _ rfl; have hs_4 := HS.out.cell 4 _ rfl; clear E9 R9 T9 B9 K9; clear t4; have t5 : (1 : Nat) = 1 := rfl)
              | (have q3 := t3; (with_reducible refine at_store ?_); refine store_lawC _ s9.cs w41.heap.size 0 rfl rfl HS.out.2 rowy_rslot.2 (cs_one SL.out) ?_; intro w43 E9 R9 T9 B9; have K9 : ∀ k, k ≠ w41.heap.size → w43.heap[k]? = w42.heap[k]? := (by rw [E9.out]; exact fun k hk => heap_cells _ _ _ _ k hk); have NB_HR : Hid (NoB w43 w.heap.size) := NB_HR.out.heap (K9 _ (Nat.ne_of_lt LT_HR_HS.out)); have HR : Hid (Vr w43 w.heap.size rv0) := HR.out.heap (K9 _ (Nat.ne_of_lt LT_HR_HS.out)); have NB_HV : Hid (NoB w43 gv) := NB_HV.out.heap (K9 _ (Nat.ne_of_lt LT_HV_HS.out)); have HV : Hid (Vr w43 gv (rv G P (sl (.slice bo 624 bc) 16 32) B (sl (.slice bo 624 bc) 48 80) T)) := HV.out.heap (K9 _ (Nat.ne_of_lt LT_HV_HS.out)); have YD : Hid (Byt w43 s9.v s9.xs) := byt_nob YD.out NB_HS.out K9; have NB_HS : Hid (NoB w43 w41.heap.size) := (by rw [E9.out]; exact NB_HS.out.set HS.out rfl (cs_nob SL.out)); have HS : Hid (Vr w43 w41.heap.size s9.cs) := ⟨R9, T9⟩; have BB : Hid (Below w.heap.size w w43) := BB.out.trans (B9.mono LE_HS.out); have hs_0 := HS.out.cell 0 _ rfl; have hs_1 := HS.out.cell 1 _ rfl; have hs_2 := HS.out.cell 2 _ rfl; have hs_3 := HS.out.cell 3 _ rfl; have hs_4 := HS.out.cell 4 _ rfl; clear E9 R9 T9 B9 K9; clear t3; have t4 : (1 : Nat) = 1 := rfl)
              | (have q2 := t2; (with_reducible refine at_alloc ?_); refine new_lawN _ (sv false 0 0 0 (.slice none 0 0)) zero_rslot (sv_nob _ _ _ _ _ _ _) ?_; intro w42 X9 N9 B9; have LT_HR_HS : Hid (w.heap.size < w41.heap.size) := range_lt HR.out.1 (Nat.succ_pos _); have LT_HV_HS : Hid (gv < w41.heap.size) := range_lt HV.out.1 (Nat.succ_pos _); have LE_HS : Hid (w.heap.size ≤ w41.heap.size) := BB.out.size; have NB_HR : Hid (NoB w42 w.heap.size) := NB_HR.out.heap (B9.block _ (range_lt HR.out.1 (Nat.succ_pos _))); have HR : Hid (Vr w42 w.heap.size rv0) := HR.out.below B9 (range_lt HR.out.1 (Nat.succ_pos _)); have NB_HV : Hid (NoB w42 gv) := NB_HV.out.heap (B9.block _ (range_lt HV.out.1 (Nat.succ_pos _))); have HV : Hid (Vr w42 gv (rv G P (sl (.slice bo 624 bc) 16 32) B (sl (.slice bo 624 bc) 48 80) T)) := HV.out.below B9 (range_lt HV.out.1 (Nat.succ_pos _)); have YD : Hid (Byt w42 s9.v s9.xs) := YD.out.below B9; have HS : Hid (Vr w42 w41.heap.size (sv false 0 0 0 (.slice none 0 0))) := X9; have NB_HS : Hid (NoB w42 w41.heap.size) := N9; have BB : Hid (Below w.heap.size w w42) := BB.out.trans (B9.mono BB.out.size); clear X9 N9 B9; clear t2; have t3 : (1 : Nat) = 1 := rfl)
              | (have q1 := t1; go_at_call 45; refine (SX.out k hk wr _ SK2.out Y9.out).mono ?_; rintro e9 w41 ⟨s9, rfl, z8, B9⟩; have NB_HR : Hid (NoB w41 w.heap.size) := NB_HR.out.heap (B9.block _ (range_lt HR.out.1 (Nat.succ_pos _))); have HR : Hid (Vr w41 w.heap.size rv0) := HR.out.below B9 (range_lt HR.out.1 (Nat.succ_pos _)); have NB_HV : Hid (NoB w41 gv) := NB_HV.out.heap (B9.block _ (range_lt HV.out.1 (Nat.succ_pos _))); have HV : Hid (Vr w41 gv (rv G P (sl (.slice bo 624 bc) 16 32) B (sl (.slice bo 624 bc) 48 80) T)) := HV.out.below B9 (range_lt HV.out.1 (Nat.succ_pos _)); have YD : Hid (Byt w41 s9.v s9.xs) := z8; have SL : Hid (Slc s9.v) := slc_byt z8; have BB : Hid (Below w.heap.size w w41) := BB.out.trans (B9.mono BB.out.size); clear B9 z8; clear t1; have t2 : (1 : Nat) = 1 := rfl)
              | (have q0 := t0; refine cut_part _ rfl (.tmp 32) (.tmp 35) (.tmp 38) rfl _ xs _ _ (80 + 128 * k) (208 + 128 * k) rfl rfl rfl (by omega) (by omega) (by omega) LC.out (HB.out.below BB.out) ?_; intro v9 y9; rw [qw_cut2] at y9; have Y9 : Hid (Byt wr v9 (qw xs k)) := y9; clear y9; clear t0; have t1 : (1 : Nat) = 1 := rfl))
            go_roundw
            case rel => exact ⟨k + 1, upd T k s9, by omega, by go_num, rfl, (fun j hj => by by_cases e : j = k <;> first | (rw [e, upd_same]; exact SL.out) | (rw [upd_other _ _ _ _ e]; exact HSl.out j hj)), HV.out, ⟨NB_HV.out, HR.out, NB_HR.out⟩, BB.out⟩
            case measure => simp [intOf]; omega
        · have e4 : k = 4 := by omega
          subst e4
          have LE_HR : Hid (w.heap.size ≤ w.heap.size) := Nat.le_refl _
          have t0 : (1 : Nat) = 1 := rfl
          go_wp2_with (first
            | (have q1 := t1; (with_reducible refine at_store ?_); refine store_lawC _ rv0 w.heap.size 0 rfl rfl HR.out.2 rowy_rrecord.2 rv0_one ?_; intro w41 E9 R9 T9 B9; have K9 : ∀ k, k ≠ w.heap.size → w41.heap[k]? = wr.heap[k]? := (by rw [E9.out]; exact fun k hk => heap_cells _ _ _ _ k hk); have NB_HV : Hid (NoB w41 gv) := NB_HV.out.heap (K9 _ (Nat.ne_of_gt LT_HR_HV.out)); have HV : Hid (Vr w41 gv (rv G P (sl (.slice bo 624 bc) 16 32) B (sl (.slice bo 624 bc) 48 80) T)) := HV.out.heap (K9 _ (Nat.ne_of_gt LT_HR_HV.out)); have NB_HR : Hid (NoB w41 w.heap.size) := (by rw [E9.out]; exact NB_HR.out.set HR.out rfl rv0_nob); have HR : Hid (Vr w41 w.heap.size rv0) := ⟨R9, T9⟩; have BB : Hid (Below w.heap.size w w41) := BB.out.trans (B9.mono LE_HR.out); clear E9 R9 T9 B9 K9; clear t1; have t2 : (1 : Nat) = 1 := rfl)
            | (have q0 := t0; refine build_law _ rfl 39 _ rfl (.agg rv0.toArray) (by kernel_rfl) ?_; clear t0; have t1 : (1 : Nat) = 1 := rfl))
          exact bodyPost_ret (v := .tuple #[.agg rv0.toArray, .bool false]) (results_cv rfl _ _ w.heap.size _ _ rowy_rrecord rfl rfl HR.out.1) rfl ⟨rfl, BB.out⟩
end Go.Proofs.YtmbfccclghnaeaaDoor.re
