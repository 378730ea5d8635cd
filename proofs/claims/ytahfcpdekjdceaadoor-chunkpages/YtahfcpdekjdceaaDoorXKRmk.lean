/- What the reference's page.Make answers: a row of the call's own. No claim of its own. -/
import Derived.Test.YtahfcpdekjdceaaDoorPackJ
namespace Go.Proofs.YtahfcpdekjdceaaDoor.ck
open Go.RowKit Go.Proofs.YtahfcpdekjdceaaDoor.fa Go.Proofs.YtahfcpdekjdceaaDoor.he Go.Proofs.YtahfcpdekjdceaaDoor.pa
set_option maxRecDepth 20000

set_option maxHeartbeats 4000000 in
theorem rmake_own (g0 g1 g3 g4 g5 : Int) (S : Nat) (k n c l e t : Int) (pv tv : Value) (p tag : List Int) (w : World) (hp : Byt w pv p) (ht : Byt w tv tag) (hH : Hb l e t) (hS : 32 ≤ S ∧ S ≤ 4096) (hk : Rh k n c) (hl : p.length = S) (hn : tag.length = 0 ∨ tag.length = 32) :
    Calls Tryd.prog 27 #[.agg (ints .i64 [g0, g1, (S : Int), g3, g4, g5]), .agg (hv k n c l e t).toArray, pv, tv] w fun x w' => ∃ v, x = .returned v ∧ Own w.heap.size w' v (plo S p ++ hend (hb k n c l e t) (tgo tag) (List.replicate 8 255)) ∧ Below w.heap.size w w' := by
  have SE : Hid (∀ w0, Below w.heap.size w w0 → Calls Tryd.prog 40 #[.agg (hv k n c l e t).toArray, tv] w0 fun x w' => ∃ v, x = .returned v ∧ Byt w' v (hend (hb k n c l e t) (tgo tag) (List.replicate 8 255)) ∧ Below w0.heap.size w0 w') := fun w0 hb => rend_any k n c l e t tv tag w0 (ht.below hb) hk hH.1 hH.2.1 hH.2.2 hn
  have EL : Hid ((hend (hb k n c l e t) (tgo tag) (List.replicate 8 255)).length = 88) := hend_len (hb_len _ _ _ _ _ _) (tgo_len hn) (by simp)
  have EA : Hid (AllB (hend (hb k n c l e t) (tgo tag) (List.replicate 8 255))) := pa.hend_all hk (pa.tgo_all ht.all) (allB_replicate 255 _ (by omega))
  have ez : plo S p = p := if_neg (by omega)
  rw [ez]
  have ZL : Hid (p.length ≤ 10000) := (by show p.length ≤ 10000; omega)
  have ZA : Hid (AllB (p ++ hend (hb k n c l e t) (tgo tag) (List.replicate 8 255))) := allB_app hp.all EA.out
  generalize hend (hb k n c l e t) (tgo tag) (List.replicate 8 255) = E at SE EL EA ZA ⊢
  obtain ⟨po, pc, rfl⟩ : ∃ po pc, pv = .slice po S pc := (by obtain ⟨ao, cap, e, _⟩ := hp; rw [hl] at e; exact ⟨ao, cap, e⟩)
  have HP : Hid (Byt w (.slice po S pc) p) := hp
  have n0 : ((S : Int) == 0) = false := beq_eq_false_iff_ne.2 (by omega)
  clear hk hn hS hl ez hH hp ht
  have t0 : (0 : Nat) = 0 := rfl
  go_enter Tryd.func27, Tryd.ntmps27
  go_wp2_with (first
    | (have q1 := t1; refine box_lawC _ (hv k n c l e t) rfl ?_; intro w2 X9 B9 l9; have HB0 : Hid (Vr w2 w.heap.size [.int .i64 g0, .int .i64 g1, .int .i64 (S : Int), .int .i64 g3, .int .i64 g4, .int .i64 g5]) := HB0.out.below B9 (range_lt HB0.out.1 (Nat.succ_pos _)); have HB1 : Hid (Vr w2 w1.heap.size (hv k n c l e t)) := X9; have BB : Hid (Below w.heap.size w w2) := BB.out.trans (B9.mono BB.out.size); have hb0_0 := HB0.out.cell 0 _ rfl; have hb0_1 := HB0.out.cell 1 _ rfl; have hb0_2 := HB0.out.cell 2 _ rfl; have hb0_3 := HB0.out.cell 3 _ rfl; have hb0_4 := HB0.out.cell 4 _ rfl; have hb0_5 := HB0.out.cell 5 _ rfl; have hb1_0 := HB1.out.cell 0 _ rfl; have hb1_1 := HB1.out.cell 1 _ rfl; have hb1_2 := HB1.out.cell 2 _ rfl; have hb1_3 := HB1.out.cell 3 _ rfl; have hb1_4 := HB1.out.cell 4 _ rfl; have hb1_5 := HB1.out.cell 5 _ rfl; clear X9 B9 l9; clear t1; have t2 : (1 : Nat) = 1 := rfl)
    | (have q0 := t0; refine box_lawC _ [.int .i64 g0, .int .i64 g1, .int .i64 (S : Int), .int .i64 g3, .int .i64 g4, .int .i64 g5] rfl ?_; intro w1 X9 B9 l9; have HB0 : Hid (Vr w1 w.heap.size [.int .i64 g0, .int .i64 g1, .int .i64 (S : Int), .int .i64 g3, .int .i64 g4, .int .i64 g5]) := X9; have BB : Hid (Below w.heap.size w w1) := B9; clear X9 B9 l9; clear t0; have t1 : (1 : Nat) = 1 := rfl))
  refine wp_region_held_drew (S := fun w' => Below w2.heap.size w2 w') (by kernel_rfl) (Below.refl _ _).drew (fun hS => ?_)
  obtain ⟨x1, hx0⟩ : ∃ x, x = w2.drew := ⟨_, rfl⟩
  rw [← hx0] at hS  ⊢
  clear hx0
  refine take_lawH 1 (some 16) (.slice po S pc) rfl rfl (by kernel_rfl) (by kernel_rfl) (by kernel_rfl) (fun _ _ _ h => h) (Or.inl ⟨by rfl, fun w' hw' => by rfl⟩) hS ?_
  simp only [Act.put, List.setIfInBounds_toArray, List.set_cons_zero, List.set_cons_succ]
  refine take_lawH 3 (some 18) (.agg (hv k n c l e t).toArray) rfl rfl (by kernel_rfl) (by kernel_rfl) (by kernel_rfl) (fun _ _ _ h => h) (Or.inl ⟨by rfl, fun w' hw' => by exact exec_loadN 57 (.tmp 5) rfl _ rfl _ _ (load_cells rowy_head (HB1.out.below hw' (range_lt HB1.out.1 (Nat.succ_pos _))).1)⟩) hS ?_
  simp only [Act.put, List.setIfInBounds_toArray, List.set_cons_zero, List.set_cons_succ]
  refine take_lawH 4 (some 19) (tv) rfl rfl (by kernel_rfl) (by kernel_rfl) (by kernel_rfl) (fun _ _ _ h => h) (Or.inl ⟨by rfl, fun w' hw' => by rfl⟩) hS ?_
  simp only [Act.put, List.setIfInBounds_toArray, List.set_cons_zero, List.set_cons_succ]
  refine wpAnyH_ready (rs := [0]) (by kernel_rfl) (by simp) ?_
  refine AllReadyH.cons rfl (fun K hK => ?_) AllReadyH.nil
  refine step_nil _ rfl (some 15) rfl rfl ?_
  intro nv x2 O9 hb
  have z0 : w2.heap.size ≤ x1.heap.size := hS.size
  have ON : Hid (Own w2.heap.size x2 nv []) := own_less O9 z0
  have hS : Below w2.heap.size w2 x2 := hS.trans (hb.mono hS.size)
  clear hb O9 z0
  refine hK.out _ _ hS (fun _ => ?_)
  simp only [Act.put, List.setIfInBounds_toArray, List.set_cons_zero, List.set_cons_succ]
  clear hK K
  refine wpAnyH_ready (rs := [2]) (by kernel_rfl) (by simp) ?_
  refine AllReadyH.cons rfl (fun K hK => ?_) AllReadyH.nil
  refine step_pushs _ rfl (some 17) rfl (.tmp 15) (.tmp 16) rfl w2.heap.size hS.size _ _ [] p rfl rfl ON.out (HP.out.below (BB.out.trans (hS.mono BB.out.size))) (by simp) (by have := ZL.out; omega) ?_
  intro pv1 x3 O9 hb
  have ON : Hid (Own w2.heap.size x3 pv1 p) := (by rw [List.nil_append] at O9; exact O9)
  have hS : Below w2.heap.size w2 x3 := hS.trans hb
  clear hb O9
  refine hK.out _ _ hS (fun _ => ?_)
  simp only [Act.put, List.setIfInBounds_toArray, List.set_cons_zero, List.set_cons_succ]
  clear hK K
  refine wpAnyH_ready (rs := [5]) (by kernel_rfl) (by simp) ?_
  refine AllReadyH.cons rfl (fun K hK => ?_) AllReadyH.nil
  refine step_callW _ (by rfl) (some 20) rfl 40 #[.tmp 18, .tmp 19] #[57, 24] rfl (fun q w' => by rfl) #[.agg (hv k n c l e t).toArray, tv] (by simp only [List.map_toArray, List.map_cons, List.map_nil]; rfl) (fun u w' => Byt w' u E ∧ Below x3.heap.size x3 w') ?_ ?_
  · exact SE.out _ (BB.out.trans (hS.mono BB.out.size))
  rintro ev x4 ⟨y9, hb⟩
  have HE : Hid (Byt x4 ev E) := y9
  have ON : Hid (Own w2.heap.size x4 pv1 p) := own_low ON.out hb
  have hS : Below w2.heap.size w2 x4 := hS.trans (hb.mono hS.size)
  clear hb y9
  refine hK.out _ _ hS (fun _ => ?_)
  simp only [Act.put, List.setIfInBounds_toArray, List.set_cons_zero, List.set_cons_succ]
  clear hK K
  refine wpAnyH_ready (rs := [6]) (by kernel_rfl) (by simp) ?_
  refine AllReadyH.cons rfl (fun K hK => ?_) AllReadyH.nil
  refine step_pushs _ rfl (some 21) rfl (.tmp 17) (.tmp 20) rfl w2.heap.size hS.size _ _ p E rfl rfl ON.out HE.out (by have := ZL.out; omega) (by have := EL.out; omega) ?_
  intro rv x5 O9 hb
  have HR : Hid (Own w2.heap.size x5 rv (p ++ E)) := O9
  have hS : Below w2.heap.size w2 x5 := hS.trans hb
  clear hb O9
  refine hK.out _ _ hS (fun _ => ?_)
  simp only [Act.put, List.setIfInBounds_toArray, List.set_cons_zero, List.set_cons_succ]
  clear hK K
  refine take_lawH 7 (some 8) (rv) rfl rfl (by kernel_rfl) (by kernel_rfl) (by kernel_rfl) (fun _ _ _ h => h) (Or.inl ⟨by rfl, fun w' hw' => by rfl⟩) hS ?_
  simp only [Act.put, List.setIfInBounds_toArray, List.set_cons_zero, List.set_cons_succ]
  refine wpAnyH_done (by kernel_rfl) ?_ _
  have BZ : Hid (Below w.heap.size w _) := BB.out.trans (hS.mono BB.out.size)
  clear hS
  go_wp2
  go_ret
  exact ⟨_, rfl, own_less HR.out BB.out.size, BZ.out⟩
end Go.Proofs.YtahfcpdekjdceaaDoor.ck
