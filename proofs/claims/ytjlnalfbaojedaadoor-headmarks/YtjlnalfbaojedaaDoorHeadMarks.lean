/- P14.2, P14.4: for every number n, every head h and all bytes tag: head.Mark(n) is no bytes, if n is below 88 or above 4184, else n bytes, 0xff but the last eight, which are nought; and where head.End(h, tag) tells an end, that end, programmed with the last 88 bytes of the mark, is committed, and head.Read tells the same head and tag of it. -/
import Derived.Test.YtjlnalfbaojedaaDoorCards
import Derived.Test.YtjlnalfbaojedaaDoorTie
import Derived.Test.YtjlnalfbaojedaaDoorHEqx
import Derived.Test.YtjlnalfbaojedaaDoorHRef
namespace Go.Proofs.YtjlnalfbaojedaaDoor.headMarks
open Go.ChangeShapes Go.WideShapes Go.ChangeAt Go.RowKit Go.Proofs.YtjlnalfbaojedaaDoor.he
set_option maxRecDepth 20000

theorem exec_len {ev : Operand → Value} {o : Oper} (x : Operand) (hop : o.op = .call { callee := .builtin .len, args := #[x], argTypes := #[26] }) (v : Value) (xs : List Int) (w0 : World) (hb : Byt w0 v xs) (n : Nat) (hn : xs.length = n) (hx : ev x = v) (w : World) : (execOp ev o).run Tryd.prog w = .ok (.value (.int .i64 (n : Int))) w := by
  obtain ⟨ao, cap, rfl, -⟩ := hb
  subst hn
  simp [execOp, hop, resolve, invoke, builtin, hx, Result.andThen]
  rfl
open Go.Proofs.YtjlnalfbaojedaaDoor.fa
set_option maxHeartbeats 8000000 in
theorem walk_no (x : Int) (k n c l e t : Int) (v : Value) (w : World) (hT : Tab w) (hx : ¬ (88 ≤ x ∧ x ≤ 4184)) :
    Calls Tryd.prog 6 #[.int .i64 x, .agg (hv k n c l e t).toArray, v] w fun x w' => x = .returned (.bool true) ∧ Below w.heap.size w w' := by
  have t0 : (0 : Nat) = 0 := rfl
  have SM : Hid (∀ w, Calls Tryd.prog 20 #[.int .i64 x] w fun e w' => e = .returned (.slice none 0 0) ∧ w' = w) := fun w => mark_no x w hx
  by_cases h1 : x < 88
  · go_enter Tryd.func6, Tryd.ntmps6
    go_wp2_with (first
      | (have qa := ta; go_at_call 11; refine (awake_any _ (hT.below BB.out)).mono ?_; rintro e9 w9 ⟨rfl, B9⟩; have BB : Hid (Below w.heap.size w w9) := BB.out.trans (B9.mono BB.out.size); clear B9 ta)
      | (have q := t1; go_at_call 20; refine (SM.out _).mono ?_; rintro e9 w2 ⟨rfl, hw⟩; obtain rfl := hw.symm; clear t1; have ta : (0 : Nat) = 0 := rfl)
      | (have q0 := t0; refine box_lawC _ (hv k n c l e t) rfl ?_; intro w1 V1 B1 s1; have HA : Hid (Vr w1 w.heap.size (hv k n c l e t)) := V1; have c0 := HA.out.cell 0 _ rfl; have c1 := HA.out.cell 1 _ rfl; have c2 := HA.out.cell 2 _ rfl; have c3 := HA.out.cell 3 _ rfl; have c4 := HA.out.cell 4 _ rfl; have c5 := HA.out.cell 5 _ rfl; have BB : Hid (Below w.heap.size w w1) := B1; clear V1 B1 t0; have t1 : (0 : Nat) = 0 := rfl))
    go_ret
    exact ⟨rfl, BB.out⟩
  · have h2 : x > 4184 := by omega
    go_enter Tryd.func6, Tryd.ntmps6
    go_wp2_with (first
      | (have qa := ta; go_at_call 11; refine (awake_any _ (hT.below BB.out)).mono ?_; rintro e9 w9 ⟨rfl, B9⟩; have BB : Hid (Below w.heap.size w w9) := BB.out.trans (B9.mono BB.out.size); clear B9 ta)
      | (have q := t1; go_at_call 20; refine (SM.out _).mono ?_; rintro e9 w2 ⟨rfl, hw⟩; obtain rfl := hw.symm; clear t1; have ta : (0 : Nat) = 0 := rfl)
      | (have q0 := t0; refine box_lawC _ (hv k n c l e t) rfl ?_; intro w1 V1 B1 s1; have HA : Hid (Vr w1 w.heap.size (hv k n c l e t)) := V1; have c0 := HA.out.cell 0 _ rfl; have c1 := HA.out.cell 1 _ rfl; have c2 := HA.out.cell 2 _ rfl; have c3 := HA.out.cell 3 _ rfl; have c4 := HA.out.cell 4 _ rfl; have c5 := HA.out.cell 5 _ rfl; have BB : Hid (Below w.heap.size w w1) := B1; clear V1 B1 t0; have t1 : (0 : Nat) = 0 := rfl))
    go_ret
    exact ⟨rfl, BB.out⟩
set_option maxHeartbeats 8000000 in
theorem walk_yes (N : Nat) (k n c l e t : Int) (v : Value) (tag : List Int) (w : World) (hf : Hb l e t) (hv' : Byt w v tag) (hT : Tab w) (hN : 88 ≤ N) (hN' : N ≤ 4184) :
    Calls Tryd.prog 6 #[.int .i64 (N : Int), .agg (hv k n c l e t).toArray, v] w fun x w' => x = .returned (.bool true) ∧ Below w.heap.size w w' := by
  have t0 : (0 : Nat) = 0 := rfl
  have a1 : ¬ (N : Int) < 88 := by omega
  have a2 : ¬ (N : Int) > 4184 := by omega
  obtain ⟨kk, hkk⟩ : ∃ kk : Nat, N = kk + 8 := ⟨N - 8, by omega⟩
  obtain ⟨kz, hkz⟩ : ∃ kz : Nat, N = kz + 88 := ⟨N - 88, by omega⟩
  have k1 : IntKind.i64.wrap ((N : Int) - 8) = (kk : Int) := by rw [IntKind.wrap_i64]; omega
  have k2 : IntKind.i64.wrap ((N : Int) - 88) = (kz : Int) := by rw [IntKind.wrap_i64]; omega
  have em : he.mark N = List.replicate kk 255 ++ List.replicate 8 0 := by unfold he.mark; rw [hkk, Nat.add_sub_cancel]
  have SM : Hid (∀ w, Calls Tryd.prog 20 #[.int .i64 (N : Int)] w fun x w' => ∃ v, x = .returned v ∧ Own w.heap.size w' v (he.mark N) ∧ Below w.heap.size w w') := fun w => mark_yes N w hN hN'
  have S1 : Hid (∀ w, Calls Tryd.prog 21 #[.int .u8 255, .int .i64 (kk : Int)] w fun e w' => ∃ v, e = .returned v ∧ Byt w' v (List.replicate kk 255) ∧ Below w.heap.size w w') := fun w => by
    have := rfill_any 255 (kk : Int) w (by omega)
    rw [show clamp (kk : Int) 65536 = kk by unfold clamp; omega] at this
    exact this
  have S2 : Hid (∀ w, Calls Tryd.prog 21 #[.int .u8 0, .int .i64 8] w fun e w' => ∃ v, e = .returned v ∧ Byt w' v (List.replicate 8 0) ∧ Below w.heap.size w w') := fun w => by
    have := rfill_any 0 8 w (by omega)
    rw [show clamp 8 65536 = 8 by decide] at this
    exact this
  have HM : Hid ((he.mark N).length = N ∧ kk ≤ N ∧ kz ≤ N) := ⟨mark_len N (by omega), by omega, by omega⟩
  have M1 : Hid ((he.mark N).take kk = List.replicate kk 255) := by
    show _ = _
    rw [em, List.take_append_of_le_length (by simp), List.take_of_length_le (by simp)]
  have M2 : Hid ((he.mark N).drop kk = List.replicate 8 0) := by
    show _ = _
    rw [em, List.drop_append_of_le_length (by simp), List.drop_of_length_le (by simp), List.nil_append]
  have AM : Hid (AllB (he.mark N)) := mark_all N
  by_cases hr : Rh k n c ∧ (tag.length = 0 ∨ tag.length = 32)
  · obtain ⟨hr, hn⟩ := hr
    have M8l : (List.replicate 8 (255 : Int)).length = 8 := by simp
    have N8l : (List.replicate 8 (0 : Int)).length = 8 := by simp
    have TGl := tgo_len hn
    have SE : Hid (∀ w', Below w.heap.size w w' → Calls Tryd.prog 14 #[.agg (hv k n c l e t).toArray, v] w' fun x w'' => ∃ v, x = .returned (.tuple #[v, .int .i64 0]) ∧ Own w'.heap.size w'' v (hend (hb k n c l e t) (tgo tag) (List.replicate 8 255)) ∧ Below w'.heap.size w' w'') := fun w' q => end_yes k n c l e t v tag w' (hv'.below q) hf.1 hf.2.1 hf.2.2 (hT.below q) hr hn
    have HE : Hid ((hend (hb k n c l e t) (tgo tag) (List.replicate 8 255)).length = 88) := hend_len (hb_len _ _ _ _ _ _) TGl M8l
    have AE : Hid (AllB (hend (hb k n c l e t) (tgo tag) (List.replicate 8 255))) := hend_all (hb_all hr l e t) (tgo_all hv'.all) (allB_replicate 255 8 (by omega))
    have EA : andl (hend (hb k n c l e t) (tgo tag) (List.replicate 8 255)) ((he.mark N).drop kz) = hend (hb k n c l e t) (tgo tag) (List.replicate 8 0) := by
      have := and_mark (n := N) hN (hb_len k n c l e t) TGl M8l (hb_all hr l e t) (tgo_all hv'.all) (allB_replicate 255 8 (by omega))
      rw [show N - 88 = kz by omega] at this
      exact this
    have SA : Hid (∀ w' a b, Byt w' a (hend (hb k n c l e t) (tgo tag) (List.replicate 8 255)) → Byt w' b ((he.mark N).drop kz) → Calls Tryd.prog 22 #[a, b] w' fun e' w'' => ∃ v, e' = .returned v ∧ Byt w'' v (hend (hb k n c l e t) (tgo tag) (List.replicate 8 0)) ∧ Below w'.heap.size w' w'') := fun w' a b h1 h2 => by
      have := rand_any a b _ _ w' h1 h2 (by rw [HE.out, List.length_drop, HM.out.1]; omega) (by rw [HE.out]; omega)
      rw [EA] at this
      exact this
    have SD : Hid (∀ w' u, Below w.heap.size w w' → Byt w' u (hend (hb k n c l e t) (tgo tag) (List.replicate 8 0)) → Calls Tryd.prog 17 #[u] w' fun x w'' => ∃ v, x = .returned (.tuple #[.agg (hv k n c l e t).toArray, v, .int .i64 0]) ∧ Byt w'' v (tgo tag) ∧ Below w'.heap.size w' w'') := fun w' u q h => read_end hr hf TGl N8l w' u h (hT.below q)
    have SC : Hid (∀ w' u, Byt w' u (hend (hb k n c l e t) (tgo tag) (List.replicate 8 0)) → Calls Tryd.prog 16 #[u] w' fun x w'' => x = .returned (.bool true) ∧ Below w'.heap.size w' w'') := fun w' u h => comm_end TGl N8l true (by decide) w' u h
    have HS : Hid (sub (hend (hb k n c l e t) (tgo tag) (List.replicate 8 255)) 48 80 = tgo tag) := (hend_sub (hb_len k n c l e t) TGl).2.2.1
    have hq : ∀ w : World, (binOp .eql 25 (.agg #[.int .i64 k, .int .i64 n, .int .i64 c, .int .u32 l, .int .u64 e, .int .u64 t]) (.agg #[.int .i64 k, .int .i64 n, .int .i64 c, .int .u32 l, .int .u64 e, .int .u64 t])).run Tryd.prog w = .ok (.bool true) w := eql_head k n c l e t
    generalize hend (hb k n c l e t) (tgo tag) (List.replicate 8 255) = EE at *
    generalize hend (hb k n c l e t) (tgo tag) (List.replicate 8 0) = EF at *
    generalize tgo tag = TG at *
    clear EA M8l N8l TGl hr hn
    generalize he.mark N = MM at *
    generalize List.replicate kk (255 : Int) = R1 at *
    generalize List.replicate 8 (0 : Int) = R2 at *
    clear hf hv' hN hN' hkk hkz em
    go_enter Tryd.func6, Tryd.ntmps6
    go_wp2_with (first
      | (have q := t1; go_at_call 20; refine (SM.out _).mono ?_; rintro e9 w2 ⟨mv, rfl, o2, Bx⟩; have YM : Hid (Byt w2 mv MM) := o2.byt AM.out; have HA : Hid (Vr w2 w.heap.size (hv k n c l e t)) := HA.out.below Bx (range_lt HA.out.1 (by simp [hv])); have BB : Hid (Below w.heap.size w w2) := BB.out.trans (Bx.mono BB.out.size); clear c0 c1 c2 c3 c4 c5; have c0 := HA.out.cell 0 _ rfl; have c1 := HA.out.cell 1 _ rfl; have c2 := HA.out.cell 2 _ rfl; have c3 := HA.out.cell 3 _ rfl; have c4 := HA.out.cell 4 _ rfl; have c5 := HA.out.cell 5 _ rfl; clear o2 Bx t1)
      | (have q0 := t0; refine box_lawC _ (hv k n c l e t) rfl ?_; intro w1 V1 B1 s1; have HA : Hid (Vr w1 w.heap.size (hv k n c l e t)) := V1; have c0 := HA.out.cell 0 _ rfl; have c1 := HA.out.cell 1 _ rfl; have c2 := HA.out.cell 2 _ rfl; have c3 := HA.out.cell 3 _ rfl; have c4 := HA.out.cell 4 _ rfl; have c5 := HA.out.cell 5 _ rfl; have BB : Hid (Below w.heap.size w w1) := B1; clear V1 B1 t0; have t1 : (0 : Nat) = 0 := rfl))
    clear c0 c1 c2 c3 c4 c5
    refine wp_region_held_drew (S := fun w' => Below w2.heap.size w2 w') (by kernel_rfl) (Below.refl _ _).drew (fun hS => ?_)
    obtain ⟨y1, hx0⟩ : ∃ x, x = w2.drew := ⟨_, rfl⟩
    rw [← hx0] at hS  ⊢
    clear hx0
    refine take_lawH 0 (some 27) (mv) rfl rfl (by kernel_rfl) (by kernel_rfl) (by kernel_rfl) (fun _ _ _ h => h) (Or.inl ⟨by rfl, fun w' hw' => by rfl⟩) hS ?_
    simp only [Act.put, List.setIfInBounds_toArray, List.set_cons_zero, List.set_cons_succ]
    refine take_lawH 1 (some 28) (.int .i64 (N : Int)) rfl rfl (by kernel_rfl) (by kernel_rfl) (by kernel_rfl) (fun _ _ _ h => h) (Or.inl ⟨by rfl, fun w' hw' => by exact exec_len (.tmp 27) rfl mv MM _ YM.out N HM.out.1 rfl _⟩) hS ?_
    simp only [Act.put, List.setIfInBounds_toArray, List.set_cons_zero, List.set_cons_succ]
    refine take_lawH 2 (some 29) (.int .i64 (N : Int)) rfl rfl (by kernel_rfl) (by kernel_rfl) (by kernel_rfl) (fun _ _ _ h => h) (Or.inl ⟨by rfl, fun w' hw' => by rfl⟩) hS ?_
    simp only [Act.put, List.setIfInBounds_toArray, List.set_cons_zero, List.set_cons_succ]
    refine take_lawH 3 (some 30) (.bool false) rfl rfl (by kernel_rfl) (by kernel_rfl) (by kernel_rfl) (fun _ _ _ h => h) (Or.inl ⟨by rfl, fun w' hw' => by go_simp⟩) hS ?_
    simp only [Act.put, List.setIfInBounds_toArray, List.set_cons_zero, List.set_cons_succ]
    refine take_lawH 4 (some 31) (.bool false) rfl rfl (by kernel_rfl) (by kernel_rfl) (by kernel_rfl) (fun _ _ _ h => h) (Or.inl ⟨by rfl, fun w' hw' => by rfl⟩) hS ?_
    simp only [Act.put, List.setIfInBounds_toArray, List.set_cons_zero, List.set_cons_succ]
    refine take_lawH 5 (some 32) (mv) rfl rfl (by kernel_rfl) (by kernel_rfl) (by kernel_rfl) (fun _ _ _ h => h) (Or.inl ⟨by rfl, fun w' hw' => by rfl⟩) hS ?_
    simp only [Act.put, List.setIfInBounds_toArray, List.set_cons_zero, List.set_cons_succ]
    refine take_lawH 6 (some 33) (.int .i64 (N : Int)) rfl rfl (by kernel_rfl) (by kernel_rfl) (by kernel_rfl) (fun _ _ _ h => h) (Or.inl ⟨by rfl, fun w' hw' => by rfl⟩) hS ?_
    simp only [Act.put, List.setIfInBounds_toArray, List.set_cons_zero, List.set_cons_succ]
    refine take_lawH 7 (some 34) (.int .i64 (kk : Int)) rfl rfl (by kernel_rfl) (by kernel_rfl) (by kernel_rfl) (fun _ _ _ h => h) (Or.inl ⟨by rfl, fun w' hw' => by go_simp⟩) hS ?_
    simp only [Act.put, List.setIfInBounds_toArray, List.set_cons_zero, List.set_cons_succ]
    refine take_lawH 8 (some 35) (sl mv 0 kk) rfl rfl (by kernel_rfl) (by kernel_rfl) (by kernel_rfl) (fun _ _ _ h => h) (Or.inl ⟨by rfl, fun w' hw' => by exact exec_to (.tmp 32) (.tmp 34) rfl mv MM _ YM.out kk rfl rfl (by have := HM.out; omega) _⟩) hS ?_
    simp only [Act.put, List.setIfInBounds_toArray, List.set_cons_zero, List.set_cons_succ]
    refine take_lawH 9 (some 36) (.int .i64 (N : Int)) rfl rfl (by kernel_rfl) (by kernel_rfl) (by kernel_rfl) (fun _ _ _ h => h) (Or.inl ⟨by rfl, fun w' hw' => by rfl⟩) hS ?_
    simp only [Act.put, List.setIfInBounds_toArray, List.set_cons_zero, List.set_cons_succ]
    refine take_lawH 10 (some 37) (.int .i64 (kk : Int)) rfl rfl (by kernel_rfl) (by kernel_rfl) (by kernel_rfl) (fun _ _ _ h => h) (Or.inl ⟨by rfl, fun w' hw' => by go_simp⟩) hS ?_
    simp only [Act.put, List.setIfInBounds_toArray, List.set_cons_zero, List.set_cons_succ]
    refine wpAnyH_ready (rs := [11]) (by kernel_rfl) (by simp) ?_
    refine AllReadyH.cons rfl (fun K hK => ?_) AllReadyH.nil
    refine step_callW _ (by rfl) (some 38) rfl 21 #[.const (.int .u8 255), .tmp 37] #[5, 3] rfl (fun q w' => by rfl) #[.int .u8 255, .int .i64 (kk : Int)] (by simp only [List.map_toArray, List.map_cons, List.map_nil]; rfl) (fun u w' => (Byt w' u R1) ∧ Below y1.heap.size y1 w') ?_ ?_
    · exact S1.out y1
    rintro u1 y2 ⟨y9, hb⟩
    have YU : Hid (Byt y2 u1 R1) := y9
    have hS : Below w2.heap.size w2 y2 := hS.trans (hb.mono hS.size)
    clear hb y9
    refine hK.out _ _ hS (fun _ => ?_)
    simp only [Act.put, List.setIfInBounds_toArray, List.set_cons_zero, List.set_cons_succ]
    clear hK K
    refine wpAnyH_ready (rs := [12]) (by kernel_rfl) (by simp) ?_
    refine AllReadyH.cons rfl (fun K hK => ?_) AllReadyH.nil
    refine step_callW _ (by rfl) (some 39) rfl 12 #[.tmp 35, .tmp 38] #[26, 26] rfl (fun q w' => by rfl) #[sl mv 0 kk, u1] (by simp only [List.map_toArray, List.map_cons, List.map_nil]; rfl) (fun u w' => (u = .bool true) ∧ Below y2.heap.size y2 w') ?_ ?_
    · exact (same_yes _ _ _ R1 (M1.out ▸ sl_to (YM.out.below hS) kk (by have := HM.out; omega)) YU.out).mono fun e w' ⟨h1, h2⟩ => ⟨_, h1, rfl, h2⟩
    rintro _ y3 ⟨rfl, hb⟩
    have YU : Hid (Byt y3 u1 R1) := YU.out.below hb
    have hS : Below w2.heap.size w2 y3 := hS.trans (hb.mono hS.size)
    clear hb
    refine hK.out _ _ hS (fun _ => ?_)
    simp only [Act.put, List.setIfInBounds_toArray, List.set_cons_zero, List.set_cons_succ]
    clear hK K
    refine take_lawH 13 (some 40) (.bool false) rfl rfl (by kernel_rfl) (by kernel_rfl) (by kernel_rfl) (fun _ _ _ h => h) (Or.inl ⟨by rfl, fun w' hw' => by go_simp⟩) hS ?_
    simp only [Act.put, List.setIfInBounds_toArray, List.set_cons_zero, List.set_cons_succ]
    refine take_lawH 14 (some 41) (.bool false) rfl rfl (by kernel_rfl) (by kernel_rfl) (by kernel_rfl) (fun _ _ _ h => h) (Or.inl ⟨by rfl, fun w' hw' => by rfl⟩) hS ?_
    simp only [Act.put, List.setIfInBounds_toArray, List.set_cons_zero, List.set_cons_succ]
    refine take_lawH 15 (some 42) (.bool false) rfl rfl (by kernel_rfl) (by kernel_rfl) (by kernel_rfl) (fun _ _ _ h => h) (Or.inl ⟨by rfl, fun w' hw' => by rfl⟩) hS ?_
    simp only [Act.put, List.setIfInBounds_toArray, List.set_cons_zero, List.set_cons_succ]
    refine take_lawH 16 (some 43) (mv) rfl rfl (by kernel_rfl) (by kernel_rfl) (by kernel_rfl) (fun _ _ _ h => h) (Or.inl ⟨by rfl, fun w' hw' => by rfl⟩) hS ?_
    simp only [Act.put, List.setIfInBounds_toArray, List.set_cons_zero, List.set_cons_succ]
    refine take_lawH 17 (some 44) (.int .i64 (N : Int)) rfl rfl (by kernel_rfl) (by kernel_rfl) (by kernel_rfl) (fun _ _ _ h => h) (Or.inl ⟨by rfl, fun w' hw' => by rfl⟩) hS ?_
    simp only [Act.put, List.setIfInBounds_toArray, List.set_cons_zero, List.set_cons_succ]
    refine take_lawH 18 (some 45) (.int .i64 (kk : Int)) rfl rfl (by kernel_rfl) (by kernel_rfl) (by kernel_rfl) (fun _ _ _ h => h) (Or.inl ⟨by rfl, fun w' hw' => by go_simp⟩) hS ?_
    simp only [Act.put, List.setIfInBounds_toArray, List.set_cons_zero, List.set_cons_succ]
    refine take_lawH 19 (some 46) (sl mv kk N) rfl rfl (by kernel_rfl) (by kernel_rfl) (by kernel_rfl) (fun _ _ _ h => h) (Or.inl ⟨by rfl, fun w' hw' => by exact exec_from (.tmp 43) (.tmp 45) rfl mv MM _ YM.out kk N rfl rfl HM.out.1 HM.out.2.1 _⟩) hS ?_
    simp only [Act.put, List.setIfInBounds_toArray, List.set_cons_zero, List.set_cons_succ]
    refine wpAnyH_ready (rs := [20]) (by kernel_rfl) (by simp) ?_
    refine AllReadyH.cons rfl (fun K hK => ?_) AllReadyH.nil
    refine step_callW _ (by rfl) (some 47) rfl 21 #[.const (.int .u8 0), .const (.int .i64 8)] #[5, 3] rfl (fun q w' => by rfl) #[.int .u8 0, .int .i64 8] (by simp only [List.map_toArray, List.map_cons, List.map_nil]; rfl) (fun u w' => (Byt w' u R2) ∧ Below y3.heap.size y3 w') ?_ ?_
    · exact S2.out y3
    rintro u2 y4 ⟨y9, hb⟩
    have YU : Hid (Byt y4 u1 R1) := YU.out.below hb
    have YV : Hid (Byt y4 u2 R2) := y9
    have hS : Below w2.heap.size w2 y4 := hS.trans (hb.mono hS.size)
    clear hb y9
    refine hK.out _ _ hS (fun _ => ?_)
    simp only [Act.put, List.setIfInBounds_toArray, List.set_cons_zero, List.set_cons_succ]
    clear hK K
    refine wpAnyH_ready (rs := [21]) (by kernel_rfl) (by simp) ?_
    refine AllReadyH.cons rfl (fun K hK => ?_) AllReadyH.nil
    refine step_callW _ (by rfl) (some 48) rfl 12 #[.tmp 46, .tmp 47] #[26, 26] rfl (fun q w' => by rfl) #[sl mv kk N, u2] (by simp only [List.map_toArray, List.map_cons, List.map_nil]; rfl) (fun u w' => (u = .bool true) ∧ Below y4.heap.size y4 w') ?_ ?_
    · exact (same_yes _ _ _ R2 (M2.out ▸ (HM.out.1 ▸ sl_from (YM.out.below hS) kk (by have := HM.out; omega))) YV.out).mono fun e w' ⟨h1, h2⟩ => ⟨_, h1, rfl, h2⟩
    rintro _ y5 ⟨rfl, hb⟩
    have YU : Hid (Byt y5 u1 R1) := YU.out.below hb
    have YV : Hid (Byt y5 u2 R2) := YV.out.below hb
    have hS : Below w2.heap.size w2 y5 := hS.trans (hb.mono hS.size)
    clear hb
    refine hK.out _ _ hS (fun _ => ?_)
    simp only [Act.put, List.setIfInBounds_toArray, List.set_cons_zero, List.set_cons_succ]
    clear hK K
    refine take_lawH 22 (some 49) (.bool false) rfl rfl (by kernel_rfl) (by kernel_rfl) (by kernel_rfl) (fun _ _ _ h => h) (Or.inl ⟨by rfl, fun w' hw' => by go_simp⟩) hS ?_
    simp only [Act.put, List.setIfInBounds_toArray, List.set_cons_zero, List.set_cons_succ]
    refine take_lawH 23 (some 50) (.bool false) rfl rfl (by kernel_rfl) (by kernel_rfl) (by kernel_rfl) (fun _ _ _ h => h) (Or.inl ⟨by rfl, fun w' hw' => by rfl⟩) hS ?_
    simp only [Act.put, List.setIfInBounds_toArray, List.set_cons_zero, List.set_cons_succ]
    refine wpAnyH_done (by kernel_rfl) ?_ _
    have HA : Hid (Vr y5 w.heap.size (hv k n c l e t)) := HA.out.below hS (range_lt HA.out.1 (by simp [hv]))
    have YM : Hid (Byt y5 mv MM) := YM.out.below hS
    have BB : Hid (Below w.heap.size w y5) := BB.out.trans (hS.mono BB.out.size)
    have c0 := HA.out.cell 0 _ rfl
    have c1 := HA.out.cell 1 _ rfl
    have c2 := HA.out.cell 2 _ rfl
    have c3 := HA.out.cell 3 _ rfl
    have c4 := HA.out.cell 4 _ rfl
    have c5 := HA.out.cell 5 _ rfl
    clear hS
    have t3 : (0 : Nat) = 0 := rfl
    go_wp2_with (first
      | (have qa := ta; go_at_call 11; refine (awake_any _ (hT.below BB.out)).mono ?_; rintro e9 w9 ⟨rfl, B9⟩; have BB : Hid (Below w.heap.size w w9) := BB.out.trans (B9.mono BB.out.size); clear B9 ta)
      | (have q := t13; go_at_call 16; refine (SC.out _ _ YF.out).mono ?_; rintro e9 w11 ⟨rfl, Bx⟩; have BB : Hid (Below w.heap.size w w11) := BB.out.trans (Bx.mono BB.out.size); clear Bx t13; have ta : (0 : Nat) = 0 := rfl)
      | (have q := t12; go_at_call 22; refine (SA.out _ _ _ YB.out YC.out).mono ?_; rintro e9 w10 ⟨u10, rfl, y10, Bx⟩; have YF : Hid (Byt w10 u10 EF) := y10; have BB : Hid (Below w.heap.size w w10) := BB.out.trans (Bx.mono BB.out.size); clear Bx y10 t12; have t13 : (0 : Nat) = 0 := rfl)
      | (have q := t11; refine cut_fromG _ (by rfl) (.tmp 86) (.tmp 88) rfl _ MM _ kz rfl rfl rfl (by have := HM.out; omega) YM.out ?_; intro v11 y11; have YC : Hid (Byt w9 v11 (MM.drop kz)) := y11; clear y11 t11; have t12 : (0 : Nat) = 0 := rfl)
      | (have q := t10; go_at_call 12; refine (same_yes _ _ _ TG YT.out Y9.out).mono ?_; rintro e9 w9 ⟨rfl, Bx⟩; have YM : Hid (Byt w9 mv MM) := YM.out.below Bx; have YB : Hid (Byt w9 v4 EE) := YB.out.below Bx; have BB : Hid (Below w.heap.size w w9) := BB.out.trans (Bx.mono BB.out.size); clear Bx t10; have t11 : (0 : Nat) = 0 := rfl)
      | (have q := t9; refine cut_partG _ (by rfl) (.tmp 80) (.const (.int .i64 48)) (.const (.int .i64 80)) rfl _ EE _ _ 48 80 rfl rfl rfl rfl rfl (by omega) (by have := HE.out; omega) YB.out ?_; intro v9 y9; rw [show (EE.take 80).drop 48 = TG from HS.out] at y9; have Y9 : Hid (Byt w8 v9 TG) := y9; clear y9 t9; have t10 : (0 : Nat) = 0 := rfl)
      | (have q := t8; refine store_lawC _ (hv k n c l e t) w6.heap.size 0 rfl rfl HX.out.2 rowy_head.2 (hv_one _ _ _ _ _ _) ?_; intro w8 E9 R9 T9 B9; have HX : Hid (Vr w8 w6.heap.size (hv k n c l e t)) := ⟨R9, T9⟩; have B68 : Below w6.heap.size w6 w8 := CN.out.trans B9; have HA : Hid (Vr w8 w.heap.size (hv k n c l e t)) := HA.out.below B68 (range_lt HA.out.1 (by simp [hv])); clear c0 c1 c2 c3 c4 c5; have c0 := HA.out.cell 0 _ rfl; have c1 := HA.out.cell 1 _ rfl; have c2 := HA.out.cell 2 _ rfl; have c3 := HA.out.cell 3 _ rfl; have c4 := HA.out.cell 4 _ rfl; have c5 := HA.out.cell 5 _ rfl; have d0 := HX.out.cell 0 _ rfl; have d1 := HX.out.cell 1 _ rfl; have d2 := HX.out.cell 2 _ rfl; have d3 := HX.out.cell 3 _ rfl; have d4 := HX.out.cell 4 _ rfl; have d5 := HX.out.cell 5 _ rfl; have YM : Hid (Byt w8 mv MM) := YM.out.below B68; have YB : Hid (Byt w8 v4 EE) := YB.out.below B68; have YT : Hid (Byt w8 u6 TG) := YT.out.below B68; have BB : Hid (Below w.heap.size w w8) := BB.out.trans (B68.mono BB.out.size); clear E9 R9 T9 B9 B68 t8; have t9 : (0 : Nat) = 0 := rfl)
      | (have q := t7; refine new_lawC _ (hv 0 0 0 0 0 0) zero_head ?_; intro w7 V9 B9 s9; have HX : Hid (Vr w7 w6.heap.size (hv 0 0 0 0 0 0)) := V9; have CN : Hid (Below w6.heap.size w6 w7) := B9; clear V9 B9 s9 t7; have t8 : (0 : Nat) = 0 := rfl)
      | (have q := t6; go_at_call 17; refine (SD.out _ _ BB.out YF.out).mono ?_; rintro e9 w6 ⟨u6, rfl, y6, Bx⟩; have YT : Hid (Byt w6 u6 TG) := y6; have YM : Hid (Byt w6 mv MM) := YM.out.below Bx; have YB : Hid (Byt w6 v4 EE) := YB.out.below Bx; have HA : Hid (Vr w6 w.heap.size (hv k n c l e t)) := HA.out.below Bx (range_lt HA.out.1 (by simp [hv])); have BB : Hid (Below w.heap.size w w6) := BB.out.trans (Bx.mono BB.out.size); clear c0 c1 c2 c3 c4 c5; have c0 := HA.out.cell 0 _ rfl; have c1 := HA.out.cell 1 _ rfl; have c2 := HA.out.cell 2 _ rfl; have c3 := HA.out.cell 3 _ rfl; have c4 := HA.out.cell 4 _ rfl; have c5 := HA.out.cell 5 _ rfl; clear Bx y6 t6 YF; have t7 : (0 : Nat) = 0 := rfl)
      | (have q := t5; go_at_call 22; refine (SA.out _ _ _ YB.out YC.out).mono ?_; rintro e9 w5 ⟨u5, rfl, y5, Bx⟩; have YF : Hid (Byt w5 u5 EF) := y5; have YM : Hid (Byt w5 mv MM) := YM.out.below Bx; have YB : Hid (Byt w5 v4 EE) := YB.out.below Bx; have HA : Hid (Vr w5 w.heap.size (hv k n c l e t)) := HA.out.below Bx (range_lt HA.out.1 (by simp [hv])); have BB : Hid (Below w.heap.size w w5) := BB.out.trans (Bx.mono BB.out.size); clear c0 c1 c2 c3 c4 c5; have c0 := HA.out.cell 0 _ rfl; have c1 := HA.out.cell 1 _ rfl; have c2 := HA.out.cell 2 _ rfl; have c3 := HA.out.cell 3 _ rfl; have c4 := HA.out.cell 4 _ rfl; have c5 := HA.out.cell 5 _ rfl; clear Bx y5 t5 YC; have t6 : (0 : Nat) = 0 := rfl)
      | (have q := t4; refine cut_from _ rfl (.tmp 62) (.tmp 64) rfl _ MM _ kz rfl rfl rfl (by have := HM.out; omega) YM.out ?_; intro v5 y5; have YC : Hid (Byt w4 v5 (MM.drop kz)) := y5; clear y5 t4; have t5 : (0 : Nat) = 0 := rfl)
      | (have q := t3; go_at_call 14; refine (SE.out _ BB.out).mono ?_; rintro e9 w4 ⟨v4, rfl, o4, Bx⟩; have YB : Hid (Byt w4 v4 EE) := o4.byt AE.out; have YM : Hid (Byt w4 mv MM) := YM.out.below Bx; have HA : Hid (Vr w4 w.heap.size (hv k n c l e t)) := HA.out.below Bx (range_lt HA.out.1 (by simp [hv])); have BB : Hid (Below w.heap.size w w4) := BB.out.trans (Bx.mono BB.out.size); clear c0 c1 c2 c3 c4 c5; have c0 := HA.out.cell 0 _ rfl; have c1 := HA.out.cell 1 _ rfl; have c2 := HA.out.cell 2 _ rfl; have c3 := HA.out.cell 3 _ rfl; have c4 := HA.out.cell 4 _ rfl; have c5 := HA.out.cell 5 _ rfl; clear o4 Bx t3; have t4 : (0 : Nat) = 0 := rfl))
    go_ret
    exact ⟨rfl, BB.out⟩
  · have SE : Hid (∀ w', Below w.heap.size w w' → Calls Tryd.prog 14 #[.agg (hv k n c l e t).toArray, v] w' fun x w'' => x = .returned (.tuple #[.slice none 0 0, .int .i64 2]) ∧ Below w'.heap.size w' w'') := fun w' q => end_no k n c l e t v tag w' (hv'.below q) hf.1 hf.2.1 hf.2.2 (hT.below q) hr
    clear hr
    generalize he.mark N = MM at *
    generalize List.replicate kk (255 : Int) = R1 at *
    generalize List.replicate 8 (0 : Int) = R2 at *
    clear hf hv' hN hN' hkk hkz em
    go_enter Tryd.func6, Tryd.ntmps6
    go_wp2_with (first
      | (have q := t1; go_at_call 20; refine (SM.out _).mono ?_; rintro e9 w2 ⟨mv, rfl, o2, Bx⟩; have YM : Hid (Byt w2 mv MM) := o2.byt AM.out; have HA : Hid (Vr w2 w.heap.size (hv k n c l e t)) := HA.out.below Bx (range_lt HA.out.1 (by simp [hv])); have BB : Hid (Below w.heap.size w w2) := BB.out.trans (Bx.mono BB.out.size); clear c0 c1 c2 c3 c4 c5; have c0 := HA.out.cell 0 _ rfl; have c1 := HA.out.cell 1 _ rfl; have c2 := HA.out.cell 2 _ rfl; have c3 := HA.out.cell 3 _ rfl; have c4 := HA.out.cell 4 _ rfl; have c5 := HA.out.cell 5 _ rfl; clear o2 Bx t1)
      | (have q0 := t0; refine box_lawC _ (hv k n c l e t) rfl ?_; intro w1 V1 B1 s1; have HA : Hid (Vr w1 w.heap.size (hv k n c l e t)) := V1; have c0 := HA.out.cell 0 _ rfl; have c1 := HA.out.cell 1 _ rfl; have c2 := HA.out.cell 2 _ rfl; have c3 := HA.out.cell 3 _ rfl; have c4 := HA.out.cell 4 _ rfl; have c5 := HA.out.cell 5 _ rfl; have BB : Hid (Below w.heap.size w w1) := B1; clear V1 B1 t0; have t1 : (0 : Nat) = 0 := rfl))
    clear c0 c1 c2 c3 c4 c5
    refine wp_region_held_drew (S := fun w' => Below w2.heap.size w2 w') (by kernel_rfl) (Below.refl _ _).drew (fun hS => ?_)
    obtain ⟨y1, hx0⟩ : ∃ x, x = w2.drew := ⟨_, rfl⟩
    rw [← hx0] at hS  ⊢
    clear hx0
    refine take_lawH 0 (some 27) (mv) rfl rfl (by kernel_rfl) (by kernel_rfl) (by kernel_rfl) (fun _ _ _ h => h) (Or.inl ⟨by rfl, fun w' hw' => by rfl⟩) hS ?_
    simp only [Act.put, List.setIfInBounds_toArray, List.set_cons_zero, List.set_cons_succ]
    refine take_lawH 1 (some 28) (.int .i64 (N : Int)) rfl rfl (by kernel_rfl) (by kernel_rfl) (by kernel_rfl) (fun _ _ _ h => h) (Or.inl ⟨by rfl, fun w' hw' => by exact exec_len (.tmp 27) rfl mv MM _ YM.out N HM.out.1 rfl _⟩) hS ?_
    simp only [Act.put, List.setIfInBounds_toArray, List.set_cons_zero, List.set_cons_succ]
    refine take_lawH 2 (some 29) (.int .i64 (N : Int)) rfl rfl (by kernel_rfl) (by kernel_rfl) (by kernel_rfl) (fun _ _ _ h => h) (Or.inl ⟨by rfl, fun w' hw' => by rfl⟩) hS ?_
    simp only [Act.put, List.setIfInBounds_toArray, List.set_cons_zero, List.set_cons_succ]
    refine take_lawH 3 (some 30) (.bool false) rfl rfl (by kernel_rfl) (by kernel_rfl) (by kernel_rfl) (fun _ _ _ h => h) (Or.inl ⟨by rfl, fun w' hw' => by go_simp⟩) hS ?_
    simp only [Act.put, List.setIfInBounds_toArray, List.set_cons_zero, List.set_cons_succ]
    refine take_lawH 4 (some 31) (.bool false) rfl rfl (by kernel_rfl) (by kernel_rfl) (by kernel_rfl) (fun _ _ _ h => h) (Or.inl ⟨by rfl, fun w' hw' => by rfl⟩) hS ?_
    simp only [Act.put, List.setIfInBounds_toArray, List.set_cons_zero, List.set_cons_succ]
    refine take_lawH 5 (some 32) (mv) rfl rfl (by kernel_rfl) (by kernel_rfl) (by kernel_rfl) (fun _ _ _ h => h) (Or.inl ⟨by rfl, fun w' hw' => by rfl⟩) hS ?_
    simp only [Act.put, List.setIfInBounds_toArray, List.set_cons_zero, List.set_cons_succ]
    refine take_lawH 6 (some 33) (.int .i64 (N : Int)) rfl rfl (by kernel_rfl) (by kernel_rfl) (by kernel_rfl) (fun _ _ _ h => h) (Or.inl ⟨by rfl, fun w' hw' => by rfl⟩) hS ?_
    simp only [Act.put, List.setIfInBounds_toArray, List.set_cons_zero, List.set_cons_succ]
    refine take_lawH 7 (some 34) (.int .i64 (kk : Int)) rfl rfl (by kernel_rfl) (by kernel_rfl) (by kernel_rfl) (fun _ _ _ h => h) (Or.inl ⟨by rfl, fun w' hw' => by go_simp⟩) hS ?_
    simp only [Act.put, List.setIfInBounds_toArray, List.set_cons_zero, List.set_cons_succ]
    refine take_lawH 8 (some 35) (sl mv 0 kk) rfl rfl (by kernel_rfl) (by kernel_rfl) (by kernel_rfl) (fun _ _ _ h => h) (Or.inl ⟨by rfl, fun w' hw' => by exact exec_to (.tmp 32) (.tmp 34) rfl mv MM _ YM.out kk rfl rfl (by have := HM.out; omega) _⟩) hS ?_
    simp only [Act.put, List.setIfInBounds_toArray, List.set_cons_zero, List.set_cons_succ]
    refine take_lawH 9 (some 36) (.int .i64 (N : Int)) rfl rfl (by kernel_rfl) (by kernel_rfl) (by kernel_rfl) (fun _ _ _ h => h) (Or.inl ⟨by rfl, fun w' hw' => by rfl⟩) hS ?_
    simp only [Act.put, List.setIfInBounds_toArray, List.set_cons_zero, List.set_cons_succ]
    refine take_lawH 10 (some 37) (.int .i64 (kk : Int)) rfl rfl (by kernel_rfl) (by kernel_rfl) (by kernel_rfl) (fun _ _ _ h => h) (Or.inl ⟨by rfl, fun w' hw' => by go_simp⟩) hS ?_
    simp only [Act.put, List.setIfInBounds_toArray, List.set_cons_zero, List.set_cons_succ]
    refine wpAnyH_ready (rs := [11]) (by kernel_rfl) (by simp) ?_
    refine AllReadyH.cons rfl (fun K hK => ?_) AllReadyH.nil
    refine step_callW _ (by rfl) (some 38) rfl 21 #[.const (.int .u8 255), .tmp 37] #[5, 3] rfl (fun q w' => by rfl) #[.int .u8 255, .int .i64 (kk : Int)] (by simp only [List.map_toArray, List.map_cons, List.map_nil]; rfl) (fun u w' => (Byt w' u R1) ∧ Below y1.heap.size y1 w') ?_ ?_
    · exact S1.out y1
    rintro u1 y2 ⟨y9, hb⟩
    have YU : Hid (Byt y2 u1 R1) := y9
    have hS : Below w2.heap.size w2 y2 := hS.trans (hb.mono hS.size)
    clear hb y9
    refine hK.out _ _ hS (fun _ => ?_)
    simp only [Act.put, List.setIfInBounds_toArray, List.set_cons_zero, List.set_cons_succ]
    clear hK K
    refine wpAnyH_ready (rs := [12]) (by kernel_rfl) (by simp) ?_
    refine AllReadyH.cons rfl (fun K hK => ?_) AllReadyH.nil
    refine step_callW _ (by rfl) (some 39) rfl 12 #[.tmp 35, .tmp 38] #[26, 26] rfl (fun q w' => by rfl) #[sl mv 0 kk, u1] (by simp only [List.map_toArray, List.map_cons, List.map_nil]; rfl) (fun u w' => (u = .bool true) ∧ Below y2.heap.size y2 w') ?_ ?_
    · exact (same_yes _ _ _ R1 (M1.out ▸ sl_to (YM.out.below hS) kk (by have := HM.out; omega)) YU.out).mono fun e w' ⟨h1, h2⟩ => ⟨_, h1, rfl, h2⟩
    rintro _ y3 ⟨rfl, hb⟩
    have YU : Hid (Byt y3 u1 R1) := YU.out.below hb
    have hS : Below w2.heap.size w2 y3 := hS.trans (hb.mono hS.size)
    clear hb
    refine hK.out _ _ hS (fun _ => ?_)
    simp only [Act.put, List.setIfInBounds_toArray, List.set_cons_zero, List.set_cons_succ]
    clear hK K
    refine take_lawH 13 (some 40) (.bool false) rfl rfl (by kernel_rfl) (by kernel_rfl) (by kernel_rfl) (fun _ _ _ h => h) (Or.inl ⟨by rfl, fun w' hw' => by go_simp⟩) hS ?_
    simp only [Act.put, List.setIfInBounds_toArray, List.set_cons_zero, List.set_cons_succ]
    refine take_lawH 14 (some 41) (.bool false) rfl rfl (by kernel_rfl) (by kernel_rfl) (by kernel_rfl) (fun _ _ _ h => h) (Or.inl ⟨by rfl, fun w' hw' => by rfl⟩) hS ?_
    simp only [Act.put, List.setIfInBounds_toArray, List.set_cons_zero, List.set_cons_succ]
    refine take_lawH 15 (some 42) (.bool false) rfl rfl (by kernel_rfl) (by kernel_rfl) (by kernel_rfl) (fun _ _ _ h => h) (Or.inl ⟨by rfl, fun w' hw' => by rfl⟩) hS ?_
    simp only [Act.put, List.setIfInBounds_toArray, List.set_cons_zero, List.set_cons_succ]
    refine take_lawH 16 (some 43) (mv) rfl rfl (by kernel_rfl) (by kernel_rfl) (by kernel_rfl) (fun _ _ _ h => h) (Or.inl ⟨by rfl, fun w' hw' => by rfl⟩) hS ?_
    simp only [Act.put, List.setIfInBounds_toArray, List.set_cons_zero, List.set_cons_succ]
    refine take_lawH 17 (some 44) (.int .i64 (N : Int)) rfl rfl (by kernel_rfl) (by kernel_rfl) (by kernel_rfl) (fun _ _ _ h => h) (Or.inl ⟨by rfl, fun w' hw' => by rfl⟩) hS ?_
    simp only [Act.put, List.setIfInBounds_toArray, List.set_cons_zero, List.set_cons_succ]
    refine take_lawH 18 (some 45) (.int .i64 (kk : Int)) rfl rfl (by kernel_rfl) (by kernel_rfl) (by kernel_rfl) (fun _ _ _ h => h) (Or.inl ⟨by rfl, fun w' hw' => by go_simp⟩) hS ?_
    simp only [Act.put, List.setIfInBounds_toArray, List.set_cons_zero, List.set_cons_succ]
    refine take_lawH 19 (some 46) (sl mv kk N) rfl rfl (by kernel_rfl) (by kernel_rfl) (by kernel_rfl) (fun _ _ _ h => h) (Or.inl ⟨by rfl, fun w' hw' => by exact exec_from (.tmp 43) (.tmp 45) rfl mv MM _ YM.out kk N rfl rfl HM.out.1 HM.out.2.1 _⟩) hS ?_
    simp only [Act.put, List.setIfInBounds_toArray, List.set_cons_zero, List.set_cons_succ]
    refine wpAnyH_ready (rs := [20]) (by kernel_rfl) (by simp) ?_
    refine AllReadyH.cons rfl (fun K hK => ?_) AllReadyH.nil
    refine step_callW _ (by rfl) (some 47) rfl 21 #[.const (.int .u8 0), .const (.int .i64 8)] #[5, 3] rfl (fun q w' => by rfl) #[.int .u8 0, .int .i64 8] (by simp only [List.map_toArray, List.map_cons, List.map_nil]; rfl) (fun u w' => (Byt w' u R2) ∧ Below y3.heap.size y3 w') ?_ ?_
    · exact S2.out y3
    rintro u2 y4 ⟨y9, hb⟩
    have YU : Hid (Byt y4 u1 R1) := YU.out.below hb
    have YV : Hid (Byt y4 u2 R2) := y9
    have hS : Below w2.heap.size w2 y4 := hS.trans (hb.mono hS.size)
    clear hb y9
    refine hK.out _ _ hS (fun _ => ?_)
    simp only [Act.put, List.setIfInBounds_toArray, List.set_cons_zero, List.set_cons_succ]
    clear hK K
    refine wpAnyH_ready (rs := [21]) (by kernel_rfl) (by simp) ?_
    refine AllReadyH.cons rfl (fun K hK => ?_) AllReadyH.nil
    refine step_callW _ (by rfl) (some 48) rfl 12 #[.tmp 46, .tmp 47] #[26, 26] rfl (fun q w' => by rfl) #[sl mv kk N, u2] (by simp only [List.map_toArray, List.map_cons, List.map_nil]; rfl) (fun u w' => (u = .bool true) ∧ Below y4.heap.size y4 w') ?_ ?_
    · exact (same_yes _ _ _ R2 (M2.out ▸ (HM.out.1 ▸ sl_from (YM.out.below hS) kk (by have := HM.out; omega))) YV.out).mono fun e w' ⟨h1, h2⟩ => ⟨_, h1, rfl, h2⟩
    rintro _ y5 ⟨rfl, hb⟩
    have YU : Hid (Byt y5 u1 R1) := YU.out.below hb
    have YV : Hid (Byt y5 u2 R2) := YV.out.below hb
    have hS : Below w2.heap.size w2 y5 := hS.trans (hb.mono hS.size)
    clear hb
    refine hK.out _ _ hS (fun _ => ?_)
    simp only [Act.put, List.setIfInBounds_toArray, List.set_cons_zero, List.set_cons_succ]
    clear hK K
    refine take_lawH 22 (some 49) (.bool false) rfl rfl (by kernel_rfl) (by kernel_rfl) (by kernel_rfl) (fun _ _ _ h => h) (Or.inl ⟨by rfl, fun w' hw' => by go_simp⟩) hS ?_
    simp only [Act.put, List.setIfInBounds_toArray, List.set_cons_zero, List.set_cons_succ]
    refine take_lawH 23 (some 50) (.bool false) rfl rfl (by kernel_rfl) (by kernel_rfl) (by kernel_rfl) (fun _ _ _ h => h) (Or.inl ⟨by rfl, fun w' hw' => by rfl⟩) hS ?_
    simp only [Act.put, List.setIfInBounds_toArray, List.set_cons_zero, List.set_cons_succ]
    refine wpAnyH_done (by kernel_rfl) ?_ _
    have HA : Hid (Vr y5 w.heap.size (hv k n c l e t)) := HA.out.below hS (range_lt HA.out.1 (by simp [hv]))
    have YM : Hid (Byt y5 mv MM) := YM.out.below hS
    have BB : Hid (Below w.heap.size w y5) := BB.out.trans (hS.mono BB.out.size)
    have c0 := HA.out.cell 0 _ rfl
    have c1 := HA.out.cell 1 _ rfl
    have c2 := HA.out.cell 2 _ rfl
    have c3 := HA.out.cell 3 _ rfl
    have c4 := HA.out.cell 4 _ rfl
    have c5 := HA.out.cell 5 _ rfl
    clear hS
    have t3 : (0 : Nat) = 0 := rfl
    go_wp2_with (first
      | (have qa := ta; go_at_call 11; refine (awake_any _ (hT.below BB.out)).mono ?_; rintro e9 w9 ⟨rfl, B9⟩; have BB : Hid (Below w.heap.size w w9) := BB.out.trans (B9.mono BB.out.size); clear B9 ta)
      | (have q := t3; go_at_call 14; refine (SE.out _ BB.out).mono ?_; rintro e9 w4 ⟨rfl, Bx⟩; have HA : Hid (Vr w4 w.heap.size (hv k n c l e t)) := HA.out.below Bx (range_lt HA.out.1 (by simp [hv])); have BB : Hid (Below w.heap.size w w4) := BB.out.trans (Bx.mono BB.out.size); clear c0 c1 c2 c3 c4 c5; have c0 := HA.out.cell 0 _ rfl; have c1 := HA.out.cell 1 _ rfl; have c2 := HA.out.cell 2 _ rfl; have c3 := HA.out.cell 3 _ rfl; have c4 := HA.out.cell 4 _ rfl; have c5 := HA.out.cell 5 _ rfl; clear Bx t3; have ta : (0 : Nat) = 0 := rfl))
    go_ret
    exact ⟨rfl, BB.out⟩
theorem walk (x : Int) (k n c l e t : Int) (v : Value) (tag : List Int) (w : World) (_hx : -9223372036854775808 ≤ x ∧ x ≤ 9223372036854775807) (hf : Hb l e t) (hv' : Byt w v tag) (hT : Tab w) :
    Calls Tryd.prog 6 #[.int .i64 x, .agg (hv k n c l e t).toArray, v] w fun x w' => x = .returned (.bool true) ∧ Below w.heap.size w w' := by
  by_cases hx : 88 ≤ x ∧ x ≤ 4184
  · obtain ⟨N, rfl⟩ : ∃ N : Nat, x = (N : Int) := ⟨x.toNat, by omega⟩
    exact walk_yes N k n c l e t v tag w hf hv' hT (by omega) (by omega)
  · exact walk_no x k n c l e t v w hT hx

theorem params : ∀ t ∈ Tryd.f6.params.toList, Tryd.prog.readableRec t = true ∧ t < Tryd.prog.types.size := by
  rw [Tryd.params6]
  intro t ht
  simp at ht
  rcases ht with rfl | rfl | rfl
  · exact ⟨by kernel_rfl, of_decide_eq_true (by kernel_rfl)⟩
  · exact ⟨by kernel_rfl, of_decide_eq_true (by kernel_rfl)⟩
  · exact ⟨by kernel_rfl, of_decide_eq_true (by kernel_rfl)⟩

theorem contract (H : Type) (enc : TypeId × Value → H) (W : World) (base : Nat) (args : Array Value) (ds gs : List (DataW H)) (before : List MemPlace)
    (hval : ∀ (j : Nat) t v, Tryd.f6.params[j]? = some t → args[j]? = some v → Value.okWide Tryd.prog W .any base t v)
    (hW : DataW.Whole enc Tryd.prog Tryd.f6.params.toList Rows.headMarksSpec.vars false W args.toList ds gs before) (hL : laidMetH Tryd.prog Rows.headMarksRow.laid W) :
    Calls Tryd.prog 6 args W fun e W' => ∃ v, e = .returned v ∧ Rows.headMarksSpec.post enc Tryd.prog Tryd.f6 false true false false W args v W' := by
  have hW' := hW
  obtain ⟨p, q, hA0, hV, rfl, hfz, hnd⟩ := hW
  have hA : DataW.TrodAll enc Tryd.prog W 0 (fun _ => true) true Tryd.f6.params.toList args.toList ds p := hA0
  rw [Tryd.params6] at hA hval
  obtain ⟨v0, v1, v2, d0, d1, d2, p0, p1, p2, rfl, rfl, rfl, h0, h1, h2⟩ := trodAll_three hA
  obtain ⟨rfl, rfl⟩ := trodVars_none hV
  obtain ⟨x0, rfl, rfl, rfl, w0⟩ := open_int Tryd.underlying3 (hval 0 3 v0 rfl rfl) h0
  obtain ⟨hk1, hn1, hc1, hl1, he1, ht1, rfl, hf1⟩ := head_open (hval 1 25 v1 rfl rfl) h1
  obtain ⟨xs2, b2⟩ := byt_open (hval 2 26 v2 rfl rfl) h2
  clear hA0
  refine (walk x0 hk1 hn1 hc1 hl1 he1 ht1 v2 xs2 W (bounds_i64 w0) hf1 b2 (table hL)).mono fun e W' ⟨he, hg⟩ => ?_
  subst he
  exact ⟨_, rfl, post_law rfl (by kernel_rfl) params rfl rfl rfl hW' hg⟩

theorem laid_met (os : Os) : laidMet Tryd.prog Rows.headMarksRow.laid (({ World.holding Tryd.prog os ⟨#[], #[], []⟩ with heap := (World.holding Tryd.prog os ⟨#[], #[], []⟩).heap.modify 0 fun | .cells _ t frozen => .cells #[.int .i64 1, .int .i64 1, .int .i64 1, .int .i64 1, .int .i64 4, .int .i64 8, .int .i64 8] t frozen | o => o } : World).forCall (fun _ _ => 0) ⟨#[], #[.int .i64 0, .agg #[.int .i64 0, .int .i64 0, .int .i64 0, .int .u32 0, .int .u64 0, .int .u64 0], .slice none 0 0], []⟩).memory :=
  laidMet_of_run' 8 (by kernel_rfl) (by kernel_rfl)
theorem reads (os : Os) {H : Type} (enc : TypeId × Value → H) : ∃ places, DataW.whole enc Tryd.prog (({ World.holding Tryd.prog os ⟨#[], #[], []⟩ with heap := (World.holding Tryd.prog os ⟨#[], #[], []⟩).heap.modify 0 fun | .cells _ t frozen => .cells #[.int .i64 1, .int .i64 1, .int .i64 1, .int .i64 1, .int .i64 4, .int .i64 8, .int .i64 8] t frozen | o => o } : World).forCall (fun _ _ => 0) ⟨#[], #[.int .i64 0, .agg #[.int .i64 0, .int .i64 0, .int .i64 0, .int .u32 0, .int .u64 0, .int .u64 0], .slice none 0 0], []⟩).memory Tryd.f6.params.toList Rows.headMarksSpec.vars false #[Value.int .i64 0, Value.agg #[.int .i64 0, .int .i64 0, .int .i64 0, .int .u32 0, .int .u64 0, .int .u64 0], Value.slice none 0 0].toList 8 = some ([.lit (.int .i64 0), .agg [.lit (.int .i64 0), .lit (.int .i64 0), .lit (.int .i64 0), .lit (.int .u32 0), .lit (.int .u64 0), .lit (.int .u64 0)], .nil], [], places) :=
  ⟨[], by kernel_rfl⟩

set_option maxRecDepth 100000 in
theorem lifted (os : Os) (started : os.Started) (H : Type) (enc : TypeId × Value → H) (F : Stop.Interp) :
    ReturnsInHanded {} Tryd.checked os 6 .any ((OpenSpec.ofChange Rows.headMarksSpec).preRow enc Tryd.prog Tryd.f6 Rows.headMarksRow.domain false Rows.headMarksRow.laid) (((OpenSpec.ofChange Rows.headMarksSpec).at F).post enc Tryd.prog Tryd.f6 false true false false) := by
  obtain ⟨places, hx⟩ := reads os enc
  refine returnsInHanded_of_row (C := Tryd.checked) (s := OpenSpec.ofChange Rows.headMarksSpec) own started (by kernel_rfl) Tryd.func6
    (witness_row_at (enc := enc) (C := Tryd.checked) false ({ World.holding Tryd.prog os ⟨#[], #[], []⟩ with heap := (World.holding Tryd.prog os ⟨#[], #[], []⟩).heap.modify 0 fun | .cells _ t frozen => .cells #[.int .i64 1, .int .i64 1, .int .i64 1, .int .i64 1, .int .i64 4, .int .i64 8, .int .i64 8] t frozen | o => o } : World) #[.int .i64 0, .agg #[.int .i64 0, .int .i64 0, .int .i64 0, .int .u32 0, .int .u64 0, .int .u64 0], .slice none 0 0] rfl (by kernel_rfl) (by kernel_rfl) (by kernel_rfl)
      (OpenSpec.preRow_of_cond 8 hx (by kernel_rfl) (fun k hk => by cases hk) (by kernel_rfl) (laid_met os))) ?_
  intro W base args ds gs before hval hW _ _ _ hL _ _
  exact contract H enc W base args ds gs before hval hW hL

theorem said : Rows.HeadMarksSaid :=
  OpenClaim.holds_of_cond 6 Tryd.f6 rfl rfl rfl rfl rfl rfl rfl ⟨rfl, rfl, rfl, rfl, rfl⟩ rfl rfl rfl rfl rfl (by kernel_rfl) Tryd.func6 (by kernel_rfl)
    (of_decide_eq_true (by kernel_rfl)) (by unfold Func.isWrapper; first | (rw [if_pos (by decide +kernel)]; kernel_rfl) | (rw [if_neg (by decide +kernel)]; exact ⟨rfl, rfl⟩))
    (fun os started H enc _ F => by rw [OpenClaim.pre_eq_preRow]; exact lifted os started H enc F)

theorem plain (f : FuncId) (fn : Func) (hf : Tryd.pinned.checked.prog.funcNamed "nepenthe/nepenthelaw14.HeadMarks" = some f) (hfn : Tryd.pinned.checked.prog.funcs[f]? = some fn) :
    false = Tryd.pinned.checked.prog.looks [] ∧ ∀ (j : Nat) t, fn.params[j]? = some t → Tryd.pinned.checked.prog.wantsStandIn t = false := by
  obtain rfl : f = 6 := Option.some.inj ((show Tryd.prog.funcNamed "nepenthe/nepenthelaw14.HeadMarks" = some 6 by kernel_rfl).symm.trans hf) |>.symm
  obtain rfl : fn = Tryd.f6 := (Option.some.inj (Tryd.func6.symm.trans hfn)).symm
  refine ⟨by kernel_rfl, fun j t ht => ?_⟩
  rw [Tryd.params6] at ht
  have hm := Array.mem_of_getElem? ht
  simp at hm
  rcases hm with rfl | rfl | rfl
  · exact (show Tryd.prog.wantsStandIn 3 = false by kernel_rfl)
  · exact (show Tryd.prog.wantsStandIn 25 = false by kernel_rfl)
  · exact (show Tryd.prog.wantsStandIn 26 = false by kernel_rfl)
end Go.Proofs.YtjlnalfbaojedaaDoor.headMarks

namespace Go.Proofs.YtjlnalfbaojedaaDoor
theorem headMarks_card : Rows.HeadMarksCardSaid :=
  Claim7.holds_tied_plain_at .later [] _ _ _ _ headMarks.said (fun _ h => by cases h) (by kernel_rfl) (fun _ h => by cases h) headMarks_row_tie rfl ⟨rfl, rfl⟩ (by kernel_rfl) rfl headMarks.plain (by kernel_rfl)
#print axioms headMarks_card
end Go.Proofs.YtjlnalfbaojedaaDoor

