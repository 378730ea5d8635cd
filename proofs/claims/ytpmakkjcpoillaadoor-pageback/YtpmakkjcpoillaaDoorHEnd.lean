/- What head's isWhole, Committed, Mark and End, and the reference's Committed answer. No claim of its own. -/
import Derived.Test.YtpmakkjcpoillaaDoorHStp
namespace Go.Proofs.YtpmakkjcpoillaaDoor.he
open Go.RowKit Go.Proofs.YtpmakkjcpoillaaDoor.fa
set_option maxRecDepth 20000

set_option maxHeartbeats 2000000 in
theorem whole_any (v : Value) (xs : List Int) (w : World) (hb : Byt w v xs) (hl : xs.length = 88) :
    Calls Tryd.prog 50 #[v] w fun x w' => x = .returned (.bool (decide (inv (sub xs 0 24) = sub xs 24 48))) ∧ Below w.heap.size w w' := by
  have HB : Hid (Byt w v xs) := hb
  obtain ⟨ao, cap, hv⟩ := byt_form hb hl
  subst hv
  have HL : Hid (xs.length = 88) := hl
  clear hb hl
  generalize hZ : inv (sub xs 0 24) = Z
  have HZ : Hid (inv (sub xs 0 24) = Z) := hZ
  clear hZ
  go_enter Tryd.func50, Tryd.ntmps50
  go_wp2
  refine wp_region_held_drew (S := fun w' => Below w.heap.size w w') (by kernel_rfl) (Below.refl _ _).drew (fun hS => ?_)
  obtain ⟨x1, hx0⟩ : ∃ x, x = w.drew := ⟨_, rfl⟩
  rw [← hx0] at hS  ⊢
  clear hx0
  refine take_lawH 0 (some 3) (.slice ao 88 cap) rfl rfl (by kernel_rfl) (by kernel_rfl) (by kernel_rfl) (fun _ _ _ h => h) (Or.inl ⟨by rfl, fun w' hw' => by rfl⟩) hS ?_
  simp only [Act.put, List.setIfInBounds_toArray, List.set_cons_zero, List.set_cons_succ]
  refine take_lawH 1 (some 4) (sl (.slice ao 88 cap) 0 24) rfl rfl (by kernel_rfl) (by kernel_rfl) (by kernel_rfl) (fun _ _ _ h => h) (Or.inl ⟨by rfl, fun w' hw' => by exact exec_to (.tmp 3) (.const (.int .i64 24)) rfl _ xs _ HB.out 24 rfl rfl (by have := HL.out; omega) _⟩) hS ?_
  simp only [Act.put, List.setIfInBounds_toArray, List.set_cons_zero, List.set_cons_succ]
  refine take_lawH 3 (some 6) (.slice ao 88 cap) rfl rfl (by kernel_rfl) (by kernel_rfl) (by kernel_rfl) (fun _ _ _ h => h) (Or.inl ⟨by rfl, fun w' hw' => by rfl⟩) hS ?_
  simp only [Act.put, List.setIfInBounds_toArray, List.set_cons_zero, List.set_cons_succ]
  refine take_lawH 4 (some 7) (sl (.slice ao 88 cap) 24 48) rfl rfl (by kernel_rfl) (by kernel_rfl) (by kernel_rfl) (fun _ _ _ h => h) (Or.inl ⟨by rfl, fun w' hw' => by exact exec_part (.tmp 6) (.const (.int .i64 24)) (.const (.int .i64 48)) rfl _ xs _ HB.out 24 48 rfl rfl rfl (by omega) (by have := HL.out; omega) _⟩) hS ?_
  simp only [Act.put, List.setIfInBounds_toArray, List.set_cons_zero, List.set_cons_succ]
  refine wpAnyH_ready (rs := [2]) (by kernel_rfl) (by simp) ?_
  refine AllReadyH.cons rfl (fun K hK => ?_) AllReadyH.nil
  refine step_callW _ (by rfl) (some 5) rfl 45 #[.tmp 4] #[28] rfl (fun q w' => by rfl) #[sl (.slice ao 88 cap) 0 24] (by simp only [List.map_toArray, List.map_cons, List.map_nil]; rfl) (fun u w' => Byt w' u Z ∧ Below x1.heap.size x1 w') ?_ ?_
  · exact (invert_any _ _ x1 (sl_sub (HB.out.below hS) 0 24 (by omega) (by have := HL.out; omega)) (by rw [sub_len _ _ _ (by have := HL.out; omega)]; omega)).mono fun e w' ⟨u, h1, h2, h3⟩ => ⟨u, h1, by rw [HZ.out] at h2; exact h2, h3⟩
  rintro u1 x2 ⟨y1, hb⟩
  have Y1 : Hid (Byt x2 u1 Z) := y1
  clear y1
  have hS : Below w.heap.size w x2 := hS.trans (hb.mono hS.size)
  clear hb
  refine hK.out _ _ hS (fun _ => ?_)
  simp only [Act.put, List.setIfInBounds_toArray, List.set_cons_zero, List.set_cons_succ]
  clear hK K
  refine wpAnyH_ready (rs := [5]) (by kernel_rfl) (by simp) ?_
  refine AllReadyH.cons rfl (fun K hK => ?_) AllReadyH.nil
  refine step_callW _ (by rfl) (some 8) rfl 52 #[.tmp 5, .tmp 7] #[28, 28] rfl (fun q w' => by rfl) #[u1, sl (.slice ao 88 cap) 24 48] (by simp only [List.map_toArray, List.map_cons, List.map_nil]; rfl) (fun u w' => u = .bool (decide (Z = sub xs 24 48)) ∧ Below x2.heap.size x2 w') ?_ ?_
  · exact (oSame_any _ _ _ _ x2 Y1.out (sl_sub (HB.out.below hS) 24 48 (by omega) (by have := HL.out; omega))).mono fun e w' ⟨h1, n, h2⟩ => ⟨_, h1, rfl, by rw [h2]; exact below_drawn (Below.refl _ _) n⟩
  rintro _ x3 ⟨rfl, hb⟩
  have hS : Below w.heap.size w x3 := hS.trans (hb.mono hS.size)
  clear hb
  refine hK.out _ _ hS (fun _ => ?_)
  simp only [Act.put, List.setIfInBounds_toArray, List.set_cons_zero, List.set_cons_succ]
  clear hK K
  refine take_lawH 6 (some 2) (.bool (decide (Z = sub xs 24 48))) rfl rfl (by kernel_rfl) (by kernel_rfl) (by kernel_rfl) (fun _ _ _ h => h) (Or.inl ⟨by rfl, fun w' hw' => by rfl⟩) hS ?_
  simp only [Act.put, List.setIfInBounds_toArray, List.set_cons_zero, List.set_cons_succ]
  refine wpAnyH_done (by kernel_rfl) ?_ _
  go_wp2
  go_ret
  exact ⟨rfl, hS⟩

set_option maxHeartbeats 2000000 in
theorem comm_yes (v : Value) (xs : List Int) (w : World) (hb : Byt w v xs) (hl : xs.length = 88) :
    Calls Tryd.prog 36 #[v] w fun x w' => x = .returned (.bool (decide (xs.drop 80 = List.replicate 8 0))) ∧ Below w.heap.size w w' := by
  have HB : Hid (Byt w v xs) := hb
  obtain ⟨ao, cap, hv⟩ := byt_form hb hl
  subst hv
  have HL : Hid (xs.length = 88) := hl
  clear hb hl
  have SF : Hid (∀ w, Calls Tryd.prog 24 #[.int .u8 0, .int .i64 8] w fun e w' => ∃ v, e = .returned v ∧ Byt w' v (List.replicate 8 0) ∧ Below w.heap.size w w') := fun w => by
    have := fill_any 0 8 w (by omega)
    rw [show clamp 8 65536 = 8 by decide] at this
    exact this
  have HD : Hid (∀ w', Byt w' (.slice ao 88 cap) xs → Byt w' (sl (.slice ao 88 cap) 80 88) (xs.drop 80)) := fun w' h => by
    have := sl_from h 80 (by have := HL.out; omega)
    rw [HL.out] at this
    exact this
  generalize List.replicate 8 (0 : Int) = Z at *
  generalize xs.drop 80 = D at *
  go_enter Tryd.func36, Tryd.ntmps36
  go_wp2
  refine wp_region_held_drew (S := fun w' => Below w.heap.size w w') (by kernel_rfl) (Below.refl _ _).drew (fun hS => ?_)
  obtain ⟨x1, hx0⟩ : ∃ x, x = w.drew := ⟨_, rfl⟩
  rw [← hx0] at hS  ⊢
  clear hx0
  refine take_lawH 0 (some 3) (.slice ao 88 cap) rfl rfl (by kernel_rfl) (by kernel_rfl) (by kernel_rfl) (fun _ _ _ h => h) (Or.inl ⟨by rfl, fun w' hw' => by rfl⟩) hS ?_
  simp only [Act.put, List.setIfInBounds_toArray, List.set_cons_zero, List.set_cons_succ]
  refine take_lawH 1 (some 4) (.int .i64 88) rfl rfl (by kernel_rfl) (by kernel_rfl) (by kernel_rfl) (fun _ _ _ h => h) (Or.inl ⟨by rfl, fun w' hw' => by go_simp⟩) hS ?_
  simp only [Act.put, List.setIfInBounds_toArray, List.set_cons_zero, List.set_cons_succ]
  refine take_lawH 2 (some 5) (.bool true) rfl rfl (by kernel_rfl) (by kernel_rfl) (by kernel_rfl) (fun _ _ _ h => h) (Or.inl ⟨by rfl, fun w' hw' => by go_simp⟩) hS ?_
  simp only [Act.put, List.setIfInBounds_toArray, List.set_cons_zero, List.set_cons_succ]
  refine take_lawH 3 (some 6) (.bool true) rfl rfl (by kernel_rfl) (by kernel_rfl) (by kernel_rfl) (fun _ _ _ h => h) (Or.inl ⟨by rfl, fun w' hw' => by rfl⟩) hS ?_
  simp only [Act.put, List.setIfInBounds_toArray, List.set_cons_zero, List.set_cons_succ]
  refine take_lawH 4 (some 7) (.slice ao 88 cap) rfl rfl (by kernel_rfl) (by kernel_rfl) (by kernel_rfl) (fun _ _ _ h => h) (Or.inl ⟨by rfl, fun w' hw' => by rfl⟩) hS ?_
  simp only [Act.put, List.setIfInBounds_toArray, List.set_cons_zero, List.set_cons_succ]
  refine take_lawH 5 (some 8) (sl (.slice ao 88 cap) 80 88) rfl rfl (by kernel_rfl) (by kernel_rfl) (by kernel_rfl) (fun _ _ _ h => h) (Or.inl ⟨by rfl, fun w' hw' => by exact exec_from (.tmp 7) (.const (.int .i64 80)) rfl _ xs _ HB.out 80 88 rfl rfl HL.out (by omega) _⟩) hS ?_
  simp only [Act.put, List.setIfInBounds_toArray, List.set_cons_zero, List.set_cons_succ]
  refine wpAnyH_ready (rs := [6]) (by kernel_rfl) (by simp) ?_
  refine AllReadyH.cons rfl (fun K hK => ?_) AllReadyH.nil
  refine step_callW _ (by rfl) (some 9) rfl 24 #[.const (.int .u8 0), .const (.int .i64 8)] #[5, 3] rfl (fun q w' => by rfl) #[.int .u8 0, .int .i64 8] (by simp only [List.map_toArray, List.map_cons, List.map_nil]; rfl) (fun u w' => Byt w' u Z ∧ Below x1.heap.size x1 w') ?_ ?_
  · exact SF.out x1
  rintro u1 x2 ⟨y1, hb⟩
  have Y1 : Hid (Byt x2 u1 Z) := y1
  clear y1
  have hS : Below w.heap.size w x2 := hS.trans (hb.mono hS.size)
  clear hb
  refine hK.out _ _ hS (fun _ => ?_)
  simp only [Act.put, List.setIfInBounds_toArray, List.set_cons_zero, List.set_cons_succ]
  clear hK K
  refine wpAnyH_ready (rs := [7]) (by kernel_rfl) (by simp) ?_
  refine AllReadyH.cons rfl (fun K hK => ?_) AllReadyH.nil
  refine step_callW _ (by rfl) (some 10) rfl 52 #[.tmp 8, .tmp 9] #[28, 28] rfl (fun q w' => by rfl) #[sl (.slice ao 88 cap) 80 88, u1] (by simp only [List.map_toArray, List.map_cons, List.map_nil]; rfl) (fun u w' => u = .bool (decide (D = Z)) ∧ Below x2.heap.size x2 w') ?_ ?_
  · exact (oSame_any _ _ _ _ x2 (HD.out _ (HB.out.below hS)) Y1.out).mono fun e w' ⟨h1, n, h2⟩ => ⟨_, h1, rfl, by rw [h2]; exact below_drawn (Below.refl _ _) n⟩
  rintro _ x3 ⟨rfl, hb⟩
  have hS : Below w.heap.size w x3 := hS.trans (hb.mono hS.size)
  clear hb
  refine hK.out _ _ hS (fun _ => ?_)
  simp only [Act.put, List.setIfInBounds_toArray, List.set_cons_zero, List.set_cons_succ]
  clear hK K
  refine take_lawH 8 (some 11) (.bool (decide (D = Z))) rfl rfl (by kernel_rfl) (by kernel_rfl) (by kernel_rfl) (fun _ _ _ h => h) (Or.inl ⟨by rfl, fun w' hw' => by rfl⟩) hS ?_
  simp only [Act.put, List.setIfInBounds_toArray, List.set_cons_zero, List.set_cons_succ]
  refine take_lawH 9 (some 2) (.bool (decide (D = Z))) rfl rfl (by kernel_rfl) (by kernel_rfl) (by kernel_rfl) (fun _ _ _ h => h) (Or.inl ⟨by rfl, fun w' hw' => by rfl⟩) hS ?_
  simp only [Act.put, List.setIfInBounds_toArray, List.set_cons_zero, List.set_cons_succ]
  refine wpAnyH_done (by kernel_rfl) ?_ _
  go_wp2
  go_ret
  exact ⟨rfl, hS⟩

set_option maxHeartbeats 2000000 in
theorem rcomm_any (v : Value) (xs : List Int) (w : World) (hb : Byt w v xs) (hl : xs.length = 88) :
    Calls Tryd.prog 38 #[v] w fun x w' => x = .returned (.bool (decide (xs.drop 80 = List.replicate 8 0))) ∧ Below w.heap.size w w' := by
  have HB : Hid (Byt w v xs) := hb
  obtain ⟨ao, cap, hv⟩ := byt_form hb hl
  subst hv
  have HL : Hid (xs.length = 88) := hl
  clear hb hl
  have SF : Hid (∀ w, Calls Tryd.prog 18 #[.int .u8 0, .int .i64 8] w fun e w' => ∃ v, e = .returned v ∧ Byt w' v (List.replicate 8 0) ∧ Below w.heap.size w w') := fun w => by
    have := rfill_any 0 8 w (by omega)
    rw [show clamp 8 65536 = 8 by decide] at this
    exact this
  have HD : Hid (∀ w', Byt w' (.slice ao 88 cap) xs → Byt w' (sl (.slice ao 88 cap) 80 88) (xs.drop 80)) := fun w' h => by
    have := sl_from h 80 (by have := HL.out; omega)
    rw [HL.out] at this
    exact this
  generalize List.replicate 8 (0 : Int) = Z at *
  generalize xs.drop 80 = D at *
  go_enter Tryd.func38, Tryd.ntmps38
  go_wp2
  refine wp_region_held_drew (S := fun w' => Below w.heap.size w w') (by kernel_rfl) (Below.refl _ _).drew (fun hS => ?_)
  obtain ⟨x1, hx0⟩ : ∃ x, x = w.drew := ⟨_, rfl⟩
  rw [← hx0] at hS  ⊢
  clear hx0
  refine take_lawH 0 (some 3) (.slice ao 88 cap) rfl rfl (by kernel_rfl) (by kernel_rfl) (by kernel_rfl) (fun _ _ _ h => h) (Or.inl ⟨by rfl, fun w' hw' => by rfl⟩) hS ?_
  simp only [Act.put, List.setIfInBounds_toArray, List.set_cons_zero, List.set_cons_succ]
  refine take_lawH 1 (some 4) (sl (.slice ao 88 cap) 80 88) rfl rfl (by kernel_rfl) (by kernel_rfl) (by kernel_rfl) (fun _ _ _ h => h) (Or.inl ⟨by rfl, fun w' hw' => by exact exec_from (.tmp 3) (.const (.int .i64 80)) rfl _ xs _ HB.out 80 88 rfl rfl HL.out (by omega) _⟩) hS ?_
  simp only [Act.put, List.setIfInBounds_toArray, List.set_cons_zero, List.set_cons_succ]
  refine wpAnyH_ready (rs := [2]) (by kernel_rfl) (by simp) ?_
  refine AllReadyH.cons rfl (fun K hK => ?_) AllReadyH.nil
  refine step_callW _ (by rfl) (some 5) rfl 18 #[.const (.int .u8 0), .const (.int .i64 8)] #[5, 3] rfl (fun q w' => by rfl) #[.int .u8 0, .int .i64 8] (by simp only [List.map_toArray, List.map_cons, List.map_nil]; rfl) (fun u w' => Byt w' u Z ∧ Below x1.heap.size x1 w') ?_ ?_
  · exact SF.out x1
  rintro u1 x2 ⟨y1, hb⟩
  have Y1 : Hid (Byt x2 u1 Z) := y1
  clear y1
  have hS : Below w.heap.size w x2 := hS.trans (hb.mono hS.size)
  clear hb
  refine hK.out _ _ hS (fun _ => ?_)
  simp only [Act.put, List.setIfInBounds_toArray, List.set_cons_zero, List.set_cons_succ]
  clear hK K
  refine wpAnyH_ready (rs := [3]) (by kernel_rfl) (by simp) ?_
  refine AllReadyH.cons rfl (fun K hK => ?_) AllReadyH.nil
  refine step_callW _ (by rfl) (some 6) rfl 11 #[.tmp 4, .tmp 5] #[28, 28] rfl (fun q w' => by rfl) #[sl (.slice ao 88 cap) 80 88, u1] (by simp only [List.map_toArray, List.map_cons, List.map_nil]; rfl) (fun u w' => u = .bool (decide (D = Z)) ∧ Below x2.heap.size x2 w') ?_ ?_
  · exact (same_any x2 _ _ _ _ (HD.out _ (HB.out.below hS)) Y1.out).mono fun e w' ⟨h1, n, h2⟩ => ⟨_, h1, rfl, by rw [h2]; exact below_drawn (Below.refl _ _) n⟩
  rintro _ x3 ⟨rfl, hb⟩
  have hS : Below w.heap.size w x3 := hS.trans (hb.mono hS.size)
  clear hb
  refine hK.out _ _ hS (fun _ => ?_)
  simp only [Act.put, List.setIfInBounds_toArray, List.set_cons_zero, List.set_cons_succ]
  clear hK K
  refine take_lawH 4 (some 2) (.bool (decide (D = Z))) rfl rfl (by kernel_rfl) (by kernel_rfl) (by kernel_rfl) (fun _ _ _ h => h) (Or.inl ⟨by rfl, fun w' hw' => by rfl⟩) hS ?_
  simp only [Act.put, List.setIfInBounds_toArray, List.set_cons_zero, List.set_cons_succ]
  refine wpAnyH_done (by kernel_rfl) ?_ _
  go_wp2
  go_ret
  exact ⟨rfl, hS⟩

set_option maxHeartbeats 2000000 in
theorem comm_no (v : Value) (xs : List Int) (w : World) (hb : Byt w v xs) (hl : xs.length ≠ 88) :
    Calls Tryd.prog 36 #[v] w fun x w' => x = .returned (.bool false) ∧ Below w.heap.size w w' := by
  have hlen := hb.len
  obtain ⟨ao, cap, rfl, h1, h2, -⟩ := hb
  have HN : Hid (((xs.length : Int) == 88) = false) := by
    show _ = _
    rw [beq_eq_false_iff_ne]; omega
  generalize xs.length = n at *
  clear hl hlen h1 h2
  go_enter Tryd.func36, Tryd.ntmps36
  go_wp2
  refine wp_region_held_drew (S := fun w' => Below w.heap.size w w') (by kernel_rfl) (Below.refl _ _).drew (fun hS => ?_)
  obtain ⟨x1, hx0⟩ : ∃ x, x = w.drew := ⟨_, rfl⟩
  rw [← hx0] at hS  ⊢
  clear hx0
  refine take_lawH 0 (some 3) (.slice ao n cap) rfl rfl (by kernel_rfl) (by kernel_rfl) (by kernel_rfl) (fun _ _ _ h => h) (Or.inl ⟨by rfl, fun w' hw' => by rfl⟩) hS ?_
  simp only [Act.put, List.setIfInBounds_toArray, List.set_cons_zero, List.set_cons_succ]
  refine take_lawH 1 (some 4) (.int .i64 (n : Int)) rfl rfl (by kernel_rfl) (by kernel_rfl) (by kernel_rfl) (fun _ _ _ h => h) (Or.inl ⟨by rfl, fun w' hw' => by go_simp⟩) hS ?_
  simp only [Act.put, List.setIfInBounds_toArray, List.set_cons_zero, List.set_cons_succ]
  refine take_lawH 2 (some 5) (.bool false) rfl rfl (by kernel_rfl) (by kernel_rfl) (by kernel_rfl) (fun _ _ _ h => h) (Or.inl ⟨by rfl, fun w' hw' => by rw [show Value.bool false = .bool ((n : Int) == 88) by rw [HN.out]]; rfl⟩) hS ?_
  simp only [Act.put, List.setIfInBounds_toArray, List.set_cons_zero, List.set_cons_succ]
  refine take_lawH 3 (some 6) (.bool false) rfl rfl (by kernel_rfl) (by kernel_rfl) (by kernel_rfl) (fun _ _ _ h => h) (Or.inl ⟨by rfl, fun w' hw' => by rfl⟩) hS ?_
  simp only [Act.put, List.setIfInBounds_toArray, List.set_cons_zero, List.set_cons_succ]
  refine take_lawH 4 (some 7) (undef) rfl rfl (by kernel_rfl) (by kernel_rfl) (by kernel_rfl) (fun _ _ _ h => h) (Or.inr ⟨by rfl, rfl⟩) hS ?_
  simp only [Act.put, List.setIfInBounds_toArray, List.set_cons_zero, List.set_cons_succ]
  refine take_lawH 5 (some 8) (undef) rfl rfl (by kernel_rfl) (by kernel_rfl) (by kernel_rfl) (fun _ _ _ h => h) (Or.inr ⟨by rfl, rfl⟩) hS ?_
  simp only [Act.put, List.setIfInBounds_toArray, List.set_cons_zero, List.set_cons_succ]
  refine take_lawH 6 (some 9) (undef) rfl rfl (by kernel_rfl) (by kernel_rfl) (by kernel_rfl) (fun _ _ _ h => h) (Or.inr ⟨by rfl, rfl⟩) hS ?_
  simp only [Act.put, List.setIfInBounds_toArray, List.set_cons_zero, List.set_cons_succ]
  refine take_lawH 7 (some 10) (undef) rfl rfl (by kernel_rfl) (by kernel_rfl) (by kernel_rfl) (fun _ _ _ h => h) (Or.inr ⟨by rfl, rfl⟩) hS ?_
  simp only [Act.put, List.setIfInBounds_toArray, List.set_cons_zero, List.set_cons_succ]
  refine take_lawH 8 (some 11) (.bool false) rfl rfl (by kernel_rfl) (by kernel_rfl) (by kernel_rfl) (fun _ _ _ h => h) (Or.inl ⟨by rfl, fun w' hw' => by rfl⟩) hS ?_
  simp only [Act.put, List.setIfInBounds_toArray, List.set_cons_zero, List.set_cons_succ]
  refine take_lawH 9 (some 2) (.bool false) rfl rfl (by kernel_rfl) (by kernel_rfl) (by kernel_rfl) (fun _ _ _ h => h) (Or.inl ⟨by rfl, fun w' hw' => by rfl⟩) hS ?_
  simp only [Act.put, List.setIfInBounds_toArray, List.set_cons_zero, List.set_cons_succ]
  refine wpAnyH_done (by kernel_rfl) ?_ _
  go_wp2
  go_ret
  exact ⟨rfl, hS⟩

/-! ### a mark -/
theorem mark_no (n : Int) (w : World) (h : ¬ (88 ≤ n ∧ n ≤ 4184)) : Calls Tryd.prog 27 #[.int .i64 n] w fun x w' => x = .returned (.slice none 0 0) ∧ w' = w := by
  by_cases a1 : n < 88
  · clear h
    go_enter Tryd.func27, Tryd.ntmps27
    go_wp2
    go_ret
    exact ⟨rfl, rfl⟩
  · have a2 : n > 4184 := by omega
    clear h
    go_enter Tryd.func27, Tryd.ntmps27
    go_wp2
    go_ret
    exact ⟨rfl, rfl⟩

set_option maxHeartbeats 2000000 in
theorem mark_yes (n : Nat) (w : World) (h1 : 88 ≤ n) (h2 : n ≤ 4184) : Calls Tryd.prog 27 #[.int .i64 (n : Int)] w fun x w' => ∃ v, x = .returned v ∧ Own w.heap.size w' v (mark n) ∧ Below w.heap.size w w' := by
  have a1 : ¬ (n : Int) < 88 := by omega
  have a2 : ¬ (n : Int) > 4184 := by omega
  obtain ⟨k, hk⟩ : ∃ k : Nat, n = k + 8 := ⟨n - 8, by omega⟩
  have e : mark n = List.replicate k 255 ++ List.replicate 8 0 := by unfold mark; rw [hk, Nat.add_sub_cancel]
  have k1 : IntKind.i64.wrap ((n : Int) - 8) = (k : Int) := by rw [IntKind.wrap_i64]; omega
  have S1 : Hid (∀ w, Calls Tryd.prog 24 #[.int .u8 255, .int .i64 (k : Int)] w fun e w' => ∃ v, e = .returned v ∧ Byt w' v (List.replicate k 255) ∧ Below w.heap.size w w') := fun w => by
    have := fill_any 255 (k : Int) w (by omega)
    rw [show clamp (k : Int) 65536 = k by unfold clamp; omega] at this
    exact this
  have S2 : Hid (∀ w, Calls Tryd.prog 24 #[.int .u8 0, .int .i64 8] w fun e w' => ∃ v, e = .returned v ∧ Byt w' v (List.replicate 8 0) ∧ Below w.heap.size w w') := fun w => by
    have := fill_any 0 8 w (by omega)
    rw [show clamp 8 65536 = 8 by decide] at this
    exact this
  have L1 : Hid ((List.replicate k (255 : Int)).length = k ∧ (List.replicate 8 (0 : Int)).length = 8 ∧ 80 ≤ k ∧ k ≤ 4176) := ⟨by simp, by simp, by omega, by omega⟩
  rw [e]
  generalize List.replicate k (255 : Int) = X at *
  generalize List.replicate 8 (0 : Int) = Y at *
  clear e hk h1 h2
  have t0 : (0 : Nat) = 0 := rfl
  go_enter Tryd.func27, Tryd.ntmps27
  go_wp2_with (first
    | (have q2 := t2; go_at_call 44; refine (cat2_any _ _ _ X Y (Y1.out.below B2) Y2.out (by have := L1.out; omega) (by have := L1.out; omega) (by have := L1.out; omega)).mono ?_; rintro e9 w3 ⟨r, rfl, o3, B3⟩; have O3 : Hid (Own w2.heap.size w3 r (X ++ Y)) := o3; clear o3 t2)
    | (have q1 := t1; go_at_call 24; refine (S2.out _).mono ?_; rintro e9 w2 ⟨v2, rfl, y2, B2⟩; have Y2 : Hid (Byt w2 v2 Y) := y2; obtain ⟨bo, bc, rfl⟩ := byt_form y2 L1.out.2.1; clear y2 t1; have t2 : (0 : Nat) = 0 := rfl)
    | (have q0 := t0; go_at_call 24; refine (S1.out _).mono ?_; rintro e9 w1 ⟨v1, rfl, y1, B1⟩; have Y1 : Hid (Byt w1 v1 X) := y1; obtain ⟨ao, ac, rfl⟩ := byt_form y1 L1.out.1; clear y1 t0; have t1 : (0 : Nat) = 0 := rfl))
  go_ret
  have z1 := B1.size
  have z2 := B2.size
  exact ⟨_, rfl, own_less O3.out (by omega), (B1.trans (B2.mono z1)).trans (B3.mono (by omega))⟩

/-! ### an end -/
set_option maxHeartbeats 2000000 in
theorem end_no (k n c l e t : Int) (v : Value) (tag : List Int) (w : World) (hb' : Byt w v tag) (hl : 0 ≤ l ∧ l ≤ 4294967295) (he : 0 ≤ e ∧ e ≤ 18446744073709551615) (ht : 0 ≤ t ∧ t ≤ 18446744073709551615) (hT : Tab w) (h : ¬ (Rh k n c ∧ (tag.length = 0 ∨ tag.length = 32))) :
    Calls Tryd.prog 25 #[.agg (hv k n c l e t).toArray, v] w fun x w' => x = .returned (.tuple #[.slice none 0 0, .int .i64 2]) ∧ Below w.heap.size w w' := by
  have t0 : (0 : Nat) = 0 := rfl
  by_cases hr : Rh k n c
  · have hn : tag.length ≠ 0 ∧ tag.length ≠ 32 := ⟨fun q => h ⟨hr, .inl q⟩, fun q => h ⟨hr, .inr q⟩⟩
    have SB : Hid (∀ w', Below w.heap.size w w' → Calls Tryd.prog 43 #[.agg (hv k n c l e t).toArray] w' fun x w'' => ∃ v, x = .returned (.tuple #[v, .int .i64 0]) ∧ Own w'.heap.size w'' v (hb k n c l e t) ∧ Below w'.heap.size w' w'') := fun w' q => hbytes_yes k n c l e t w' hr hl he ht (hT.below q)
    obtain ⟨ao, cap, rfl, h1, h2, -⟩ := hb'
    have a1 : ((tag.length : Int) == 0) = false := by rw [beq_eq_false_iff_ne]; omega
    have a2 : ((tag.length : Int) == 32) = false := by rw [beq_eq_false_iff_ne]; omega
    generalize tag.length = m at *
    generalize hb k n c l e t = Z at *
    clear h hr hn hT h1 h2 hl he ht
    go_enter Tryd.func25, Tryd.ntmps25
    go_wp2_with (first
      | (have q2 := t2; go_at_call 43; refine (SB.out _ B1).mono ?_; rintro e9 w2 ⟨v2, rfl, o2, B2⟩; clear o2 t2)
      | (have q1 := t1; refine load_lawC _ rfl (hv k n c l e t) w.heap.size 0 rfl HV.out.1 rowy_head ?_; clear t1; have t2 : (0 : Nat) = 0 := rfl)
      | (have q0 := t0; refine box_lawC _ (hv k n c l e t) rfl ?_; intro w1 V1 B1 s1; have HV : Hid (Vr w1 w.heap.size (hv k n c l e t)) := V1; clear V1 t0; have t1 : (0 : Nat) = 0 := rfl))
    go_ret2
    exact ⟨rfl, B1.trans (B2.mono B1.size)⟩
  · have SB : Hid (∀ w', Calls Tryd.prog 43 #[.agg (hv k n c l e t).toArray] w' fun x w'' => x = .returned (.tuple #[.slice none 0 0, .int .i64 2]) ∧ Below w'.heap.size w' w'') := fun w' => hbytes_no k n c l e t w' hr
    clear h hr hT hl he ht
    go_enter Tryd.func25, Tryd.ntmps25
    go_wp2_with (first
      | (have q2 := t2; go_at_call 43; refine (SB.out _).mono ?_; rintro e9 w2 ⟨rfl, B2⟩; clear t2)
      | (have q1 := t1; refine load_lawC _ rfl (hv k n c l e t) w.heap.size 0 rfl HV.out.1 rowy_head ?_; clear t1; have t2 : (0 : Nat) = 0 := rfl)
      | (have q0 := t0; refine box_lawC _ (hv k n c l e t) rfl ?_; intro w1 V1 B1 s1; have HV : Hid (Vr w1 w.heap.size (hv k n c l e t)) := V1; clear V1 t0; have t1 : (0 : Nat) = 0 := rfl))
    go_ret2
    exact ⟨rfl, B1.trans (B2.mono B1.size)⟩

/-- the tag that an end bears -/
def tgo (tag : List Int) : List Int := if tag.length = 0 then List.replicate 32 255 else tag
theorem tgo_len {tag : List Int} (h : tag.length = 0 ∨ tag.length = 32) : (tgo tag).length = 32 := by
  unfold tgo
  split
  · simp
  · omega
theorem tgo_all {tag : List Int} (h : AllB tag) : AllB (tgo tag) := by
  unfold tgo
  split
  · exact allB_replicate 255 32 (by omega)
  · exact h

set_option maxHeartbeats 4000000 in
theorem end_tag (k n c l e t : Int) (v : Value) (tag : List Int) (w : World) (hb' : Byt w v tag) (hl : 0 ≤ l ∧ l ≤ 4294967295) (he : 0 ≤ e ∧ e ≤ 18446744073709551615) (ht : 0 ≤ t ∧ t ≤ 18446744073709551615) (hT : Tab w) (hr : Rh k n c) (h32 : tag.length = 32) :
    Calls Tryd.prog 25 #[.agg (hv k n c l e t).toArray, v] w fun x w' => ∃ v, x = .returned (.tuple #[v, .int .i64 0]) ∧ Own w.heap.size w' v (hend (hb k n c l e t) (tgo tag) (List.replicate 8 255)) ∧ Below w.heap.size w w' := by
  have hn : tag.length = 0 ∨ tag.length = 32 := .inr h32
  have SB : Hid (∀ w', Below w.heap.size w w' → Calls Tryd.prog 43 #[.agg (hv k n c l e t).toArray] w' fun x w'' => ∃ v, x = .returned (.tuple #[v, .int .i64 0]) ∧ Own w'.heap.size w'' v (hb k n c l e t) ∧ Below w'.heap.size w' w'') := fun w' q => hbytes_yes k n c l e t w' hr hl he ht (hT.below q)
  have SM : Hid (∀ w, Calls Tryd.prog 24 #[.int .u8 255, .int .i64 8] w fun e w' => ∃ v, e = .returned v ∧ Byt w' v (List.replicate 8 255) ∧ Below w.heap.size w w') := fun w => by
    have := fill_any 255 8 w (by omega)
    rw [show clamp 8 65536 = 8 by decide] at this
    exact this
  have AZ : Hid (AllB (hb k n c l e t)) := hb_all hr l e t
  have LN : Hid ((hb k n c l e t).length = 24 ∧ (inv (hb k n c l e t)).length = 24 ∧ (tgo tag).length = 32 ∧ (List.replicate 8 (255 : Int)).length = 8) := ⟨hb_len _ _ _ _ _ _, by rw [inv_len, hb_len], tgo_len hn, by simp⟩
  have eT : tgo tag = tag := by unfold tgo; rw [if_neg (by omega)]
  have HB0 : Hid (∀ w', Below w.heap.size w w' → Byt w' v (tgo tag)) := fun w' q => by rw [eT]; exact hb'.below q
  obtain ⟨ao, cap, rfl⟩ := byt_form hb' h32
  unfold hend
  generalize hb k n c l e t = Z at *
  generalize tgo tag = TG at *
  generalize List.replicate 8 (255 : Int) = M8 at *
  clear hb' hn hr hT hl he ht eT h32
  have t0 : (0 : Nat) = 0 := rfl
  go_enter Tryd.func25, Tryd.ntmps25
  go_wp2_with (first
      | (have q5 := t5; go_at_call 44; refine (cat4_any _ _ _ _ _ Z (inv Z) TG M8 (((O2.out.byt AZ.out).below B3).below B4) (Y3.out.below B4) (YT.out.below (B3.trans (B4.mono B3.size))) Y4.out (by have := LN.out; omega) (by have := LN.out; omega) (by have := LN.out; omega) (by have := LN.out; omega) (by have := LN.out; omega)).mono ?_; rintro e9 w5 ⟨r, rfl, o5, B5⟩; have O5 : Hid (Own w4.heap.size w5 r (Z ++ (inv Z ++ (TG ++ M8)))) := o5; clear o5 t5)
      | (have q4 := t4; go_at_call 24; refine (SM.out _).mono ?_; rintro e9 w4 ⟨v4, rfl, y4, B4⟩; have Y4 : Hid (Byt w4 v4 M8) := y4; obtain ⟨do4, dc, rfl⟩ := byt_form y4 LN.out.2.2.2; clear y4 t4; have t5 : (0 : Nat) = 0 := rfl)
      | (have q3 := t3; go_at_call 45; refine (invert_any _ Z _ YZ.out (by have := LN.out; omega)).mono ?_; rintro e9 w3 ⟨v3, rfl, y3, B3⟩; have Y3 : Hid (Byt w3 v3 (inv Z)) := y3; obtain ⟨io, ic, rfl⟩ := byt_form y3 LN.out.2.1; clear y3 t3; have t4 : (0 : Nat) = 0 := rfl)
      | (have q2 := t2; go_at_call 43; refine (SB.out _ B1).mono ?_; rintro e9 w2 ⟨v2, rfl, o2, B2⟩; have O2 : Hid (Own w1.heap.size w2 v2 Z) := o2; have C2 : Hid (Below w.heap.size w w2) := B1.trans (B2.mono B1.size); have YZ : Hid (Byt w2 v2 Z) := o2.byt AZ.out; obtain ⟨zo, zc, rfl⟩ := byt_form YZ.out LN.out.1; have YT : Hid (Byt w2 (.slice ao 32 cap) TG) := HB0.out _ C2.out; clear o2 t2; have t3 : (0 : Nat) = 0 := rfl)
      | (have q1 := t1; refine load_lawC _ rfl (hv k n c l e t) w.heap.size 0 rfl HV.out.1 rowy_head ?_; clear t1; have t2 : (0 : Nat) = 0 := rfl)
      | (have q0 := t0; refine box_lawC _ (hv k n c l e t) rfl ?_; intro w1 V1 B1 s1; have HV : Hid (Vr w1 w.heap.size (hv k n c l e t)) := V1; clear V1 t0; have t1 : (0 : Nat) = 0 := rfl))
  go_ret2
  have z1 := B1.size
  have z2 := B2.size
  have z3 := B3.size
  have z4 := B4.size
  exact ⟨_, rfl, own_less O5.out (by omega), ((C2.out.trans (B3.mono (by omega))).trans (B4.mono (by omega))).trans (B5.mono (by omega))⟩

set_option maxHeartbeats 4000000 in
theorem end_nil (k n c l e t : Int) (v : Value) (tag : List Int) (w : World) (hb' : Byt w v tag) (hl : 0 ≤ l ∧ l ≤ 4294967295) (he : 0 ≤ e ∧ e ≤ 18446744073709551615) (ht : 0 ≤ t ∧ t ≤ 18446744073709551615) (hT : Tab w) (hr : Rh k n c) (h0 : tag.length = 0) :
    Calls Tryd.prog 25 #[.agg (hv k n c l e t).toArray, v] w fun x w' => ∃ v, x = .returned (.tuple #[v, .int .i64 0]) ∧ Own w.heap.size w' v (hend (hb k n c l e t) (tgo tag) (List.replicate 8 255)) ∧ Below w.heap.size w w' := by
  have hn : tag.length = 0 ∨ tag.length = 32 := .inl h0
  have SB : Hid (∀ w', Below w.heap.size w w' → Calls Tryd.prog 43 #[.agg (hv k n c l e t).toArray] w' fun x w'' => ∃ v, x = .returned (.tuple #[v, .int .i64 0]) ∧ Own w'.heap.size w'' v (hb k n c l e t) ∧ Below w'.heap.size w' w'') := fun w' q => hbytes_yes k n c l e t w' hr hl he ht (hT.below q)
  have SM : Hid (∀ w, Calls Tryd.prog 24 #[.int .u8 255, .int .i64 8] w fun e w' => ∃ v, e = .returned v ∧ Byt w' v (List.replicate 8 255) ∧ Below w.heap.size w w') := fun w => by
    have := fill_any 255 8 w (by omega)
    rw [show clamp 8 65536 = 8 by decide] at this
    exact this
  have AZ : Hid (AllB (hb k n c l e t)) := hb_all hr l e t
  have LN : Hid ((hb k n c l e t).length = 24 ∧ (inv (hb k n c l e t)).length = 24 ∧ (tgo tag).length = 32 ∧ (List.replicate 8 (255 : Int)).length = 8) := ⟨hb_len _ _ _ _ _ _, by rw [inv_len, hb_len], tgo_len hn, by simp⟩
  have eT : tgo tag = List.replicate 32 255 := by unfold tgo; rw [if_pos h0]
  have SF : Hid (∀ w, Calls Tryd.prog 24 #[.int .u8 255, .int .i64 32] w fun e w' => ∃ v, e = .returned v ∧ Byt w' v (tgo tag) ∧ Below w.heap.size w w') := fun w => by
    have := fill_any 255 32 w (by omega)
    rw [show clamp 32 65536 = 32 by decide] at this
    rw [eT]; exact this
  obtain ⟨ao, cap, rfl⟩ := byt_form hb' h0
  unfold hend
  generalize hb k n c l e t = Z at *
  generalize tgo tag = TG at *
  generalize List.replicate 8 (255 : Int) = M8 at *
  clear hb' hn hr hT hl he ht eT h0
  have t0 : (0 : Nat) = 0 := rfl
  go_enter Tryd.func25, Tryd.ntmps25
  go_wp2_with (first
      | (have q5 := t5; go_at_call 44; refine (cat4_any _ _ _ _ _ Z (inv Z) TG M8 (((O2.out.byt AZ.out).below B3).below B4) (Y3.out.below B4) (YT.out.below (B3.trans (B4.mono B3.size))) Y4.out (by have := LN.out; omega) (by have := LN.out; omega) (by have := LN.out; omega) (by have := LN.out; omega) (by have := LN.out; omega)).mono ?_; rintro e9 w5 ⟨r, rfl, o5, B5⟩; have O5 : Hid (Own w4.heap.size w5 r (Z ++ (inv Z ++ (TG ++ M8)))) := o5; clear o5 t5)
      | (have q4 := t4; go_at_call 24; refine (SM.out _).mono ?_; rintro e9 w4 ⟨v4, rfl, y4, B4⟩; have Y4 : Hid (Byt w4 v4 M8) := y4; obtain ⟨do4, dc, rfl⟩ := byt_form y4 LN.out.2.2.2; clear y4 t4; have t5 : (0 : Nat) = 0 := rfl)
      | (have q3 := t3; go_at_call 45; refine (invert_any _ Z _ YZ.out (by have := LN.out; omega)).mono ?_; rintro e9 w3 ⟨v3, rfl, y3, B3⟩; have Y3 : Hid (Byt w3 v3 (inv Z)) := y3; obtain ⟨io, ic, rfl⟩ := byt_form y3 LN.out.2.1; clear y3 t3; have t4 : (0 : Nat) = 0 := rfl)
      | (have q2 := t2b; go_at_call 24; refine (SF.out _).mono ?_; rintro e9 w2 ⟨v2, rfl, y2, B2⟩; have YT : Hid (Byt w2 v2 TG) := y2; have O2 : Hid (Own w1.heap.size w2 (.slice zo 24 zc) Z) := own_low O2a.out B2; have C2 : Hid (Below w.heap.size w w2) := C2a.out.trans (B2.mono C2a.out.size); have YZ : Hid (Byt w2 (.slice zo 24 zc) Z) := O2.out.byt AZ.out; obtain ⟨tq, tc, rfl⟩ := byt_form y2 LN.out.2.2.1; clear y2 t2b; have t3 : (0 : Nat) = 0 := rfl)
      | (have q2 := t2; go_at_call 43; refine (SB.out _ B1).mono ?_; rintro e9 w2a ⟨v2, rfl, o2, B2a⟩; have O2a : Hid (Own w1.heap.size w2a v2 Z) := o2; have C2a : Hid (Below w.heap.size w w2a) := B1.trans (B2a.mono B1.size); have z2a := B2a.size; obtain ⟨zo, zc, rfl⟩ := byt_form (o2.byt AZ.out) LN.out.1; clear o2 t2; have t2b : (0 : Nat) = 0 := rfl)
      | (have q1 := t1; refine load_lawC _ rfl (hv k n c l e t) w.heap.size 0 rfl HV.out.1 rowy_head ?_; clear t1; have t2 : (0 : Nat) = 0 := rfl)
      | (have q0 := t0; refine box_lawC _ (hv k n c l e t) rfl ?_; intro w1 V1 B1 s1; have HV : Hid (Vr w1 w.heap.size (hv k n c l e t)) := V1; clear V1 t0; have t1 : (0 : Nat) = 0 := rfl))
  go_ret2
  have z1 := B1.size
  have z2 := B2.size
  have z3 := B3.size
  have z4 := B4.size
  exact ⟨_, rfl, own_less O5.out (by omega), ((C2.out.trans (B3.mono (by omega))).trans (B4.mono (by omega))).trans (B5.mono (by omega))⟩
theorem end_yes (k n c l e t : Int) (v : Value) (tag : List Int) (w : World) (hb' : Byt w v tag) (hl : 0 ≤ l ∧ l ≤ 4294967295) (he : 0 ≤ e ∧ e ≤ 18446744073709551615) (ht : 0 ≤ t ∧ t ≤ 18446744073709551615) (hT : Tab w) (hr : Rh k n c) (hn : tag.length = 0 ∨ tag.length = 32) :
    Calls Tryd.prog 25 #[.agg (hv k n c l e t).toArray, v] w fun x w' => ∃ v, x = .returned (.tuple #[v, .int .i64 0]) ∧ Own w.heap.size w' v (hend (hb k n c l e t) (tgo tag) (List.replicate 8 255)) ∧ Below w.heap.size w w' := by
  rcases hn with q | q
  · exact end_nil k n c l e t v tag w hb' hl he ht hT hr q
  · exact end_tag k n c l e t v tag w hb' hl he ht hT hr q
end Go.Proofs.YtpmakkjcpoillaaDoor.he
