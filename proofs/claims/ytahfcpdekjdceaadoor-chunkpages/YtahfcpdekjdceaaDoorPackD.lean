/- Texts put together (a claim holds few files). No claim of its own. -/
import Derived.Test.YtahfcpdekjdceaaDoorPackC
import Derived.Test.YtahfcpdekjdceaaDoorPackA
import Derived.Deep.DeepHandedRow
import Derived.Lib.LaidTab
import Derived.Deep.Matrix
import Derived.Laws.StructEq
/- What head's isWhole, Committed, Mark and End, and the reference's Committed answer. No claim of its own. -/
namespace Go.Proofs.YtahfcpdekjdceaaDoor.he
open Go.RowKit Go.Proofs.YtahfcpdekjdceaaDoor.fa
set_option maxRecDepth 20000

set_option maxHeartbeats 2000000 in
theorem whole_any (v : Value) (xs : List Int) (w : World) (hb : Byt w v xs) (hl : xs.length = 88) :
    Calls Tryd.prog 58 #[v] w fun x w' => x = .returned (.bool (decide (inv (sub xs 0 24) = sub xs 24 48))) ∧ Below w.heap.size w w' := by
  have HB : Hid (Byt w v xs) := hb
  obtain ⟨ao, cap, hv⟩ := byt_form hb hl
  subst hv
  have HL : Hid (xs.length = 88) := hl
  clear hb hl
  generalize hZ : inv (sub xs 0 24) = Z
  have HZ : Hid (inv (sub xs 0 24) = Z) := hZ
  clear hZ
  go_enter Tryd.func58, Tryd.ntmps58
  go_wp2
  refine wp_region_held_drew (S := fun w' => Below w.heap.size w w') (by kernel_rfl) (Below.refl _ _).drew (fun hS => ?_)
  obtain ⟨x1, hx0⟩ : ∃ x, x = w.drew := ⟨_, rfl⟩
  rw [← hx0] at hS  ⊢
  clear hx0
  refine take_lawH 0 (some 3) (.slice ao 88 cap) rfl rfl (by kernel_rfl) (by kernel_rfl) (by kernel_rfl) (fun _ _ _ h => h) (Or.inl ⟨by rfl, fun w' hw' => by rfl⟩) hS ?_
  simp only [Act.put, List.setIfInBounds_toArray, List.set_cons_zero, List.set_cons_succ]
  refine take_lawH 1 (some 4) (sl (.slice ao 88 cap) 0 24) rfl rfl (by kernel_rfl) (by kernel_rfl) (by kernel_rfl) (fun _ _ _ h => h) (Or.inl ⟨by rfl, fun w' hw' => by exact exec_to (.tmp 3) (.const (.int .i64 24)) rfl _ xs _ HB.out 24 rfl rfl (by have := HL.out; omega) _⟩) hS ?_
  simp only [Act.put, List.setIfInBounds_toArray, List.set_cons_zero, List.set_cons_succ]
  refine take_lawH 3 (some 6) (.slice ao 88 cap) rfl rfl (by kernel_rfl) (by kernel_rfl) (by kernel_rfl) (fun _ _ _ h => h) (Or.inl ⟨by rfl, fun w' hw' => by rfl⟩) hS ?_
  simp only [Act.put, List.setIfInBounds_toArray, List.set_cons_zero, List.set_cons_succ]
  refine take_lawH 4 (some 7) (sl (.slice ao 88 cap) 24 48) rfl rfl (by kernel_rfl) (by kernel_rfl) (by kernel_rfl) (fun _ _ _ h => h) (Or.inl ⟨by rfl, fun w' hw' => by exact exec_part (.tmp 6) (.const (.int .i64 24)) (.const (.int .i64 48)) rfl _ xs _ HB.out 24 48 rfl rfl rfl (by omega) (by have := HL.out; omega) _⟩) hS ?_
  simp only [Act.put, List.setIfInBounds_toArray, List.set_cons_zero, List.set_cons_succ]
  refine wpAnyH_ready (rs := [2]) (by kernel_rfl) (by simp) ?_
  refine AllReadyH.cons rfl (fun K hK => ?_) AllReadyH.nil
  refine step_callW _ (by rfl) (some 5) rfl 53 #[.tmp 4] #[24] rfl (fun q w' => by rfl) #[sl (.slice ao 88 cap) 0 24] (by simp only [List.map_toArray, List.map_cons, List.map_nil]; rfl) (fun u w' => Byt w' u Z ∧ Below x1.heap.size x1 w') ?_ ?_
  · exact (invert_any _ _ x1 (sl_sub (HB.out.below hS) 0 24 (by omega) (by have := HL.out; omega)) (by rw [sub_len _ _ _ (by have := HL.out; omega)]; omega)).mono fun e w' ⟨u, h1, h2, h3⟩ => ⟨u, h1, by rw [HZ.out] at h2; exact h2, h3⟩
  rintro u1 x2 ⟨y1, hb⟩
  have Y1 : Hid (Byt x2 u1 Z) := y1
  clear y1
  have hS : Below w.heap.size w x2 := hS.trans (hb.mono hS.size)
  clear hb
  refine hK.out _ _ hS (fun _ => ?_)
  simp only [Act.put, List.setIfInBounds_toArray, List.set_cons_zero, List.set_cons_succ]
  clear hK K
  refine wpAnyH_ready (rs := [5]) (by kernel_rfl) (by simp) ?_
  refine AllReadyH.cons rfl (fun K hK => ?_) AllReadyH.nil
  refine step_callW _ (by rfl) (some 8) rfl 60 #[.tmp 5, .tmp 7] #[24, 24] rfl (fun q w' => by rfl) #[u1, sl (.slice ao 88 cap) 24 48] (by simp only [List.map_toArray, List.map_cons, List.map_nil]; rfl) (fun u w' => u = .bool (decide (Z = sub xs 24 48)) ∧ Below x2.heap.size x2 w') ?_ ?_
  · exact (oSame_any _ _ _ _ x2 Y1.out (sl_sub (HB.out.below hS) 24 48 (by omega) (by have := HL.out; omega))).mono fun e w' ⟨h1, n, h2⟩ => ⟨_, h1, rfl, by rw [h2]; exact below_drawn (Below.refl _ _) n⟩
  rintro _ x3 ⟨rfl, hb⟩
  have hS : Below w.heap.size w x3 := hS.trans (hb.mono hS.size)
  clear hb
  refine hK.out _ _ hS (fun _ => ?_)
  simp only [Act.put, List.setIfInBounds_toArray, List.set_cons_zero, List.set_cons_succ]
  clear hK K
  refine take_lawH 6 (some 2) (.bool (decide (Z = sub xs 24 48))) rfl rfl (by kernel_rfl) (by kernel_rfl) (by kernel_rfl) (fun _ _ _ h => h) (Or.inl ⟨by rfl, fun w' hw' => by rfl⟩) hS ?_
  simp only [Act.put, List.setIfInBounds_toArray, List.set_cons_zero, List.set_cons_succ]
  refine wpAnyH_done (by kernel_rfl) ?_ _
  go_wp2
  go_ret
  exact ⟨rfl, hS⟩

set_option maxHeartbeats 2000000 in
theorem comm_yes (v : Value) (xs : List Int) (w : World) (hb : Byt w v xs) (hl : xs.length = 88) :
    Calls Tryd.prog 45 #[v] w fun x w' => x = .returned (.bool (decide (xs.drop 80 = List.replicate 8 0))) ∧ Below w.heap.size w w' := by
  have HB : Hid (Byt w v xs) := hb
  obtain ⟨ao, cap, hv⟩ := byt_form hb hl
  subst hv
  have HL : Hid (xs.length = 88) := hl
  clear hb hl
  have SF : Hid (∀ w, Calls Tryd.prog 37 #[.int .u8 0, .int .i64 8] w fun e w' => ∃ v, e = .returned v ∧ Byt w' v (List.replicate 8 0) ∧ Below w.heap.size w w') := fun w => by
    have := fill_any 0 8 w (by omega)
    rw [show clamp 8 65536 = 8 by decide] at this
    exact this
  have HD : Hid (∀ w', Byt w' (.slice ao 88 cap) xs → Byt w' (sl (.slice ao 88 cap) 80 88) (xs.drop 80)) := fun w' h => by
    have := sl_from h 80 (by have := HL.out; omega)
    rw [HL.out] at this
    exact this
  generalize List.replicate 8 (0 : Int) = Z at *
  generalize xs.drop 80 = D at *
  go_enter Tryd.func45, Tryd.ntmps45
  go_wp2
  refine wp_region_held_drew (S := fun w' => Below w.heap.size w w') (by kernel_rfl) (Below.refl _ _).drew (fun hS => ?_)
  obtain ⟨x1, hx0⟩ : ∃ x, x = w.drew := ⟨_, rfl⟩
  rw [← hx0] at hS  ⊢
  clear hx0
  refine take_lawH 0 (some 3) (.slice ao 88 cap) rfl rfl (by kernel_rfl) (by kernel_rfl) (by kernel_rfl) (fun _ _ _ h => h) (Or.inl ⟨by rfl, fun w' hw' => by rfl⟩) hS ?_
  simp only [Act.put, List.setIfInBounds_toArray, List.set_cons_zero, List.set_cons_succ]
  refine take_lawH 1 (some 4) (.int .i64 88) rfl rfl (by kernel_rfl) (by kernel_rfl) (by kernel_rfl) (fun _ _ _ h => h) (Or.inl ⟨by rfl, fun w' hw' => by go_simp⟩) hS ?_
  simp only [Act.put, List.setIfInBounds_toArray, List.set_cons_zero, List.set_cons_succ]
  refine take_lawH 2 (some 5) (.bool true) rfl rfl (by kernel_rfl) (by kernel_rfl) (by kernel_rfl) (fun _ _ _ h => h) (Or.inl ⟨by rfl, fun w' hw' => by go_simp⟩) hS ?_
  simp only [Act.put, List.setIfInBounds_toArray, List.set_cons_zero, List.set_cons_succ]
  refine take_lawH 3 (some 6) (.bool true) rfl rfl (by kernel_rfl) (by kernel_rfl) (by kernel_rfl) (fun _ _ _ h => h) (Or.inl ⟨by rfl, fun w' hw' => by rfl⟩) hS ?_
  simp only [Act.put, List.setIfInBounds_toArray, List.set_cons_zero, List.set_cons_succ]
  refine take_lawH 4 (some 7) (.slice ao 88 cap) rfl rfl (by kernel_rfl) (by kernel_rfl) (by kernel_rfl) (fun _ _ _ h => h) (Or.inl ⟨by rfl, fun w' hw' => by rfl⟩) hS ?_
  simp only [Act.put, List.setIfInBounds_toArray, List.set_cons_zero, List.set_cons_succ]
  refine take_lawH 5 (some 8) (sl (.slice ao 88 cap) 80 88) rfl rfl (by kernel_rfl) (by kernel_rfl) (by kernel_rfl) (fun _ _ _ h => h) (Or.inl ⟨by rfl, fun w' hw' => by exact exec_from (.tmp 7) (.const (.int .i64 80)) rfl _ xs _ HB.out 80 88 rfl rfl HL.out (by omega) _⟩) hS ?_
  simp only [Act.put, List.setIfInBounds_toArray, List.set_cons_zero, List.set_cons_succ]
  refine wpAnyH_ready (rs := [6]) (by kernel_rfl) (by simp) ?_
  refine AllReadyH.cons rfl (fun K hK => ?_) AllReadyH.nil
  refine step_callW _ (by rfl) (some 9) rfl 37 #[.const (.int .u8 0), .const (.int .i64 8)] #[5, 3] rfl (fun q w' => by rfl) #[.int .u8 0, .int .i64 8] (by simp only [List.map_toArray, List.map_cons, List.map_nil]; rfl) (fun u w' => Byt w' u Z ∧ Below x1.heap.size x1 w') ?_ ?_
  · exact SF.out x1
  rintro u1 x2 ⟨y1, hb⟩
  have Y1 : Hid (Byt x2 u1 Z) := y1
  clear y1
  have hS : Below w.heap.size w x2 := hS.trans (hb.mono hS.size)
  clear hb
  refine hK.out _ _ hS (fun _ => ?_)
  simp only [Act.put, List.setIfInBounds_toArray, List.set_cons_zero, List.set_cons_succ]
  clear hK K
  refine wpAnyH_ready (rs := [7]) (by kernel_rfl) (by simp) ?_
  refine AllReadyH.cons rfl (fun K hK => ?_) AllReadyH.nil
  refine step_callW _ (by rfl) (some 10) rfl 60 #[.tmp 8, .tmp 9] #[24, 24] rfl (fun q w' => by rfl) #[sl (.slice ao 88 cap) 80 88, u1] (by simp only [List.map_toArray, List.map_cons, List.map_nil]; rfl) (fun u w' => u = .bool (decide (D = Z)) ∧ Below x2.heap.size x2 w') ?_ ?_
  · exact (oSame_any _ _ _ _ x2 (HD.out _ (HB.out.below hS)) Y1.out).mono fun e w' ⟨h1, n, h2⟩ => ⟨_, h1, rfl, by rw [h2]; exact below_drawn (Below.refl _ _) n⟩
  rintro _ x3 ⟨rfl, hb⟩
  have hS : Below w.heap.size w x3 := hS.trans (hb.mono hS.size)
  clear hb
  refine hK.out _ _ hS (fun _ => ?_)
  simp only [Act.put, List.setIfInBounds_toArray, List.set_cons_zero, List.set_cons_succ]
  clear hK K
  refine take_lawH 8 (some 11) (.bool (decide (D = Z))) rfl rfl (by kernel_rfl) (by kernel_rfl) (by kernel_rfl) (fun _ _ _ h => h) (Or.inl ⟨by rfl, fun w' hw' => by rfl⟩) hS ?_
  simp only [Act.put, List.setIfInBounds_toArray, List.set_cons_zero, List.set_cons_succ]
  refine take_lawH 9 (some 2) (.bool (decide (D = Z))) rfl rfl (by kernel_rfl) (by kernel_rfl) (by kernel_rfl) (fun _ _ _ h => h) (Or.inl ⟨by rfl, fun w' hw' => by rfl⟩) hS ?_
  simp only [Act.put, List.setIfInBounds_toArray, List.set_cons_zero, List.set_cons_succ]
  refine wpAnyH_done (by kernel_rfl) ?_ _
  go_wp2
  go_ret
  exact ⟨rfl, hS⟩

set_option maxHeartbeats 2000000 in
theorem rcomm_any (v : Value) (xs : List Int) (w : World) (hb : Byt w v xs) (hl : xs.length = 88) :
    Calls Tryd.prog 47 #[v] w fun x w' => x = .returned (.bool (decide (xs.drop 80 = List.replicate 8 0))) ∧ Below w.heap.size w w' := by
  have HB : Hid (Byt w v xs) := hb
  obtain ⟨ao, cap, hv⟩ := byt_form hb hl
  subst hv
  have HL : Hid (xs.length = 88) := hl
  clear hb hl
  have SF : Hid (∀ w, Calls Tryd.prog 26 #[.int .u8 0, .int .i64 8] w fun e w' => ∃ v, e = .returned v ∧ Byt w' v (List.replicate 8 0) ∧ Below w.heap.size w w') := fun w => by
    have := rfill_any 0 8 w (by omega)
    rw [show clamp 8 65536 = 8 by decide] at this
    exact this
  have HD : Hid (∀ w', Byt w' (.slice ao 88 cap) xs → Byt w' (sl (.slice ao 88 cap) 80 88) (xs.drop 80)) := fun w' h => by
    have := sl_from h 80 (by have := HL.out; omega)
    rw [HL.out] at this
    exact this
  generalize List.replicate 8 (0 : Int) = Z at *
  generalize xs.drop 80 = D at *
  go_enter Tryd.func47, Tryd.ntmps47
  go_wp2
  refine wp_region_held_drew (S := fun w' => Below w.heap.size w w') (by kernel_rfl) (Below.refl _ _).drew (fun hS => ?_)
  obtain ⟨x1, hx0⟩ : ∃ x, x = w.drew := ⟨_, rfl⟩
  rw [← hx0] at hS  ⊢
  clear hx0
  refine take_lawH 0 (some 3) (.slice ao 88 cap) rfl rfl (by kernel_rfl) (by kernel_rfl) (by kernel_rfl) (fun _ _ _ h => h) (Or.inl ⟨by rfl, fun w' hw' => by rfl⟩) hS ?_
  simp only [Act.put, List.setIfInBounds_toArray, List.set_cons_zero, List.set_cons_succ]
  refine take_lawH 1 (some 4) (sl (.slice ao 88 cap) 80 88) rfl rfl (by kernel_rfl) (by kernel_rfl) (by kernel_rfl) (fun _ _ _ h => h) (Or.inl ⟨by rfl, fun w' hw' => by exact exec_from (.tmp 3) (.const (.int .i64 80)) rfl _ xs _ HB.out 80 88 rfl rfl HL.out (by omega) _⟩) hS ?_
  simp only [Act.put, List.setIfInBounds_toArray, List.set_cons_zero, List.set_cons_succ]
  refine wpAnyH_ready (rs := [2]) (by kernel_rfl) (by simp) ?_
  refine AllReadyH.cons rfl (fun K hK => ?_) AllReadyH.nil
  refine step_callW _ (by rfl) (some 5) rfl 26 #[.const (.int .u8 0), .const (.int .i64 8)] #[5, 3] rfl (fun q w' => by rfl) #[.int .u8 0, .int .i64 8] (by simp only [List.map_toArray, List.map_cons, List.map_nil]; rfl) (fun u w' => Byt w' u Z ∧ Below x1.heap.size x1 w') ?_ ?_
  · exact SF.out x1
  rintro u1 x2 ⟨y1, hb⟩
  have Y1 : Hid (Byt x2 u1 Z) := y1
  clear y1
  have hS : Below w.heap.size w x2 := hS.trans (hb.mono hS.size)
  clear hb
  refine hK.out _ _ hS (fun _ => ?_)
  simp only [Act.put, List.setIfInBounds_toArray, List.set_cons_zero, List.set_cons_succ]
  clear hK K
  refine wpAnyH_ready (rs := [3]) (by kernel_rfl) (by simp) ?_
  refine AllReadyH.cons rfl (fun K hK => ?_) AllReadyH.nil
  refine step_callW _ (by rfl) (some 6) rfl 12 #[.tmp 4, .tmp 5] #[24, 24] rfl (fun q w' => by rfl) #[sl (.slice ao 88 cap) 80 88, u1] (by simp only [List.map_toArray, List.map_cons, List.map_nil]; rfl) (fun u w' => u = .bool (decide (D = Z)) ∧ Below x2.heap.size x2 w') ?_ ?_
  · exact (same_any x2 _ _ _ _ (HD.out _ (HB.out.below hS)) Y1.out).mono fun e w' ⟨h1, n, h2⟩ => ⟨_, h1, rfl, by rw [h2]; exact below_drawn (Below.refl _ _) n⟩
  rintro _ x3 ⟨rfl, hb⟩
  have hS : Below w.heap.size w x3 := hS.trans (hb.mono hS.size)
  clear hb
  refine hK.out _ _ hS (fun _ => ?_)
  simp only [Act.put, List.setIfInBounds_toArray, List.set_cons_zero, List.set_cons_succ]
  clear hK K
  refine take_lawH 4 (some 2) (.bool (decide (D = Z))) rfl rfl (by kernel_rfl) (by kernel_rfl) (by kernel_rfl) (fun _ _ _ h => h) (Or.inl ⟨by rfl, fun w' hw' => by rfl⟩) hS ?_
  simp only [Act.put, List.setIfInBounds_toArray, List.set_cons_zero, List.set_cons_succ]
  refine wpAnyH_done (by kernel_rfl) ?_ _
  go_wp2
  go_ret
  exact ⟨rfl, hS⟩

set_option maxHeartbeats 2000000 in
theorem comm_no (v : Value) (xs : List Int) (w : World) (hb : Byt w v xs) (hl : xs.length ≠ 88) :
    Calls Tryd.prog 45 #[v] w fun x w' => x = .returned (.bool false) ∧ Below w.heap.size w w' := by
  have hlen := hb.len
  obtain ⟨ao, cap, rfl, h1, h2, -⟩ := hb
  have HN : Hid (((xs.length : Int) == 88) = false) := by
    show _ = _
    rw [beq_eq_false_iff_ne]; omega
  generalize xs.length = n at *
  clear hl hlen h1 h2
  go_enter Tryd.func45, Tryd.ntmps45
  go_wp2
  refine wp_region_held_drew (S := fun w' => Below w.heap.size w w') (by kernel_rfl) (Below.refl _ _).drew (fun hS => ?_)
  obtain ⟨x1, hx0⟩ : ∃ x, x = w.drew := ⟨_, rfl⟩
  rw [← hx0] at hS  ⊢
  clear hx0
  refine take_lawH 0 (some 3) (.slice ao n cap) rfl rfl (by kernel_rfl) (by kernel_rfl) (by kernel_rfl) (fun _ _ _ h => h) (Or.inl ⟨by rfl, fun w' hw' => by rfl⟩) hS ?_
  simp only [Act.put, List.setIfInBounds_toArray, List.set_cons_zero, List.set_cons_succ]
  refine take_lawH 1 (some 4) (.int .i64 (n : Int)) rfl rfl (by kernel_rfl) (by kernel_rfl) (by kernel_rfl) (fun _ _ _ h => h) (Or.inl ⟨by rfl, fun w' hw' => by go_simp⟩) hS ?_
  simp only [Act.put, List.setIfInBounds_toArray, List.set_cons_zero, List.set_cons_succ]
  refine take_lawH 2 (some 5) (.bool false) rfl rfl (by kernel_rfl) (by kernel_rfl) (by kernel_rfl) (fun _ _ _ h => h) (Or.inl ⟨by rfl, fun w' hw' => by rw [show Value.bool false = .bool ((n : Int) == 88) by rw [HN.out]]; rfl⟩) hS ?_
  simp only [Act.put, List.setIfInBounds_toArray, List.set_cons_zero, List.set_cons_succ]
  refine take_lawH 3 (some 6) (.bool false) rfl rfl (by kernel_rfl) (by kernel_rfl) (by kernel_rfl) (fun _ _ _ h => h) (Or.inl ⟨by rfl, fun w' hw' => by rfl⟩) hS ?_
  simp only [Act.put, List.setIfInBounds_toArray, List.set_cons_zero, List.set_cons_succ]
  refine take_lawH 4 (some 7) (undef) rfl rfl (by kernel_rfl) (by kernel_rfl) (by kernel_rfl) (fun _ _ _ h => h) (Or.inr ⟨by rfl, rfl⟩) hS ?_
  simp only [Act.put, List.setIfInBounds_toArray, List.set_cons_zero, List.set_cons_succ]
  refine take_lawH 5 (some 8) (undef) rfl rfl (by kernel_rfl) (by kernel_rfl) (by kernel_rfl) (fun _ _ _ h => h) (Or.inr ⟨by rfl, rfl⟩) hS ?_
  simp only [Act.put, List.setIfInBounds_toArray, List.set_cons_zero, List.set_cons_succ]
  refine take_lawH 6 (some 9) (undef) rfl rfl (by kernel_rfl) (by kernel_rfl) (by kernel_rfl) (fun _ _ _ h => h) (Or.inr ⟨by rfl, rfl⟩) hS ?_
  simp only [Act.put, List.setIfInBounds_toArray, List.set_cons_zero, List.set_cons_succ]
  refine take_lawH 7 (some 10) (undef) rfl rfl (by kernel_rfl) (by kernel_rfl) (by kernel_rfl) (fun _ _ _ h => h) (Or.inr ⟨by rfl, rfl⟩) hS ?_
  simp only [Act.put, List.setIfInBounds_toArray, List.set_cons_zero, List.set_cons_succ]
  refine take_lawH 8 (some 11) (.bool false) rfl rfl (by kernel_rfl) (by kernel_rfl) (by kernel_rfl) (fun _ _ _ h => h) (Or.inl ⟨by rfl, fun w' hw' => by rfl⟩) hS ?_
  simp only [Act.put, List.setIfInBounds_toArray, List.set_cons_zero, List.set_cons_succ]
  refine take_lawH 9 (some 2) (.bool false) rfl rfl (by kernel_rfl) (by kernel_rfl) (by kernel_rfl) (fun _ _ _ h => h) (Or.inl ⟨by rfl, fun w' hw' => by rfl⟩) hS ?_
  simp only [Act.put, List.setIfInBounds_toArray, List.set_cons_zero, List.set_cons_succ]
  refine wpAnyH_done (by kernel_rfl) ?_ _
  go_wp2
  go_ret
  exact ⟨rfl, hS⟩

/-! ### an end -/
set_option maxHeartbeats 2000000 in
theorem end_no (k n c l e t : Int) (v : Value) (tag : List Int) (w : World) (hb' : Byt w v tag) (hl : 0 ≤ l ∧ l ≤ 4294967295) (he : 0 ≤ e ∧ e ≤ 18446744073709551615) (ht : 0 ≤ t ∧ t ≤ 18446744073709551615) (hT : Tab w) (h : ¬ (Rh k n c ∧ (tag.length = 0 ∨ tag.length = 32))) :
    Calls Tryd.prog 38 #[.agg (hv k n c l e t).toArray, v] w fun x w' => x = .returned (.tuple #[.slice none 0 0, .int .i64 2]) ∧ Below w.heap.size w w' := by
  have t0 : (0 : Nat) = 0 := rfl
  by_cases hr : Rh k n c
  · have hn : tag.length ≠ 0 ∧ tag.length ≠ 32 := ⟨fun q => h ⟨hr, .inl q⟩, fun q => h ⟨hr, .inr q⟩⟩
    have SB : Hid (∀ w', Below w.heap.size w w' → Calls Tryd.prog 52 #[.agg (hv k n c l e t).toArray] w' fun x w'' => ∃ v, x = .returned (.tuple #[v, .int .i64 0]) ∧ Own w'.heap.size w'' v (hb k n c l e t) ∧ Below w'.heap.size w' w'') := fun w' q => hbytes_yes k n c l e t w' hr hl he ht (hT.below q)
    obtain ⟨ao, cap, rfl, h1, h2, -⟩ := hb'
    have a1 : ((tag.length : Int) == 0) = false := by rw [beq_eq_false_iff_ne]; omega
    have a2 : ((tag.length : Int) == 32) = false := by rw [beq_eq_false_iff_ne]; omega
    generalize tag.length = m at *
    generalize hb k n c l e t = Z at *
    clear h hr hn hT h1 h2 hl he ht
    go_enter Tryd.func38, Tryd.ntmps38
    go_wp2_with (first
      | (have q2 := t2; go_at_call 52; refine (SB.out _ B1).mono ?_; rintro e9 w2 ⟨v2, rfl, o2, B2⟩; clear o2 t2)
      | (have q1 := t1; refine load_lawC _ rfl (hv k n c l e t) w.heap.size 0 rfl HV.out.1 rowy_head ?_; clear t1; have t2 : (0 : Nat) = 0 := rfl)
      | (have q0 := t0; refine box_lawC _ (hv k n c l e t) rfl ?_; intro w1 V1 B1 s1; have HV : Hid (Vr w1 w.heap.size (hv k n c l e t)) := V1; clear V1 t0; have t1 : (0 : Nat) = 0 := rfl))
    go_ret2
    exact ⟨rfl, B1.trans (B2.mono B1.size)⟩
  · have SB : Hid (∀ w', Calls Tryd.prog 52 #[.agg (hv k n c l e t).toArray] w' fun x w'' => x = .returned (.tuple #[.slice none 0 0, .int .i64 2]) ∧ Below w'.heap.size w' w'') := fun w' => hbytes_no k n c l e t w' hr
    clear h hr hT hl he ht
    go_enter Tryd.func38, Tryd.ntmps38
    go_wp2_with (first
      | (have q2 := t2; go_at_call 52; refine (SB.out _).mono ?_; rintro e9 w2 ⟨rfl, B2⟩; clear t2)
      | (have q1 := t1; refine load_lawC _ rfl (hv k n c l e t) w.heap.size 0 rfl HV.out.1 rowy_head ?_; clear t1; have t2 : (0 : Nat) = 0 := rfl)
      | (have q0 := t0; refine box_lawC _ (hv k n c l e t) rfl ?_; intro w1 V1 B1 s1; have HV : Hid (Vr w1 w.heap.size (hv k n c l e t)) := V1; clear V1 t0; have t1 : (0 : Nat) = 0 := rfl))
    go_ret2
    exact ⟨rfl, B1.trans (B2.mono B1.size)⟩

/-- the tag that an end bears -/
def tgo (tag : List Int) : List Int := if tag.length = 0 then List.replicate 32 255 else tag
theorem tgo_len {tag : List Int} (h : tag.length = 0 ∨ tag.length = 32) : (tgo tag).length = 32 := by
  unfold tgo
  split
  · simp
  · omega
theorem tgo_all {tag : List Int} (h : AllB tag) : AllB (tgo tag) := by
  unfold tgo
  split
  · exact allB_replicate 255 32 (by omega)
  · exact h

set_option maxHeartbeats 4000000 in
theorem end_tag (k n c l e t : Int) (v : Value) (tag : List Int) (w : World) (hb' : Byt w v tag) (hl : 0 ≤ l ∧ l ≤ 4294967295) (he : 0 ≤ e ∧ e ≤ 18446744073709551615) (ht : 0 ≤ t ∧ t ≤ 18446744073709551615) (hT : Tab w) (hr : Rh k n c) (h32 : tag.length = 32) :
    Calls Tryd.prog 38 #[.agg (hv k n c l e t).toArray, v] w fun x w' => ∃ v, x = .returned (.tuple #[v, .int .i64 0]) ∧ Own w.heap.size w' v (hend (hb k n c l e t) (tgo tag) (List.replicate 8 255)) ∧ Below w.heap.size w w' := by
  have hn : tag.length = 0 ∨ tag.length = 32 := .inr h32
  have SB : Hid (∀ w', Below w.heap.size w w' → Calls Tryd.prog 52 #[.agg (hv k n c l e t).toArray] w' fun x w'' => ∃ v, x = .returned (.tuple #[v, .int .i64 0]) ∧ Own w'.heap.size w'' v (hb k n c l e t) ∧ Below w'.heap.size w' w'') := fun w' q => hbytes_yes k n c l e t w' hr hl he ht (hT.below q)
  have SM : Hid (∀ w, Calls Tryd.prog 37 #[.int .u8 255, .int .i64 8] w fun e w' => ∃ v, e = .returned v ∧ Byt w' v (List.replicate 8 255) ∧ Below w.heap.size w w') := fun w => by
    have := fill_any 255 8 w (by omega)
    rw [show clamp 8 65536 = 8 by decide] at this
    exact this
  have AZ : Hid (AllB (hb k n c l e t)) := hb_all hr l e t
  have LN : Hid ((hb k n c l e t).length = 24 ∧ (inv (hb k n c l e t)).length = 24 ∧ (tgo tag).length = 32 ∧ (List.replicate 8 (255 : Int)).length = 8) := ⟨hb_len _ _ _ _ _ _, by rw [inv_len, hb_len], tgo_len hn, by simp⟩
  have eT : tgo tag = tag := by unfold tgo; rw [if_neg (by omega)]
  have HB0 : Hid (∀ w', Below w.heap.size w w' → Byt w' v (tgo tag)) := fun w' q => by rw [eT]; exact hb'.below q
  obtain ⟨ao, cap, rfl⟩ := byt_form hb' h32
  unfold hend
  generalize hb k n c l e t = Z at *
  generalize tgo tag = TG at *
  generalize List.replicate 8 (255 : Int) = M8 at *
  clear hb' hn hr hT hl he ht eT h32
  have t0 : (0 : Nat) = 0 := rfl
  go_enter Tryd.func38, Tryd.ntmps38
  go_wp2_with (first
      | (have q5 := t5; go_at_call 36; refine (cat4_any _ _ _ _ _ Z (inv Z) TG M8 (((O2.out.byt AZ.out).below B3).below B4) (Y3.out.below B4) (YT.out.below (B3.trans (B4.mono B3.size))) Y4.out (by have := LN.out; omega) (by have := LN.out; omega) (by have := LN.out; omega) (by have := LN.out; omega) (by have := LN.out; omega)).mono ?_; rintro e9 w5 ⟨r, rfl, o5, B5⟩; have O5 : Hid (Own w4.heap.size w5 r (Z ++ (inv Z ++ (TG ++ M8)))) := o5; clear o5 t5)
      | (have q4 := t4; go_at_call 37; refine (SM.out _).mono ?_; rintro e9 w4 ⟨v4, rfl, y4, B4⟩; have Y4 : Hid (Byt w4 v4 M8) := y4; obtain ⟨do4, dc, rfl⟩ := byt_form y4 LN.out.2.2.2; clear y4 t4; have t5 : (0 : Nat) = 0 := rfl)
      | (have q3 := t3; go_at_call 53; refine (invert_any _ Z _ YZ.out (by have := LN.out; omega)).mono ?_; rintro e9 w3 ⟨v3, rfl, y3, B3⟩; have Y3 : Hid (Byt w3 v3 (inv Z)) := y3; obtain ⟨io, ic, rfl⟩ := byt_form y3 LN.out.2.1; clear y3 t3; have t4 : (0 : Nat) = 0 := rfl)
      | (have q2 := t2; go_at_call 52; refine (SB.out _ B1).mono ?_; rintro e9 w2 ⟨v2, rfl, o2, B2⟩; have O2 : Hid (Own w1.heap.size w2 v2 Z) := o2; have C2 : Hid (Below w.heap.size w w2) := B1.trans (B2.mono B1.size); have YZ : Hid (Byt w2 v2 Z) := o2.byt AZ.out; obtain ⟨zo, zc, rfl⟩ := byt_form YZ.out LN.out.1; have YT : Hid (Byt w2 (.slice ao 32 cap) TG) := HB0.out _ C2.out; clear o2 t2; have t3 : (0 : Nat) = 0 := rfl)
      | (have q1 := t1; refine load_lawC _ rfl (hv k n c l e t) w.heap.size 0 rfl HV.out.1 rowy_head ?_; clear t1; have t2 : (0 : Nat) = 0 := rfl)
      | (have q0 := t0; refine box_lawC _ (hv k n c l e t) rfl ?_; intro w1 V1 B1 s1; have HV : Hid (Vr w1 w.heap.size (hv k n c l e t)) := V1; clear V1 t0; have t1 : (0 : Nat) = 0 := rfl))
  go_ret2
  have z1 := B1.size
  have z2 := B2.size
  have z3 := B3.size
  have z4 := B4.size
  exact ⟨_, rfl, own_less O5.out (by omega), ((C2.out.trans (B3.mono (by omega))).trans (B4.mono (by omega))).trans (B5.mono (by omega))⟩

set_option maxHeartbeats 4000000 in
theorem end_nil (k n c l e t : Int) (v : Value) (tag : List Int) (w : World) (hb' : Byt w v tag) (hl : 0 ≤ l ∧ l ≤ 4294967295) (he : 0 ≤ e ∧ e ≤ 18446744073709551615) (ht : 0 ≤ t ∧ t ≤ 18446744073709551615) (hT : Tab w) (hr : Rh k n c) (h0 : tag.length = 0) :
    Calls Tryd.prog 38 #[.agg (hv k n c l e t).toArray, v] w fun x w' => ∃ v, x = .returned (.tuple #[v, .int .i64 0]) ∧ Own w.heap.size w' v (hend (hb k n c l e t) (tgo tag) (List.replicate 8 255)) ∧ Below w.heap.size w w' := by
  have hn : tag.length = 0 ∨ tag.length = 32 := .inl h0
  have SB : Hid (∀ w', Below w.heap.size w w' → Calls Tryd.prog 52 #[.agg (hv k n c l e t).toArray] w' fun x w'' => ∃ v, x = .returned (.tuple #[v, .int .i64 0]) ∧ Own w'.heap.size w'' v (hb k n c l e t) ∧ Below w'.heap.size w' w'') := fun w' q => hbytes_yes k n c l e t w' hr hl he ht (hT.below q)
  have SM : Hid (∀ w, Calls Tryd.prog 37 #[.int .u8 255, .int .i64 8] w fun e w' => ∃ v, e = .returned v ∧ Byt w' v (List.replicate 8 255) ∧ Below w.heap.size w w') := fun w => by
    have := fill_any 255 8 w (by omega)
    rw [show clamp 8 65536 = 8 by decide] at this
    exact this
  have AZ : Hid (AllB (hb k n c l e t)) := hb_all hr l e t
  have LN : Hid ((hb k n c l e t).length = 24 ∧ (inv (hb k n c l e t)).length = 24 ∧ (tgo tag).length = 32 ∧ (List.replicate 8 (255 : Int)).length = 8) := ⟨hb_len _ _ _ _ _ _, by rw [inv_len, hb_len], tgo_len hn, by simp⟩
  have eT : tgo tag = List.replicate 32 255 := by unfold tgo; rw [if_pos h0]
  have SF : Hid (∀ w, Calls Tryd.prog 37 #[.int .u8 255, .int .i64 32] w fun e w' => ∃ v, e = .returned v ∧ Byt w' v (tgo tag) ∧ Below w.heap.size w w') := fun w => by
    have := fill_any 255 32 w (by omega)
    rw [show clamp 32 65536 = 32 by decide] at this
    rw [eT]; exact this
  obtain ⟨ao, cap, rfl⟩ := byt_form hb' h0
  unfold hend
  generalize hb k n c l e t = Z at *
  generalize tgo tag = TG at *
  generalize List.replicate 8 (255 : Int) = M8 at *
  clear hb' hn hr hT hl he ht eT h0
  have t0 : (0 : Nat) = 0 := rfl
  go_enter Tryd.func38, Tryd.ntmps38
  go_wp2_with (first
      | (have q5 := t5; go_at_call 36; refine (cat4_any _ _ _ _ _ Z (inv Z) TG M8 (((O2.out.byt AZ.out).below B3).below B4) (Y3.out.below B4) (YT.out.below (B3.trans (B4.mono B3.size))) Y4.out (by have := LN.out; omega) (by have := LN.out; omega) (by have := LN.out; omega) (by have := LN.out; omega) (by have := LN.out; omega)).mono ?_; rintro e9 w5 ⟨r, rfl, o5, B5⟩; have O5 : Hid (Own w4.heap.size w5 r (Z ++ (inv Z ++ (TG ++ M8)))) := o5; clear o5 t5)
      | (have q4 := t4; go_at_call 37; refine (SM.out _).mono ?_; rintro e9 w4 ⟨v4, rfl, y4, B4⟩; have Y4 : Hid (Byt w4 v4 M8) := y4; obtain ⟨do4, dc, rfl⟩ := byt_form y4 LN.out.2.2.2; clear y4 t4; have t5 : (0 : Nat) = 0 := rfl)
      | (have q3 := t3; go_at_call 53; refine (invert_any _ Z _ YZ.out (by have := LN.out; omega)).mono ?_; rintro e9 w3 ⟨v3, rfl, y3, B3⟩; have Y3 : Hid (Byt w3 v3 (inv Z)) := y3; obtain ⟨io, ic, rfl⟩ := byt_form y3 LN.out.2.1; clear y3 t3; have t4 : (0 : Nat) = 0 := rfl)
      | (have q2 := t2b; go_at_call 37; refine (SF.out _).mono ?_; rintro e9 w2 ⟨v2, rfl, y2, B2⟩; have YT : Hid (Byt w2 v2 TG) := y2; have O2 : Hid (Own w1.heap.size w2 (.slice zo 24 zc) Z) := own_low O2a.out B2; have C2 : Hid (Below w.heap.size w w2) := C2a.out.trans (B2.mono C2a.out.size); have YZ : Hid (Byt w2 (.slice zo 24 zc) Z) := O2.out.byt AZ.out; obtain ⟨tq, tc, rfl⟩ := byt_form y2 LN.out.2.2.1; clear y2 t2b; have t3 : (0 : Nat) = 0 := rfl)
      | (have q2 := t2; go_at_call 52; refine (SB.out _ B1).mono ?_; rintro e9 w2a ⟨v2, rfl, o2, B2a⟩; have O2a : Hid (Own w1.heap.size w2a v2 Z) := o2; have C2a : Hid (Below w.heap.size w w2a) := B1.trans (B2a.mono B1.size); have z2a := B2a.size; obtain ⟨zo, zc, rfl⟩ := byt_form (o2.byt AZ.out) LN.out.1; clear o2 t2; have t2b : (0 : Nat) = 0 := rfl)
      | (have q1 := t1; refine load_lawC _ rfl (hv k n c l e t) w.heap.size 0 rfl HV.out.1 rowy_head ?_; clear t1; have t2 : (0 : Nat) = 0 := rfl)
      | (have q0 := t0; refine box_lawC _ (hv k n c l e t) rfl ?_; intro w1 V1 B1 s1; have HV : Hid (Vr w1 w.heap.size (hv k n c l e t)) := V1; clear V1 t0; have t1 : (0 : Nat) = 0 := rfl))
  go_ret2
  have z1 := B1.size
  have z2 := B2.size
  have z3 := B3.size
  have z4 := B4.size
  exact ⟨_, rfl, own_less O5.out (by omega), ((C2.out.trans (B3.mono (by omega))).trans (B4.mono (by omega))).trans (B5.mono (by omega))⟩
theorem end_yes (k n c l e t : Int) (v : Value) (tag : List Int) (w : World) (hb' : Byt w v tag) (hl : 0 ≤ l ∧ l ≤ 4294967295) (he : 0 ≤ e ∧ e ≤ 18446744073709551615) (ht : 0 ≤ t ∧ t ≤ 18446744073709551615) (hT : Tab w) (hr : Rh k n c) (hn : tag.length = 0 ∨ tag.length = 32) :
    Calls Tryd.prog 38 #[.agg (hv k n c l e t).toArray, v] w fun x w' => ∃ v, x = .returned (.tuple #[v, .int .i64 0]) ∧ Own w.heap.size w' v (hend (hb k n c l e t) (tgo tag) (List.replicate 8 255)) ∧ Below w.heap.size w w' := by
  rcases hn with q | q
  · exact end_nil k n c l e t v tag w hb' hl he ht hT hr q
  · exact end_tag k n c l e t v tag w hb' hl he ht hT hr q
end Go.Proofs.YtahfcpdekjdceaaDoor.he

/- What head's Read answers. No claim of its own. -/
namespace Go.Proofs.YtahfcpdekjdceaaDoor.he
open Go.RowKit Go.Proofs.YtahfcpdekjdceaaDoor.fa
set_option maxRecDepth 20000

theorem heap_cells (w : World) (b o : Nat) (vs : List Value) (k : Nat) (h : k ≠ b) : (w.setCells b o vs).heap[k]? = w.heap[k]? := by
  induction vs generalizing w o with
  | nil => rfl
  | cons v r ih => exact (ih (w.setCell ⟨b, o, none⟩ v) (o + 1)).trans (Below.heap_setCell w ⟨b, o, none⟩ v k h)
/-- a struct is written into its variable; all other blocks stay -/
theorem step_storeK {ops : Array Oper} {o : Oper} {a : Act} {Q : Exit → Act → World → Prop} {K : Act → World → Prop} {E : Prop} (w : World) (hg : o.guard = none) (d : Option Tmp) (hd : o.dst = d) (x y : Operand) (t : TypeId) (hop : o.op = Op.store t x y) (c : Nat) (cs0 cs : List Value) (hx : a.eval x = .pointer (some ⟨c, 0, none⟩)) (hy : a.eval y = .agg cs.toArray) (hV : Vr w c cs0) (hl : cs0.length = cs.length) (hs : (Tryd.prog.info? t).map (·.size) = some cs.length) (h1 : ∀ v ∈ cs, v.oneCell' = true)
    (hK : ∀ w', Vr w' c cs → Below c w w' → (∀ k, k ≠ c → w'.heap[k]? = w.heap[k]?) → K (a.put d undef) w') : if Region.wanted o (yielded ops a.tmps) = true then Oper.wp Tryd.prog o a w K Q else E := by
  have hw : Region.wanted o (yielded ops a.tmps) = true := by simp [Region.wanted, hg]
  rw [if_pos hw]
  subst hd
  have ht : w.there c 0 cs.length := by rw [← hl]; exact hV.2
  refine wp_store_mid t x y hop c 0 cs.toArray hx hy (by simpa using ht) (by simpa using hs) (all_oneCell_toArray h1) ?_
  exact hK _ ⟨World.rangeAt_setCells_same w c 0 cs ht, World.there_setCells ht c 0 _⟩ (below_cells _ (Nat.le_refl _) _ _ (Below.refl _ _)) (fun k hk => heap_cells w c 0 cs k hk)
/-- bytes of the call's own last where another block is written -/
theorem own_keep {B c : Nat} {w w' : World} {v : Value} {xs : List Int} (h : Own B w v xs) (ha : AllB xs) (hk : ∀ k, k ≠ c → w'.heap[k]? = w.heap[k]?) (hv : ∀ k, v.ownBlock = some k → k ≠ c) : Byt w' v xs := by
  have hb := h.byt ha
  obtain ⟨ao, cap, rfl, h1, h2, h3, h4, h5⟩ := hb
  refine ⟨ao, cap, rfl, h1, h2, h3, h4, fun hp => ?_⟩
  obtain ⟨b, off, rfl, hc⟩ := h5 hp
  refine ⟨b, off, rfl, fun t ht => ?_⟩
  rw [World.cell?_of_block (w := w) (w' := w') (a := ⟨b, off + t, none⟩) (hk b (hv b rfl))]
  exact hc t ht

theorem clone_byt (w : World) (v : Value) (xs : List Int) (h : Byt w v xs) (hp : 0 < xs.length) (hl : xs.length ≤ 1000000) :
    Calls Tryd.prog 44 #[v] w fun e w' => ∃ v', e = .returned v' ∧ Own w.heap.size w' v' xs ∧ Below w.heap.size w w' := by
  have h0 := h
  obtain ⟨ao, cap, rfl, -, -, -, -, h5⟩ := h
  obtain ⟨b, off, rfl, -⟩ := h5 hp
  exact clone_any w _ _ _ xs h0 hl

set_option maxHeartbeats 2000000 in
theorem read_len (v : Value) (xs : List Int) (w : World) (hb : Byt w v xs) (hl : xs.length ≠ 88) :
    Calls Tryd.prog 43 #[v] w fun x w' => x = .returned (.tuple #[.agg (hv 0 0 0 0 0 0).toArray, .slice none 0 0, .int .i64 2]) ∧ Below w.heap.size w w' := by
  have hlen := hb.len
  obtain ⟨ao, cap, rfl, h1, h2, -⟩ := hb
  have HN : ((xs.length : Int) == 88) = false := by rw [beq_eq_false_iff_ne]; omega
  generalize xs.length = n at *
  clear hl hlen h1 h2
  have t0 : (0 : Nat) = 0 := rfl
  go_enter Tryd.func43, Tryd.ntmps43
  go_wp2_with (first
    | (have q2 := t2; refine store_lawC _ (hv 0 0 0 0 0 0) w.heap.size 0 rfl rfl HV.out.2 rowy_head.2 (hv_one _ _ _ _ _ _) ?_; intro w2 E2 R2 T2 B2; have HR : Hid (w2.rangeAt w.heap.size 0 (hv 0 0 0 0 0 0)) := R2; clear t2 E2 R2 T2)
    | (have q1 := t1; refine build_law _ rfl 57 _ rfl (.agg (hv 0 0 0 0 0 0).toArray) (by kernel_rfl) ?_; clear t1; have t2 : (0 : Nat) = 0 := rfl)
    | (have q0 := t0; refine new_lawC _ (hv 0 0 0 0 0 0) zero_head ?_; intro w1 V1 B1 s1; have HV : Hid (Vr w1 w.heap.size (hv 0 0 0 0 0 0)) := V1; clear V1 t0; have t1 : (0 : Nat) = 0 := rfl))
  exact bodyPost_ret (v := .tuple #[.agg (hv 0 0 0 0 0 0).toArray, .slice none 0 0, .int .i64 2]) (results_cvv rfl _ _ w.heap.size _ _ _ rowy_head rfl rfl rfl HR.out) rfl ⟨rfl, B1.trans B2⟩

set_option maxHeartbeats 4000000 in
theorem read_no1 (v : Value) (xs : List Int) (w : World) (hb : Byt w v xs) (hl : xs.length = 88) (hT : Tab w) (hw0 : ¬ inv (sub xs 0 24) = sub xs 24 48) :
    Calls Tryd.prog 43 #[v] w fun x w' => x = .returned (.tuple #[.agg (hv 0 0 0 0 0 0).toArray, .slice none 0 0, .int .i64 1]) ∧ Below w.heap.size w w' := by
  have HB : Hid (Byt w v xs) := hb
  have HL : Hid (xs.length = 88) := hl
  have ha := hb.all
  have b0 := ha 0
  have b1 := ha 1
  have b2 := ha 2
  have bl := (be_num4 (xs := sub xs 4 8) (by rw [sub_len _ _ _ (by omega)]) (allB_sub ha 4 8)).2
  have HT : Hid (∀ w', Below w.heap.size w w' → Tab w') := fun w' q => hT.below q
  have e24 : sub xs 0 24 = xs.take 24 := by unfold sub; rw [List.drop_zero]
  have SI : Hid (∀ w' u, Below w.heap.size w w' → Byt w' u (xs.take 24) → Calls Tryd.prog 56 #[u] w' fun x w'' => x = .returned (.agg (nv [gb xs 0, gb xs 1, gb xs 2, gb xs 3, ql xs, qe xs, qt xs]).toArray) ∧ Below w'.heap.size w' w'') := fun w' u q y => by
    have z := in_any u (xs.take 24) w' y (by rw [List.length_take]; omega) (hT.below q)
    have g : ∀ i, i < 24 → gb (xs.take 24) i = gb xs i := fun i hi => by rw [← e24, sub_gb xs 0 24 i (by omega), Nat.zero_add]
    have s : ∀ a b, b ≤ 24 → sub (xs.take 24) a b = sub xs a b := fun a b hb => by unfold sub; rw [List.take_take, Nat.min_eq_left hb]
    unfold ql qe qt at z ⊢
    rw [g 0 (by omega), g 1 (by omega), g 2 (by omega), g 3 (by omega), s 4 8 (by omega), s 8 16 (by omega), s 16 24 (by omega)] at z
    exact z
  have SH : Hid (∀ w', Calls Tryd.prog 57 #[.agg (nv [gb xs 0, gb xs 1, gb xs 2, gb xs 3, ql xs, qe xs, qt xs]).toArray] w' fun x w'' => x = .returned (.agg (hv (gb xs 0) (gb xs 1) (gb xs 2) (ql xs) (qe xs) (qt xs)).toArray) ∧ Below w'.heap.size w' w'') := fun w' => headOf_any _ _ _ _ _ _ _ w' b0 b1 b2 bl
  have SW : Hid (∀ w', Below w.heap.size w w' → Calls Tryd.prog 58 #[v] w' fun x w'' => x = .returned (.bool (decide (inv (sub xs 0 24) = sub xs 24 48))) ∧ Below w'.heap.size w' w'') := fun w' q => whole_any v xs w' (hb.below q) hl
  have SKd : Hid (∀ w', Calls Tryd.prog 59 #[.int .i64 (gb xs 0)] w' fun e w'' => e = .returned (.bool (decide (1 ≤ gb xs 0 ∧ gb xs 0 ≤ 4))) ∧ w'' = w') := fun w' => kind_any _ w' _ rfl
  obtain ⟨ao, cap, hv'⟩ := byt_form hb hl
  subst hv'
  have dw : decide (inv (sub xs 0 24) = sub xs 24 48) = false := by simpa using hw0
  rw [dw] at SW
  clear dw
  generalize gb xs 0 = n0 at *
  generalize gb xs 1 = n1 at *
  generalize gb xs 2 = n2 at *
  generalize gb xs 3 = n3 at *
  generalize ql xs = l at *
  generalize qe xs = e at *
  generalize qt xs = t at *
  clear hb hl hT ha b0 b1 b2 bl e24
  have t0 : (0 : Nat) = 0 := rfl
  go_enter Tryd.func43, Tryd.ntmps43
  go_wp2_with (first
    | (have q11 := t11; refine store_lawC _ (hv 0 0 0 0 0 0) w.heap.size 0 rfl rfl HR.out.2 rowy_head.2 (hv_one _ _ _ _ _ _) ?_; intro w10 E10 R10 T10 B10; have HQ : Hid (w10.rangeAt w.heap.size 0 (hv 0 0 0 0 0 0)) := R10; clear t11 E10 R10 T10)
    | (have qb := t10; refine build_law _ rfl 57 _ rfl (.agg (hv 0 0 0 0 0 0).toArray) (by kernel_rfl) ?_; clear t10; have t11 : (0 : Nat) = 0 := rfl)
    | (have q9 := t9; go_at_call 58; refine (SW.out _ BB.out).mono ?_; rintro e9 w8 ⟨rfl, B8⟩; have HD : Hid (Vr w8 w5.heap.size (hv n0 n1 n2 l e t)) := HD.out.below B8 s7; have c3 := (HN.out.below B8 (by omega)).cell 3 _ rfl; have ck := HD.out.cell 0 _ rfl; have HR : Hid (Vr w8 w.heap.size (hv 0 0 0 0 0 0)) := HR.out.below B8 (by omega); have BB : Hid (Below w.heap.size w w8) := BB.out.trans (B8.mono BB.out.size); have s8 : w5.heap.size < w8.heap.size := Nat.lt_of_lt_of_le s7 B8.size; clear B8 t9; have t10 : (0 : Nat) = 0 := rfl)
    | (have q8 := t8; refine store_lawC _ (hv n0 n1 n2 l e t) w5.heap.size 0 rfl rfl HD.out.2 rowy_head.2 (hv_one _ _ _ _ _ _) ?_; intro w7 E7 R7 T7 B7; have HD : Hid (Vr w7 w5.heap.size (hv n0 n1 n2 l e t)) := ⟨R7, T7⟩; have HN : Hid (Vr w7 w2.heap.size (nv [n0, n1, n2, n3, l, e, t])) := HN.out.below B7 s5; have HR : Hid (Vr w7 w.heap.size (hv 0 0 0 0 0 0)) := HR.out.below B7 (by omega); have BB : Hid (Below w.heap.size w w7) := BB.out.trans (B7.mono (by omega)); have s7 : w5.heap.size < w7.heap.size := Nat.lt_of_lt_of_le s6 B7.size; clear E7 R7 T7 B7 t8; have t9 : (0 : Nat) = 0 := rfl)
    | (have q7 := t7; refine new_lawC _ (hv 0 0 0 0 0 0) zero_head ?_; intro w6 V6 B6 s6; have HD : Hid (Vr w6 w5.heap.size (hv 0 0 0 0 0 0)) := V6; have HN : Hid (Vr w6 w2.heap.size (nv [n0, n1, n2, n3, l, e, t])) := HN.out.below B6 s5; have HR : Hid (Vr w6 w.heap.size (hv 0 0 0 0 0 0)) := HR.out.below B6 (by omega); have BB : Hid (Below w.heap.size w w6) := BB.out.trans (B6.mono BB.out.size); clear V6 B6 t7; have t8 : (0 : Nat) = 0 := rfl)
    | (have q6 := t6; go_at_call 57; refine (SH.out _).mono ?_; rintro e9 w5 ⟨rfl, B5⟩; have HN : Hid (Vr w5 w2.heap.size (nv [n0, n1, n2, n3, l, e, t])) := HN.out.below B5 s4; have HR : Hid (Vr w5 w.heap.size (hv 0 0 0 0 0 0)) := HR.out.below B5 (by omega); have BB : Hid (Below w.heap.size w w5) := BB.out.trans (B5.mono BB.out.size); have s5 : w2.heap.size < w5.heap.size := Nat.lt_of_lt_of_le s4 B5.size; clear B5 t6; have t7 : (0 : Nat) = 0 := rfl)
    | (have q5 := t5; refine load_lawC _ rfl (nv [n0, n1, n2, n3, l, e, t]) w2.heap.size 0 rfl HN.out.1 rowy_nums ?_; clear t5; have t6 : (0 : Nat) = 0 := rfl)
    | (have q4 := t4; refine store_lawC _ (nv [n0, n1, n2, n3, l, e, t]) w2.heap.size 0 rfl rfl HN.out.2 rowy_nums.2 (nv_one _) ?_; intro w4 E4 R4 T4 B4; have HN : Hid (Vr w4 w2.heap.size (nv [n0, n1, n2, n3, l, e, t])) := ⟨R4, T4⟩; have HR : Hid (Vr w4 w.heap.size (hv 0 0 0 0 0 0)) := HR.out.below B4 s2; have BB : Hid (Below w.heap.size w w4) := BB.out.trans (B4.mono (by omega)); have s4 : w2.heap.size < w4.heap.size := Nat.lt_of_lt_of_le s3 B4.size; clear E4 R4 T4 B4 t4; have t5 : (0 : Nat) = 0 := rfl)
    | (have q3 := t3; refine new_lawC _ (nv [0, 0, 0, 0, 0, 0, 0]) zero_nums ?_; intro w3 V3 B3 s3; have HN : Hid (Vr w3 w2.heap.size (nv [0, 0, 0, 0, 0, 0, 0])) := V3; have HR : Hid (Vr w3 w.heap.size (hv 0 0 0 0 0 0)) := HR.out.below B3 s2; have BB : Hid (Below w.heap.size w w3) := BB.out.trans (B3.mono BB.out.size); clear V3 B3 t3; have t4 : (0 : Nat) = 0 := rfl)
    | (have q2 := t2; go_at_call 56; refine (SI.out _ _ BB.out Y1.out).mono ?_; rintro e9 w2 ⟨rfl, B2⟩; have HR : Hid (Vr w2 w.heap.size (hv 0 0 0 0 0 0)) := HR.out.below B2 s1; have BB : Hid (Below w.heap.size w w2) := BB.out.trans (B2.mono BB.out.size); have s2 : w.heap.size < w2.heap.size := Nat.lt_of_lt_of_le s1 B2.size; clear B2 t2; have t3 : (0 : Nat) = 0 := rfl)
    | (have q1 := t1; refine cut_to _ rfl (.tmp 11) (.const (.int .i64 24)) rfl _ xs _ 24 rfl rfl rfl (by have := HL.out; omega) (HB.out.below BB.out) ?_; intro v1 y1; have Y1 : Hid (Byt w1 v1 (xs.take 24)) := y1; clear y1 t1; have t2 : (0 : Nat) = 0 := rfl)
    | (have q0 := t0; refine new_lawC _ (hv 0 0 0 0 0 0) zero_head ?_; intro w1 V1 B1 s1; have HR : Hid (Vr w1 w.heap.size (hv 0 0 0 0 0 0)) := V1; have BB : Hid (Below w.heap.size w w1) := B1; clear V1 B1 t0; have t1 : (0 : Nat) = 0 := rfl))
  exact bodyPost_ret (v := .tuple #[.agg (hv 0 0 0 0 0 0).toArray, .slice none 0 0, .int .i64 1]) (results_cvv rfl _ _ w.heap.size _ _ _ rowy_head rfl rfl rfl HQ.out) rfl ⟨rfl, BB.out.trans B10⟩

set_option maxHeartbeats 4000000 in
theorem read_no2 (v : Value) (xs : List Int) (w : World) (hb : Byt w v xs) (hl : xs.length = 88) (hT : Tab w) (hw0 : inv (sub xs 0 24) = sub xs 24 48) (hz : gb xs 3 ≠ 0) :
    Calls Tryd.prog 43 #[v] w fun x w' => x = .returned (.tuple #[.agg (hv 0 0 0 0 0 0).toArray, .slice none 0 0, .int .i64 1]) ∧ Below w.heap.size w w' := by
  have HB : Hid (Byt w v xs) := hb
  have HL : Hid (xs.length = 88) := hl
  have ha := hb.all
  have b0 := ha 0
  have b1 := ha 1
  have b2 := ha 2
  have bl := (be_num4 (xs := sub xs 4 8) (by rw [sub_len _ _ _ (by omega)]) (allB_sub ha 4 8)).2
  have HT : Hid (∀ w', Below w.heap.size w w' → Tab w') := fun w' q => hT.below q
  have e24 : sub xs 0 24 = xs.take 24 := by unfold sub; rw [List.drop_zero]
  have SI : Hid (∀ w' u, Below w.heap.size w w' → Byt w' u (xs.take 24) → Calls Tryd.prog 56 #[u] w' fun x w'' => x = .returned (.agg (nv [gb xs 0, gb xs 1, gb xs 2, gb xs 3, ql xs, qe xs, qt xs]).toArray) ∧ Below w'.heap.size w' w'') := fun w' u q y => by
    have z := in_any u (xs.take 24) w' y (by rw [List.length_take]; omega) (hT.below q)
    have g : ∀ i, i < 24 → gb (xs.take 24) i = gb xs i := fun i hi => by rw [← e24, sub_gb xs 0 24 i (by omega), Nat.zero_add]
    have s : ∀ a b, b ≤ 24 → sub (xs.take 24) a b = sub xs a b := fun a b hb => by unfold sub; rw [List.take_take, Nat.min_eq_left hb]
    unfold ql qe qt at z ⊢
    rw [g 0 (by omega), g 1 (by omega), g 2 (by omega), g 3 (by omega), s 4 8 (by omega), s 8 16 (by omega), s 16 24 (by omega)] at z
    exact z
  have SH : Hid (∀ w', Calls Tryd.prog 57 #[.agg (nv [gb xs 0, gb xs 1, gb xs 2, gb xs 3, ql xs, qe xs, qt xs]).toArray] w' fun x w'' => x = .returned (.agg (hv (gb xs 0) (gb xs 1) (gb xs 2) (ql xs) (qe xs) (qt xs)).toArray) ∧ Below w'.heap.size w' w'') := fun w' => headOf_any _ _ _ _ _ _ _ w' b0 b1 b2 bl
  have SW : Hid (∀ w', Below w.heap.size w w' → Calls Tryd.prog 58 #[v] w' fun x w'' => x = .returned (.bool (decide (inv (sub xs 0 24) = sub xs 24 48))) ∧ Below w'.heap.size w' w'') := fun w' q => whole_any v xs w' (hb.below q) hl
  have SKd : Hid (∀ w', Calls Tryd.prog 59 #[.int .i64 (gb xs 0)] w' fun e w'' => e = .returned (.bool (decide (1 ≤ gb xs 0 ∧ gb xs 0 ≤ 4))) ∧ w'' = w') := fun w' => kind_any _ w' _ rfl
  obtain ⟨ao, cap, hv'⟩ := byt_form hb hl
  subst hv'
  have dw : decide (inv (sub xs 0 24) = sub xs 24 48) = true := by simpa using hw0
  rw [dw] at SW
  clear dw
  have hz' : (gb xs 3 != 0) = true := bne_iff_ne.2 hz
  clear hz
  generalize gb xs 0 = n0 at *
  generalize gb xs 1 = n1 at *
  generalize gb xs 2 = n2 at *
  generalize gb xs 3 = n3 at *
  generalize ql xs = l at *
  generalize qe xs = e at *
  generalize qt xs = t at *
  clear hb hl hT ha b0 b1 b2 bl e24
  have t0 : (0 : Nat) = 0 := rfl
  go_enter Tryd.func43, Tryd.ntmps43
  go_wp2_with (first
    | (have q11 := t11; refine store_lawC _ (hv 0 0 0 0 0 0) w.heap.size 0 rfl rfl HR.out.2 rowy_head.2 (hv_one _ _ _ _ _ _) ?_; intro w10 E10 R10 T10 B10; have HQ : Hid (w10.rangeAt w.heap.size 0 (hv 0 0 0 0 0 0)) := R10; clear t11 E10 R10 T10)
    | (have qb := t10; refine build_law _ rfl 57 _ rfl (.agg (hv 0 0 0 0 0 0).toArray) (by kernel_rfl) ?_; clear t10; have t11 : (0 : Nat) = 0 := rfl)
    | (have q9 := t9; go_at_call 58; refine (SW.out _ BB.out).mono ?_; rintro e9 w8 ⟨rfl, B8⟩; have HD : Hid (Vr w8 w5.heap.size (hv n0 n1 n2 l e t)) := HD.out.below B8 s7; have c3 := (HN.out.below B8 (by omega)).cell 3 _ rfl; have ck := HD.out.cell 0 _ rfl; have HR : Hid (Vr w8 w.heap.size (hv 0 0 0 0 0 0)) := HR.out.below B8 (by omega); have BB : Hid (Below w.heap.size w w8) := BB.out.trans (B8.mono BB.out.size); have s8 : w5.heap.size < w8.heap.size := Nat.lt_of_lt_of_le s7 B8.size; clear B8 t9; have t10 : (0 : Nat) = 0 := rfl)
    | (have q8 := t8; refine store_lawC _ (hv n0 n1 n2 l e t) w5.heap.size 0 rfl rfl HD.out.2 rowy_head.2 (hv_one _ _ _ _ _ _) ?_; intro w7 E7 R7 T7 B7; have HD : Hid (Vr w7 w5.heap.size (hv n0 n1 n2 l e t)) := ⟨R7, T7⟩; have HN : Hid (Vr w7 w2.heap.size (nv [n0, n1, n2, n3, l, e, t])) := HN.out.below B7 s5; have HR : Hid (Vr w7 w.heap.size (hv 0 0 0 0 0 0)) := HR.out.below B7 (by omega); have BB : Hid (Below w.heap.size w w7) := BB.out.trans (B7.mono (by omega)); have s7 : w5.heap.size < w7.heap.size := Nat.lt_of_lt_of_le s6 B7.size; clear E7 R7 T7 B7 t8; have t9 : (0 : Nat) = 0 := rfl)
    | (have q7 := t7; refine new_lawC _ (hv 0 0 0 0 0 0) zero_head ?_; intro w6 V6 B6 s6; have HD : Hid (Vr w6 w5.heap.size (hv 0 0 0 0 0 0)) := V6; have HN : Hid (Vr w6 w2.heap.size (nv [n0, n1, n2, n3, l, e, t])) := HN.out.below B6 s5; have HR : Hid (Vr w6 w.heap.size (hv 0 0 0 0 0 0)) := HR.out.below B6 (by omega); have BB : Hid (Below w.heap.size w w6) := BB.out.trans (B6.mono BB.out.size); clear V6 B6 t7; have t8 : (0 : Nat) = 0 := rfl)
    | (have q6 := t6; go_at_call 57; refine (SH.out _).mono ?_; rintro e9 w5 ⟨rfl, B5⟩; have HN : Hid (Vr w5 w2.heap.size (nv [n0, n1, n2, n3, l, e, t])) := HN.out.below B5 s4; have HR : Hid (Vr w5 w.heap.size (hv 0 0 0 0 0 0)) := HR.out.below B5 (by omega); have BB : Hid (Below w.heap.size w w5) := BB.out.trans (B5.mono BB.out.size); have s5 : w2.heap.size < w5.heap.size := Nat.lt_of_lt_of_le s4 B5.size; clear B5 t6; have t7 : (0 : Nat) = 0 := rfl)
    | (have q5 := t5; refine load_lawC _ rfl (nv [n0, n1, n2, n3, l, e, t]) w2.heap.size 0 rfl HN.out.1 rowy_nums ?_; clear t5; have t6 : (0 : Nat) = 0 := rfl)
    | (have q4 := t4; refine store_lawC _ (nv [n0, n1, n2, n3, l, e, t]) w2.heap.size 0 rfl rfl HN.out.2 rowy_nums.2 (nv_one _) ?_; intro w4 E4 R4 T4 B4; have HN : Hid (Vr w4 w2.heap.size (nv [n0, n1, n2, n3, l, e, t])) := ⟨R4, T4⟩; have HR : Hid (Vr w4 w.heap.size (hv 0 0 0 0 0 0)) := HR.out.below B4 s2; have BB : Hid (Below w.heap.size w w4) := BB.out.trans (B4.mono (by omega)); have s4 : w2.heap.size < w4.heap.size := Nat.lt_of_lt_of_le s3 B4.size; clear E4 R4 T4 B4 t4; have t5 : (0 : Nat) = 0 := rfl)
    | (have q3 := t3; refine new_lawC _ (nv [0, 0, 0, 0, 0, 0, 0]) zero_nums ?_; intro w3 V3 B3 s3; have HN : Hid (Vr w3 w2.heap.size (nv [0, 0, 0, 0, 0, 0, 0])) := V3; have HR : Hid (Vr w3 w.heap.size (hv 0 0 0 0 0 0)) := HR.out.below B3 s2; have BB : Hid (Below w.heap.size w w3) := BB.out.trans (B3.mono BB.out.size); clear V3 B3 t3; have t4 : (0 : Nat) = 0 := rfl)
    | (have q2 := t2; go_at_call 56; refine (SI.out _ _ BB.out Y1.out).mono ?_; rintro e9 w2 ⟨rfl, B2⟩; have HR : Hid (Vr w2 w.heap.size (hv 0 0 0 0 0 0)) := HR.out.below B2 s1; have BB : Hid (Below w.heap.size w w2) := BB.out.trans (B2.mono BB.out.size); have s2 : w.heap.size < w2.heap.size := Nat.lt_of_lt_of_le s1 B2.size; clear B2 t2; have t3 : (0 : Nat) = 0 := rfl)
    | (have q1 := t1; refine cut_to _ rfl (.tmp 11) (.const (.int .i64 24)) rfl _ xs _ 24 rfl rfl rfl (by have := HL.out; omega) (HB.out.below BB.out) ?_; intro v1 y1; have Y1 : Hid (Byt w1 v1 (xs.take 24)) := y1; clear y1 t1; have t2 : (0 : Nat) = 0 := rfl)
    | (have q0 := t0; refine new_lawC _ (hv 0 0 0 0 0 0) zero_head ?_; intro w1 V1 B1 s1; have HR : Hid (Vr w1 w.heap.size (hv 0 0 0 0 0 0)) := V1; have BB : Hid (Below w.heap.size w w1) := B1; clear V1 B1 t0; have t1 : (0 : Nat) = 0 := rfl))
  exact bodyPost_ret (v := .tuple #[.agg (hv 0 0 0 0 0 0).toArray, .slice none 0 0, .int .i64 1]) (results_cvv rfl _ _ w.heap.size _ _ _ rowy_head rfl rfl rfl HQ.out) rfl ⟨rfl, BB.out.trans B10⟩

set_option maxHeartbeats 4000000 in
theorem read_no3 (v : Value) (xs : List Int) (w : World) (hb : Byt w v xs) (hl : xs.length = 88) (hT : Tab w) (hw0 : inv (sub xs 0 24) = sub xs 24 48) (hz : gb xs 3 = 0) (hk0 : ¬ (1 ≤ gb xs 0 ∧ gb xs 0 ≤ 4)) :
    Calls Tryd.prog 43 #[v] w fun x w' => x = .returned (.tuple #[.agg (hv 0 0 0 0 0 0).toArray, .slice none 0 0, .int .i64 1]) ∧ Below w.heap.size w w' := by
  have HB : Hid (Byt w v xs) := hb
  have HL : Hid (xs.length = 88) := hl
  have ha := hb.all
  have b0 := ha 0
  have b1 := ha 1
  have b2 := ha 2
  have bl := (be_num4 (xs := sub xs 4 8) (by rw [sub_len _ _ _ (by omega)]) (allB_sub ha 4 8)).2
  have HT : Hid (∀ w', Below w.heap.size w w' → Tab w') := fun w' q => hT.below q
  have e24 : sub xs 0 24 = xs.take 24 := by unfold sub; rw [List.drop_zero]
  have SI : Hid (∀ w' u, Below w.heap.size w w' → Byt w' u (xs.take 24) → Calls Tryd.prog 56 #[u] w' fun x w'' => x = .returned (.agg (nv [gb xs 0, gb xs 1, gb xs 2, gb xs 3, ql xs, qe xs, qt xs]).toArray) ∧ Below w'.heap.size w' w'') := fun w' u q y => by
    have z := in_any u (xs.take 24) w' y (by rw [List.length_take]; omega) (hT.below q)
    have g : ∀ i, i < 24 → gb (xs.take 24) i = gb xs i := fun i hi => by rw [← e24, sub_gb xs 0 24 i (by omega), Nat.zero_add]
    have s : ∀ a b, b ≤ 24 → sub (xs.take 24) a b = sub xs a b := fun a b hb => by unfold sub; rw [List.take_take, Nat.min_eq_left hb]
    unfold ql qe qt at z ⊢
    rw [g 0 (by omega), g 1 (by omega), g 2 (by omega), g 3 (by omega), s 4 8 (by omega), s 8 16 (by omega), s 16 24 (by omega)] at z
    exact z
  have SH : Hid (∀ w', Calls Tryd.prog 57 #[.agg (nv [gb xs 0, gb xs 1, gb xs 2, gb xs 3, ql xs, qe xs, qt xs]).toArray] w' fun x w'' => x = .returned (.agg (hv (gb xs 0) (gb xs 1) (gb xs 2) (ql xs) (qe xs) (qt xs)).toArray) ∧ Below w'.heap.size w' w'') := fun w' => headOf_any _ _ _ _ _ _ _ w' b0 b1 b2 bl
  have SW : Hid (∀ w', Below w.heap.size w w' → Calls Tryd.prog 58 #[v] w' fun x w'' => x = .returned (.bool (decide (inv (sub xs 0 24) = sub xs 24 48))) ∧ Below w'.heap.size w' w'') := fun w' q => whole_any v xs w' (hb.below q) hl
  have SKd : Hid (∀ w', Calls Tryd.prog 59 #[.int .i64 (gb xs 0)] w' fun e w'' => e = .returned (.bool (decide (1 ≤ gb xs 0 ∧ gb xs 0 ≤ 4))) ∧ w'' = w') := fun w' => kind_any _ w' _ rfl
  obtain ⟨ao, cap, hv'⟩ := byt_form hb hl
  subst hv'
  have dw : decide (inv (sub xs 0 24) = sub xs 24 48) = true := by simpa using hw0
  rw [dw] at SW
  clear dw
  have dk : decide (1 ≤ gb xs 0 ∧ gb xs 0 ≤ 4) = false := decide_eq_false hk0
  rw [dk] at SKd
  rw [hz] at SI SH
  clear dk hz hk0
  generalize gb xs 0 = n0 at *
  generalize gb xs 1 = n1 at *
  generalize gb xs 2 = n2 at *
  generalize ql xs = l at *
  generalize qe xs = e at *
  generalize qt xs = t at *
  clear hb hl hT ha b0 b1 b2 bl e24
  have t0 : (0 : Nat) = 0 := rfl
  go_enter Tryd.func43, Tryd.ntmps43
  go_wp2_with (first
    | (have q11 := t11; refine store_lawC _ (hv 0 0 0 0 0 0) w.heap.size 0 rfl rfl HR.out.2 rowy_head.2 (hv_one _ _ _ _ _ _) ?_; intro w10 E10 R10 T10 B10; have HQ : Hid (w10.rangeAt w.heap.size 0 (hv 0 0 0 0 0 0)) := R10; clear t11 E10 R10 T10)
    | (have qb := t10b; refine build_law _ rfl 57 _ rfl (.agg (hv 0 0 0 0 0 0).toArray) (by kernel_rfl) ?_; clear t10b; have t11 : (0 : Nat) = 0 := rfl)
    | (have q10 := t10; go_at_call 59; refine (SKd.out _).mono ?_; rintro e9 w9 ⟨rfl, hw⟩; obtain rfl := hw.symm; clear t10; have t10b : (0 : Nat) = 0 := rfl)
    | (have q9 := t9; go_at_call 58; refine (SW.out _ BB.out).mono ?_; rintro e9 w8 ⟨rfl, B8⟩; have HD : Hid (Vr w8 w5.heap.size (hv n0 n1 n2 l e t)) := HD.out.below B8 s7; have c3 := (HN.out.below B8 (by omega)).cell 3 _ rfl; have ck := HD.out.cell 0 _ rfl; have HR : Hid (Vr w8 w.heap.size (hv 0 0 0 0 0 0)) := HR.out.below B8 (by omega); have BB : Hid (Below w.heap.size w w8) := BB.out.trans (B8.mono BB.out.size); have s8 : w5.heap.size < w8.heap.size := Nat.lt_of_lt_of_le s7 B8.size; clear B8 t9; have t10 : (0 : Nat) = 0 := rfl)
    | (have q8 := t8; refine store_lawC _ (hv n0 n1 n2 l e t) w5.heap.size 0 rfl rfl HD.out.2 rowy_head.2 (hv_one _ _ _ _ _ _) ?_; intro w7 E7 R7 T7 B7; have HD : Hid (Vr w7 w5.heap.size (hv n0 n1 n2 l e t)) := ⟨R7, T7⟩; have HN : Hid (Vr w7 w2.heap.size (nv [n0, n1, n2, 0, l, e, t])) := HN.out.below B7 s5; have HR : Hid (Vr w7 w.heap.size (hv 0 0 0 0 0 0)) := HR.out.below B7 (by omega); have BB : Hid (Below w.heap.size w w7) := BB.out.trans (B7.mono (by omega)); have s7 : w5.heap.size < w7.heap.size := Nat.lt_of_lt_of_le s6 B7.size; clear E7 R7 T7 B7 t8; have t9 : (0 : Nat) = 0 := rfl)
    | (have q7 := t7; refine new_lawC _ (hv 0 0 0 0 0 0) zero_head ?_; intro w6 V6 B6 s6; have HD : Hid (Vr w6 w5.heap.size (hv 0 0 0 0 0 0)) := V6; have HN : Hid (Vr w6 w2.heap.size (nv [n0, n1, n2, 0, l, e, t])) := HN.out.below B6 s5; have HR : Hid (Vr w6 w.heap.size (hv 0 0 0 0 0 0)) := HR.out.below B6 (by omega); have BB : Hid (Below w.heap.size w w6) := BB.out.trans (B6.mono BB.out.size); clear V6 B6 t7; have t8 : (0 : Nat) = 0 := rfl)
    | (have q6 := t6; go_at_call 57; refine (SH.out _).mono ?_; rintro e9 w5 ⟨rfl, B5⟩; have HN : Hid (Vr w5 w2.heap.size (nv [n0, n1, n2, 0, l, e, t])) := HN.out.below B5 s4; have HR : Hid (Vr w5 w.heap.size (hv 0 0 0 0 0 0)) := HR.out.below B5 (by omega); have BB : Hid (Below w.heap.size w w5) := BB.out.trans (B5.mono BB.out.size); have s5 : w2.heap.size < w5.heap.size := Nat.lt_of_lt_of_le s4 B5.size; clear B5 t6; have t7 : (0 : Nat) = 0 := rfl)
    | (have q5 := t5; refine load_lawC _ rfl (nv [n0, n1, n2, 0, l, e, t]) w2.heap.size 0 rfl HN.out.1 rowy_nums ?_; clear t5; have t6 : (0 : Nat) = 0 := rfl)
    | (have q4 := t4; refine store_lawC _ (nv [n0, n1, n2, 0, l, e, t]) w2.heap.size 0 rfl rfl HN.out.2 rowy_nums.2 (nv_one _) ?_; intro w4 E4 R4 T4 B4; have HN : Hid (Vr w4 w2.heap.size (nv [n0, n1, n2, 0, l, e, t])) := ⟨R4, T4⟩; have HR : Hid (Vr w4 w.heap.size (hv 0 0 0 0 0 0)) := HR.out.below B4 s2; have BB : Hid (Below w.heap.size w w4) := BB.out.trans (B4.mono (by omega)); have s4 : w2.heap.size < w4.heap.size := Nat.lt_of_lt_of_le s3 B4.size; clear E4 R4 T4 B4 t4; have t5 : (0 : Nat) = 0 := rfl)
    | (have q3 := t3; refine new_lawC _ (nv [0, 0, 0, 0, 0, 0, 0]) zero_nums ?_; intro w3 V3 B3 s3; have HN : Hid (Vr w3 w2.heap.size (nv [0, 0, 0, 0, 0, 0, 0])) := V3; have HR : Hid (Vr w3 w.heap.size (hv 0 0 0 0 0 0)) := HR.out.below B3 s2; have BB : Hid (Below w.heap.size w w3) := BB.out.trans (B3.mono BB.out.size); clear V3 B3 t3; have t4 : (0 : Nat) = 0 := rfl)
    | (have q2 := t2; go_at_call 56; refine (SI.out _ _ BB.out Y1.out).mono ?_; rintro e9 w2 ⟨rfl, B2⟩; have HR : Hid (Vr w2 w.heap.size (hv 0 0 0 0 0 0)) := HR.out.below B2 s1; have BB : Hid (Below w.heap.size w w2) := BB.out.trans (B2.mono BB.out.size); have s2 : w.heap.size < w2.heap.size := Nat.lt_of_lt_of_le s1 B2.size; clear B2 t2; have t3 : (0 : Nat) = 0 := rfl)
    | (have q1 := t1; refine cut_to _ rfl (.tmp 11) (.const (.int .i64 24)) rfl _ xs _ 24 rfl rfl rfl (by have := HL.out; omega) (HB.out.below BB.out) ?_; intro v1 y1; have Y1 : Hid (Byt w1 v1 (xs.take 24)) := y1; clear y1 t1; have t2 : (0 : Nat) = 0 := rfl)
    | (have q0 := t0; refine new_lawC _ (hv 0 0 0 0 0 0) zero_head ?_; intro w1 V1 B1 s1; have HR : Hid (Vr w1 w.heap.size (hv 0 0 0 0 0 0)) := V1; have BB : Hid (Below w.heap.size w w1) := B1; clear V1 B1 t0; have t1 : (0 : Nat) = 0 := rfl))
  exact bodyPost_ret (v := .tuple #[.agg (hv 0 0 0 0 0 0).toArray, .slice none 0 0, .int .i64 1]) (results_cvv rfl _ _ w.heap.size _ _ _ rowy_head rfl rfl rfl HQ.out) rfl ⟨rfl, BB.out.trans B10⟩
theorem read_no (v : Value) (xs : List Int) (w : World) (hb : Byt w v xs) (hl : xs.length = 88) (hT : Tab w) (h : ¬ Tl xs) :
    Calls Tryd.prog 43 #[v] w fun x w' => x = .returned (.tuple #[.agg (hv 0 0 0 0 0 0).toArray, .slice none 0 0, .int .i64 1]) ∧ Below w.heap.size w w' := by
  by_cases h1 : inv (sub xs 0 24) = sub xs 24 48
  · by_cases h2 : gb xs 3 = 0
    · exact read_no3 v xs w hb hl hT h1 h2 fun q => h ⟨h1, h2, q.1, q.2⟩
    · exact read_no2 v xs w hb hl hT h1 h2
  · exact read_no1 v xs w hb hl hT h1

set_option maxHeartbeats 4000000 in
theorem read_yes (v : Value) (xs : List Int) (w : World) (hb : Byt w v xs) (hl : xs.length = 88) (hT : Tab w) (h : Tl xs) :
    Calls Tryd.prog 43 #[v] w fun x w' => ∃ u, x = .returned (.tuple #[.agg (hv (qk xs) (qn xs) (qc xs) (ql xs) (qe xs) (qt xs)).toArray, u, .int .i64 0]) ∧ Byt w' u (sub xs 48 80) ∧ Below w.heap.size w w' := by
  obtain ⟨hw0, hz, hk1, hk2⟩ := h
  have HB : Hid (Byt w v xs) := hb
  have HL : Hid (xs.length = 88) := hl
  have ha := hb.all
  have b0 := ha 0
  have b1 := ha 1
  have b2 := ha 2
  have bl := (be_num4 (xs := sub xs 4 8) (by rw [sub_len _ _ _ (by omega)]) (allB_sub ha 4 8)).2
  have HT : Hid (∀ w', Below w.heap.size w w' → Tab w') := fun w' q => hT.below q
  have e24 : sub xs 0 24 = xs.take 24 := by unfold sub; rw [List.drop_zero]
  have SI : Hid (∀ w' u, Below w.heap.size w w' → Byt w' u (xs.take 24) → Calls Tryd.prog 56 #[u] w' fun x w'' => x = .returned (.agg (nv [gb xs 0, gb xs 1, gb xs 2, gb xs 3, ql xs, qe xs, qt xs]).toArray) ∧ Below w'.heap.size w' w'') := fun w' u q y => by
    have z := in_any u (xs.take 24) w' y (by rw [List.length_take]; omega) (hT.below q)
    have g : ∀ i, i < 24 → gb (xs.take 24) i = gb xs i := fun i hi => by rw [← e24, sub_gb xs 0 24 i (by omega), Nat.zero_add]
    have s : ∀ a b, b ≤ 24 → sub (xs.take 24) a b = sub xs a b := fun a b hb => by unfold sub; rw [List.take_take, Nat.min_eq_left hb]
    unfold ql qe qt at z ⊢
    rw [g 0 (by omega), g 1 (by omega), g 2 (by omega), g 3 (by omega), s 4 8 (by omega), s 8 16 (by omega), s 16 24 (by omega)] at z
    exact z
  have SH : Hid (∀ w', Calls Tryd.prog 57 #[.agg (nv [gb xs 0, gb xs 1, gb xs 2, gb xs 3, ql xs, qe xs, qt xs]).toArray] w' fun x w'' => x = .returned (.agg (hv (gb xs 0) (gb xs 1) (gb xs 2) (ql xs) (qe xs) (qt xs)).toArray) ∧ Below w'.heap.size w' w'') := fun w' => headOf_any _ _ _ _ _ _ _ w' b0 b1 b2 bl
  have SW : Hid (∀ w', Below w.heap.size w w' → Calls Tryd.prog 58 #[v] w' fun x w'' => x = .returned (.bool (decide (inv (sub xs 0 24) = sub xs 24 48))) ∧ Below w'.heap.size w' w'') := fun w' q => whole_any v xs w' (hb.below q) hl
  have SKd : Hid (∀ w', Calls Tryd.prog 59 #[.int .i64 (gb xs 0)] w' fun e w'' => e = .returned (.bool (decide (1 ≤ gb xs 0 ∧ gb xs 0 ≤ 4))) ∧ w'' = w') := fun w' => kind_any _ w' _ rfl
  obtain ⟨ao, cap, hv'⟩ := byt_form hb hl
  subst hv'
  have dw : decide (inv (sub xs 0 24) = sub xs 24 48) = true := by simpa using hw0
  rw [dw] at SW
  clear dw
  have dk : decide (1 ≤ gb xs 0 ∧ gb xs 0 ≤ 4) = true := decide_eq_true ⟨hk1, hk2⟩
  rw [dk] at SKd
  rw [hz] at SI SH
  have HA5 : Hid (AllB (sub xs 48 80)) := allB_sub ha 48 80
  have HL5 : Hid ((sub xs 48 80).length = 32) := sub_len xs 48 80 (by omega)
  unfold qk qn qc
  clear dk hz hk1 hk2
  generalize gb xs 0 = n0 at *
  generalize gb xs 1 = n1 at *
  generalize gb xs 2 = n2 at *
  generalize ql xs = l at *
  generalize qe xs = e at *
  generalize qt xs = t at *
  clear hb hl hT ha b0 b1 b2 bl e24
  have t0 : (0 : Nat) = 0 := rfl
  go_enter Tryd.func43, Tryd.ntmps43
  go_wp2_with (first
    | (have q10 := t10; go_at_call 59; refine (SKd.out _).mono ?_; rintro e9 w9 ⟨rfl, hw⟩; obtain rfl := hw.symm; clear t10)
    | (have q9 := t9; go_at_call 58; refine (SW.out _ BB.out).mono ?_; rintro e9 w8 ⟨rfl, B8⟩; have HD : Hid (Vr w8 w5.heap.size (hv n0 n1 n2 l e t)) := HD.out.below B8 s7; have c3 := (HN.out.below B8 (by omega)).cell 3 _ rfl; have ck := HD.out.cell 0 _ rfl; have HR : Hid (Vr w8 w.heap.size (hv 0 0 0 0 0 0)) := HR.out.below B8 (by omega); have BB : Hid (Below w.heap.size w w8) := BB.out.trans (B8.mono BB.out.size); have s8 : w5.heap.size < w8.heap.size := Nat.lt_of_lt_of_le s7 B8.size; clear B8 t9; have t10 : (0 : Nat) = 0 := rfl)
    | (have q8 := t8; refine store_lawC _ (hv n0 n1 n2 l e t) w5.heap.size 0 rfl rfl HD.out.2 rowy_head.2 (hv_one _ _ _ _ _ _) ?_; intro w7 E7 R7 T7 B7; have HD : Hid (Vr w7 w5.heap.size (hv n0 n1 n2 l e t)) := ⟨R7, T7⟩; have HN : Hid (Vr w7 w2.heap.size (nv [n0, n1, n2, 0, l, e, t])) := HN.out.below B7 s5; have HR : Hid (Vr w7 w.heap.size (hv 0 0 0 0 0 0)) := HR.out.below B7 (by omega); have BB : Hid (Below w.heap.size w w7) := BB.out.trans (B7.mono (by omega)); have s7 : w5.heap.size < w7.heap.size := Nat.lt_of_lt_of_le s6 B7.size; clear E7 R7 T7 B7 t8; have t9 : (0 : Nat) = 0 := rfl)
    | (have q7 := t7; refine new_lawC _ (hv 0 0 0 0 0 0) zero_head ?_; intro w6 V6 B6 s6; have HD : Hid (Vr w6 w5.heap.size (hv 0 0 0 0 0 0)) := V6; have HN : Hid (Vr w6 w2.heap.size (nv [n0, n1, n2, 0, l, e, t])) := HN.out.below B6 s5; have HR : Hid (Vr w6 w.heap.size (hv 0 0 0 0 0 0)) := HR.out.below B6 (by omega); have BB : Hid (Below w.heap.size w w6) := BB.out.trans (B6.mono BB.out.size); clear V6 B6 t7; have t8 : (0 : Nat) = 0 := rfl)
    | (have q6 := t6; go_at_call 57; refine (SH.out _).mono ?_; rintro e9 w5 ⟨rfl, B5⟩; have HN : Hid (Vr w5 w2.heap.size (nv [n0, n1, n2, 0, l, e, t])) := HN.out.below B5 s4; have HR : Hid (Vr w5 w.heap.size (hv 0 0 0 0 0 0)) := HR.out.below B5 (by omega); have BB : Hid (Below w.heap.size w w5) := BB.out.trans (B5.mono BB.out.size); have s5 : w2.heap.size < w5.heap.size := Nat.lt_of_lt_of_le s4 B5.size; clear B5 t6; have t7 : (0 : Nat) = 0 := rfl)
    | (have q5 := t5; refine load_lawC _ rfl (nv [n0, n1, n2, 0, l, e, t]) w2.heap.size 0 rfl HN.out.1 rowy_nums ?_; clear t5; have t6 : (0 : Nat) = 0 := rfl)
    | (have q4 := t4; refine store_lawC _ (nv [n0, n1, n2, 0, l, e, t]) w2.heap.size 0 rfl rfl HN.out.2 rowy_nums.2 (nv_one _) ?_; intro w4 E4 R4 T4 B4; have HN : Hid (Vr w4 w2.heap.size (nv [n0, n1, n2, 0, l, e, t])) := ⟨R4, T4⟩; have HR : Hid (Vr w4 w.heap.size (hv 0 0 0 0 0 0)) := HR.out.below B4 s2; have BB : Hid (Below w.heap.size w w4) := BB.out.trans (B4.mono (by omega)); have s4 : w2.heap.size < w4.heap.size := Nat.lt_of_lt_of_le s3 B4.size; clear E4 R4 T4 B4 t4; have t5 : (0 : Nat) = 0 := rfl)
    | (have q3 := t3; refine new_lawC _ (nv [0, 0, 0, 0, 0, 0, 0]) zero_nums ?_; intro w3 V3 B3 s3; have HN : Hid (Vr w3 w2.heap.size (nv [0, 0, 0, 0, 0, 0, 0])) := V3; have HR : Hid (Vr w3 w.heap.size (hv 0 0 0 0 0 0)) := HR.out.below B3 s2; have BB : Hid (Below w.heap.size w w3) := BB.out.trans (B3.mono BB.out.size); clear V3 B3 t3; have t4 : (0 : Nat) = 0 := rfl)
    | (have q2 := t2; go_at_call 56; refine (SI.out _ _ BB.out Y1.out).mono ?_; rintro e9 w2 ⟨rfl, B2⟩; have HR : Hid (Vr w2 w.heap.size (hv 0 0 0 0 0 0)) := HR.out.below B2 s1; have BB : Hid (Below w.heap.size w w2) := BB.out.trans (B2.mono BB.out.size); have s2 : w.heap.size < w2.heap.size := Nat.lt_of_lt_of_le s1 B2.size; clear B2 t2; have t3 : (0 : Nat) = 0 := rfl)
    | (have q1 := t1; refine cut_to _ rfl (.tmp 11) (.const (.int .i64 24)) rfl _ xs _ 24 rfl rfl rfl (by have := HL.out; omega) (HB.out.below BB.out) ?_; intro v1 y1; have Y1 : Hid (Byt w1 v1 (xs.take 24)) := y1; clear y1 t1; have t2 : (0 : Nat) = 0 := rfl)
    | (have q0 := t0; refine new_lawC _ (hv 0 0 0 0 0 0) zero_head ?_; intro w1 V1 B1 s1; have HR : Hid (Vr w1 w.heap.size (hv 0 0 0 0 0 0)) := V1; have BB : Hid (Below w.heap.size w w1) := B1; clear V1 B1 t0; have t1 : (0 : Nat) = 0 := rfl))
  have HR : Hid (Vr w8.drew w.heap.size (hv 0 0 0 0 0 0)) := HR.out.drewN 1
  refine wp_region_held_drew (S := fun w' => Below w.heap.size w w' ∧ w'.rangeAt w5.heap.size 0 (hv n0 n1 n2 l e t)) (by kernel_rfl) ⟨BB.out.drew, HD.out.1⟩ (fun hS => ?_)
  obtain ⟨x1, hx0⟩ : ∃ x, x = w8.drew := ⟨_, rfl⟩
  rw [← hx0] at hS HR ⊢
  clear hx0
  refine take_lawH 0 (some 31) (.agg (hv n0 n1 n2 l e t).toArray) rfl rfl (by kernel_rfl) (by kernel_rfl) (by kernel_rfl) (fun _ _ _ h => h) (Or.inl ⟨by rfl, fun w' hw' => by exact exec_loadN 57 (.tmp 6) rfl _ rfl _ _ (load_cells rowy_head hw'.2)⟩) hS ?_
  simp only [Act.put, List.setIfInBounds_toArray, List.set_cons_zero, List.set_cons_succ]
  refine take_lawH 1 (some 32) (.slice ao 88 cap) rfl rfl (by kernel_rfl) (by kernel_rfl) (by kernel_rfl) (fun _ _ _ h => h) (Or.inl ⟨by rfl, fun w' hw' => by rfl⟩) hS ?_
  simp only [Act.put, List.setIfInBounds_toArray, List.set_cons_zero, List.set_cons_succ]
  refine take_lawH 2 (some 33) (sl (.slice ao 88 cap) 48 80) rfl rfl (by kernel_rfl) (by kernel_rfl) (by kernel_rfl) (fun _ _ _ h => h) (Or.inl ⟨by rfl, fun w' hw' => by exact exec_part (.tmp 32) (.const (.int .i64 48)) (.const (.int .i64 80)) rfl _ xs _ HB.out 48 80 rfl rfl rfl (by omega) (by have := HL.out; omega) _⟩) hS ?_
  simp only [Act.put, List.setIfInBounds_toArray, List.set_cons_zero, List.set_cons_succ]
  refine wpAnyH_ready (rs := [3]) (by kernel_rfl) (by simp) ?_
  refine AllReadyH.cons rfl (fun K hK => ?_) AllReadyH.nil
  refine step_callW _ (by rfl) (some 34) rfl 44 #[.tmp 33] #[24] rfl (fun q w' => by rfl) #[sl (.slice ao 88 cap) 48 80] (by simp only [List.map_toArray, List.map_cons, List.map_nil]; rfl) (fun u w' => Own x1.heap.size w' u (sub xs 48 80) ∧ Below x1.heap.size x1 w') ?_ ?_
  · exact (clone_byt x1 _ _ (sl_sub (HB.out.below hS.1) 48 80 (by omega) (by have := HL.out; omega)) (by have := HL5.out; omega) (by have := HL5.out; omega)).mono fun e w' ⟨u, h1, h2, h3⟩ => ⟨u, h1, h2, h3⟩
  rintro u1 x2 ⟨y1, hb⟩
  have Y1 : Hid (Own x1.heap.size x2 u1 (sub xs 48 80)) := y1
  have HO1 : Hid (∀ k, u1.ownBlock = some k → k ≠ w.heap.size) := fun k hk => by have := (World.ownsRow.lt y1 k hk).1; have := range_lt HR.out.1 (by simp [hv]); omega
  have HR : Hid (Vr x2 w.heap.size (hv 0 0 0 0 0 0)) := HR.out.below hb (range_lt HR.out.1 (by simp [hv]))
  have hS : Below w.heap.size w x2 ∧ x2.rangeAt w5.heap.size 0 (hv n0 n1 n2 l e t) := ⟨hS.1.trans (hb.mono hS.1.size), range_heap hS.2 (hb.block _ (range_lt hS.2 (by simp [hv])))⟩
  clear hb y1
  refine hK.out _ _ hS (fun _ => ?_)
  simp only [Act.put, List.setIfInBounds_toArray, List.set_cons_zero, List.set_cons_succ]
  clear hK K
  refine wpAnyH_ready (rs := [4]) (by kernel_rfl) (by simp) ?_
  refine AllReadyH.cons rfl (fun K hK => ?_) AllReadyH.nil
  refine step_storeK _ rfl none rfl (.tmp 2) (.tmp 31) 57 rfl w.heap.size (hv 0 0 0 0 0 0) (hv n0 n1 n2 l e t) rfl rfl HR.out rfl rowy_head.2 (hv_one _ _ _ _ _ _) ?_
  intro x3 v9 B9 E9
  have HQ : Hid (Vr x3 w.heap.size (hv n0 n1 n2 l e t)) := v9
  have Y1 : Hid (Byt x3 u1 (sub xs 48 80)) := own_keep Y1.out HA5.out E9 HO1.out
  have hS : Below w.heap.size w x3 ∧ x3.rangeAt w5.heap.size 0 (hv n0 n1 n2 l e t) := ⟨hS.1.trans B9, range_heap hS.2 (E9 _ (by omega))⟩
  clear v9 B9 E9
  refine hK.out _ _ hS (fun _ => ?_)
  simp only [Act.put]
  clear hK K
  refine take_lawH 5 (some 3) (u1) rfl rfl (by kernel_rfl) (by kernel_rfl) (by kernel_rfl) (fun _ _ _ h => h) (Or.inl ⟨by rfl, fun w' hw' => by rfl⟩) hS ?_
  simp only [Act.put, List.setIfInBounds_toArray, List.set_cons_zero, List.set_cons_succ]
  refine take_lawH 6 (some 4) (.int .i64 0) rfl rfl (by kernel_rfl) (by kernel_rfl) (by kernel_rfl) (fun _ _ _ h => h) (Or.inl ⟨by rfl, fun w' hw' => by rfl⟩) hS ?_
  simp only [Act.put, List.setIfInBounds_toArray, List.set_cons_zero, List.set_cons_succ]
  refine wpAnyH_done (by kernel_rfl) ?_ _
  go_wp2
  exact bodyPost_ret (v := .tuple #[.agg (hv n0 n1 n2 l e t).toArray, u1, .int .i64 0]) (results_cvv rfl _ _ w.heap.size _ _ _ rowy_head rfl rfl rfl HQ.out.1) rfl ⟨_, rfl, Y1.out, hS.1⟩
end Go.Proofs.YtahfcpdekjdceaaDoor.he

/- How a statement is closed once its call is known to return true and to leave all that was there as it was; what an argument that is a slice of bytes holds. No claim of its own. -/
namespace Go.Proofs.YtahfcpdekjdceaaDoor
open Go.ChangeShapes Go.WideShapes Go.ChangeAt Go.RowKit
set_option maxRecDepth 20000

theorem laidOut : laidOutB Tryd.prog = true := by kernel_rfl

theorem trodAll_below {H : Type} {enc : TypeId × Value → H} {W W' : World} (hb : Below W.heap.size W W') :
    ∀ (ts : List TypeId) (vs : List Value) (ds : List (DataW H)) (ps : List MemPlace), (∀ t ∈ ts, Tryd.prog.readableRec t = true ∧ t < Tryd.prog.types.size) → (∀ x ∈ ps, x.block < W.heap.size) →
      DataW.TrodAll enc Tryd.prog W 0 (fun _ => true) true ts vs ds ps → DataW.TrodAll enc Tryd.prog W' 0 (fun b => decide (b < W.heap.size)) true ts vs ds ps
  | [], [], [], _, _, _, h => h
  | t :: ts, v :: vs, d :: ds, ps, ht, hp, h => by
    obtain ⟨p, q, h1, h2, rfl⟩ := h
    have t1 := ht t (by simp)
    exact ⟨p, q, Below.trod laidOut t1.1 t1.2 h1 hb (fun x hx => hp x (by simp [hx])), trodAll_below hb ts vs ds q (fun t h => ht t (by simp [h])) (fun x hx => hp x (by simp [hx])) h2, rfl⟩

theorem post_law {H : Type} {enc : TypeId × Value → H} {s : ChangeSpec} {f : Func} {W W' : World} {args : Array Value} {ds gs : List (DataW H)} {before : List MemPlace}
    (hv : s.vars = []) (hr : f.resultTypes = #[4]) (hts : ∀ t ∈ f.params.toList, Tryd.prog.readableRec t = true ∧ t < Tryd.prog.types.size)
    (hres : (s.fn H (ds ++ gs)).results = [.lit (.bool true)]) (hargs : (s.fn H (ds ++ gs)).args = ds) (hvars : (s.fn H (ds ++ gs)).vars = [])
    (hW : DataW.Whole enc Tryd.prog f.params.toList s.vars false W args.toList ds gs before) (hb : Below W.heap.size W W') :
    s.post enc Tryd.prog f false true false false W args (.bool true) W' := by
  have hW' := hW
  have hlt := hW.lt
  obtain ⟨p, q, hA, hV, hpq, hfz, hnd⟩ := hW
  refine ⟨ds, gs, before, [], p, [], hW', ?_, ?_, ?_, hb.frame _, fun h => by cases h⟩
  · rw [hres, hr]
    exact trodAll_mk1 (shut_bool Tryd.underlying4 _)
  · rw [hargs]
    exact trodAll_below hb _ _ _ _ hts (fun x hx => by simpa using hlt x (by rw [hpq]; simp [hx])) hA
  · rw [hvars, hv]; rfl

set_option maxRecDepth 20000 in
/-- an argument that is a slice of bytes holds bytes -/
theorem byt_open {H : Type} {enc : TypeId × Value → H} {W : World} {base : Nat} {v : Value} {d : DataW H} {ps : List MemPlace}
    (ok : Value.okWide Tryd.prog W .any base 24 v) (h : DataW.Trod enc Tryd.prog W 0 (fun _ => true) true 24 v d ps) : ∃ xs, Byt W v xs := by
  obtain ⟨a0, len, cap, rfl⟩ := okWide_slice Tryd.underlying24 ok
  obtain ⟨fuel, hf⟩ := h
  rcases open_ints Tryd.underlying24 Tryd.underlying5 cells_u8 hf with ⟨hcs, hx⟩ | ⟨a, len', cap', zs, hcs, _, hl, hm, hz, hx, hcell, hwz⟩
  · simp [Value.cells] at hcs
    obtain ⟨rfl, rfl, rfl⟩ := hcs
    exact ⟨[], Byt.nil W⟩
  · simp [Value.cells] at hcs
    obtain ⟨rfl, rfl, rfl⟩ := hcs
    simp at hz
    have hlen : (zs.take len).length = len := by simp; omega
    have hgb : ∀ t, t < len → gb (zs.take len) t = zs.getD t 0 := fun t ht => by simp [gb, List.getD, ht]
    refine ⟨zs.take len, some a, cap, by rw [hlen], by omega, by simpa [maxLen] using hm, allB_mem fun x hx => bounds_u8 (hwz x (List.mem_of_mem_take hx)), (by intro h; cases h), fun hp => ?_⟩
    obtain ⟨b, off, rfl, hc⟩ := ints_at hcell (by omega)
    refine ⟨b, off, rfl, fun t ht => ?_⟩
    rw [hgb t (by omega)]
    exact hc t (by omega)
theorem nat_of {x : Int} (h : 0 ≤ x ∧ x ≤ 255) : ∃ a : Nat, x = a ∧ a < 256 := ⟨x.toNat, by omega, by omega⟩
end Go.Proofs.YtahfcpdekjdceaaDoor

/- What an argument that is a head holds; what the row's list of variables gives. No claim of its own. -/
namespace Go.Proofs.YtahfcpdekjdceaaDoor.he
open Go.ChangeShapes Go.WideShapes Go.ChangeAt Go.RowKit Go.Proofs.YtahfcpdekjdceaaDoor.fa
set_option maxRecDepth 20000

theorem own_cell {B : Nat} {w : World} {v : Value} {xs : List Int} {n : Nat} (h : Own B w v xs) (hl : xs.length = n) (hp : 0 < n) : ∃ g cap, v = .slice (some ⟨g, 0, none⟩) n cap ∧ n ≤ cap ∧ cap ≤ 9223372036854775807 ∧ ∀ i, i < n → w.cell? ⟨g, i, none⟩ = some (.int .u8 (gb xs i)) := by
  subst hl
  rcases h.2 with ⟨_, hn⟩ | ⟨g, cap, cur, rfl, hg, hh, hc, hm, hs, ht⟩
  · omega
  refine ⟨g, cap, rfl, hc, by simpa [maxLen] using hm, fun i hi => ?_⟩
  obtain ⟨g', cap', e, oc⟩ := own_row h hp
  cases e
  exact oc.cell hi

/-- what the row's list of variables gives: the table of sizes -/
theorem gTab : Tryd.prog.globalNamed "nepenthe/head.sizes" = some 0 := by kernel_rfl
theorem gTabType : (Tryd.prog.globals[0]?).map (·.type) = some 100 := by kernel_rfl

theorem cells_arr7i : Tryd.prog.cellsOf 100 = 7 := by kernel_rfl

theorem cells_int : Tryd.prog.cellsOf 3 = 1 := by kernel_rfl
theorem cells_u32 : Tryd.prog.cellsOf 55 = 1 := by kernel_rfl
theorem cells_u64 : Tryd.prog.cellsOf 25 = 1 := by kernel_rfl

theorem cells_head : Tryd.prog.cellsOf 57 = 6 := by kernel_rfl

theorem table {W : World} (h : laidMetH Tryd.prog [("nepenthe/head.sizes", Rows.laid_nepenthe_head_sizes)] W) : Tab W := by
  have t := Lib.tabIs_of_head (rest := []) (zs := [1, 1, 1, 1, 4, 8, 8]) (k := .i64) gTab gTabType Tryd.underlying100 Tryd.underlying3 cells_int cells_arr7i h
  intro i hi
  have := t.cell gTab i hi
  rw [this]
  rfl

/-- one cell that is read as a number -/
theorem num_cell {H : Type} {enc : TypeId × Value → H} {W : World} {fuel : Nat} {c : Value} {x : DataW H × List MemPlace} {t : TypeId} {k : IntKind} (ht : Tryd.prog.underlying t = some (.int k))
    (hf : DataW.trod enc Tryd.prog W 0 (fun _ => true) true fuel t [c] = some x) : ∃ n, c = .int k n ∧ (Lit.int k n).wf = true := by
  obtain ⟨y, hy, -, hw⟩ := DataW.trod_int ht hf
  exact ⟨y, by simpa using hy, hw⟩

/-- the bounds of a head's numbers -/
def Hb (l e t : Int) : Prop := (0 ≤ l ∧ l ≤ 4294967295) ∧ (0 ≤ e ∧ e ≤ 18446744073709551615) ∧ 0 ≤ t ∧ t ≤ 18446744073709551615
/-- an argument that is a head -/
theorem head_open {H : Type} {enc : TypeId × Value → H} {W : World} {base : Nat} {v : Value} {d : DataW H} {ps : List MemPlace}
    (ok : Value.okWide Tryd.prog W .any base 57 v) (h : DataW.Trod enc Tryd.prog W 0 (fun _ => true) true 57 v d ps) : ∃ k n c l e t, v = .agg (hv k n c l e t).toArray ∧ Hb l e t := by
  simp only [Value.okWide, Tryd.underlying57] at ok
  obtain ⟨cs, rfl, h2, _⟩ := ok
  rw [cells_head] at h2
  obtain ⟨l⟩ := cs
  obtain ⟨c0, c1, c2, c3, c4, c5, rfl⟩ : ∃ c0 c1 c2 c3 c4 c5, l = [c0, c1, c2, c3, c4, c5] := by
    match l, h2 with
    | [c0, c1, c2, c3, c4, c5], _ => exact ⟨c0, c1, c2, c3, c4, c5, rfl⟩
  obtain ⟨fuel, hf⟩ := h
  obtain ⟨xs, n, -, -, -, hlen, hall⟩ := DataW.trod_struct Tryd.underlying57 hf
  match xs, hlen with
  | [y0, y1, y2, y3, y4, y5], _ =>
    have a0 := hall 0 _ rfl
    have a1 := hall 1 _ rfl
    have a2 := hall 2 _ rfl
    have a3 := hall 3 _ rfl
    have a4 := hall 4 _ rfl
    have a5 := hall 5 _ rfl
    simp [cells_int, cells_u32, cells_u64, Value.cells] at a0 a1 a2 a3 a4 a5
    obtain ⟨n0, rfl, -⟩ := num_cell Tryd.underlying3 a0
    obtain ⟨n1, rfl, -⟩ := num_cell Tryd.underlying3 a1
    obtain ⟨n2, rfl, -⟩ := num_cell Tryd.underlying3 a2
    obtain ⟨n3, rfl, w3⟩ := num_cell Tryd.underlying55 a3
    obtain ⟨n4, rfl, w4⟩ := num_cell Tryd.underlying25 a4
    obtain ⟨n5, rfl, w5⟩ := num_cell Tryd.underlying25 a5
    exact ⟨n0, n1, n2, n3, n4, n5, rfl, bounds_u32 w3, bounds_u64 w4, bounds_u64 w5⟩
end Go.Proofs.YtahfcpdekjdceaaDoor.he

/- Two heads that are the same; what an end that was made tells. No claim of its own. -/
namespace Go.Proofs.YtahfcpdekjdceaaDoor.he
open Go.RowKit Go.Proofs.YtahfcpdekjdceaaDoor.fa
set_option maxRecDepth 20000

theorem eql_head (k n c l e t : Int) (w : World) : (binOp .eql 57 (.agg #[.int .i64 k, .int .i64 n, .int .i64 c, .int .u32 l, .int .u64 e, .int .u64 t]) (.agg #[.int .i64 k, .int .i64 n, .int .i64 c, .int .u32 l, .int .u64 e, .int .u64 t])).run Tryd.prog w = .ok (.bool true) w := by
  go_simp
theorem same_yes (w : World) (va vb : Value) (xs : List Int) (ha : Byt w va xs) (hb : Byt w vb xs) : Calls Tryd.prog 12 #[va, vb] w fun e w' => e = .returned (.bool true) ∧ Below w.heap.size w w' := by
  refine (same_any w va vb xs xs ha hb).mono ?_
  rintro e w' ⟨rfl, n, rfl⟩
  exact ⟨by simp, below_drawn (Below.refl _ _) n⟩
/-- what an end tells, committed or not -/
theorem read_end {k n c l e t : Int} (h : Rh k n c) (hf : Hb l e t) {tag mk : List Int} (h1 : tag.length = 32) (h2 : mk.length = 8) (w : World) (u : Value) (hb' : Byt w u (hend (hb k n c l e t) tag mk)) (hT : Tab w) :
    Calls Tryd.prog 43 #[u] w fun x w' => ∃ v, x = .returned (.tuple #[.agg (hv k n c l e t).toArray, v, .int .i64 0]) ∧ Byt w' v tag ∧ Below w.heap.size w w' := by
  have z := read_yes u _ w hb' (hend_len (hb_len _ _ _ _ _ _) h1 h2) hT (hend_tl h tag mk h1)
  obtain ⟨q1, q2, q3, q4, q5, q6⟩ := q_hb (k := k) (n := n) (c := c) (l := l) (e := e) (t := t) (inv (hb k n c l e t) ++ (tag ++ mk)) hf.1 hf.2.1 hf.2.2
  have s := (hend_sub (mark := mk) (hb_len k n c l e t) h1).2.2.1
  rw [s] at z
  unfold hend at z
  rw [q1, q2, q3, q4, q5, q6] at z
  exact z
/-- is an end committed? -/
theorem comm_end {k n c l e t : Int} {tag mk : List Int} (h1 : tag.length = 32) (h2 : mk.length = 8) (b : Bool) (hm : decide (mk = List.replicate 8 0) = b) (w : World) (u : Value) (hb' : Byt w u (hend (hb k n c l e t) tag mk)) :
    Calls Tryd.prog 45 #[u] w fun x w' => x = .returned (.bool b) ∧ Below w.heap.size w w' := by
  have z := comm_yes u _ w hb' (hend_len (hb_len _ _ _ _ _ _) h1 h2)
  rw [(hend_sub (mark := mk) (hb_len k n c l e t) h1).2.2.2, hm] at z
  exact z
end Go.Proofs.YtahfcpdekjdceaaDoor.he

/- Geometries in numbers: how many blocks sectors take, quotas, their sum, whether namespaces fit, room for one more. No claim of its own. -/
namespace Go.Proofs.YtahfcpdekjdceaaDoor.ge
open Go.RowKit
set_option maxRecDepth 20000

/-- the quota of s sectors, u of them a block -/
def qt (u s : Nat) : Nat := (s + u - 1) / u + 2
theorem qt_le (u s k : Nat) (hu : 0 < u) : qt u s ≤ k + 2 ↔ s ≤ k * u := by
  unfold qt
  constructor
  · intro h
    have h1 : (s + u - 1) / u ≤ k := by omega
    have h2 : s + u - 1 < (k + 1) * u := by
      rcases Nat.lt_or_ge (s + u - 1) ((k + 1) * u) with h | h
      · exact h
      · have := (Nat.le_div_iff_mul_le hu).2 h
        omega
    rw [Nat.add_mul] at h2
    omega
  · intro h
    have h2 : (s + u - 1) / u < k + 1 := by
      rw [Nat.div_lt_iff_lt_mul hu, Nat.add_mul]
      omega
    omega
theorem qt_two (u s : Nat) : 2 ≤ qt u s := Nat.le_add_left 2 _
theorem qt_pos (u s : Nat) (hu : 0 < u) (hs : 0 < s) : 3 ≤ qt u s := by
  rcases Nat.lt_or_ge (qt u s) 3 with h | h
  · have := (qt_le u s 0 hu).1 (by omega)
    omega
  · exact h
theorem qt_mono (u s t : Nat) (hu : 0 < u) (h : s ≤ t) : qt u s ≤ qt u t := by
  have h2 := qt_two u t
  have := (qt_le u s (qt u t - 2) hu).2 (Nat.le_trans h ((qt_le u t (qt u t - 2) hu).1 (by omega)))
  omega
/-- a loop that counts blocks till they hold s sectors is done at its quota's -/
theorem qt_count (u s n : Nat) (hu : 0 < u) (h1 : s ≤ n * u) (h2 : ∀ m, m < n → m * u < s) : qt u s = n + 2 := by
  have a := (qt_le u s n hu).2 h1
  rcases Nat.lt_or_ge (qt u s) (n + 2) with h | h
  · have h3 := qt_two u s
    have := (qt_le u s (qt u s - 2) hu).1 (by omega)
    have := h2 (qt u s - 2) (by omega)
    omega
  · omega

/-- the quotas' sum -/
def sumq (u : Nat) : List Int → Nat
  | [] => 0
  | s :: r => qt u s.toNat + sumq u r
theorem sumq_app (u : Nat) (l r : List Int) : sumq u (l ++ r) = sumq u l + sumq u r := by
  induction l with
  | nil => simp [sumq]
  | cons s l ih => simp [sumq, ih]; omega
/-- all sizes are in range -/
def InR (l : List Int) : Prop := ∀ s ∈ l, 1 ≤ s ∧ s ≤ 65535
theorem inr_app (l r : List Int) : InR (l ++ r) ↔ InR l ∧ InR r := by
  constructor
  · intro h
    exact ⟨fun s hs => h s (List.mem_append.2 (.inl hs)), fun s hs => h s (List.mem_append.2 (.inr hs))⟩
  · rintro ⟨h1, h2⟩ s hs
    rcases List.mem_append.1 hs with h | h
    · exact h1 s h
    · exact h2 s h
theorem inr_one (s : Int) : InR [s] ↔ 1 ≤ s ∧ s ≤ 65535 := ⟨fun h => h s (by simp), fun h t ht => by rw [List.mem_singleton.1 ht]; exact h⟩
/-- the sum of quotas that stops growing above 64 -/
def csum (u : Nat) (a : Nat) : List Int → Nat
  | [] => a
  | s :: r => csum u (if a ≤ 64 then a + qt u s.toNat else a) r
theorem csum_big (u : Nat) (a : Nat) (l : List Int) (h : 64 < a) : csum u a l = a := by
  induction l with
  | nil => rfl
  | cons s r ih => rw [csum, if_neg (by omega)]; exact ih
theorem csum_le (u D : Nat) (hD : D ≤ 64) (l : List Int) : ∀ a, csum u a l ≤ D ↔ a + sumq u l ≤ D := by
  induction l with
  | nil => intro a; simp [csum, sumq]
  | cons s r ih =>
    intro a
    rw [csum, sumq]
    by_cases h : a ≤ 64
    · rw [if_pos h, ih]; omega
    · rw [if_neg h, csum_big u a r (by omega)]
      omega
theorem csum_snoc (u : Nat) (l : List Int) (s : Int) : ∀ a, csum u a (l ++ [s]) = if csum u a l ≤ 64 then csum u a l + qt u s.toNat else csum u a l := by
  induction l with
  | nil => intro a; rfl
  | cons t r ih => intro a; exact ih _
/-- namespaces fit: D data blocks, sp spare -/
def Fits (D sp u : Nat) (l : List Int) : Prop := InR l ∧ l.length ≤ 4 ∧ sp + sumq u l ≤ D
/-- room for one more -/
def room (D sp u : Nat) (l : List Int) : Nat := if l.length < 4 ∧ sp + sumq u l + 3 ≤ D then min 65535 ((D - sp - sumq u l - 2) * u) else 0
theorem room_le (D sp u : Nat) (l : List Int) : room D sp u l ≤ 65535 := by unfold room; split <;> omega
theorem fits_snoc (D sp u : Nat) (hu : 0 < u) (l : List Int) (h : Fits D sp u l) (s : Nat) (hs : 1 ≤ s) (hs' : s ≤ 65535) : Fits D sp u (l ++ [(s : Int)]) ↔ s ≤ room D sp u l := by
  have hq := qt_pos u s hu (by omega)
  unfold Fits room
  rw [inr_app, inr_one, sumq_app, List.length_append]
  have e : sumq u [(s : Int)] = qt u s := by simp [sumq]
  rw [e]
  have key := qt_le u s (D - sp - sumq u l - 2) hu
  constructor
  · rintro ⟨-, h2, h3⟩
    have h2' : l.length + 1 ≤ 4 := h2
    rw [if_pos ⟨by omega, by omega⟩]
    have := key.1 (by omega)
    omega
  · intro h5
    split at h5
    · next h6 =>
      have := key.2 (by omega)
      exact ⟨⟨h.1, by omega⟩, show l.length + 1 ≤ 4 by omega, by omega⟩
    · omega
/-- what room tells fits, and one more does not -/
theorem room_fits (D sp u : Nat) (hu : 0 < u) (l : List Int) (h : Fits D sp u l) (hp : 0 < room D sp u l) : Fits D sp u (l ++ [((room D sp u l : Nat) : Int)]) :=
  (fits_snoc D sp u hu l h _ hp (room_le D sp u l)).2 (Nat.le_refl _)
theorem room_more (D sp u : Nat) (hu : 0 < u) (l : List Int) (h : Fits D sp u l) (hp : room D sp u l < 65535) : ¬ Fits D sp u (l ++ [((room D sp u l + 1 : Nat) : Int)]) := fun hf => by
  have := (fits_snoc D sp u hu l h _ (by omega) (by omega)).1 hf
  omega
/-- fewer, and smaller ones -/
theorem fits_mid (D sp u : Nat) (a b : List Int) (s : Int) (h : Fits D sp u (a ++ s :: b)) : Fits D sp u (a ++ b) := by
  obtain ⟨h1, h2, h3⟩ := h
  rw [inr_app] at h1
  rw [sumq_app] at h3
  refine ⟨(inr_app a b).2 ⟨h1.1, fun t ht => h1.2 t (List.mem_cons_of_mem _ ht)⟩, ?_, ?_⟩
  · rw [List.length_append] at h2 ⊢
    rw [List.length_cons] at h2
    omega
  · rw [sumq_app]
    have : sumq u (s :: b) = qt u s.toNat + sumq u b := rfl
    omega
theorem fits_less (D sp u : Nat) (hu : 0 < u) (a b : List Int) (s t : Int) (ht : 1 ≤ t) (hts : t ≤ s) (h : Fits D sp u (a ++ s :: b)) : Fits D sp u (a ++ t :: b) := by
  obtain ⟨h1, h2, h3⟩ := h
  rw [inr_app] at h1
  rw [sumq_app] at h3
  have hs := h1.2 s (by simp)
  have hq := qt_mono u t.toNat s.toNat hu (by omega)
  refine ⟨(inr_app a (t :: b)).2 ⟨h1.1, fun x hx => ?_⟩, ?_, ?_⟩
  · rcases List.mem_cons.1 hx with rfl | hx
    · omega
    · exact h1.2 x (List.mem_cons_of_mem _ hx)
  · rw [List.length_append] at h2 ⊢
    exact h2
  · rw [sumq_app]
    have e1 : sumq u (s :: b) = qt u s.toNat + sumq u b := rfl
    have e2 : sumq u (t :: b) = qt u t.toNat + sumq u b := rfl
    omega
end Go.Proofs.YtahfcpdekjdceaaDoor.ge

