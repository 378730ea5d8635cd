/- Parts of the proof: what KeyboxGone reaches. No claim of its own. -/
import Derived.WalkKit
import Derived.Deep.QuietTactic
import Derived.Laws.AppendOwnNone
import Derived.Deep.RegionHeld3
import Derived.Deep.DeepCutAuto
import Derived.Deep.WholeRow
import Derived.Deep.MidRow
import Derived.Laws.StructEq
import Derived.Lib.AppendZeros
import Derived.Lib.SliceRun
import Derived.WalkSmall
import Derived.ProofKit
import Derived.OpenShut
import Derived.BigQuiet
import Derived.Deep.DeepHandedRow
import Derived.Lib.LaidTab
import Derived.Deep.Matrix
import Derived.Test.YtakibiigcdgohaaGreatDoorD00
import Derived.Test.YtakibiigcdgohaaGreatDoorD01
import Derived.Test.YtakibiigcdgohaaGreatDoorD02
import Derived.Test.YtakibiigcdgohaaGreatDoorD03
import Derived.Test.YtakibiigcdgohaaGreatDoorD09
import Derived.Test.YtakibiigcdgohaaGreatDoorD10
import Derived.Test.YtakibiigcdgohaaGreatDoorD11
set_option maxHeartbeats 8000000
namespace Go.Proofs.YtakibiigcdgohaaGreatDoor.he
open Go.RowKit Go.Proofs.YtakibiigcdgohaaGreatDoor.fa
set_option maxRecDepth 20000
theorem whole_any (v : Value) (xs : List Int) (w : World) (hb : Byt w v xs) (hl : xs.length = 88) :
    Calls Tryz.prog 130 #[v] w fun x w' => x = .returned (.bool (decide (inv (sub xs 0 24) = sub xs 24 48))) ∧ Below w.heap.size w w' := by
  have HB : Hid (Byt w v xs) := hb
  obtain ⟨ao, cap, hv⟩ := byt_form hb hl
  subst hv
  have HL : Hid (xs.length = 88) := hl
  clear hb hl
  generalize hZ : inv (sub xs 0 24) = Z
  have HZ : Hid (inv (sub xs 0 24) = Z) := hZ
  clear hZ
  go_enter Tryz.func130, Tryz.ntmps130
  go_wp2
  refine wp_region_held_drew (S := fun w' => Below w.heap.size w w') (by kernel_rfl) (Below.refl _ _).drew (fun hS => ?_)
  obtain ⟨x1, hx0⟩ : ∃ x, x = w.drew := ⟨_, rfl⟩
  rw [← hx0] at hS  ⊢
  clear hx0
  refine tkH 0 (some 3) (.slice ao 88 cap) rfl rfl (Or.inl ⟨by rfl, fun w' hw' => by rfl⟩) hS ?_
  simp only [Act.put, zE1, zE2, zE3]
  refine tkH 1 (some 4) (sl (.slice ao 88 cap) 0 24) rfl rfl (Or.inl ⟨by rfl, fun w' hw' => by exact exec_to (.tmp 3) (.const (.int .i64 24)) rfl _ xs _ HB.out 24 rfl rfl (by have := HL.out; omega) _⟩) hS ?_
  simp only [Act.put, zE1, zE2, zE3]
  refine tkH 3 (some 6) (.slice ao 88 cap) rfl rfl (Or.inl ⟨by rfl, fun w' hw' => by rfl⟩) hS ?_
  simp only [Act.put, zE1, zE2, zE3]
  refine tkH 4 (some 7) (sl (.slice ao 88 cap) 24 48) rfl rfl (Or.inl ⟨by rfl, fun w' hw' => by exact exec_part (.tmp 6) (.const (.int .i64 24)) (.const (.int .i64 48)) rfl _ xs _ HB.out 24 48 rfl rfl rfl (by omega) (by have := HL.out; omega) _⟩) hS ?_
  simp only [Act.put, zE1, zE2, zE3]
  refine wpAnyH_ready (rs := [2]) (by kernel_rfl) (by simp) ?_
  refine AllReadyH.cons rfl (fun K hK => ?_) AllReadyH.nil
  refine step_callW _ (by rfl) (some 5) rfl 142 #[.tmp 4] #[35] rfl (fun q w' => by rfl) #[sl (.slice ao 88 cap) 0 24] (by simp only [List.map_toArray, List.map_cons, List.map_nil]; rfl) (fun u w' => Byt w' u Z ∧ Below x1.heap.size x1 w') ?_ ?_
  · exact (invert_any _ _ x1 (sl_sub (HB.out.below hS) 0 24 (by omega) (by have := HL.out; omega)) (by rw [sub_len _ _ _ (by have := HL.out; omega)]; omega)).mono fun e w' ⟨u, h1, h2, h3⟩ => ⟨u, h1, by rw [HZ.out] at h2; exact h2, h3⟩
  rintro u1 x2 ⟨y1, hb⟩
  have Y1 : Hid (Byt x2 u1 Z) := y1
  clear y1
  have hS : Below w.heap.size w x2 := hS.trans (hb.mono hS.size)
  clear hb
  refine hK.out _ _ hS (fun _ => ?_)
  simp only [Act.put, zE1, zE2, zE3]
  clear hK K
  refine wpAnyH_ready (rs := [5]) (by kernel_rfl) (by simp) ?_
  refine AllReadyH.cons rfl (fun K hK => ?_) AllReadyH.nil
  refine step_callW _ (by rfl) (some 8) rfl 132 #[.tmp 5, .tmp 7] #[35, 35] rfl (fun q w' => by rfl) #[u1, sl (.slice ao 88 cap) 24 48] (by simp only [List.map_toArray, List.map_cons, List.map_nil]; rfl) (fun u w' => u = .bool (decide (Z = sub xs 24 48)) ∧ Below x2.heap.size x2 w') ?_ ?_
  · exact (oSame_any _ _ _ _ x2 Y1.out (sl_sub (HB.out.below hS) 24 48 (by omega) (by have := HL.out; omega))).mono fun e w' ⟨h1, n, h2⟩ => ⟨_, h1, rfl, by rw [h2]; exact below_drawn (Below.refl _ _) n⟩
  rintro _ x3 ⟨rfl, hb⟩
  have hS : Below w.heap.size w x3 := hS.trans (hb.mono hS.size)
  clear hb
  refine hK.out _ _ hS (fun _ => ?_)
  simp only [Act.put, zE1, zE2, zE3]
  clear hK K
  refine tkH 6 (some 2) (.bool (decide (Z = sub xs 24 48))) rfl rfl (Or.inl ⟨by rfl, fun w' hw' => by rfl⟩) hS ?_
  simp only [Act.put, zE1, zE2, zE3]
  refine wpAnyH_done (by kernel_rfl) ?_ _
  go_wp2
  go_ret
  exact ⟨rfl, hS⟩
theorem comm_yes (v : Value) (xs : List Int) (w : World) (hb : Byt w v xs) (hl : xs.length = 88) :
    Calls Tryz.prog 101 #[v] w fun x w' => x = .returned (.bool (decide (xs.drop 80 = List.replicate 8 0))) ∧ Below w.heap.size w w' := by
  have HB : Hid (Byt w v xs) := hb
  obtain ⟨ao, cap, hv⟩ := byt_form hb hl
  subst hv
  have HL : Hid (xs.length = 88) := hl
  clear hb hl
  have SF : Hid (∀ w, Calls Tryz.prog 114 #[.int .u8 0, .int .i64 8] w fun e w' => ∃ v, e = .returned v ∧ Byt w' v (List.replicate 8 0) ∧ Below w.heap.size w w') := fun w => by
    have := fill_any 0 8 w (by omega)
    rw [show clamp 8 65536 = 8 by decide] at this
    exact this
  have HD : Hid (∀ w', Byt w' (.slice ao 88 cap) xs → Byt w' (sl (.slice ao 88 cap) 80 88) (xs.drop 80)) := fun w' h => by
    have := sl_from h 80 (by have := HL.out; omega)
    rw [HL.out] at this
    exact this
  generalize List.replicate 8 (0 : Int) = Z at *
  generalize xs.drop 80 = D at *
  go_enter Tryz.func101, Tryz.ntmps101
  go_wp2
  refine wp_region_held_drew (S := fun w' => Below w.heap.size w w') (by kernel_rfl) (Below.refl _ _).drew (fun hS => ?_)
  obtain ⟨x1, hx0⟩ : ∃ x, x = w.drew := ⟨_, rfl⟩
  rw [← hx0] at hS  ⊢
  clear hx0
  refine tkH 0 (some 3) (.slice ao 88 cap) rfl rfl (Or.inl ⟨by rfl, fun w' hw' => by rfl⟩) hS ?_
  simp only [Act.put, zE1, zE2, zE3]
  refine tkH 1 (some 4) (.int .i64 88) rfl rfl (Or.inl ⟨by rfl, fun w' hw' => by go_simp⟩) hS ?_
  simp only [Act.put, zE1, zE2, zE3]
  refine tkH 2 (some 5) (.bool true) rfl rfl (Or.inl ⟨by rfl, fun w' hw' => by go_simp⟩) hS ?_
  simp only [Act.put, zE1, zE2, zE3]
  refine tkH 3 (some 6) (.bool true) rfl rfl (Or.inl ⟨by rfl, fun w' hw' => by rfl⟩) hS ?_
  simp only [Act.put, zE1, zE2, zE3]
  refine tkH 4 (some 7) (.slice ao 88 cap) rfl rfl (Or.inl ⟨by rfl, fun w' hw' => by rfl⟩) hS ?_
  simp only [Act.put, zE1, zE2, zE3]
  refine tkH 5 (some 8) (sl (.slice ao 88 cap) 80 88) rfl rfl (Or.inl ⟨by rfl, fun w' hw' => by exact exec_from (.tmp 7) (.const (.int .i64 80)) rfl _ xs _ HB.out 80 88 rfl rfl HL.out (by omega) _⟩) hS ?_
  simp only [Act.put, zE1, zE2, zE3]
  refine wpAnyH_ready (rs := [6]) (by kernel_rfl) (by simp) ?_
  refine AllReadyH.cons rfl (fun K hK => ?_) AllReadyH.nil
  refine step_callW _ (by rfl) (some 9) rfl 114 #[.const (.int .u8 0), .const (.int .i64 8)] #[5, 3] rfl (fun q w' => by rfl) #[.int .u8 0, .int .i64 8] (by simp only [List.map_toArray, List.map_cons, List.map_nil]; rfl) (fun u w' => Byt w' u Z ∧ Below x1.heap.size x1 w') ?_ ?_
  · exact SF.out x1
  rintro u1 x2 ⟨y1, hb⟩
  have Y1 : Hid (Byt x2 u1 Z) := y1
  clear y1
  have hS : Below w.heap.size w x2 := hS.trans (hb.mono hS.size)
  clear hb
  refine hK.out _ _ hS (fun _ => ?_)
  simp only [Act.put, zE1, zE2, zE3]
  clear hK K
  refine wpAnyH_ready (rs := [7]) (by kernel_rfl) (by simp) ?_
  refine AllReadyH.cons rfl (fun K hK => ?_) AllReadyH.nil
  refine step_callW _ (by rfl) (some 10) rfl 132 #[.tmp 8, .tmp 9] #[35, 35] rfl (fun q w' => by rfl) #[sl (.slice ao 88 cap) 80 88, u1] (by simp only [List.map_toArray, List.map_cons, List.map_nil]; rfl) (fun u w' => u = .bool (decide (D = Z)) ∧ Below x2.heap.size x2 w') ?_ ?_
  · exact (oSame_any _ _ _ _ x2 (HD.out _ (HB.out.below hS)) Y1.out).mono fun e w' ⟨h1, n, h2⟩ => ⟨_, h1, rfl, by rw [h2]; exact below_drawn (Below.refl _ _) n⟩
  rintro _ x3 ⟨rfl, hb⟩
  have hS : Below w.heap.size w x3 := hS.trans (hb.mono hS.size)
  clear hb
  refine hK.out _ _ hS (fun _ => ?_)
  simp only [Act.put, zE1, zE2, zE3]
  clear hK K
  refine tkH 8 (some 11) (.bool (decide (D = Z))) rfl rfl (Or.inl ⟨by rfl, fun w' hw' => by rfl⟩) hS ?_
  simp only [Act.put, zE1, zE2, zE3]
  refine tkH 9 (some 2) (.bool (decide (D = Z))) rfl rfl (Or.inl ⟨by rfl, fun w' hw' => by rfl⟩) hS ?_
  simp only [Act.put, zE1, zE2, zE3]
  refine wpAnyH_done (by kernel_rfl) ?_ _
  go_wp2
  go_ret
  exact ⟨rfl, hS⟩
theorem mark_yes (n : Nat) (w : World) (h1 : 88 ≤ n) (h2 : n ≤ 4184) : Calls Tryz.prog 91 #[.int .i64 (n : Int)] w fun x w' => ∃ v, x = .returned v ∧ Own w.heap.size w' v (mark n) ∧ Below w.heap.size w w' := by
  have a1 : ¬ (n : Int) < 88 := by omega
  have a2 : ¬ (n : Int) > 4184 := by omega
  obtain ⟨k, hk⟩ : ∃ k : Nat, n = k + 8 := ⟨n - 8, by omega⟩
  have e : mark n = List.replicate k 255 ++ List.replicate 8 0 := by unfold mark; rw [hk, Nat.add_sub_cancel]
  have k1 : IntKind.i64.wrap ((n : Int) - 8) = (k : Int) := by rw [IntKind.wrap_i64]; omega
  have S1 : Hid (∀ w, Calls Tryz.prog 114 #[.int .u8 255, .int .i64 (k : Int)] w fun e w' => ∃ v, e = .returned v ∧ Byt w' v (List.replicate k 255) ∧ Below w.heap.size w w') := fun w => by
    have := fill_any 255 (k : Int) w (by omega)
    rw [show clamp (k : Int) 65536 = k by unfold clamp; omega] at this
    exact this
  have S2 : Hid (∀ w, Calls Tryz.prog 114 #[.int .u8 0, .int .i64 8] w fun e w' => ∃ v, e = .returned v ∧ Byt w' v (List.replicate 8 0) ∧ Below w.heap.size w w') := fun w => by
    have := fill_any 0 8 w (by omega)
    rw [show clamp 8 65536 = 8 by decide] at this
    exact this
  have L1 : Hid ((List.replicate k (255 : Int)).length = k ∧ (List.replicate 8 (0 : Int)).length = 8 ∧ 80 ≤ k ∧ k ≤ 4176) := ⟨by simp, by simp, by omega, by omega⟩
  rw [e]
  generalize List.replicate k (255 : Int) = X at *
  generalize List.replicate 8 (0 : Int) = Y at *
  clear e hk h1 h2
  have t0 := tR
  go_enter Tryz.func91, Tryz.ntmps91
  go_wp2_with (first
    | (have q2 := t2; go_at_call 113; refine (cat2_any _ _ _ X Y (Y1.out.below B2) Y2.out (by have := L1.out; omega) (by have := L1.out; omega) (by have := L1.out; omega)).mono ?_; rintro e9 w3 ⟨r, rfl, o3, B3⟩; have O3 : Hid (Own w2.heap.size w3 r (X ++ Y)) := o3; clear o3 t2)
    | (have q1 := t1; go_at_call 114; refine (S2.out _).mono ?_; rintro e9 w2 ⟨v2, rfl, y2, B2⟩; have Y2 : Hid (Byt w2 v2 Y) := y2; obtain ⟨bo, bc, rfl⟩ := byt_form y2 L1.out.2.1; clear y2 t1; have t2 := tR)
    | (have q0 := t0; go_at_call 114; refine (S1.out _).mono ?_; rintro e9 w1 ⟨v1, rfl, y1, B1⟩; have Y1 : Hid (Byt w1 v1 X) := y1; obtain ⟨ao, ac, rfl⟩ := byt_form y1 L1.out.1; clear y1 t0; have t1 := tR))
  go_ret
  have z1 := B1.size
  have z2 := B2.size
  exact ⟨_, rfl, own_less O3.out (by omega), (B1.trans (B2.mono z1)).trans (B3.mono (by omega))⟩
def tgo (tag : List Int) : List Int := if tag.length = 0 then List.replicate 32 255 else tag
theorem tgo_len {tag : List Int} (h : tag.length = 0 ∨ tag.length = 32) : (tgo tag).length = 32 := by
  unfold tgo
  split
  · simp
  · omega
theorem end_tag (k n c l e t : Int) (v : Value) (tag : List Int) (w : World) (hb' : Byt w v tag) (hl : 0 ≤ l ∧ l ≤ 4294967295) (he : 0 ≤ e ∧ e ≤ 18446744073709551615) (ht : 0 ≤ t ∧ t ≤ 18446744073709551615) (hT : Tab w) (hr : Rh k n c) (h32 : tag.length = 32) :
    Calls Tryz.prog 115 #[.agg (hv k n c l e t).toArray, v] w fun x w' => ∃ v, x = .returned (.tuple #[v, .int .i64 0]) ∧ Own w.heap.size w' v (hend (hb k n c l e t) (tgo tag) (List.replicate 8 255)) ∧ Below w.heap.size w w' := by
  have hn : tag.length = 0 ∨ tag.length = 32 := .inr h32
  have SB : Hid (∀ w', Below w.heap.size w w' → Calls Tryz.prog 141 #[.agg (hv k n c l e t).toArray] w' fun x w'' => ∃ v, x = .returned (.tuple #[v, .int .i64 0]) ∧ Own w'.heap.size w'' v (hb k n c l e t) ∧ Below w'.heap.size w' w'') := fun w' q => hbytes_yes k n c l e t w' hr hl he ht (hT.below q)
  have SM : Hid (∀ w, Calls Tryz.prog 114 #[.int .u8 255, .int .i64 8] w fun e w' => ∃ v, e = .returned v ∧ Byt w' v (List.replicate 8 255) ∧ Below w.heap.size w w') := fun w => by
    have := fill_any 255 8 w (by omega)
    rw [show clamp 8 65536 = 8 by decide] at this
    exact this
  have AZ : Hid (AllB (hb k n c l e t)) := hb_all hr l e t
  have LN : Hid ((hb k n c l e t).length = 24 ∧ (inv (hb k n c l e t)).length = 24 ∧ (tgo tag).length = 32 ∧ (List.replicate 8 (255 : Int)).length = 8) := ⟨hb_len _ _ _ _ _ _, by rw [inv_len, hb_len], tgo_len hn, by simp⟩
  have eT : tgo tag = tag := by unfold tgo; rw [if_neg (by omega)]
  have HB0 : Hid (∀ w', Below w.heap.size w w' → Byt w' v (tgo tag)) := fun w' q => by rw [eT]; exact hb'.below q
  obtain ⟨ao, cap, rfl⟩ := byt_form hb' h32
  unfold hend
  generalize hb k n c l e t = Z at *
  generalize tgo tag = TG at *
  generalize List.replicate 8 (255 : Int) = M8 at *
  clear hb' hn hr hT hl he ht eT h32
  have t0 := tR
  go_enter Tryz.func115, Tryz.ntmps115
  go_wp2_with (first
      | (have q5 := t5; go_at_call 113; refine (cat4_any _ _ _ _ _ Z (inv Z) TG M8 (((O2.out.byt AZ.out).below B3).below B4) (Y3.out.below B4) (YT.out.below (B3.trans (B4.mono B3.size))) Y4.out (by have := LN.out; omega) (by have := LN.out; omega) (by have := LN.out; omega) (by have := LN.out; omega) (by have := LN.out; omega)).mono ?_; rintro e9 w5 ⟨r, rfl, o5, B5⟩; have O5 : Hid (Own w4.heap.size w5 r (Z ++ (inv Z ++ (TG ++ M8)))) := o5; clear o5 t5)
      | (have q4 := t4; go_at_call 114; refine (SM.out _).mono ?_; rintro e9 w4 ⟨v4, rfl, y4, B4⟩; have Y4 : Hid (Byt w4 v4 M8) := y4; obtain ⟨do4, dc, rfl⟩ := byt_form y4 LN.out.2.2.2; clear y4 t4; have t5 := tR)
      | (have q3 := t3; go_at_call 142; refine (invert_any _ Z _ YZ.out (by have := LN.out; omega)).mono ?_; rintro e9 w3 ⟨v3, rfl, y3, B3⟩; have Y3 : Hid (Byt w3 v3 (inv Z)) := y3; obtain ⟨io, ic, rfl⟩ := byt_form y3 LN.out.2.1; clear y3 t3; have t4 := tR)
      | (have q2 := t2; go_at_call 141; refine (SB.out _ B1).mono ?_; rintro e9 w2 ⟨v2, rfl, o2, B2⟩; have O2 : Hid (Own w1.heap.size w2 v2 Z) := o2; have C2 : Hid (Below w.heap.size w w2) := B1.trans (B2.mono B1.size); have YZ : Hid (Byt w2 v2 Z) := o2.byt AZ.out; obtain ⟨zo, zc, rfl⟩ := byt_form YZ.out LN.out.1; have YT : Hid (Byt w2 (.slice ao 32 cap) TG) := HB0.out _ C2.out; clear o2 t2; have t3 := tR)
      | (have q1 := t1; refine load_lawC _ rfl (hv k n c l e t) w.heap.size 0 rfl HV.out.1 rowy_head ?_; clear t1; have t2 := tR)
      | (have q0 := t0; refine box_lawC _ (hv k n c l e t) rfl ?_; intro w1 V1 B1 s1; have HV : Hid (Vr w1 w.heap.size (hv k n c l e t)) := V1; clear V1 t0; have t1 := tR))
  go_ret2
  have z1 := B1.size
  have z2 := B2.size
  have z3 := B3.size
  have z4 := B4.size
  exact ⟨_, rfl, own_less O5.out (by omega), ((C2.out.trans (B3.mono (by omega))).trans (B4.mono (by omega))).trans (B5.mono (by omega))⟩
theorem end_nil (k n c l e t : Int) (v : Value) (tag : List Int) (w : World) (hb' : Byt w v tag) (hl : 0 ≤ l ∧ l ≤ 4294967295) (he : 0 ≤ e ∧ e ≤ 18446744073709551615) (ht : 0 ≤ t ∧ t ≤ 18446744073709551615) (hT : Tab w) (hr : Rh k n c) (h0 : tag.length = 0) :
    Calls Tryz.prog 115 #[.agg (hv k n c l e t).toArray, v] w fun x w' => ∃ v, x = .returned (.tuple #[v, .int .i64 0]) ∧ Own w.heap.size w' v (hend (hb k n c l e t) (tgo tag) (List.replicate 8 255)) ∧ Below w.heap.size w w' := by
  have hn : tag.length = 0 ∨ tag.length = 32 := .inl h0
  have SB : Hid (∀ w', Below w.heap.size w w' → Calls Tryz.prog 141 #[.agg (hv k n c l e t).toArray] w' fun x w'' => ∃ v, x = .returned (.tuple #[v, .int .i64 0]) ∧ Own w'.heap.size w'' v (hb k n c l e t) ∧ Below w'.heap.size w' w'') := fun w' q => hbytes_yes k n c l e t w' hr hl he ht (hT.below q)
  have SM : Hid (∀ w, Calls Tryz.prog 114 #[.int .u8 255, .int .i64 8] w fun e w' => ∃ v, e = .returned v ∧ Byt w' v (List.replicate 8 255) ∧ Below w.heap.size w w') := fun w => by
    have := fill_any 255 8 w (by omega)
    rw [show clamp 8 65536 = 8 by decide] at this
    exact this
  have AZ : Hid (AllB (hb k n c l e t)) := hb_all hr l e t
  have LN : Hid ((hb k n c l e t).length = 24 ∧ (inv (hb k n c l e t)).length = 24 ∧ (tgo tag).length = 32 ∧ (List.replicate 8 (255 : Int)).length = 8) := ⟨hb_len _ _ _ _ _ _, by rw [inv_len, hb_len], tgo_len hn, by simp⟩
  have eT : tgo tag = List.replicate 32 255 := by unfold tgo; rw [if_pos h0]
  have SF : Hid (∀ w, Calls Tryz.prog 114 #[.int .u8 255, .int .i64 32] w fun e w' => ∃ v, e = .returned v ∧ Byt w' v (tgo tag) ∧ Below w.heap.size w w') := fun w => by
    have := fill_any 255 32 w (by omega)
    rw [show clamp 32 65536 = 32 by decide] at this
    rw [eT]; exact this
  obtain ⟨ao, cap, rfl⟩ := byt_form hb' h0
  unfold hend
  generalize hb k n c l e t = Z at *
  generalize tgo tag = TG at *
  generalize List.replicate 8 (255 : Int) = M8 at *
  clear hb' hn hr hT hl he ht eT h0
  have t0 := tR
  go_enter Tryz.func115, Tryz.ntmps115
  go_wp2_with (first
      | (have q5 := t5; go_at_call 113; refine (cat4_any _ _ _ _ _ Z (inv Z) TG M8 (((O2.out.byt AZ.out).below B3).below B4) (Y3.out.below B4) (YT.out.below (B3.trans (B4.mono B3.size))) Y4.out (by have := LN.out; omega) (by have := LN.out; omega) (by have := LN.out; omega) (by have := LN.out; omega) (by have := LN.out; omega)).mono ?_; rintro e9 w5 ⟨r, rfl, o5, B5⟩; have O5 : Hid (Own w4.heap.size w5 r (Z ++ (inv Z ++ (TG ++ M8)))) := o5; clear o5 t5)
      | (have q4 := t4; go_at_call 114; refine (SM.out _).mono ?_; rintro e9 w4 ⟨v4, rfl, y4, B4⟩; have Y4 : Hid (Byt w4 v4 M8) := y4; obtain ⟨do4, dc, rfl⟩ := byt_form y4 LN.out.2.2.2; clear y4 t4; have t5 := tR)
      | (have q3 := t3; go_at_call 142; refine (invert_any _ Z _ YZ.out (by have := LN.out; omega)).mono ?_; rintro e9 w3 ⟨v3, rfl, y3, B3⟩; have Y3 : Hid (Byt w3 v3 (inv Z)) := y3; obtain ⟨io, ic, rfl⟩ := byt_form y3 LN.out.2.1; clear y3 t3; have t4 := tR)
      | (have q2 := t2b; go_at_call 114; refine (SF.out _).mono ?_; rintro e9 w2 ⟨v2, rfl, y2, B2⟩; have YT : Hid (Byt w2 v2 TG) := y2; have O2 : Hid (Own w1.heap.size w2 (.slice zo 24 zc) Z) := own_low O2a.out B2; have C2 : Hid (Below w.heap.size w w2) := C2a.out.trans (B2.mono C2a.out.size); have YZ : Hid (Byt w2 (.slice zo 24 zc) Z) := O2.out.byt AZ.out; obtain ⟨tq, tc, rfl⟩ := byt_form y2 LN.out.2.2.1; clear y2 t2b; have t3 := tR)
      | (have q2 := t2; go_at_call 141; refine (SB.out _ B1).mono ?_; rintro e9 w2a ⟨v2, rfl, o2, B2a⟩; have O2a : Hid (Own w1.heap.size w2a v2 Z) := o2; have C2a : Hid (Below w.heap.size w w2a) := B1.trans (B2a.mono B1.size); have z2a := B2a.size; obtain ⟨zo, zc, rfl⟩ := byt_form (o2.byt AZ.out) LN.out.1; clear o2 t2; have t2b := tR)
      | (have q1 := t1; refine load_lawC _ rfl (hv k n c l e t) w.heap.size 0 rfl HV.out.1 rowy_head ?_; clear t1; have t2 := tR)
      | (have q0 := t0; refine box_lawC _ (hv k n c l e t) rfl ?_; intro w1 V1 B1 s1; have HV : Hid (Vr w1 w.heap.size (hv k n c l e t)) := V1; clear V1 t0; have t1 := tR))
  go_ret2
  have z1 := B1.size
  have z2 := B2.size
  have z3 := B3.size
  have z4 := B4.size
  exact ⟨_, rfl, own_less O5.out (by omega), ((C2.out.trans (B3.mono (by omega))).trans (B4.mono (by omega))).trans (B5.mono (by omega))⟩
theorem end_yes (k n c l e t : Int) (v : Value) (tag : List Int) (w : World) (hb' : Byt w v tag) (hl : 0 ≤ l ∧ l ≤ 4294967295) (he : 0 ≤ e ∧ e ≤ 18446744073709551615) (ht : 0 ≤ t ∧ t ≤ 18446744073709551615) (hT : Tab w) (hr : Rh k n c) (hn : tag.length = 0 ∨ tag.length = 32) :
    Calls Tryz.prog 115 #[.agg (hv k n c l e t).toArray, v] w fun x w' => ∃ v, x = .returned (.tuple #[v, .int .i64 0]) ∧ Own w.heap.size w' v (hend (hb k n c l e t) (tgo tag) (List.replicate 8 255)) ∧ Below w.heap.size w w' := by
  rcases hn with q | q
  · exact end_nil k n c l e t v tag w hb' hl he ht hT hr q
  · exact end_tag k n c l e t v tag w hb' hl he ht hT hr q
end Go.Proofs.YtakibiigcdgohaaGreatDoor.he
namespace Go.Proofs.YtakibiigcdgohaaGreatDoor.he
open Go.RowKit Go.Proofs.YtakibiigcdgohaaGreatDoor.fa
set_option maxRecDepth 20000
theorem heap_cells (w : World) (b o : Nat) (vs : List Value) (k : Nat) (h : k ≠ b) : (w.setCells b o vs).heap[k]? = w.heap[k]? := by
  induction vs generalizing w o with
  | nil => rfl
  | cons v r ih => exact (ih (w.setCell ⟨b, o, none⟩ v) (o + 1)).trans (Below.heap_setCell w ⟨b, o, none⟩ v k h)
theorem step_storeK {ops : Array Oper} {o : Oper} {a : Act} {Q : Exit → Act → World → Prop} {K : Act → World → Prop} {E : Prop} (w : World) (hg : o.guard = none) (d : Option Tmp) (hd : o.dst = d) (x y : Operand) (t : TypeId) (hop : o.op = Op.store t x y) (c : Nat) (cs0 cs : List Value) (hx : a.eval x = .pointer (some ⟨c, 0, none⟩)) (hy : a.eval y = .agg cs.toArray) (hV : Vr w c cs0) (hl : cs0.length = cs.length) (hs : (Tryz.prog.info? t).map (·.size) = some cs.length) (h1 : ∀ v ∈ cs, v.oneCell' = true)
    (hK : ∀ w', Vr w' c cs → Below c w w' → (∀ k, k ≠ c → w'.heap[k]? = w.heap[k]?) → K (a.put d undef) w') : if Region.wanted o (yielded ops a.tmps) = true then Oper.wp Tryz.prog o a w K Q else E := by
  have hw : Region.wanted o (yielded ops a.tmps) = true := by simp [Region.wanted, hg]
  rw [if_pos hw]
  subst hd
  have ht : w.there c 0 cs.length := by rw [← hl]; exact hV.2
  refine wp_store_mid t x y hop c 0 cs.toArray hx hy (by simpa using ht) (by simpa using hs) (all_oneCell_toArray h1) ?_
  exact hK _ ⟨World.rangeAt_setCells_same w c 0 cs ht, World.there_setCells ht c 0 _⟩ (below_cells _ (Nat.le_refl _) _ _ (Below.refl _ _)) (fun k hk => heap_cells w c 0 cs k hk)
theorem own_keep {B c : Nat} {w w' : World} {v : Value} {xs : List Int} (h : Own B w v xs) (ha : AllB xs) (hk : ∀ k, k ≠ c → w'.heap[k]? = w.heap[k]?) (hv : ∀ k, v.ownBlock = some k → k ≠ c) : Byt w' v xs := by
  have hb := h.byt ha
  obtain ⟨ao, cap, rfl, h1, h2, h3, h4, h5⟩ := hb
  refine ⟨ao, cap, rfl, h1, h2, h3, h4, fun hp => ?_⟩
  obtain ⟨b, off, rfl, hc⟩ := h5 hp
  refine ⟨b, off, rfl, fun t ht => ?_⟩
  rw [World.cell?_of_block (w := w) (w' := w') (a := ⟨b, off + t, none⟩) (hk b (hv b rfl))]
  exact hc t ht
theorem clone_byt (w : World) (v : Value) (xs : List Int) (h : Byt w v xs) (hp : 0 < xs.length) (hl : xs.length ≤ 1000000) :
    Calls Tryz.prog 48 #[v] w fun e w' => ∃ v', e = .returned v' ∧ Own w.heap.size w' v' xs ∧ Below w.heap.size w w' := by
  have h0 := h
  obtain ⟨ao, cap, rfl, -, -, -, -, h5⟩ := h
  obtain ⟨b, off, rfl, -⟩ := h5 hp
  exact clone_any w _ _ _ xs h0 hl
theorem read_no1 (v : Value) (xs : List Int) (w : World) (hb : Byt w v xs) (hl : xs.length = 88) (hT : Tab w) (hw0 : ¬ inv (sub xs 0 24) = sub xs 24 48) :
    Calls Tryz.prog 100 #[v] w fun x w' => x = .returned (.tuple #[.agg (hv 0 0 0 0 0 0).toArray, .slice none 0 0, .int .i64 1]) ∧ Below w.heap.size w w' := by
  have HB : Hid (Byt w v xs) := hb
  have HL : Hid (xs.length = 88) := hl
  have ha := hb.all
  have b0 := ha 0
  have b1 := ha 1
  have b2 := ha 2
  have bl := (be_num4 (xs := sub xs 4 8) (by rw [sub_len _ _ _ (by omega)]) (allB_sub ha 4 8)).2
  have HT : Hid (∀ w', Below w.heap.size w w' → Tab w') := fun w' q => hT.below q
  have e24 : sub xs 0 24 = xs.take 24 := by unfold sub; rw [List.drop_zero]
  have SI : Hid (∀ w' u, Below w.heap.size w w' → Byt w' u (xs.take 24) → Calls Tryz.prog 128 #[u] w' fun x w'' => x = .returned (.agg (nv [gb xs 0, gb xs 1, gb xs 2, gb xs 3, ql xs, qe xs, qt xs]).toArray) ∧ Below w'.heap.size w' w'') := fun w' u q y => by
    have z := in_any u (xs.take 24) w' y (by rw [List.length_take]; omega) (hT.below q)
    have g : ∀ i, i < 24 → gb (xs.take 24) i = gb xs i := fun i hi => by rw [← e24, sub_gb xs 0 24 i (by omega), Nat.zero_add]
    have s : ∀ a b, b ≤ 24 → sub (xs.take 24) a b = sub xs a b := fun a b hb => by unfold sub; rw [List.take_take, Nat.min_eq_left hb]
    unfold ql qe qt at z ⊢
    rw [g 0 (by omega), g 1 (by omega), g 2 (by omega), g 3 (by omega), s 4 8 (by omega), s 8 16 (by omega), s 16 24 (by omega)] at z
    exact z
  have SH : Hid (∀ w', Calls Tryz.prog 129 #[.agg (nv [gb xs 0, gb xs 1, gb xs 2, gb xs 3, ql xs, qe xs, qt xs]).toArray] w' fun x w'' => x = .returned (.agg (hv (gb xs 0) (gb xs 1) (gb xs 2) (ql xs) (qe xs) (qt xs)).toArray) ∧ Below w'.heap.size w' w'') := fun w' => headOf_any _ _ _ _ _ _ _ w' b0 b1 b2 bl
  have SW : Hid (∀ w', Below w.heap.size w w' → Calls Tryz.prog 130 #[v] w' fun x w'' => x = .returned (.bool (decide (inv (sub xs 0 24) = sub xs 24 48))) ∧ Below w'.heap.size w' w'') := fun w' q => whole_any v xs w' (hb.below q) hl
  have SKd : Hid (∀ w', Calls Tryz.prog 131 #[.int .i64 (gb xs 0)] w' fun e w'' => e = .returned (.bool (decide (1 ≤ gb xs 0 ∧ gb xs 0 ≤ 4))) ∧ w'' = w') := fun w' => kind_any _ w' _ rfl
  obtain ⟨ao, cap, hv'⟩ := byt_form hb hl
  subst hv'
  have dw : decide (inv (sub xs 0 24) = sub xs 24 48) = false := by simpa using hw0
  rw [dw] at SW
  clear dw
  generalize gb xs 0 = n0 at *
  generalize gb xs 1 = n1 at *
  generalize gb xs 2 = n2 at *
  generalize gb xs 3 = n3 at *
  generalize ql xs = l at *
  generalize qe xs = e at *
  generalize qt xs = t at *
  clear hb hl hT ha b0 b1 b2 bl e24
  have t0 := tR
  go_enter Tryz.func100, Tryz.ntmps100
  go_wp2_with (first
    | (have q11 := t11; refine store_lawC _ (hv 0 0 0 0 0 0) w.heap.size 0 rfl rfl HR.out.2 rowy_head.2 (hv_one _ _ _ _ _ _) ?_; intro w10 E10 R10 T10 B10; have HQ : Hid (w10.rangeAt w.heap.size 0 (hv 0 0 0 0 0 0)) := R10; clear t11 E10 R10 T10)
    | (have qb := t10; refine build_law _ rfl 119 _ rfl (.agg (hv 0 0 0 0 0 0).toArray) (by kernel_rfl) ?_; clear t10; have t11 := tR)
    | (have q9 := t9; go_at_call 130; refine (SW.out _ BB.out).mono ?_; rintro e9 w8 ⟨rfl, B8⟩; have HD : Hid (Vr w8 w5.heap.size (hv n0 n1 n2 l e t)) := HD.out.below B8 s7; have c3 := (HN.out.below B8 (by omega)).cell 3 _ rfl; have ck := HD.out.cell 0 _ rfl; have HR : Hid (Vr w8 w.heap.size (hv 0 0 0 0 0 0)) := HR.out.below B8 (by omega); have BB : Hid (Below w.heap.size w w8) := BB.out.trans (B8.mono BB.out.size); have s8 : w5.heap.size < w8.heap.size := Nat.lt_of_lt_of_le s7 B8.size; clear B8 t9; have t10 := tR)
    | (have q8 := t8; refine store_lawC _ (hv n0 n1 n2 l e t) w5.heap.size 0 rfl rfl HD.out.2 rowy_head.2 (hv_one _ _ _ _ _ _) ?_; intro w7 E7 R7 T7 B7; have HD : Hid (Vr w7 w5.heap.size (hv n0 n1 n2 l e t)) := ⟨R7, T7⟩; have HN : Hid (Vr w7 w2.heap.size (nv [n0, n1, n2, n3, l, e, t])) := HN.out.below B7 s5; have HR : Hid (Vr w7 w.heap.size (hv 0 0 0 0 0 0)) := HR.out.below B7 (by omega); have BB : Hid (Below w.heap.size w w7) := BB.out.trans (B7.mono (by omega)); have s7 : w5.heap.size < w7.heap.size := Nat.lt_of_lt_of_le s6 B7.size; clear E7 R7 T7 B7 t8; have t9 := tR)
    | (have q7 := t7; refine new_lawC _ (hv 0 0 0 0 0 0) zero_head ?_; intro w6 V6 B6 s6; have HD : Hid (Vr w6 w5.heap.size (hv 0 0 0 0 0 0)) := V6; have HN : Hid (Vr w6 w2.heap.size (nv [n0, n1, n2, n3, l, e, t])) := HN.out.below B6 s5; have HR : Hid (Vr w6 w.heap.size (hv 0 0 0 0 0 0)) := HR.out.below B6 (by omega); have BB : Hid (Below w.heap.size w w6) := BB.out.trans (B6.mono BB.out.size); clear V6 B6 t7; have t8 := tR)
    | (have q6 := t6; go_at_call 129; refine (SH.out _).mono ?_; rintro e9 w5 ⟨rfl, B5⟩; have HN : Hid (Vr w5 w2.heap.size (nv [n0, n1, n2, n3, l, e, t])) := HN.out.below B5 s4; have HR : Hid (Vr w5 w.heap.size (hv 0 0 0 0 0 0)) := HR.out.below B5 (by omega); have BB : Hid (Below w.heap.size w w5) := BB.out.trans (B5.mono BB.out.size); have s5 : w2.heap.size < w5.heap.size := Nat.lt_of_lt_of_le s4 B5.size; clear B5 t6; have t7 := tR)
    | (have q5 := t5; refine load_lawC _ rfl (nv [n0, n1, n2, n3, l, e, t]) w2.heap.size 0 rfl HN.out.1 rowy_nums ?_; clear t5; have t6 := tR)
    | (have q4 := t4; refine store_lawC _ (nv [n0, n1, n2, n3, l, e, t]) w2.heap.size 0 rfl rfl HN.out.2 rowy_nums.2 (nv_one _) ?_; intro w4 E4 R4 T4 B4; have HN : Hid (Vr w4 w2.heap.size (nv [n0, n1, n2, n3, l, e, t])) := ⟨R4, T4⟩; have HR : Hid (Vr w4 w.heap.size (hv 0 0 0 0 0 0)) := HR.out.below B4 s2; have BB : Hid (Below w.heap.size w w4) := BB.out.trans (B4.mono (by omega)); have s4 : w2.heap.size < w4.heap.size := Nat.lt_of_lt_of_le s3 B4.size; clear E4 R4 T4 B4 t4; have t5 := tR)
    | (have q3 := t3; refine new_lawC _ (nv [0, 0, 0, 0, 0, 0, 0]) zero_nums ?_; intro w3 V3 B3 s3; have HN : Hid (Vr w3 w2.heap.size (nv [0, 0, 0, 0, 0, 0, 0])) := V3; have HR : Hid (Vr w3 w.heap.size (hv 0 0 0 0 0 0)) := HR.out.below B3 s2; have BB : Hid (Below w.heap.size w w3) := BB.out.trans (B3.mono BB.out.size); clear V3 B3 t3; have t4 := tR)
    | (have q2 := t2; go_at_call 128; refine (SI.out _ _ BB.out Y1.out).mono ?_; rintro e9 w2 ⟨rfl, B2⟩; have HR : Hid (Vr w2 w.heap.size (hv 0 0 0 0 0 0)) := HR.out.below B2 s1; have BB : Hid (Below w.heap.size w w2) := BB.out.trans (B2.mono BB.out.size); have s2 : w.heap.size < w2.heap.size := Nat.lt_of_lt_of_le s1 B2.size; clear B2 t2; have t3 := tR)
    | (have q1 := t1; refine cut_to _ rfl (.tmp 11) (.const (.int .i64 24)) rfl _ xs _ 24 rfl rfl rfl (by have := HL.out; omega) (HB.out.below BB.out) ?_; intro v1 y1; have Y1 : Hid (Byt w1 v1 (xs.take 24)) := y1; clear y1 t1; have t2 := tR)
    | (have q0 := t0; refine new_lawC _ (hv 0 0 0 0 0 0) zero_head ?_; intro w1 V1 B1 s1; have HR : Hid (Vr w1 w.heap.size (hv 0 0 0 0 0 0)) := V1; have BB : Hid (Below w.heap.size w w1) := B1; clear V1 B1 t0; have t1 := tR))
  exact bodyPost_ret (v := .tuple #[.agg (hv 0 0 0 0 0 0).toArray, .slice none 0 0, .int .i64 1]) (results_cvv rfl _ _ w.heap.size _ _ _ rowy_head rfl rfl rfl HQ.out) rfl ⟨rfl, BB.out.trans B10⟩
theorem read_no2 (v : Value) (xs : List Int) (w : World) (hb : Byt w v xs) (hl : xs.length = 88) (hT : Tab w) (hw0 : inv (sub xs 0 24) = sub xs 24 48) (hz : gb xs 3 ≠ 0) :
    Calls Tryz.prog 100 #[v] w fun x w' => x = .returned (.tuple #[.agg (hv 0 0 0 0 0 0).toArray, .slice none 0 0, .int .i64 1]) ∧ Below w.heap.size w w' := by
  have HB : Hid (Byt w v xs) := hb
  have HL : Hid (xs.length = 88) := hl
  have ha := hb.all
  have b0 := ha 0
  have b1 := ha 1
  have b2 := ha 2
  have bl := (be_num4 (xs := sub xs 4 8) (by rw [sub_len _ _ _ (by omega)]) (allB_sub ha 4 8)).2
  have HT : Hid (∀ w', Below w.heap.size w w' → Tab w') := fun w' q => hT.below q
  have e24 : sub xs 0 24 = xs.take 24 := by unfold sub; rw [List.drop_zero]
  have SI : Hid (∀ w' u, Below w.heap.size w w' → Byt w' u (xs.take 24) → Calls Tryz.prog 128 #[u] w' fun x w'' => x = .returned (.agg (nv [gb xs 0, gb xs 1, gb xs 2, gb xs 3, ql xs, qe xs, qt xs]).toArray) ∧ Below w'.heap.size w' w'') := fun w' u q y => by
    have z := in_any u (xs.take 24) w' y (by rw [List.length_take]; omega) (hT.below q)
    have g : ∀ i, i < 24 → gb (xs.take 24) i = gb xs i := fun i hi => by rw [← e24, sub_gb xs 0 24 i (by omega), Nat.zero_add]
    have s : ∀ a b, b ≤ 24 → sub (xs.take 24) a b = sub xs a b := fun a b hb => by unfold sub; rw [List.take_take, Nat.min_eq_left hb]
    unfold ql qe qt at z ⊢
    rw [g 0 (by omega), g 1 (by omega), g 2 (by omega), g 3 (by omega), s 4 8 (by omega), s 8 16 (by omega), s 16 24 (by omega)] at z
    exact z
  have SH : Hid (∀ w', Calls Tryz.prog 129 #[.agg (nv [gb xs 0, gb xs 1, gb xs 2, gb xs 3, ql xs, qe xs, qt xs]).toArray] w' fun x w'' => x = .returned (.agg (hv (gb xs 0) (gb xs 1) (gb xs 2) (ql xs) (qe xs) (qt xs)).toArray) ∧ Below w'.heap.size w' w'') := fun w' => headOf_any _ _ _ _ _ _ _ w' b0 b1 b2 bl
  have SW : Hid (∀ w', Below w.heap.size w w' → Calls Tryz.prog 130 #[v] w' fun x w'' => x = .returned (.bool (decide (inv (sub xs 0 24) = sub xs 24 48))) ∧ Below w'.heap.size w' w'') := fun w' q => whole_any v xs w' (hb.below q) hl
  have SKd : Hid (∀ w', Calls Tryz.prog 131 #[.int .i64 (gb xs 0)] w' fun e w'' => e = .returned (.bool (decide (1 ≤ gb xs 0 ∧ gb xs 0 ≤ 4))) ∧ w'' = w') := fun w' => kind_any _ w' _ rfl
  obtain ⟨ao, cap, hv'⟩ := byt_form hb hl
  subst hv'
  have dw : decide (inv (sub xs 0 24) = sub xs 24 48) = true := by simpa using hw0
  rw [dw] at SW
  clear dw
  have hz' : (gb xs 3 != 0) = true := bne_iff_ne.2 hz
  clear hz
  generalize gb xs 0 = n0 at *
  generalize gb xs 1 = n1 at *
  generalize gb xs 2 = n2 at *
  generalize gb xs 3 = n3 at *
  generalize ql xs = l at *
  generalize qe xs = e at *
  generalize qt xs = t at *
  clear hb hl hT ha b0 b1 b2 bl e24
  have t0 := tR
  go_enter Tryz.func100, Tryz.ntmps100
  go_wp2_with (first
    | (have q11 := t11; refine store_lawC _ (hv 0 0 0 0 0 0) w.heap.size 0 rfl rfl HR.out.2 rowy_head.2 (hv_one _ _ _ _ _ _) ?_; intro w10 E10 R10 T10 B10; have HQ : Hid (w10.rangeAt w.heap.size 0 (hv 0 0 0 0 0 0)) := R10; clear t11 E10 R10 T10)
    | (have qb := t10; refine build_law _ rfl 119 _ rfl (.agg (hv 0 0 0 0 0 0).toArray) (by kernel_rfl) ?_; clear t10; have t11 := tR)
    | (have q9 := t9; go_at_call 130; refine (SW.out _ BB.out).mono ?_; rintro e9 w8 ⟨rfl, B8⟩; have HD : Hid (Vr w8 w5.heap.size (hv n0 n1 n2 l e t)) := HD.out.below B8 s7; have c3 := (HN.out.below B8 (by omega)).cell 3 _ rfl; have ck := HD.out.cell 0 _ rfl; have HR : Hid (Vr w8 w.heap.size (hv 0 0 0 0 0 0)) := HR.out.below B8 (by omega); have BB : Hid (Below w.heap.size w w8) := BB.out.trans (B8.mono BB.out.size); have s8 : w5.heap.size < w8.heap.size := Nat.lt_of_lt_of_le s7 B8.size; clear B8 t9; have t10 := tR)
    | (have q8 := t8; refine store_lawC _ (hv n0 n1 n2 l e t) w5.heap.size 0 rfl rfl HD.out.2 rowy_head.2 (hv_one _ _ _ _ _ _) ?_; intro w7 E7 R7 T7 B7; have HD : Hid (Vr w7 w5.heap.size (hv n0 n1 n2 l e t)) := ⟨R7, T7⟩; have HN : Hid (Vr w7 w2.heap.size (nv [n0, n1, n2, n3, l, e, t])) := HN.out.below B7 s5; have HR : Hid (Vr w7 w.heap.size (hv 0 0 0 0 0 0)) := HR.out.below B7 (by omega); have BB : Hid (Below w.heap.size w w7) := BB.out.trans (B7.mono (by omega)); have s7 : w5.heap.size < w7.heap.size := Nat.lt_of_lt_of_le s6 B7.size; clear E7 R7 T7 B7 t8; have t9 := tR)
    | (have q7 := t7; refine new_lawC _ (hv 0 0 0 0 0 0) zero_head ?_; intro w6 V6 B6 s6; have HD : Hid (Vr w6 w5.heap.size (hv 0 0 0 0 0 0)) := V6; have HN : Hid (Vr w6 w2.heap.size (nv [n0, n1, n2, n3, l, e, t])) := HN.out.below B6 s5; have HR : Hid (Vr w6 w.heap.size (hv 0 0 0 0 0 0)) := HR.out.below B6 (by omega); have BB : Hid (Below w.heap.size w w6) := BB.out.trans (B6.mono BB.out.size); clear V6 B6 t7; have t8 := tR)
    | (have q6 := t6; go_at_call 129; refine (SH.out _).mono ?_; rintro e9 w5 ⟨rfl, B5⟩; have HN : Hid (Vr w5 w2.heap.size (nv [n0, n1, n2, n3, l, e, t])) := HN.out.below B5 s4; have HR : Hid (Vr w5 w.heap.size (hv 0 0 0 0 0 0)) := HR.out.below B5 (by omega); have BB : Hid (Below w.heap.size w w5) := BB.out.trans (B5.mono BB.out.size); have s5 : w2.heap.size < w5.heap.size := Nat.lt_of_lt_of_le s4 B5.size; clear B5 t6; have t7 := tR)
    | (have q5 := t5; refine load_lawC _ rfl (nv [n0, n1, n2, n3, l, e, t]) w2.heap.size 0 rfl HN.out.1 rowy_nums ?_; clear t5; have t6 := tR)
    | (have q4 := t4; refine store_lawC _ (nv [n0, n1, n2, n3, l, e, t]) w2.heap.size 0 rfl rfl HN.out.2 rowy_nums.2 (nv_one _) ?_; intro w4 E4 R4 T4 B4; have HN : Hid (Vr w4 w2.heap.size (nv [n0, n1, n2, n3, l, e, t])) := ⟨R4, T4⟩; have HR : Hid (Vr w4 w.heap.size (hv 0 0 0 0 0 0)) := HR.out.below B4 s2; have BB : Hid (Below w.heap.size w w4) := BB.out.trans (B4.mono (by omega)); have s4 : w2.heap.size < w4.heap.size := Nat.lt_of_lt_of_le s3 B4.size; clear E4 R4 T4 B4 t4; have t5 := tR)
    | (have q3 := t3; refine new_lawC _ (nv [0, 0, 0, 0, 0, 0, 0]) zero_nums ?_; intro w3 V3 B3 s3; have HN : Hid (Vr w3 w2.heap.size (nv [0, 0, 0, 0, 0, 0, 0])) := V3; have HR : Hid (Vr w3 w.heap.size (hv 0 0 0 0 0 0)) := HR.out.below B3 s2; have BB : Hid (Below w.heap.size w w3) := BB.out.trans (B3.mono BB.out.size); clear V3 B3 t3; have t4 := tR)
    | (have q2 := t2; go_at_call 128; refine (SI.out _ _ BB.out Y1.out).mono ?_; rintro e9 w2 ⟨rfl, B2⟩; have HR : Hid (Vr w2 w.heap.size (hv 0 0 0 0 0 0)) := HR.out.below B2 s1; have BB : Hid (Below w.heap.size w w2) := BB.out.trans (B2.mono BB.out.size); have s2 : w.heap.size < w2.heap.size := Nat.lt_of_lt_of_le s1 B2.size; clear B2 t2; have t3 := tR)
    | (have q1 := t1; refine cut_to _ rfl (.tmp 11) (.const (.int .i64 24)) rfl _ xs _ 24 rfl rfl rfl (by have := HL.out; omega) (HB.out.below BB.out) ?_; intro v1 y1; have Y1 : Hid (Byt w1 v1 (xs.take 24)) := y1; clear y1 t1; have t2 := tR)
    | (have q0 := t0; refine new_lawC _ (hv 0 0 0 0 0 0) zero_head ?_; intro w1 V1 B1 s1; have HR : Hid (Vr w1 w.heap.size (hv 0 0 0 0 0 0)) := V1; have BB : Hid (Below w.heap.size w w1) := B1; clear V1 B1 t0; have t1 := tR))
  exact bodyPost_ret (v := .tuple #[.agg (hv 0 0 0 0 0 0).toArray, .slice none 0 0, .int .i64 1]) (results_cvv rfl _ _ w.heap.size _ _ _ rowy_head rfl rfl rfl HQ.out) rfl ⟨rfl, BB.out.trans B10⟩
theorem read_no3 (v : Value) (xs : List Int) (w : World) (hb : Byt w v xs) (hl : xs.length = 88) (hT : Tab w) (hw0 : inv (sub xs 0 24) = sub xs 24 48) (hz : gb xs 3 = 0) (hk0 : ¬ (1 ≤ gb xs 0 ∧ gb xs 0 ≤ 4)) :
    Calls Tryz.prog 100 #[v] w fun x w' => x = .returned (.tuple #[.agg (hv 0 0 0 0 0 0).toArray, .slice none 0 0, .int .i64 1]) ∧ Below w.heap.size w w' := by
  have HB : Hid (Byt w v xs) := hb
  have HL : Hid (xs.length = 88) := hl
  have ha := hb.all
  have b0 := ha 0
  have b1 := ha 1
  have b2 := ha 2
  have bl := (be_num4 (xs := sub xs 4 8) (by rw [sub_len _ _ _ (by omega)]) (allB_sub ha 4 8)).2
  have HT : Hid (∀ w', Below w.heap.size w w' → Tab w') := fun w' q => hT.below q
  have e24 : sub xs 0 24 = xs.take 24 := by unfold sub; rw [List.drop_zero]
  have SI : Hid (∀ w' u, Below w.heap.size w w' → Byt w' u (xs.take 24) → Calls Tryz.prog 128 #[u] w' fun x w'' => x = .returned (.agg (nv [gb xs 0, gb xs 1, gb xs 2, gb xs 3, ql xs, qe xs, qt xs]).toArray) ∧ Below w'.heap.size w' w'') := fun w' u q y => by
    have z := in_any u (xs.take 24) w' y (by rw [List.length_take]; omega) (hT.below q)
    have g : ∀ i, i < 24 → gb (xs.take 24) i = gb xs i := fun i hi => by rw [← e24, sub_gb xs 0 24 i (by omega), Nat.zero_add]
    have s : ∀ a b, b ≤ 24 → sub (xs.take 24) a b = sub xs a b := fun a b hb => by unfold sub; rw [List.take_take, Nat.min_eq_left hb]
    unfold ql qe qt at z ⊢
    rw [g 0 (by omega), g 1 (by omega), g 2 (by omega), g 3 (by omega), s 4 8 (by omega), s 8 16 (by omega), s 16 24 (by omega)] at z
    exact z
  have SH : Hid (∀ w', Calls Tryz.prog 129 #[.agg (nv [gb xs 0, gb xs 1, gb xs 2, gb xs 3, ql xs, qe xs, qt xs]).toArray] w' fun x w'' => x = .returned (.agg (hv (gb xs 0) (gb xs 1) (gb xs 2) (ql xs) (qe xs) (qt xs)).toArray) ∧ Below w'.heap.size w' w'') := fun w' => headOf_any _ _ _ _ _ _ _ w' b0 b1 b2 bl
  have SW : Hid (∀ w', Below w.heap.size w w' → Calls Tryz.prog 130 #[v] w' fun x w'' => x = .returned (.bool (decide (inv (sub xs 0 24) = sub xs 24 48))) ∧ Below w'.heap.size w' w'') := fun w' q => whole_any v xs w' (hb.below q) hl
  have SKd : Hid (∀ w', Calls Tryz.prog 131 #[.int .i64 (gb xs 0)] w' fun e w'' => e = .returned (.bool (decide (1 ≤ gb xs 0 ∧ gb xs 0 ≤ 4))) ∧ w'' = w') := fun w' => kind_any _ w' _ rfl
  obtain ⟨ao, cap, hv'⟩ := byt_form hb hl
  subst hv'
  have dw : decide (inv (sub xs 0 24) = sub xs 24 48) = true := by simpa using hw0
  rw [dw] at SW
  clear dw
  have dk : decide (1 ≤ gb xs 0 ∧ gb xs 0 ≤ 4) = false := decide_eq_false hk0
  rw [dk] at SKd
  rw [hz] at SI SH
  clear dk hz hk0
  generalize gb xs 0 = n0 at *
  generalize gb xs 1 = n1 at *
  generalize gb xs 2 = n2 at *
  generalize ql xs = l at *
  generalize qe xs = e at *
  generalize qt xs = t at *
  clear hb hl hT ha b0 b1 b2 bl e24
  have t0 := tR
  go_enter Tryz.func100, Tryz.ntmps100
  go_wp2_with (first
    | (have q11 := t11; refine store_lawC _ (hv 0 0 0 0 0 0) w.heap.size 0 rfl rfl HR.out.2 rowy_head.2 (hv_one _ _ _ _ _ _) ?_; intro w10 E10 R10 T10 B10; have HQ : Hid (w10.rangeAt w.heap.size 0 (hv 0 0 0 0 0 0)) := R10; clear t11 E10 R10 T10)
    | (have qb := t10b; refine build_law _ rfl 119 _ rfl (.agg (hv 0 0 0 0 0 0).toArray) (by kernel_rfl) ?_; clear t10b; have t11 := tR)
    | (have q10 := t10; go_at_call 131; refine (SKd.out _).mono ?_; rintro e9 w9 ⟨rfl, hw⟩; obtain rfl := hw.symm; clear t10; have t10b := tR)
    | (have q9 := t9; go_at_call 130; refine (SW.out _ BB.out).mono ?_; rintro e9 w8 ⟨rfl, B8⟩; have HD : Hid (Vr w8 w5.heap.size (hv n0 n1 n2 l e t)) := HD.out.below B8 s7; have c3 := (HN.out.below B8 (by omega)).cell 3 _ rfl; have ck := HD.out.cell 0 _ rfl; have HR : Hid (Vr w8 w.heap.size (hv 0 0 0 0 0 0)) := HR.out.below B8 (by omega); have BB : Hid (Below w.heap.size w w8) := BB.out.trans (B8.mono BB.out.size); have s8 : w5.heap.size < w8.heap.size := Nat.lt_of_lt_of_le s7 B8.size; clear B8 t9; have t10 := tR)
    | (have q8 := t8; refine store_lawC _ (hv n0 n1 n2 l e t) w5.heap.size 0 rfl rfl HD.out.2 rowy_head.2 (hv_one _ _ _ _ _ _) ?_; intro w7 E7 R7 T7 B7; have HD : Hid (Vr w7 w5.heap.size (hv n0 n1 n2 l e t)) := ⟨R7, T7⟩; have HN : Hid (Vr w7 w2.heap.size (nv [n0, n1, n2, 0, l, e, t])) := HN.out.below B7 s5; have HR : Hid (Vr w7 w.heap.size (hv 0 0 0 0 0 0)) := HR.out.below B7 (by omega); have BB : Hid (Below w.heap.size w w7) := BB.out.trans (B7.mono (by omega)); have s7 : w5.heap.size < w7.heap.size := Nat.lt_of_lt_of_le s6 B7.size; clear E7 R7 T7 B7 t8; have t9 := tR)
    | (have q7 := t7; refine new_lawC _ (hv 0 0 0 0 0 0) zero_head ?_; intro w6 V6 B6 s6; have HD : Hid (Vr w6 w5.heap.size (hv 0 0 0 0 0 0)) := V6; have HN : Hid (Vr w6 w2.heap.size (nv [n0, n1, n2, 0, l, e, t])) := HN.out.below B6 s5; have HR : Hid (Vr w6 w.heap.size (hv 0 0 0 0 0 0)) := HR.out.below B6 (by omega); have BB : Hid (Below w.heap.size w w6) := BB.out.trans (B6.mono BB.out.size); clear V6 B6 t7; have t8 := tR)
    | (have q6 := t6; go_at_call 129; refine (SH.out _).mono ?_; rintro e9 w5 ⟨rfl, B5⟩; have HN : Hid (Vr w5 w2.heap.size (nv [n0, n1, n2, 0, l, e, t])) := HN.out.below B5 s4; have HR : Hid (Vr w5 w.heap.size (hv 0 0 0 0 0 0)) := HR.out.below B5 (by omega); have BB : Hid (Below w.heap.size w w5) := BB.out.trans (B5.mono BB.out.size); have s5 : w2.heap.size < w5.heap.size := Nat.lt_of_lt_of_le s4 B5.size; clear B5 t6; have t7 := tR)
    | (have q5 := t5; refine load_lawC _ rfl (nv [n0, n1, n2, 0, l, e, t]) w2.heap.size 0 rfl HN.out.1 rowy_nums ?_; clear t5; have t6 := tR)
    | (have q4 := t4; refine store_lawC _ (nv [n0, n1, n2, 0, l, e, t]) w2.heap.size 0 rfl rfl HN.out.2 rowy_nums.2 (nv_one _) ?_; intro w4 E4 R4 T4 B4; have HN : Hid (Vr w4 w2.heap.size (nv [n0, n1, n2, 0, l, e, t])) := ⟨R4, T4⟩; have HR : Hid (Vr w4 w.heap.size (hv 0 0 0 0 0 0)) := HR.out.below B4 s2; have BB : Hid (Below w.heap.size w w4) := BB.out.trans (B4.mono (by omega)); have s4 : w2.heap.size < w4.heap.size := Nat.lt_of_lt_of_le s3 B4.size; clear E4 R4 T4 B4 t4; have t5 := tR)
    | (have q3 := t3; refine new_lawC _ (nv [0, 0, 0, 0, 0, 0, 0]) zero_nums ?_; intro w3 V3 B3 s3; have HN : Hid (Vr w3 w2.heap.size (nv [0, 0, 0, 0, 0, 0, 0])) := V3; have HR : Hid (Vr w3 w.heap.size (hv 0 0 0 0 0 0)) := HR.out.below B3 s2; have BB : Hid (Below w.heap.size w w3) := BB.out.trans (B3.mono BB.out.size); clear V3 B3 t3; have t4 := tR)
    | (have q2 := t2; go_at_call 128; refine (SI.out _ _ BB.out Y1.out).mono ?_; rintro e9 w2 ⟨rfl, B2⟩; have HR : Hid (Vr w2 w.heap.size (hv 0 0 0 0 0 0)) := HR.out.below B2 s1; have BB : Hid (Below w.heap.size w w2) := BB.out.trans (B2.mono BB.out.size); have s2 : w.heap.size < w2.heap.size := Nat.lt_of_lt_of_le s1 B2.size; clear B2 t2; have t3 := tR)
    | (have q1 := t1; refine cut_to _ rfl (.tmp 11) (.const (.int .i64 24)) rfl _ xs _ 24 rfl rfl rfl (by have := HL.out; omega) (HB.out.below BB.out) ?_; intro v1 y1; have Y1 : Hid (Byt w1 v1 (xs.take 24)) := y1; clear y1 t1; have t2 := tR)
    | (have q0 := t0; refine new_lawC _ (hv 0 0 0 0 0 0) zero_head ?_; intro w1 V1 B1 s1; have HR : Hid (Vr w1 w.heap.size (hv 0 0 0 0 0 0)) := V1; have BB : Hid (Below w.heap.size w w1) := B1; clear V1 B1 t0; have t1 := tR))
  exact bodyPost_ret (v := .tuple #[.agg (hv 0 0 0 0 0 0).toArray, .slice none 0 0, .int .i64 1]) (results_cvv rfl _ _ w.heap.size _ _ _ rowy_head rfl rfl rfl HQ.out) rfl ⟨rfl, BB.out.trans B10⟩
theorem read_no (v : Value) (xs : List Int) (w : World) (hb : Byt w v xs) (hl : xs.length = 88) (hT : Tab w) (h : ¬ Tl xs) :
    Calls Tryz.prog 100 #[v] w fun x w' => x = .returned (.tuple #[.agg (hv 0 0 0 0 0 0).toArray, .slice none 0 0, .int .i64 1]) ∧ Below w.heap.size w w' := by
  by_cases h1 : inv (sub xs 0 24) = sub xs 24 48
  · by_cases h2 : gb xs 3 = 0
    · exact read_no3 v xs w hb hl hT h1 h2 fun q => h ⟨h1, h2, q.1, q.2⟩
    · exact read_no2 v xs w hb hl hT h1 h2
  · exact read_no1 v xs w hb hl hT h1
theorem read_yes (v : Value) (xs : List Int) (w : World) (hb : Byt w v xs) (hl : xs.length = 88) (hT : Tab w) (h : Tl xs) :
    Calls Tryz.prog 100 #[v] w fun x w' => ∃ u, x = .returned (.tuple #[.agg (hv (qk xs) (qn xs) (qc xs) (ql xs) (qe xs) (qt xs)).toArray, u, .int .i64 0]) ∧ Byt w' u (sub xs 48 80) ∧ Below w.heap.size w w' := by
  obtain ⟨hw0, hz, hk1, hk2⟩ := h
  have HB : Hid (Byt w v xs) := hb
  have HL : Hid (xs.length = 88) := hl
  have ha := hb.all
  have b0 := ha 0
  have b1 := ha 1
  have b2 := ha 2
  have bl := (be_num4 (xs := sub xs 4 8) (by rw [sub_len _ _ _ (by omega)]) (allB_sub ha 4 8)).2
  have HT : Hid (∀ w', Below w.heap.size w w' → Tab w') := fun w' q => hT.below q
  have e24 : sub xs 0 24 = xs.take 24 := by unfold sub; rw [List.drop_zero]
  have SI : Hid (∀ w' u, Below w.heap.size w w' → Byt w' u (xs.take 24) → Calls Tryz.prog 128 #[u] w' fun x w'' => x = .returned (.agg (nv [gb xs 0, gb xs 1, gb xs 2, gb xs 3, ql xs, qe xs, qt xs]).toArray) ∧ Below w'.heap.size w' w'') := fun w' u q y => by
    have z := in_any u (xs.take 24) w' y (by rw [List.length_take]; omega) (hT.below q)
    have g : ∀ i, i < 24 → gb (xs.take 24) i = gb xs i := fun i hi => by rw [← e24, sub_gb xs 0 24 i (by omega), Nat.zero_add]
    have s : ∀ a b, b ≤ 24 → sub (xs.take 24) a b = sub xs a b := fun a b hb => by unfold sub; rw [List.take_take, Nat.min_eq_left hb]
    unfold ql qe qt at z ⊢
    rw [g 0 (by omega), g 1 (by omega), g 2 (by omega), g 3 (by omega), s 4 8 (by omega), s 8 16 (by omega), s 16 24 (by omega)] at z
    exact z
  have SH : Hid (∀ w', Calls Tryz.prog 129 #[.agg (nv [gb xs 0, gb xs 1, gb xs 2, gb xs 3, ql xs, qe xs, qt xs]).toArray] w' fun x w'' => x = .returned (.agg (hv (gb xs 0) (gb xs 1) (gb xs 2) (ql xs) (qe xs) (qt xs)).toArray) ∧ Below w'.heap.size w' w'') := fun w' => headOf_any _ _ _ _ _ _ _ w' b0 b1 b2 bl
  have SW : Hid (∀ w', Below w.heap.size w w' → Calls Tryz.prog 130 #[v] w' fun x w'' => x = .returned (.bool (decide (inv (sub xs 0 24) = sub xs 24 48))) ∧ Below w'.heap.size w' w'') := fun w' q => whole_any v xs w' (hb.below q) hl
  have SKd : Hid (∀ w', Calls Tryz.prog 131 #[.int .i64 (gb xs 0)] w' fun e w'' => e = .returned (.bool (decide (1 ≤ gb xs 0 ∧ gb xs 0 ≤ 4))) ∧ w'' = w') := fun w' => kind_any _ w' _ rfl
  obtain ⟨ao, cap, hv'⟩ := byt_form hb hl
  subst hv'
  have dw : decide (inv (sub xs 0 24) = sub xs 24 48) = true := by simpa using hw0
  rw [dw] at SW
  clear dw
  have dk : decide (1 ≤ gb xs 0 ∧ gb xs 0 ≤ 4) = true := decide_eq_true ⟨hk1, hk2⟩
  rw [dk] at SKd
  rw [hz] at SI SH
  have HA5 : Hid (AllB (sub xs 48 80)) := allB_sub ha 48 80
  have HL5 : Hid ((sub xs 48 80).length = 32) := sub_len xs 48 80 (by omega)
  unfold qk qn qc
  clear dk hz hk1 hk2
  generalize gb xs 0 = n0 at *
  generalize gb xs 1 = n1 at *
  generalize gb xs 2 = n2 at *
  generalize ql xs = l at *
  generalize qe xs = e at *
  generalize qt xs = t at *
  clear hb hl hT ha b0 b1 b2 bl e24
  have t0 := tR
  go_enter Tryz.func100, Tryz.ntmps100
  go_wp2_with (first
    | (have q10 := t10; go_at_call 131; refine (SKd.out _).mono ?_; rintro e9 w9 ⟨rfl, hw⟩; obtain rfl := hw.symm; clear t10)
    | (have q9 := t9; go_at_call 130; refine (SW.out _ BB.out).mono ?_; rintro e9 w8 ⟨rfl, B8⟩; have HD : Hid (Vr w8 w5.heap.size (hv n0 n1 n2 l e t)) := HD.out.below B8 s7; have c3 := (HN.out.below B8 (by omega)).cell 3 _ rfl; have ck := HD.out.cell 0 _ rfl; have HR : Hid (Vr w8 w.heap.size (hv 0 0 0 0 0 0)) := HR.out.below B8 (by omega); have BB : Hid (Below w.heap.size w w8) := BB.out.trans (B8.mono BB.out.size); have s8 : w5.heap.size < w8.heap.size := Nat.lt_of_lt_of_le s7 B8.size; clear B8 t9; have t10 := tR)
    | (have q8 := t8; refine store_lawC _ (hv n0 n1 n2 l e t) w5.heap.size 0 rfl rfl HD.out.2 rowy_head.2 (hv_one _ _ _ _ _ _) ?_; intro w7 E7 R7 T7 B7; have HD : Hid (Vr w7 w5.heap.size (hv n0 n1 n2 l e t)) := ⟨R7, T7⟩; have HN : Hid (Vr w7 w2.heap.size (nv [n0, n1, n2, 0, l, e, t])) := HN.out.below B7 s5; have HR : Hid (Vr w7 w.heap.size (hv 0 0 0 0 0 0)) := HR.out.below B7 (by omega); have BB : Hid (Below w.heap.size w w7) := BB.out.trans (B7.mono (by omega)); have s7 : w5.heap.size < w7.heap.size := Nat.lt_of_lt_of_le s6 B7.size; clear E7 R7 T7 B7 t8; have t9 := tR)
    | (have q7 := t7; refine new_lawC _ (hv 0 0 0 0 0 0) zero_head ?_; intro w6 V6 B6 s6; have HD : Hid (Vr w6 w5.heap.size (hv 0 0 0 0 0 0)) := V6; have HN : Hid (Vr w6 w2.heap.size (nv [n0, n1, n2, 0, l, e, t])) := HN.out.below B6 s5; have HR : Hid (Vr w6 w.heap.size (hv 0 0 0 0 0 0)) := HR.out.below B6 (by omega); have BB : Hid (Below w.heap.size w w6) := BB.out.trans (B6.mono BB.out.size); clear V6 B6 t7; have t8 := tR)
    | (have q6 := t6; go_at_call 129; refine (SH.out _).mono ?_; rintro e9 w5 ⟨rfl, B5⟩; have HN : Hid (Vr w5 w2.heap.size (nv [n0, n1, n2, 0, l, e, t])) := HN.out.below B5 s4; have HR : Hid (Vr w5 w.heap.size (hv 0 0 0 0 0 0)) := HR.out.below B5 (by omega); have BB : Hid (Below w.heap.size w w5) := BB.out.trans (B5.mono BB.out.size); have s5 : w2.heap.size < w5.heap.size := Nat.lt_of_lt_of_le s4 B5.size; clear B5 t6; have t7 := tR)
    | (have q5 := t5; refine load_lawC _ rfl (nv [n0, n1, n2, 0, l, e, t]) w2.heap.size 0 rfl HN.out.1 rowy_nums ?_; clear t5; have t6 := tR)
    | (have q4 := t4; refine store_lawC _ (nv [n0, n1, n2, 0, l, e, t]) w2.heap.size 0 rfl rfl HN.out.2 rowy_nums.2 (nv_one _) ?_; intro w4 E4 R4 T4 B4; have HN : Hid (Vr w4 w2.heap.size (nv [n0, n1, n2, 0, l, e, t])) := ⟨R4, T4⟩; have HR : Hid (Vr w4 w.heap.size (hv 0 0 0 0 0 0)) := HR.out.below B4 s2; have BB : Hid (Below w.heap.size w w4) := BB.out.trans (B4.mono (by omega)); have s4 : w2.heap.size < w4.heap.size := Nat.lt_of_lt_of_le s3 B4.size; clear E4 R4 T4 B4 t4; have t5 := tR)
    | (have q3 := t3; refine new_lawC _ (nv [0, 0, 0, 0, 0, 0, 0]) zero_nums ?_; intro w3 V3 B3 s3; have HN : Hid (Vr w3 w2.heap.size (nv [0, 0, 0, 0, 0, 0, 0])) := V3; have HR : Hid (Vr w3 w.heap.size (hv 0 0 0 0 0 0)) := HR.out.below B3 s2; have BB : Hid (Below w.heap.size w w3) := BB.out.trans (B3.mono BB.out.size); clear V3 B3 t3; have t4 := tR)
    | (have q2 := t2; go_at_call 128; refine (SI.out _ _ BB.out Y1.out).mono ?_; rintro e9 w2 ⟨rfl, B2⟩; have HR : Hid (Vr w2 w.heap.size (hv 0 0 0 0 0 0)) := HR.out.below B2 s1; have BB : Hid (Below w.heap.size w w2) := BB.out.trans (B2.mono BB.out.size); have s2 : w.heap.size < w2.heap.size := Nat.lt_of_lt_of_le s1 B2.size; clear B2 t2; have t3 := tR)
    | (have q1 := t1; refine cut_to _ rfl (.tmp 11) (.const (.int .i64 24)) rfl _ xs _ 24 rfl rfl rfl (by have := HL.out; omega) (HB.out.below BB.out) ?_; intro v1 y1; have Y1 : Hid (Byt w1 v1 (xs.take 24)) := y1; clear y1 t1; have t2 := tR)
    | (have q0 := t0; refine new_lawC _ (hv 0 0 0 0 0 0) zero_head ?_; intro w1 V1 B1 s1; have HR : Hid (Vr w1 w.heap.size (hv 0 0 0 0 0 0)) := V1; have BB : Hid (Below w.heap.size w w1) := B1; clear V1 B1 t0; have t1 := tR))
  have HR : Hid (Vr w8.drew w.heap.size (hv 0 0 0 0 0 0)) := HR.out.drewN 1
  refine wp_region_held_drew (S := fun w' => Below w.heap.size w w' ∧ w'.rangeAt w5.heap.size 0 (hv n0 n1 n2 l e t)) (by kernel_rfl) ⟨BB.out.drew, HD.out.1⟩ (fun hS => ?_)
  obtain ⟨x1, hx0⟩ : ∃ x, x = w8.drew := ⟨_, rfl⟩
  rw [← hx0] at hS HR ⊢
  clear hx0
  refine tkH 0 (some 31) (.agg (hv n0 n1 n2 l e t).toArray) rfl rfl (Or.inl ⟨by rfl, fun w' hw' => by exact exec_loadN 119 (.tmp 6) rfl _ rfl _ _ (load_cells rowy_head hw'.2)⟩) hS ?_
  simp only [Act.put, zE1, zE2, zE3]
  refine tkH 1 (some 32) (.slice ao 88 cap) rfl rfl (Or.inl ⟨by rfl, fun w' hw' => by rfl⟩) hS ?_
  simp only [Act.put, zE1, zE2, zE3]
  refine tkH 2 (some 33) (sl (.slice ao 88 cap) 48 80) rfl rfl (Or.inl ⟨by rfl, fun w' hw' => by exact exec_part (.tmp 32) (.const (.int .i64 48)) (.const (.int .i64 80)) rfl _ xs _ HB.out 48 80 rfl rfl rfl (by omega) (by have := HL.out; omega) _⟩) hS ?_
  simp only [Act.put, zE1, zE2, zE3]
  refine wpAnyH_ready (rs := [3]) (by kernel_rfl) (by simp) ?_
  refine AllReadyH.cons rfl (fun K hK => ?_) AllReadyH.nil
  refine step_callW _ (by rfl) (some 34) rfl 48 #[.tmp 33] #[35] rfl (fun q w' => by rfl) #[sl (.slice ao 88 cap) 48 80] (by simp only [List.map_toArray, List.map_cons, List.map_nil]; rfl) (fun u w' => Own x1.heap.size w' u (sub xs 48 80) ∧ Below x1.heap.size x1 w') ?_ ?_
  · exact (clone_byt x1 _ _ (sl_sub (HB.out.below hS.1) 48 80 (by omega) (by have := HL.out; omega)) (by have := HL5.out; omega) (by have := HL5.out; omega)).mono fun e w' ⟨u, h1, h2, h3⟩ => ⟨u, h1, h2, h3⟩
  rintro u1 x2 ⟨y1, hb⟩
  have Y1 : Hid (Own x1.heap.size x2 u1 (sub xs 48 80)) := y1
  have HO1 : Hid (∀ k, u1.ownBlock = some k → k ≠ w.heap.size) := fun k hk => by have := (World.ownsRow.lt y1 k hk).1; have := range_lt HR.out.1 (by simp [hv]); omega
  have HR : Hid (Vr x2 w.heap.size (hv 0 0 0 0 0 0)) := HR.out.below hb (range_lt HR.out.1 (by simp [hv]))
  have hS : Below w.heap.size w x2 ∧ x2.rangeAt w5.heap.size 0 (hv n0 n1 n2 l e t) := ⟨hS.1.trans (hb.mono hS.1.size), range_heap hS.2 (hb.block _ (range_lt hS.2 (by simp [hv])))⟩
  clear hb y1
  refine hK.out _ _ hS (fun _ => ?_)
  simp only [Act.put, zE1, zE2, zE3]
  clear hK K
  refine wpAnyH_ready (rs := [4]) (by kernel_rfl) (by simp) ?_
  refine AllReadyH.cons rfl (fun K hK => ?_) AllReadyH.nil
  refine step_storeK _ rfl none rfl (.tmp 2) (.tmp 31) 119 rfl w.heap.size (hv 0 0 0 0 0 0) (hv n0 n1 n2 l e t) rfl rfl HR.out rfl rowy_head.2 (hv_one _ _ _ _ _ _) ?_
  intro x3 v9 B9 E9
  have HQ : Hid (Vr x3 w.heap.size (hv n0 n1 n2 l e t)) := v9
  have Y1 : Hid (Byt x3 u1 (sub xs 48 80)) := own_keep Y1.out HA5.out E9 HO1.out
  have hS : Below w.heap.size w x3 ∧ x3.rangeAt w5.heap.size 0 (hv n0 n1 n2 l e t) := ⟨hS.1.trans B9, range_heap hS.2 (E9 _ (by omega))⟩
  clear v9 B9 E9
  refine hK.out _ _ hS (fun _ => ?_)
  simp only [Act.put]
  clear hK K
  refine tkH 5 (some 3) (u1) rfl rfl (Or.inl ⟨by rfl, fun w' hw' => by rfl⟩) hS ?_
  simp only [Act.put, zE1, zE2, zE3]
  refine tkH 6 (some 4) (.int .i64 0) rfl rfl (Or.inl ⟨by rfl, fun w' hw' => by rfl⟩) hS ?_
  simp only [Act.put, zE1, zE2, zE3]
  refine wpAnyH_done (by kernel_rfl) ?_ _
  go_wp2
  exact bodyPost_ret (v := .tuple #[.agg (hv n0 n1 n2 l e t).toArray, u1, .int .i64 0]) (results_cvv rfl _ _ w.heap.size _ _ _ rowy_head rfl rfl rfl HQ.out.1) rfl ⟨_, rfl, Y1.out, hS.1⟩
end Go.Proofs.YtakibiigcdgohaaGreatDoor.he
namespace Go.Proofs.YtakibiigcdgohaaGreatDoor
open Go.ChangeShapes Go.WideShapes Go.ChangeAt Go.RowKit
set_option maxRecDepth 20000
theorem laidOut : laidOutB Tryz.prog = true := by kernel_rfl
theorem trodAll_below {H : Type} {enc : TypeId × Value → H} {W W' : World} (hb : Below W.heap.size W W') :
    ∀ (ts : List TypeId) (vs : List Value) (ds : List (DataW H)) (ps : List MemPlace), (∀ t ∈ ts, Tryz.prog.readableRec t = true ∧ t < Tryz.prog.types.size) → (∀ x ∈ ps, x.block < W.heap.size) →
      DataW.TrodAll enc Tryz.prog W 0 (fun _ => true) true ts vs ds ps → DataW.TrodAll enc Tryz.prog W' 0 (fun b => decide (b < W.heap.size)) true ts vs ds ps
  | [], [], [], _, _, _, h => h
  | t :: ts, v :: vs, d :: ds, ps, ht, hp, h => by
    obtain ⟨p, q, h1, h2, rfl⟩ := h
    have t1 := ht t (by simp)
    exact ⟨p, q, Below.trod laidOut t1.1 t1.2 h1 hb (fun x hx => hp x (by simp [hx])), trodAll_below hb ts vs ds q (fun t h => ht t (by simp [h])) (fun x hx => hp x (by simp [hx])) h2, rfl⟩
theorem post_law {H : Type} {enc : TypeId × Value → H} {s : ChangeSpec} {f : Func} {W W' : World} {args : Array Value} {ds gs : List (DataW H)} {before : List MemPlace}
    (hv : s.vars = []) (hr : f.resultTypes = #[4]) (hts : ∀ t ∈ f.params.toList, Tryz.prog.readableRec t = true ∧ t < Tryz.prog.types.size)
    (hres : (s.fn H (ds ++ gs)).results = [.lit (.bool true)]) (hargs : (s.fn H (ds ++ gs)).args = ds) (hvars : (s.fn H (ds ++ gs)).vars = [])
    (hW : DataW.Whole enc Tryz.prog f.params.toList s.vars false W args.toList ds gs before) (hb : Below W.heap.size W W') :
    s.post enc Tryz.prog f false true false false W args (.bool true) W' := by
  have hW' := hW
  have hlt := hW.lt
  obtain ⟨p, q, hA, hV, hpq, hfz, hnd⟩ := hW
  refine ⟨ds, gs, before, [], p, [], hW', ?_, ?_, ?_, hb.frame _, fun h => by cases h⟩
  · rw [hres, hr]
    exact trodAll_mk1 (shut_bool Tryz.underlying4 _)
  · rw [hargs]
    exact trodAll_below hb _ _ _ _ hts (fun x hx => by simpa using hlt x (by rw [hpq]; simp [hx])) hA
  · rw [hvars, hv]; rfl
end Go.Proofs.YtakibiigcdgohaaGreatDoor
namespace Go.Proofs.YtakibiigcdgohaaGreatDoor.he
open Go.ChangeShapes Go.WideShapes Go.ChangeAt Go.RowKit Go.Proofs.YtakibiigcdgohaaGreatDoor.fa
set_option maxRecDepth 20000
theorem gTab : Tryz.prog.globalNamed "nepenthe/head.sizes" = some 1 := by kernel_rfl
theorem gTabType : (Tryz.prog.globals[1]?).map (·.type) = some 215 := by kernel_rfl
theorem cells_arr7i : Tryz.prog.cellsOf 215 = 7 := by kernel_rfl
theorem cells_int : Tryz.prog.cellsOf 3 = 1 := by kernel_rfl
theorem table {W : World} (h : laidMetH Tryz.prog [("nepenthe/head.sizes", Rows.laid_nepenthe_head_sizes)] W) : Tab W := by
  have t := Lib.tabIs_of_head (rest := []) (zs := [1, 1, 1, 1, 4, 8, 8]) (k := .i64) gTab gTabType Tryz.underlying215 Tryz.underlying3 cells_int cells_arr7i h
  intro i hi
  have := t.cell gTab i hi
  rw [this]
  rfl
def Hb (l e t : Int) : Prop := (0 ≤ l ∧ l ≤ 4294967295) ∧ (0 ≤ e ∧ e ≤ 18446744073709551615) ∧ 0 ≤ t ∧ t ≤ 18446744073709551615
end Go.Proofs.YtakibiigcdgohaaGreatDoor.he
namespace Go.Proofs.YtakibiigcdgohaaGreatDoor.he
open Go.RowKit Go.Proofs.YtakibiigcdgohaaGreatDoor.fa
set_option maxRecDepth 20000
theorem same_yes (w : World) (va vb : Value) (xs : List Int) (ha : Byt w va xs) (hb : Byt w vb xs) : Calls Tryz.prog 15 #[va, vb] w fun e w' => e = .returned (.bool true) ∧ Below w.heap.size w w' := by
  refine (same_any w va vb xs xs ha hb).mono ?_
  rintro e w' ⟨rfl, n, rfl⟩
  exact ⟨by simp, below_drawn (Below.refl _ _) n⟩
end Go.Proofs.YtakibiigcdgohaaGreatDoor.he
