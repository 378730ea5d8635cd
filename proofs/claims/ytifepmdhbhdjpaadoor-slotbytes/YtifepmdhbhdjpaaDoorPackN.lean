/- Texts put together (a claim holds few files). No claim of its own. -/
import Derived.Test.YtifepmdhbhdjpaaDoorPackM
/- That slot answers at all; 'make' in a region that draws its order. No claim of its own. -/
namespace Go.Proofs.YtifepmdhbhdjpaaDoor.so
open Go.RowKit Go.Proofs.YtifepmdhbhdjpaaDoor.fa Go.Proofs.YtifepmdhbhdjpaaDoor.he Go.Proofs.YtifepmdhbhdjpaaDoor.wr
set_option maxRecDepth 20000

/-- 'make([]byte, n)' in a region that draws its order -/
theorem step_make {ops : Array Oper} {o : Oper} {a : Act} {Q : Exit → Act → World → Prop} {K : Act → World → Prop} {E : Prop} (w : World) (hg : o.guard = none) (d : Option Tmp) (hd : o.dst = d) (l c : Operand) (hop : o.op = Op.makeSlice 23 l c) (B : Nat) (hB : B ≤ w.heap.size)
    (L : Int) (n : Nat) (hl : a.eval l = .int .i64 L) (hc : a.eval c = .int .i64 L) (hL : L = (n : Int)) (hn : n ≤ 1099511627776)
    (hK : ∀ w', OwnN B w' w.heap.size n (List.replicate n 0) → Below B w w' → w.heap.size < w'.heap.size → K (a.put d (.slice (some ⟨w.heap.size, 0, none⟩) n n)) w') :
    if Region.wanted o (yielded ops a.tmps) = true then Oper.wp Tryd.prog o a w K Q else E := by
  have hw : Region.wanted o (yielded ops a.tmps) = true := by simp [Region.wanted, hg]
  rw [if_pos hw]
  subst hd
  obtain ⟨i0, hi, hz0, hz1, hz2⟩ := info_parts info_u8
  obtain ⟨w', hrun, h1, h2⟩ := run_make_full (P := Tryd.prog) w B 23 5 i0 (.int .u8 0) 1 Tryd.underlying23 hi hz0 hz1 .i64 .i64 n (by rw [hz2]; omega) (by simp only [maxLen]; omega) hB
  subst hL
  have hlt : w.heap.size < w'.heap.size := (h1.lt w.heap.size rfl).2
  unfold Oper.wp
  simp [execOp, hop, hl, hc, hrun, Result.andThen]
  refine hK w' ⟨by simp, hB, ?_⟩ ((Below.refl B w).grown h2 hB (fun k hk => by cases hk)) hlt
  have e : (madeCells (Value.int .u8 0).cells (n * 1)).toList = (List.replicate n (0 : Int)).map (Value.int .u8) := by
    rw [Nat.mul_one]
    show (madeCells #[Value.int .u8 0] n).toList = _
    rw [toList_madeCells_one]; simp
  rw [e] at h1
  exact h1
/-- noughts -/
def nul (n : Nat) : List Int := List.replicate n 0
theorem nul_len (n : Nat) : (nul n).length = n := List.length_replicate
theorem nul_all (n : Nat) : AllB (nul n) := allB_replicate 0 n (by omega)
theorem nul_byt {B : Nat} {w : World} {g n : Nat} (h : OwnN B w g n (List.replicate n 0)) : Byt w (.slice (some ⟨g, 0, none⟩) n n) (nul n) := h.byt (nul_all n)


set_option maxRecDepth 20000 in
set_option maxHeartbeats 8000000 in
theorem awake_any (w : World) : Calls Tryd.prog 5 #[] w fun e w' => e = .returned (.bool true) ∧ Below w.heap.size w w' := by
  have SM : Hid (∀ w0 a b, Byt w0 a (nul 32) → Byt w0 b (nul 96) → Calls Tryd.prog 16 #[a, .int .i64 5, .agg (he.hv 0 0 0 0 0 2).toArray, b] w0 fun x w' => ∃ wo wc, x = .returned (.tuple #[.agg (sv true 5 0 2 (.slice wo 104 wc)).toArray, .int .i64 0]) ∧ Below w0.heap.size w0 w') := fun w0 a b h1 h2 => (make_yes a b (nul 32) (nul 96) 5 0 0 0 0 0 2 w0 h1 h2 (by omega) (nul_len 96) (nul_len 32)).mono fun _ _ ⟨wo, wc, e1, _, e3⟩ => ⟨wo, wc, e1, e3⟩
  have SR : Hid (∀ w0, Calls Tryd.prog 8 #[.agg (sv false 0 0 0 (.slice none 0 0)).toArray] w0 fun x w' => x = .returned (.bool true) ∧ Below w0.heap.size w0 w') := fun w0 => right_yes false 0 0 0 _ [] w0 (Byt.nil w0) ⟨⟨by omega, by omega⟩, ⟨by omega, by omega⟩, by omega, by omega⟩ ⟨rfl, rfl, rfl, rfl⟩
  go_enter Tryd.func5, Tryd.ntmps5
  go_wp2
  refine wp_region_held_drew (S := fun w' => Below w.heap.size w w') (by kernel_rfl) (Below.refl _ _).drew (fun hS => ?_)
  obtain ⟨x1, hx0⟩ : ∃ x, x = w.drew := ⟨_, rfl⟩
  rw [← hx0] at hS  ⊢
  clear hx0
  refine take_lawH 1 (some 5) (.agg (he.hv 0 0 0 0 0 2).toArray) rfl rfl (by kernel_rfl) (by kernel_rfl) (by kernel_rfl) (fun _ _ _ h => h) (Or.inl ⟨by rfl, fun w' hw' => by exact exec_build 46 _ rfl _ _ (by kernel_rfl)⟩) hS ?_
  simp only [Act.put, List.setIfInBounds_toArray, List.set_cons_zero, List.set_cons_succ]
  refine wpAnyH_ready (rs := [0, 2, 7]) (by kernel_rfl) (by simp) ?_
  refine AllReadyH.cons rfl (fun K hK => ?_) (AllReadyH.cons rfl (fun K hK => ?_) (AllReadyH.cons rfl (fun K hK => ?_) AllReadyH.nil))
  · refine step_make _ rfl (some 4) rfl (.const (.int .i64 32)) (.const (.int .i64 32)) rfl x1.heap.size (Nat.le_refl _) 32 32 rfl rfl rfl (by omega) ?_
    intro x2 o9 hb l9
    have Yga : Hid (Byt x2 (.slice (some ⟨x1.heap.size, 0, none⟩) 32 32) (nul 32)) := nul_byt o9
    have hS : Below w.heap.size w x2 := hS.trans (hb.mono hS.size)
    clear o9 hb l9
    obtain ⟨ga, hg9⟩ : ∃ g, g = x1.heap.size := ⟨_, rfl⟩
    rw [← hg9] at Yga ⊢
    clear hg9
    refine hK.out _ _ hS (fun _ => ?_)
    simp only [Act.put, List.setIfInBounds_toArray, List.set_cons_zero, List.set_cons_succ]
    clear hK K
    refine wpAnyH_ready (rs := [2, 7]) (by kernel_rfl) (by simp) ?_
    refine AllReadyH.cons rfl (fun K hK => ?_) (AllReadyH.cons rfl (fun K hK => ?_) AllReadyH.nil)
    · refine step_make _ rfl (some 6) rfl (.const (.int .i64 96)) (.const (.int .i64 96)) rfl x2.heap.size (Nat.le_refl _) 96 96 rfl rfl rfl (by omega) ?_
      intro x3 o9 hb l9
      have Yga : Hid (Byt x3 (.slice (some ⟨ga, 0, none⟩) 32 32) (nul 32)) := Yga.out.below hb
      have Ygb9 : Hid (Byt x3 (.slice (some ⟨x2.heap.size, 0, none⟩) 96 96) (nul 96)) := nul_byt o9
      have hS : Below w.heap.size w x3 := hS.trans (hb.mono hS.size)
      clear o9 hb l9
      obtain ⟨gb9, hg9⟩ : ∃ g, g = x2.heap.size := ⟨_, rfl⟩
      rw [← hg9] at Ygb9 ⊢
      clear hg9
      refine hK.out _ _ hS (fun _ => ?_)
      simp only [Act.put, List.setIfInBounds_toArray, List.set_cons_zero, List.set_cons_succ]
      clear hK K
      refine wpAnyH_ready (rs := [3, 7]) (by kernel_rfl) (by simp) ?_
      refine AllReadyH.cons rfl (fun K hK => ?_) (AllReadyH.cons rfl (fun K hK => ?_) AllReadyH.nil)
      · refine he.step_callW _ (by rfl) (some 7) rfl 16 #[.tmp 4, .const (.int .i64 5), .tmp 5, .tmp 6] #[23, 3, 46, 23] rfl (fun q w' => by rfl) #[.slice (some ⟨ga, 0, none⟩) 32 32, .int .i64 5, .agg (he.hv 0 0 0 0 0 2).toArray, .slice (some ⟨gb9, 0, none⟩) 96 96] (by simp only [List.map_toArray, List.map_cons, List.map_nil]; rfl) (fun u w' => (∃ wo wc, u = .tuple #[.agg (sv true 5 0 2 (.slice wo 104 wc)).toArray, .int .i64 0]) ∧ Below x3.heap.size x3 w') ?_ ?_
        · exact (SM.out x3 _ _ Yga.out Ygb9.out).mono fun e w' ⟨wo, wc, h1, h2⟩ => ⟨_, h1, ⟨wo, wc, rfl⟩, h2⟩
        rintro _ x4 ⟨⟨wo, wc, rfl⟩, hb⟩
        have Yga : Hid (Byt x4 (.slice (some ⟨ga, 0, none⟩) 32 32) (nul 32)) := Yga.out.below hb
        have Ygb9 : Hid (Byt x4 (.slice (some ⟨gb9, 0, none⟩) 96 96) (nul 96)) := Ygb9.out.below hb
        have hS : Below w.heap.size w x4 := hS.trans (hb.mono hS.size)
        clear hb
        refine hK.out _ _ hS (fun _ => ?_)
        simp only [Act.put, List.setIfInBounds_toArray, List.set_cons_zero, List.set_cons_succ]
        clear hK K
        refine take_lawH 4 (some 3) (.tuple #[.agg (sv true 5 0 2 (.slice wo 104 wc)).toArray, .int .i64 0]) rfl rfl (by kernel_rfl) (by kernel_rfl) (by kernel_rfl) (fun _ _ _ h => h) (Or.inl ⟨by rfl, fun w' hw' => by rfl⟩) hS ?_
        simp only [Act.put, List.setIfInBounds_toArray, List.set_cons_zero, List.set_cons_succ]
        refine take_lawH 5 (some 8) (.agg (sv true 5 0 2 (.slice wo 104 wc)).toArray) rfl rfl (by kernel_rfl) (by kernel_rfl) (by kernel_rfl) (fun _ _ _ h => h) (Or.inl ⟨by rfl, fun w' hw' => by rfl⟩) hS ?_
        simp only [Act.put, List.setIfInBounds_toArray, List.set_cons_zero, List.set_cons_succ]
        refine take_lawH 6 (some 9) (.int .i64 0) rfl rfl (by kernel_rfl) (by kernel_rfl) (by kernel_rfl) (fun _ _ _ h => h) (Or.inl ⟨by rfl, fun w' hw' => by rfl⟩) hS ?_
        simp only [Act.put, List.setIfInBounds_toArray, List.set_cons_zero, List.set_cons_succ]
        refine wpAnyH_ready (rs := [7]) (by kernel_rfl) (by simp) ?_
        refine AllReadyH.cons rfl (fun K hK => ?_) AllReadyH.nil
        refine step_newC _ rfl (some 1) rfl 25 rfl (sv false 0 0 0 (.slice none 0 0)) zero_slot ?_
        intro x5 v9 hb l9
        have Yga : Hid (Byt x5 (.slice (some ⟨ga, 0, none⟩) 32 32) (nul 32)) := Yga.out.below hb
        have Ygb9 : Hid (Byt x5 (.slice (some ⟨gb9, 0, none⟩) 96 96) (nul 96)) := Ygb9.out.below hb
        have HV : Hid (Vr x5 x4.heap.size (sv false 0 0 0 (.slice none 0 0))) := v9
        have LV : Hid (w.heap.size ≤ x4.heap.size) := hS.size
        have hS : Below w.heap.size w x5 := hS.trans (hb.mono hS.size)
        clear v9 hb l9
        obtain ⟨gv, hg9⟩ : ∃ g, g = x4.heap.size := ⟨_, rfl⟩
        rw [← hg9] at HV LV ⊢
        clear hg9
        refine hK.out _ _ hS (fun _ => ?_)
        simp only [Act.put, List.setIfInBounds_toArray, List.set_cons_zero, List.set_cons_succ]
        clear hK K
        refine wpAnyH_ready (rs := [8]) (by kernel_rfl) (by simp) ?_
        refine AllReadyH.cons rfl (fun K hK => ?_) AllReadyH.nil
        refine step_storeC _ rfl none rfl (.tmp 1) (.tmp 8) 25 rfl gv (sv false 0 0 0 (.slice none 0 0)) (sv true 5 0 2 (.slice wo 104 wc)) rfl rfl HV.out rfl rowy_slot.2 (sv_one _ _ _ _ rfl) ?_
        intro x6 v9 hb
        have HV : Hid (Vr x6 gv (sv true 5 0 2 (.slice wo 104 wc))) := v9
        have hS : Below w.heap.size w x6 := hS.trans (hb.mono LV.out)
        clear v9 hb
        refine hK.out _ _ hS (fun _ => ?_)
        simp only [Act.put]
        clear hK K
        refine take_lawH 9 (some 2) (.int .i64 0) rfl rfl (by kernel_rfl) (by kernel_rfl) (by kernel_rfl) (fun _ _ _ h => h) (Or.inl ⟨by rfl, fun w' hw' => by rfl⟩) hS ?_
        simp only [Act.put, List.setIfInBounds_toArray, List.set_cons_zero, List.set_cons_succ]
        refine wpAnyH_done (by kernel_rfl) ?_ _
        have BB : Hid (Below w.heap.size w x6) := hS
        clear hS
        have t0 : (0 : Nat) = 0 := rfl
        have hv_0 := HV.out.cell 0 _ rfl
        have hv_1 := HV.out.cell 1 _ rfl
        have hv_2 := HV.out.cell 2 _ rfl
        have hv_3 := HV.out.cell 3 _ rfl
        have hv_4 := HV.out.cell 4 _ rfl
        go_wp2_with (first
          | (have q0 := t0; go_at_call 8; refine (SR.out x6).mono ?_; rintro e9 w1 ⟨rfl, B9⟩; have HV : Hid (Vr w1 gv (sv true 5 0 2 (.slice wo 104 wc))) := HV.out.below B9 (range_lt HV.out.1 (Nat.succ_pos _)); have BB : Hid (Below w.heap.size w w1) := BB.out.trans (B9.mono BB.out.size); clear hv_0 hv_1 hv_2 hv_3 hv_4; have hv_0 := HV.out.cell 0 _ rfl; have hv_1 := HV.out.cell 1 _ rfl; have hv_2 := HV.out.cell 2 _ rfl; have hv_3 := HV.out.cell 3 _ rfl; have hv_4 := HV.out.cell 4 _ rfl; clear B9; clear t0; have t1 : (1 : Nat) = 1 := rfl))
        go_ret
        exact ⟨rfl, BB.out⟩
      · refine step_newC _ rfl (some 1) rfl 25 rfl (sv false 0 0 0 (.slice none 0 0)) zero_slot ?_
        intro x7 v9 hb l9
        have Yga : Hid (Byt x7 (.slice (some ⟨ga, 0, none⟩) 32 32) (nul 32)) := Yga.out.below hb
        have Ygb9 : Hid (Byt x7 (.slice (some ⟨gb9, 0, none⟩) 96 96) (nul 96)) := Ygb9.out.below hb
        have HV : Hid (Vr x7 x3.heap.size (sv false 0 0 0 (.slice none 0 0))) := v9
        have LV : Hid (w.heap.size ≤ x3.heap.size) := hS.size
        have hS : Below w.heap.size w x7 := hS.trans (hb.mono hS.size)
        clear v9 hb l9
        obtain ⟨gv, hg9⟩ : ∃ g, g = x3.heap.size := ⟨_, rfl⟩
        rw [← hg9] at HV LV ⊢
        clear hg9
        refine hK.out _ _ hS (fun _ => ?_)
        simp only [Act.put, List.setIfInBounds_toArray, List.set_cons_zero, List.set_cons_succ]
        clear hK K
        refine wpAnyH_ready (rs := [3]) (by kernel_rfl) (by simp) ?_
        refine AllReadyH.cons rfl (fun K hK => ?_) AllReadyH.nil
        refine he.step_callW _ (by rfl) (some 7) rfl 16 #[.tmp 4, .const (.int .i64 5), .tmp 5, .tmp 6] #[23, 3, 46, 23] rfl (fun q w' => by rfl) #[.slice (some ⟨ga, 0, none⟩) 32 32, .int .i64 5, .agg (he.hv 0 0 0 0 0 2).toArray, .slice (some ⟨gb9, 0, none⟩) 96 96] (by simp only [List.map_toArray, List.map_cons, List.map_nil]; rfl) (fun u w' => (∃ wo wc, u = .tuple #[.agg (sv true 5 0 2 (.slice wo 104 wc)).toArray, .int .i64 0]) ∧ Below x7.heap.size x7 w') ?_ ?_
        · exact (SM.out x7 _ _ Yga.out Ygb9.out).mono fun e w' ⟨wo, wc, h1, h2⟩ => ⟨_, h1, ⟨wo, wc, rfl⟩, h2⟩
        rintro _ x8 ⟨⟨wo, wc, rfl⟩, hb⟩
        have Yga : Hid (Byt x8 (.slice (some ⟨ga, 0, none⟩) 32 32) (nul 32)) := Yga.out.below hb
        have Ygb9 : Hid (Byt x8 (.slice (some ⟨gb9, 0, none⟩) 96 96) (nul 96)) := Ygb9.out.below hb
        have HV : Hid (Vr x8 gv (sv false 0 0 0 (.slice none 0 0))) := HV.out.below hb (range_lt HV.out.1 (Nat.succ_pos _))
        have hS : Below w.heap.size w x8 := hS.trans (hb.mono hS.size)
        clear hb
        refine hK.out _ _ hS (fun _ => ?_)
        simp only [Act.put, List.setIfInBounds_toArray, List.set_cons_zero, List.set_cons_succ]
        clear hK K
        refine take_lawH 4 (some 3) (.tuple #[.agg (sv true 5 0 2 (.slice wo 104 wc)).toArray, .int .i64 0]) rfl rfl (by kernel_rfl) (by kernel_rfl) (by kernel_rfl) (fun _ _ _ h => h) (Or.inl ⟨by rfl, fun w' hw' => by rfl⟩) hS ?_
        simp only [Act.put, List.setIfInBounds_toArray, List.set_cons_zero, List.set_cons_succ]
        refine take_lawH 5 (some 8) (.agg (sv true 5 0 2 (.slice wo 104 wc)).toArray) rfl rfl (by kernel_rfl) (by kernel_rfl) (by kernel_rfl) (fun _ _ _ h => h) (Or.inl ⟨by rfl, fun w' hw' => by rfl⟩) hS ?_
        simp only [Act.put, List.setIfInBounds_toArray, List.set_cons_zero, List.set_cons_succ]
        refine take_lawH 6 (some 9) (.int .i64 0) rfl rfl (by kernel_rfl) (by kernel_rfl) (by kernel_rfl) (fun _ _ _ h => h) (Or.inl ⟨by rfl, fun w' hw' => by rfl⟩) hS ?_
        simp only [Act.put, List.setIfInBounds_toArray, List.set_cons_zero, List.set_cons_succ]
        refine wpAnyH_ready (rs := [8]) (by kernel_rfl) (by simp) ?_
        refine AllReadyH.cons rfl (fun K hK => ?_) AllReadyH.nil
        refine step_storeC _ rfl none rfl (.tmp 1) (.tmp 8) 25 rfl gv (sv false 0 0 0 (.slice none 0 0)) (sv true 5 0 2 (.slice wo 104 wc)) rfl rfl HV.out rfl rowy_slot.2 (sv_one _ _ _ _ rfl) ?_
        intro x9 v9 hb
        have HV : Hid (Vr x9 gv (sv true 5 0 2 (.slice wo 104 wc))) := v9
        have hS : Below w.heap.size w x9 := hS.trans (hb.mono LV.out)
        clear v9 hb
        refine hK.out _ _ hS (fun _ => ?_)
        simp only [Act.put]
        clear hK K
        refine take_lawH 9 (some 2) (.int .i64 0) rfl rfl (by kernel_rfl) (by kernel_rfl) (by kernel_rfl) (fun _ _ _ h => h) (Or.inl ⟨by rfl, fun w' hw' => by rfl⟩) hS ?_
        simp only [Act.put, List.setIfInBounds_toArray, List.set_cons_zero, List.set_cons_succ]
        refine wpAnyH_done (by kernel_rfl) ?_ _
        have BB : Hid (Below w.heap.size w x9) := hS
        clear hS
        have t0 : (0 : Nat) = 0 := rfl
        have hv_0 := HV.out.cell 0 _ rfl
        have hv_1 := HV.out.cell 1 _ rfl
        have hv_2 := HV.out.cell 2 _ rfl
        have hv_3 := HV.out.cell 3 _ rfl
        have hv_4 := HV.out.cell 4 _ rfl
        go_wp2_with (first
          | (have q0 := t0; go_at_call 8; refine (SR.out x9).mono ?_; rintro e9 w1 ⟨rfl, B9⟩; have HV : Hid (Vr w1 gv (sv true 5 0 2 (.slice wo 104 wc))) := HV.out.below B9 (range_lt HV.out.1 (Nat.succ_pos _)); have BB : Hid (Below w.heap.size w w1) := BB.out.trans (B9.mono BB.out.size); clear hv_0 hv_1 hv_2 hv_3 hv_4; have hv_0 := HV.out.cell 0 _ rfl; have hv_1 := HV.out.cell 1 _ rfl; have hv_2 := HV.out.cell 2 _ rfl; have hv_3 := HV.out.cell 3 _ rfl; have hv_4 := HV.out.cell 4 _ rfl; clear B9; clear t0; have t1 : (1 : Nat) = 1 := rfl))
        go_ret
        exact ⟨rfl, BB.out⟩
    · refine step_newC _ rfl (some 1) rfl 25 rfl (sv false 0 0 0 (.slice none 0 0)) zero_slot ?_
      intro x10 v9 hb l9
      have Yga : Hid (Byt x10 (.slice (some ⟨ga, 0, none⟩) 32 32) (nul 32)) := Yga.out.below hb
      have HV : Hid (Vr x10 x2.heap.size (sv false 0 0 0 (.slice none 0 0))) := v9
      have LV : Hid (w.heap.size ≤ x2.heap.size) := hS.size
      have hS : Below w.heap.size w x10 := hS.trans (hb.mono hS.size)
      clear v9 hb l9
      obtain ⟨gv, hg9⟩ : ∃ g, g = x2.heap.size := ⟨_, rfl⟩
      rw [← hg9] at HV LV ⊢
      clear hg9
      refine hK.out _ _ hS (fun _ => ?_)
      simp only [Act.put, List.setIfInBounds_toArray, List.set_cons_zero, List.set_cons_succ]
      clear hK K
      refine wpAnyH_ready (rs := [2]) (by kernel_rfl) (by simp) ?_
      refine AllReadyH.cons rfl (fun K hK => ?_) AllReadyH.nil
      refine step_make _ rfl (some 6) rfl (.const (.int .i64 96)) (.const (.int .i64 96)) rfl x10.heap.size (Nat.le_refl _) 96 96 rfl rfl rfl (by omega) ?_
      intro x11 o9 hb l9
      have Yga : Hid (Byt x11 (.slice (some ⟨ga, 0, none⟩) 32 32) (nul 32)) := Yga.out.below hb
      have HV : Hid (Vr x11 gv (sv false 0 0 0 (.slice none 0 0))) := HV.out.below hb (range_lt HV.out.1 (Nat.succ_pos _))
      have Ygb9 : Hid (Byt x11 (.slice (some ⟨x10.heap.size, 0, none⟩) 96 96) (nul 96)) := nul_byt o9
      have hS : Below w.heap.size w x11 := hS.trans (hb.mono hS.size)
      clear o9 hb l9
      obtain ⟨gb9, hg9⟩ : ∃ g, g = x10.heap.size := ⟨_, rfl⟩
      rw [← hg9] at Ygb9 ⊢
      clear hg9
      refine hK.out _ _ hS (fun _ => ?_)
      simp only [Act.put, List.setIfInBounds_toArray, List.set_cons_zero, List.set_cons_succ]
      clear hK K
      refine wpAnyH_ready (rs := [3]) (by kernel_rfl) (by simp) ?_
      refine AllReadyH.cons rfl (fun K hK => ?_) AllReadyH.nil
      refine he.step_callW _ (by rfl) (some 7) rfl 16 #[.tmp 4, .const (.int .i64 5), .tmp 5, .tmp 6] #[23, 3, 46, 23] rfl (fun q w' => by rfl) #[.slice (some ⟨ga, 0, none⟩) 32 32, .int .i64 5, .agg (he.hv 0 0 0 0 0 2).toArray, .slice (some ⟨gb9, 0, none⟩) 96 96] (by simp only [List.map_toArray, List.map_cons, List.map_nil]; rfl) (fun u w' => (∃ wo wc, u = .tuple #[.agg (sv true 5 0 2 (.slice wo 104 wc)).toArray, .int .i64 0]) ∧ Below x11.heap.size x11 w') ?_ ?_
      · exact (SM.out x11 _ _ Yga.out Ygb9.out).mono fun e w' ⟨wo, wc, h1, h2⟩ => ⟨_, h1, ⟨wo, wc, rfl⟩, h2⟩
      rintro _ x12 ⟨⟨wo, wc, rfl⟩, hb⟩
      have Yga : Hid (Byt x12 (.slice (some ⟨ga, 0, none⟩) 32 32) (nul 32)) := Yga.out.below hb
      have HV : Hid (Vr x12 gv (sv false 0 0 0 (.slice none 0 0))) := HV.out.below hb (range_lt HV.out.1 (Nat.succ_pos _))
      have Ygb9 : Hid (Byt x12 (.slice (some ⟨gb9, 0, none⟩) 96 96) (nul 96)) := Ygb9.out.below hb
      have hS : Below w.heap.size w x12 := hS.trans (hb.mono hS.size)
      clear hb
      refine hK.out _ _ hS (fun _ => ?_)
      simp only [Act.put, List.setIfInBounds_toArray, List.set_cons_zero, List.set_cons_succ]
      clear hK K
      refine take_lawH 4 (some 3) (.tuple #[.agg (sv true 5 0 2 (.slice wo 104 wc)).toArray, .int .i64 0]) rfl rfl (by kernel_rfl) (by kernel_rfl) (by kernel_rfl) (fun _ _ _ h => h) (Or.inl ⟨by rfl, fun w' hw' => by rfl⟩) hS ?_
      simp only [Act.put, List.setIfInBounds_toArray, List.set_cons_zero, List.set_cons_succ]
      refine take_lawH 5 (some 8) (.agg (sv true 5 0 2 (.slice wo 104 wc)).toArray) rfl rfl (by kernel_rfl) (by kernel_rfl) (by kernel_rfl) (fun _ _ _ h => h) (Or.inl ⟨by rfl, fun w' hw' => by rfl⟩) hS ?_
      simp only [Act.put, List.setIfInBounds_toArray, List.set_cons_zero, List.set_cons_succ]
      refine take_lawH 6 (some 9) (.int .i64 0) rfl rfl (by kernel_rfl) (by kernel_rfl) (by kernel_rfl) (fun _ _ _ h => h) (Or.inl ⟨by rfl, fun w' hw' => by rfl⟩) hS ?_
      simp only [Act.put, List.setIfInBounds_toArray, List.set_cons_zero, List.set_cons_succ]
      refine wpAnyH_ready (rs := [8]) (by kernel_rfl) (by simp) ?_
      refine AllReadyH.cons rfl (fun K hK => ?_) AllReadyH.nil
      refine step_storeC _ rfl none rfl (.tmp 1) (.tmp 8) 25 rfl gv (sv false 0 0 0 (.slice none 0 0)) (sv true 5 0 2 (.slice wo 104 wc)) rfl rfl HV.out rfl rowy_slot.2 (sv_one _ _ _ _ rfl) ?_
      intro x13 v9 hb
      have HV : Hid (Vr x13 gv (sv true 5 0 2 (.slice wo 104 wc))) := v9
      have hS : Below w.heap.size w x13 := hS.trans (hb.mono LV.out)
      clear v9 hb
      refine hK.out _ _ hS (fun _ => ?_)
      simp only [Act.put]
      clear hK K
      refine take_lawH 9 (some 2) (.int .i64 0) rfl rfl (by kernel_rfl) (by kernel_rfl) (by kernel_rfl) (fun _ _ _ h => h) (Or.inl ⟨by rfl, fun w' hw' => by rfl⟩) hS ?_
      simp only [Act.put, List.setIfInBounds_toArray, List.set_cons_zero, List.set_cons_succ]
      refine wpAnyH_done (by kernel_rfl) ?_ _
      have BB : Hid (Below w.heap.size w x13) := hS
      clear hS
      have t0 : (0 : Nat) = 0 := rfl
      have hv_0 := HV.out.cell 0 _ rfl
      have hv_1 := HV.out.cell 1 _ rfl
      have hv_2 := HV.out.cell 2 _ rfl
      have hv_3 := HV.out.cell 3 _ rfl
      have hv_4 := HV.out.cell 4 _ rfl
      go_wp2_with (first
        | (have q0 := t0; go_at_call 8; refine (SR.out x13).mono ?_; rintro e9 w1 ⟨rfl, B9⟩; have HV : Hid (Vr w1 gv (sv true 5 0 2 (.slice wo 104 wc))) := HV.out.below B9 (range_lt HV.out.1 (Nat.succ_pos _)); have BB : Hid (Below w.heap.size w w1) := BB.out.trans (B9.mono BB.out.size); clear hv_0 hv_1 hv_2 hv_3 hv_4; have hv_0 := HV.out.cell 0 _ rfl; have hv_1 := HV.out.cell 1 _ rfl; have hv_2 := HV.out.cell 2 _ rfl; have hv_3 := HV.out.cell 3 _ rfl; have hv_4 := HV.out.cell 4 _ rfl; clear B9; clear t0; have t1 : (1 : Nat) = 1 := rfl))
      go_ret
      exact ⟨rfl, BB.out⟩
  · refine step_make _ rfl (some 6) rfl (.const (.int .i64 96)) (.const (.int .i64 96)) rfl x1.heap.size (Nat.le_refl _) 96 96 rfl rfl rfl (by omega) ?_
    intro x14 o9 hb l9
    have Ygb9 : Hid (Byt x14 (.slice (some ⟨x1.heap.size, 0, none⟩) 96 96) (nul 96)) := nul_byt o9
    have hS : Below w.heap.size w x14 := hS.trans (hb.mono hS.size)
    clear o9 hb l9
    obtain ⟨gb9, hg9⟩ : ∃ g, g = x1.heap.size := ⟨_, rfl⟩
    rw [← hg9] at Ygb9 ⊢
    clear hg9
    refine hK.out _ _ hS (fun _ => ?_)
    simp only [Act.put, List.setIfInBounds_toArray, List.set_cons_zero, List.set_cons_succ]
    clear hK K
    refine wpAnyH_ready (rs := [0, 7]) (by kernel_rfl) (by simp) ?_
    refine AllReadyH.cons rfl (fun K hK => ?_) (AllReadyH.cons rfl (fun K hK => ?_) AllReadyH.nil)
    · refine step_make _ rfl (some 4) rfl (.const (.int .i64 32)) (.const (.int .i64 32)) rfl x14.heap.size (Nat.le_refl _) 32 32 rfl rfl rfl (by omega) ?_
      intro x15 o9 hb l9
      have Ygb9 : Hid (Byt x15 (.slice (some ⟨gb9, 0, none⟩) 96 96) (nul 96)) := Ygb9.out.below hb
      have Yga : Hid (Byt x15 (.slice (some ⟨x14.heap.size, 0, none⟩) 32 32) (nul 32)) := nul_byt o9
      have hS : Below w.heap.size w x15 := hS.trans (hb.mono hS.size)
      clear o9 hb l9
      obtain ⟨ga, hg9⟩ : ∃ g, g = x14.heap.size := ⟨_, rfl⟩
      rw [← hg9] at Yga ⊢
      clear hg9
      refine hK.out _ _ hS (fun _ => ?_)
      simp only [Act.put, List.setIfInBounds_toArray, List.set_cons_zero, List.set_cons_succ]
      clear hK K
      refine wpAnyH_ready (rs := [3, 7]) (by kernel_rfl) (by simp) ?_
      refine AllReadyH.cons rfl (fun K hK => ?_) (AllReadyH.cons rfl (fun K hK => ?_) AllReadyH.nil)
      · refine he.step_callW _ (by rfl) (some 7) rfl 16 #[.tmp 4, .const (.int .i64 5), .tmp 5, .tmp 6] #[23, 3, 46, 23] rfl (fun q w' => by rfl) #[.slice (some ⟨ga, 0, none⟩) 32 32, .int .i64 5, .agg (he.hv 0 0 0 0 0 2).toArray, .slice (some ⟨gb9, 0, none⟩) 96 96] (by simp only [List.map_toArray, List.map_cons, List.map_nil]; rfl) (fun u w' => (∃ wo wc, u = .tuple #[.agg (sv true 5 0 2 (.slice wo 104 wc)).toArray, .int .i64 0]) ∧ Below x15.heap.size x15 w') ?_ ?_
        · exact (SM.out x15 _ _ Yga.out Ygb9.out).mono fun e w' ⟨wo, wc, h1, h2⟩ => ⟨_, h1, ⟨wo, wc, rfl⟩, h2⟩
        rintro _ x16 ⟨⟨wo, wc, rfl⟩, hb⟩
        have Ygb9 : Hid (Byt x16 (.slice (some ⟨gb9, 0, none⟩) 96 96) (nul 96)) := Ygb9.out.below hb
        have Yga : Hid (Byt x16 (.slice (some ⟨ga, 0, none⟩) 32 32) (nul 32)) := Yga.out.below hb
        have hS : Below w.heap.size w x16 := hS.trans (hb.mono hS.size)
        clear hb
        refine hK.out _ _ hS (fun _ => ?_)
        simp only [Act.put, List.setIfInBounds_toArray, List.set_cons_zero, List.set_cons_succ]
        clear hK K
        refine take_lawH 4 (some 3) (.tuple #[.agg (sv true 5 0 2 (.slice wo 104 wc)).toArray, .int .i64 0]) rfl rfl (by kernel_rfl) (by kernel_rfl) (by kernel_rfl) (fun _ _ _ h => h) (Or.inl ⟨by rfl, fun w' hw' => by rfl⟩) hS ?_
        simp only [Act.put, List.setIfInBounds_toArray, List.set_cons_zero, List.set_cons_succ]
        refine take_lawH 5 (some 8) (.agg (sv true 5 0 2 (.slice wo 104 wc)).toArray) rfl rfl (by kernel_rfl) (by kernel_rfl) (by kernel_rfl) (fun _ _ _ h => h) (Or.inl ⟨by rfl, fun w' hw' => by rfl⟩) hS ?_
        simp only [Act.put, List.setIfInBounds_toArray, List.set_cons_zero, List.set_cons_succ]
        refine take_lawH 6 (some 9) (.int .i64 0) rfl rfl (by kernel_rfl) (by kernel_rfl) (by kernel_rfl) (fun _ _ _ h => h) (Or.inl ⟨by rfl, fun w' hw' => by rfl⟩) hS ?_
        simp only [Act.put, List.setIfInBounds_toArray, List.set_cons_zero, List.set_cons_succ]
        refine wpAnyH_ready (rs := [7]) (by kernel_rfl) (by simp) ?_
        refine AllReadyH.cons rfl (fun K hK => ?_) AllReadyH.nil
        refine step_newC _ rfl (some 1) rfl 25 rfl (sv false 0 0 0 (.slice none 0 0)) zero_slot ?_
        intro x17 v9 hb l9
        have Ygb9 : Hid (Byt x17 (.slice (some ⟨gb9, 0, none⟩) 96 96) (nul 96)) := Ygb9.out.below hb
        have Yga : Hid (Byt x17 (.slice (some ⟨ga, 0, none⟩) 32 32) (nul 32)) := Yga.out.below hb
        have HV : Hid (Vr x17 x16.heap.size (sv false 0 0 0 (.slice none 0 0))) := v9
        have LV : Hid (w.heap.size ≤ x16.heap.size) := hS.size
        have hS : Below w.heap.size w x17 := hS.trans (hb.mono hS.size)
        clear v9 hb l9
        obtain ⟨gv, hg9⟩ : ∃ g, g = x16.heap.size := ⟨_, rfl⟩
        rw [← hg9] at HV LV ⊢
        clear hg9
        refine hK.out _ _ hS (fun _ => ?_)
        simp only [Act.put, List.setIfInBounds_toArray, List.set_cons_zero, List.set_cons_succ]
        clear hK K
        refine wpAnyH_ready (rs := [8]) (by kernel_rfl) (by simp) ?_
        refine AllReadyH.cons rfl (fun K hK => ?_) AllReadyH.nil
        refine step_storeC _ rfl none rfl (.tmp 1) (.tmp 8) 25 rfl gv (sv false 0 0 0 (.slice none 0 0)) (sv true 5 0 2 (.slice wo 104 wc)) rfl rfl HV.out rfl rowy_slot.2 (sv_one _ _ _ _ rfl) ?_
        intro x18 v9 hb
        have HV : Hid (Vr x18 gv (sv true 5 0 2 (.slice wo 104 wc))) := v9
        have hS : Below w.heap.size w x18 := hS.trans (hb.mono LV.out)
        clear v9 hb
        refine hK.out _ _ hS (fun _ => ?_)
        simp only [Act.put]
        clear hK K
        refine take_lawH 9 (some 2) (.int .i64 0) rfl rfl (by kernel_rfl) (by kernel_rfl) (by kernel_rfl) (fun _ _ _ h => h) (Or.inl ⟨by rfl, fun w' hw' => by rfl⟩) hS ?_
        simp only [Act.put, List.setIfInBounds_toArray, List.set_cons_zero, List.set_cons_succ]
        refine wpAnyH_done (by kernel_rfl) ?_ _
        have BB : Hid (Below w.heap.size w x18) := hS
        clear hS
        have t0 : (0 : Nat) = 0 := rfl
        have hv_0 := HV.out.cell 0 _ rfl
        have hv_1 := HV.out.cell 1 _ rfl
        have hv_2 := HV.out.cell 2 _ rfl
        have hv_3 := HV.out.cell 3 _ rfl
        have hv_4 := HV.out.cell 4 _ rfl
        go_wp2_with (first
          | (have q0 := t0; go_at_call 8; refine (SR.out x18).mono ?_; rintro e9 w1 ⟨rfl, B9⟩; have HV : Hid (Vr w1 gv (sv true 5 0 2 (.slice wo 104 wc))) := HV.out.below B9 (range_lt HV.out.1 (Nat.succ_pos _)); have BB : Hid (Below w.heap.size w w1) := BB.out.trans (B9.mono BB.out.size); clear hv_0 hv_1 hv_2 hv_3 hv_4; have hv_0 := HV.out.cell 0 _ rfl; have hv_1 := HV.out.cell 1 _ rfl; have hv_2 := HV.out.cell 2 _ rfl; have hv_3 := HV.out.cell 3 _ rfl; have hv_4 := HV.out.cell 4 _ rfl; clear B9; clear t0; have t1 : (1 : Nat) = 1 := rfl))
        go_ret
        exact ⟨rfl, BB.out⟩
      · refine step_newC _ rfl (some 1) rfl 25 rfl (sv false 0 0 0 (.slice none 0 0)) zero_slot ?_
        intro x19 v9 hb l9
        have Ygb9 : Hid (Byt x19 (.slice (some ⟨gb9, 0, none⟩) 96 96) (nul 96)) := Ygb9.out.below hb
        have Yga : Hid (Byt x19 (.slice (some ⟨ga, 0, none⟩) 32 32) (nul 32)) := Yga.out.below hb
        have HV : Hid (Vr x19 x15.heap.size (sv false 0 0 0 (.slice none 0 0))) := v9
        have LV : Hid (w.heap.size ≤ x15.heap.size) := hS.size
        have hS : Below w.heap.size w x19 := hS.trans (hb.mono hS.size)
        clear v9 hb l9
        obtain ⟨gv, hg9⟩ : ∃ g, g = x15.heap.size := ⟨_, rfl⟩
        rw [← hg9] at HV LV ⊢
        clear hg9
        refine hK.out _ _ hS (fun _ => ?_)
        simp only [Act.put, List.setIfInBounds_toArray, List.set_cons_zero, List.set_cons_succ]
        clear hK K
        refine wpAnyH_ready (rs := [3]) (by kernel_rfl) (by simp) ?_
        refine AllReadyH.cons rfl (fun K hK => ?_) AllReadyH.nil
        refine he.step_callW _ (by rfl) (some 7) rfl 16 #[.tmp 4, .const (.int .i64 5), .tmp 5, .tmp 6] #[23, 3, 46, 23] rfl (fun q w' => by rfl) #[.slice (some ⟨ga, 0, none⟩) 32 32, .int .i64 5, .agg (he.hv 0 0 0 0 0 2).toArray, .slice (some ⟨gb9, 0, none⟩) 96 96] (by simp only [List.map_toArray, List.map_cons, List.map_nil]; rfl) (fun u w' => (∃ wo wc, u = .tuple #[.agg (sv true 5 0 2 (.slice wo 104 wc)).toArray, .int .i64 0]) ∧ Below x19.heap.size x19 w') ?_ ?_
        · exact (SM.out x19 _ _ Yga.out Ygb9.out).mono fun e w' ⟨wo, wc, h1, h2⟩ => ⟨_, h1, ⟨wo, wc, rfl⟩, h2⟩
        rintro _ x20 ⟨⟨wo, wc, rfl⟩, hb⟩
        have Ygb9 : Hid (Byt x20 (.slice (some ⟨gb9, 0, none⟩) 96 96) (nul 96)) := Ygb9.out.below hb
        have Yga : Hid (Byt x20 (.slice (some ⟨ga, 0, none⟩) 32 32) (nul 32)) := Yga.out.below hb
        have HV : Hid (Vr x20 gv (sv false 0 0 0 (.slice none 0 0))) := HV.out.below hb (range_lt HV.out.1 (Nat.succ_pos _))
        have hS : Below w.heap.size w x20 := hS.trans (hb.mono hS.size)
        clear hb
        refine hK.out _ _ hS (fun _ => ?_)
        simp only [Act.put, List.setIfInBounds_toArray, List.set_cons_zero, List.set_cons_succ]
        clear hK K
        refine take_lawH 4 (some 3) (.tuple #[.agg (sv true 5 0 2 (.slice wo 104 wc)).toArray, .int .i64 0]) rfl rfl (by kernel_rfl) (by kernel_rfl) (by kernel_rfl) (fun _ _ _ h => h) (Or.inl ⟨by rfl, fun w' hw' => by rfl⟩) hS ?_
        simp only [Act.put, List.setIfInBounds_toArray, List.set_cons_zero, List.set_cons_succ]
        refine take_lawH 5 (some 8) (.agg (sv true 5 0 2 (.slice wo 104 wc)).toArray) rfl rfl (by kernel_rfl) (by kernel_rfl) (by kernel_rfl) (fun _ _ _ h => h) (Or.inl ⟨by rfl, fun w' hw' => by rfl⟩) hS ?_
        simp only [Act.put, List.setIfInBounds_toArray, List.set_cons_zero, List.set_cons_succ]
        refine take_lawH 6 (some 9) (.int .i64 0) rfl rfl (by kernel_rfl) (by kernel_rfl) (by kernel_rfl) (fun _ _ _ h => h) (Or.inl ⟨by rfl, fun w' hw' => by rfl⟩) hS ?_
        simp only [Act.put, List.setIfInBounds_toArray, List.set_cons_zero, List.set_cons_succ]
        refine wpAnyH_ready (rs := [8]) (by kernel_rfl) (by simp) ?_
        refine AllReadyH.cons rfl (fun K hK => ?_) AllReadyH.nil
        refine step_storeC _ rfl none rfl (.tmp 1) (.tmp 8) 25 rfl gv (sv false 0 0 0 (.slice none 0 0)) (sv true 5 0 2 (.slice wo 104 wc)) rfl rfl HV.out rfl rowy_slot.2 (sv_one _ _ _ _ rfl) ?_
        intro x21 v9 hb
        have HV : Hid (Vr x21 gv (sv true 5 0 2 (.slice wo 104 wc))) := v9
        have hS : Below w.heap.size w x21 := hS.trans (hb.mono LV.out)
        clear v9 hb
        refine hK.out _ _ hS (fun _ => ?_)
        simp only [Act.put]
        clear hK K
        refine take_lawH 9 (some 2) (.int .i64 0) rfl rfl (by kernel_rfl) (by kernel_rfl) (by kernel_rfl) (fun _ _ _ h => h) (Or.inl ⟨by rfl, fun w' hw' => by rfl⟩) hS ?_
        simp only [Act.put, List.setIfInBounds_toArray, List.set_cons_zero, List.set_cons_succ]
        refine wpAnyH_done (by kernel_rfl) ?_ _
        have BB : Hid (Below w.heap.size w x21) := hS
        clear hS
        have t0 : (0 : Nat) = 0 := rfl
        have hv_0 := HV.out.cell 0 _ rfl
        have hv_1 := HV.out.cell 1 _ rfl
        have hv_2 := HV.out.cell 2 _ rfl
        have hv_3 := HV.out.cell 3 _ rfl
        have hv_4 := HV.out.cell 4 _ rfl
        go_wp2_with (first
          | (have q0 := t0; go_at_call 8; refine (SR.out x21).mono ?_; rintro e9 w1 ⟨rfl, B9⟩; have HV : Hid (Vr w1 gv (sv true 5 0 2 (.slice wo 104 wc))) := HV.out.below B9 (range_lt HV.out.1 (Nat.succ_pos _)); have BB : Hid (Below w.heap.size w w1) := BB.out.trans (B9.mono BB.out.size); clear hv_0 hv_1 hv_2 hv_3 hv_4; have hv_0 := HV.out.cell 0 _ rfl; have hv_1 := HV.out.cell 1 _ rfl; have hv_2 := HV.out.cell 2 _ rfl; have hv_3 := HV.out.cell 3 _ rfl; have hv_4 := HV.out.cell 4 _ rfl; clear B9; clear t0; have t1 : (1 : Nat) = 1 := rfl))
        go_ret
        exact ⟨rfl, BB.out⟩
    · refine step_newC _ rfl (some 1) rfl 25 rfl (sv false 0 0 0 (.slice none 0 0)) zero_slot ?_
      intro x22 v9 hb l9
      have Ygb9 : Hid (Byt x22 (.slice (some ⟨gb9, 0, none⟩) 96 96) (nul 96)) := Ygb9.out.below hb
      have HV : Hid (Vr x22 x14.heap.size (sv false 0 0 0 (.slice none 0 0))) := v9
      have LV : Hid (w.heap.size ≤ x14.heap.size) := hS.size
      have hS : Below w.heap.size w x22 := hS.trans (hb.mono hS.size)
      clear v9 hb l9
      obtain ⟨gv, hg9⟩ : ∃ g, g = x14.heap.size := ⟨_, rfl⟩
      rw [← hg9] at HV LV ⊢
      clear hg9
      refine hK.out _ _ hS (fun _ => ?_)
      simp only [Act.put, List.setIfInBounds_toArray, List.set_cons_zero, List.set_cons_succ]
      clear hK K
      refine wpAnyH_ready (rs := [0]) (by kernel_rfl) (by simp) ?_
      refine AllReadyH.cons rfl (fun K hK => ?_) AllReadyH.nil
      refine step_make _ rfl (some 4) rfl (.const (.int .i64 32)) (.const (.int .i64 32)) rfl x22.heap.size (Nat.le_refl _) 32 32 rfl rfl rfl (by omega) ?_
      intro x23 o9 hb l9
      have Ygb9 : Hid (Byt x23 (.slice (some ⟨gb9, 0, none⟩) 96 96) (nul 96)) := Ygb9.out.below hb
      have HV : Hid (Vr x23 gv (sv false 0 0 0 (.slice none 0 0))) := HV.out.below hb (range_lt HV.out.1 (Nat.succ_pos _))
      have Yga : Hid (Byt x23 (.slice (some ⟨x22.heap.size, 0, none⟩) 32 32) (nul 32)) := nul_byt o9
      have hS : Below w.heap.size w x23 := hS.trans (hb.mono hS.size)
      clear o9 hb l9
      obtain ⟨ga, hg9⟩ : ∃ g, g = x22.heap.size := ⟨_, rfl⟩
      rw [← hg9] at Yga ⊢
      clear hg9
      refine hK.out _ _ hS (fun _ => ?_)
      simp only [Act.put, List.setIfInBounds_toArray, List.set_cons_zero, List.set_cons_succ]
      clear hK K
      refine wpAnyH_ready (rs := [3]) (by kernel_rfl) (by simp) ?_
      refine AllReadyH.cons rfl (fun K hK => ?_) AllReadyH.nil
      refine he.step_callW _ (by rfl) (some 7) rfl 16 #[.tmp 4, .const (.int .i64 5), .tmp 5, .tmp 6] #[23, 3, 46, 23] rfl (fun q w' => by rfl) #[.slice (some ⟨ga, 0, none⟩) 32 32, .int .i64 5, .agg (he.hv 0 0 0 0 0 2).toArray, .slice (some ⟨gb9, 0, none⟩) 96 96] (by simp only [List.map_toArray, List.map_cons, List.map_nil]; rfl) (fun u w' => (∃ wo wc, u = .tuple #[.agg (sv true 5 0 2 (.slice wo 104 wc)).toArray, .int .i64 0]) ∧ Below x23.heap.size x23 w') ?_ ?_
      · exact (SM.out x23 _ _ Yga.out Ygb9.out).mono fun e w' ⟨wo, wc, h1, h2⟩ => ⟨_, h1, ⟨wo, wc, rfl⟩, h2⟩
      rintro _ x24 ⟨⟨wo, wc, rfl⟩, hb⟩
      have Ygb9 : Hid (Byt x24 (.slice (some ⟨gb9, 0, none⟩) 96 96) (nul 96)) := Ygb9.out.below hb
      have HV : Hid (Vr x24 gv (sv false 0 0 0 (.slice none 0 0))) := HV.out.below hb (range_lt HV.out.1 (Nat.succ_pos _))
      have Yga : Hid (Byt x24 (.slice (some ⟨ga, 0, none⟩) 32 32) (nul 32)) := Yga.out.below hb
      have hS : Below w.heap.size w x24 := hS.trans (hb.mono hS.size)
      clear hb
      refine hK.out _ _ hS (fun _ => ?_)
      simp only [Act.put, List.setIfInBounds_toArray, List.set_cons_zero, List.set_cons_succ]
      clear hK K
      refine take_lawH 4 (some 3) (.tuple #[.agg (sv true 5 0 2 (.slice wo 104 wc)).toArray, .int .i64 0]) rfl rfl (by kernel_rfl) (by kernel_rfl) (by kernel_rfl) (fun _ _ _ h => h) (Or.inl ⟨by rfl, fun w' hw' => by rfl⟩) hS ?_
      simp only [Act.put, List.setIfInBounds_toArray, List.set_cons_zero, List.set_cons_succ]
      refine take_lawH 5 (some 8) (.agg (sv true 5 0 2 (.slice wo 104 wc)).toArray) rfl rfl (by kernel_rfl) (by kernel_rfl) (by kernel_rfl) (fun _ _ _ h => h) (Or.inl ⟨by rfl, fun w' hw' => by rfl⟩) hS ?_
      simp only [Act.put, List.setIfInBounds_toArray, List.set_cons_zero, List.set_cons_succ]
      refine take_lawH 6 (some 9) (.int .i64 0) rfl rfl (by kernel_rfl) (by kernel_rfl) (by kernel_rfl) (fun _ _ _ h => h) (Or.inl ⟨by rfl, fun w' hw' => by rfl⟩) hS ?_
      simp only [Act.put, List.setIfInBounds_toArray, List.set_cons_zero, List.set_cons_succ]
      refine wpAnyH_ready (rs := [8]) (by kernel_rfl) (by simp) ?_
      refine AllReadyH.cons rfl (fun K hK => ?_) AllReadyH.nil
      refine step_storeC _ rfl none rfl (.tmp 1) (.tmp 8) 25 rfl gv (sv false 0 0 0 (.slice none 0 0)) (sv true 5 0 2 (.slice wo 104 wc)) rfl rfl HV.out rfl rowy_slot.2 (sv_one _ _ _ _ rfl) ?_
      intro x25 v9 hb
      have HV : Hid (Vr x25 gv (sv true 5 0 2 (.slice wo 104 wc))) := v9
      have hS : Below w.heap.size w x25 := hS.trans (hb.mono LV.out)
      clear v9 hb
      refine hK.out _ _ hS (fun _ => ?_)
      simp only [Act.put]
      clear hK K
      refine take_lawH 9 (some 2) (.int .i64 0) rfl rfl (by kernel_rfl) (by kernel_rfl) (by kernel_rfl) (fun _ _ _ h => h) (Or.inl ⟨by rfl, fun w' hw' => by rfl⟩) hS ?_
      simp only [Act.put, List.setIfInBounds_toArray, List.set_cons_zero, List.set_cons_succ]
      refine wpAnyH_done (by kernel_rfl) ?_ _
      have BB : Hid (Below w.heap.size w x25) := hS
      clear hS
      have t0 : (0 : Nat) = 0 := rfl
      have hv_0 := HV.out.cell 0 _ rfl
      have hv_1 := HV.out.cell 1 _ rfl
      have hv_2 := HV.out.cell 2 _ rfl
      have hv_3 := HV.out.cell 3 _ rfl
      have hv_4 := HV.out.cell 4 _ rfl
      go_wp2_with (first
        | (have q0 := t0; go_at_call 8; refine (SR.out x25).mono ?_; rintro e9 w1 ⟨rfl, B9⟩; have HV : Hid (Vr w1 gv (sv true 5 0 2 (.slice wo 104 wc))) := HV.out.below B9 (range_lt HV.out.1 (Nat.succ_pos _)); have BB : Hid (Below w.heap.size w w1) := BB.out.trans (B9.mono BB.out.size); clear hv_0 hv_1 hv_2 hv_3 hv_4; have hv_0 := HV.out.cell 0 _ rfl; have hv_1 := HV.out.cell 1 _ rfl; have hv_2 := HV.out.cell 2 _ rfl; have hv_3 := HV.out.cell 3 _ rfl; have hv_4 := HV.out.cell 4 _ rfl; clear B9; clear t0; have t1 : (1 : Nat) = 1 := rfl))
      go_ret
      exact ⟨rfl, BB.out⟩
  · refine step_newC _ rfl (some 1) rfl 25 rfl (sv false 0 0 0 (.slice none 0 0)) zero_slot ?_
    intro x26 v9 hb l9
    have HV : Hid (Vr x26 x1.heap.size (sv false 0 0 0 (.slice none 0 0))) := v9
    have LV : Hid (w.heap.size ≤ x1.heap.size) := hS.size
    have hS : Below w.heap.size w x26 := hS.trans (hb.mono hS.size)
    clear v9 hb l9
    obtain ⟨gv, hg9⟩ : ∃ g, g = x1.heap.size := ⟨_, rfl⟩
    rw [← hg9] at HV LV ⊢
    clear hg9
    refine hK.out _ _ hS (fun _ => ?_)
    simp only [Act.put, List.setIfInBounds_toArray, List.set_cons_zero, List.set_cons_succ]
    clear hK K
    refine wpAnyH_ready (rs := [0, 2]) (by kernel_rfl) (by simp) ?_
    refine AllReadyH.cons rfl (fun K hK => ?_) (AllReadyH.cons rfl (fun K hK => ?_) AllReadyH.nil)
    · refine step_make _ rfl (some 4) rfl (.const (.int .i64 32)) (.const (.int .i64 32)) rfl x26.heap.size (Nat.le_refl _) 32 32 rfl rfl rfl (by omega) ?_
      intro x27 o9 hb l9
      have HV : Hid (Vr x27 gv (sv false 0 0 0 (.slice none 0 0))) := HV.out.below hb (range_lt HV.out.1 (Nat.succ_pos _))
      have Yga : Hid (Byt x27 (.slice (some ⟨x26.heap.size, 0, none⟩) 32 32) (nul 32)) := nul_byt o9
      have hS : Below w.heap.size w x27 := hS.trans (hb.mono hS.size)
      clear o9 hb l9
      obtain ⟨ga, hg9⟩ : ∃ g, g = x26.heap.size := ⟨_, rfl⟩
      rw [← hg9] at Yga ⊢
      clear hg9
      refine hK.out _ _ hS (fun _ => ?_)
      simp only [Act.put, List.setIfInBounds_toArray, List.set_cons_zero, List.set_cons_succ]
      clear hK K
      refine wpAnyH_ready (rs := [2]) (by kernel_rfl) (by simp) ?_
      refine AllReadyH.cons rfl (fun K hK => ?_) AllReadyH.nil
      refine step_make _ rfl (some 6) rfl (.const (.int .i64 96)) (.const (.int .i64 96)) rfl x27.heap.size (Nat.le_refl _) 96 96 rfl rfl rfl (by omega) ?_
      intro x28 o9 hb l9
      have HV : Hid (Vr x28 gv (sv false 0 0 0 (.slice none 0 0))) := HV.out.below hb (range_lt HV.out.1 (Nat.succ_pos _))
      have Yga : Hid (Byt x28 (.slice (some ⟨ga, 0, none⟩) 32 32) (nul 32)) := Yga.out.below hb
      have Ygb9 : Hid (Byt x28 (.slice (some ⟨x27.heap.size, 0, none⟩) 96 96) (nul 96)) := nul_byt o9
      have hS : Below w.heap.size w x28 := hS.trans (hb.mono hS.size)
      clear o9 hb l9
      obtain ⟨gb9, hg9⟩ : ∃ g, g = x27.heap.size := ⟨_, rfl⟩
      rw [← hg9] at Ygb9 ⊢
      clear hg9
      refine hK.out _ _ hS (fun _ => ?_)
      simp only [Act.put, List.setIfInBounds_toArray, List.set_cons_zero, List.set_cons_succ]
      clear hK K
      refine wpAnyH_ready (rs := [3]) (by kernel_rfl) (by simp) ?_
      refine AllReadyH.cons rfl (fun K hK => ?_) AllReadyH.nil
      refine he.step_callW _ (by rfl) (some 7) rfl 16 #[.tmp 4, .const (.int .i64 5), .tmp 5, .tmp 6] #[23, 3, 46, 23] rfl (fun q w' => by rfl) #[.slice (some ⟨ga, 0, none⟩) 32 32, .int .i64 5, .agg (he.hv 0 0 0 0 0 2).toArray, .slice (some ⟨gb9, 0, none⟩) 96 96] (by simp only [List.map_toArray, List.map_cons, List.map_nil]; rfl) (fun u w' => (∃ wo wc, u = .tuple #[.agg (sv true 5 0 2 (.slice wo 104 wc)).toArray, .int .i64 0]) ∧ Below x28.heap.size x28 w') ?_ ?_
      · exact (SM.out x28 _ _ Yga.out Ygb9.out).mono fun e w' ⟨wo, wc, h1, h2⟩ => ⟨_, h1, ⟨wo, wc, rfl⟩, h2⟩
      rintro _ x29 ⟨⟨wo, wc, rfl⟩, hb⟩
      have HV : Hid (Vr x29 gv (sv false 0 0 0 (.slice none 0 0))) := HV.out.below hb (range_lt HV.out.1 (Nat.succ_pos _))
      have Yga : Hid (Byt x29 (.slice (some ⟨ga, 0, none⟩) 32 32) (nul 32)) := Yga.out.below hb
      have Ygb9 : Hid (Byt x29 (.slice (some ⟨gb9, 0, none⟩) 96 96) (nul 96)) := Ygb9.out.below hb
      have hS : Below w.heap.size w x29 := hS.trans (hb.mono hS.size)
      clear hb
      refine hK.out _ _ hS (fun _ => ?_)
      simp only [Act.put, List.setIfInBounds_toArray, List.set_cons_zero, List.set_cons_succ]
      clear hK K
      refine take_lawH 4 (some 3) (.tuple #[.agg (sv true 5 0 2 (.slice wo 104 wc)).toArray, .int .i64 0]) rfl rfl (by kernel_rfl) (by kernel_rfl) (by kernel_rfl) (fun _ _ _ h => h) (Or.inl ⟨by rfl, fun w' hw' => by rfl⟩) hS ?_
      simp only [Act.put, List.setIfInBounds_toArray, List.set_cons_zero, List.set_cons_succ]
      refine take_lawH 5 (some 8) (.agg (sv true 5 0 2 (.slice wo 104 wc)).toArray) rfl rfl (by kernel_rfl) (by kernel_rfl) (by kernel_rfl) (fun _ _ _ h => h) (Or.inl ⟨by rfl, fun w' hw' => by rfl⟩) hS ?_
      simp only [Act.put, List.setIfInBounds_toArray, List.set_cons_zero, List.set_cons_succ]
      refine take_lawH 6 (some 9) (.int .i64 0) rfl rfl (by kernel_rfl) (by kernel_rfl) (by kernel_rfl) (fun _ _ _ h => h) (Or.inl ⟨by rfl, fun w' hw' => by rfl⟩) hS ?_
      simp only [Act.put, List.setIfInBounds_toArray, List.set_cons_zero, List.set_cons_succ]
      refine wpAnyH_ready (rs := [8]) (by kernel_rfl) (by simp) ?_
      refine AllReadyH.cons rfl (fun K hK => ?_) AllReadyH.nil
      refine step_storeC _ rfl none rfl (.tmp 1) (.tmp 8) 25 rfl gv (sv false 0 0 0 (.slice none 0 0)) (sv true 5 0 2 (.slice wo 104 wc)) rfl rfl HV.out rfl rowy_slot.2 (sv_one _ _ _ _ rfl) ?_
      intro x30 v9 hb
      have HV : Hid (Vr x30 gv (sv true 5 0 2 (.slice wo 104 wc))) := v9
      have hS : Below w.heap.size w x30 := hS.trans (hb.mono LV.out)
      clear v9 hb
      refine hK.out _ _ hS (fun _ => ?_)
      simp only [Act.put]
      clear hK K
      refine take_lawH 9 (some 2) (.int .i64 0) rfl rfl (by kernel_rfl) (by kernel_rfl) (by kernel_rfl) (fun _ _ _ h => h) (Or.inl ⟨by rfl, fun w' hw' => by rfl⟩) hS ?_
      simp only [Act.put, List.setIfInBounds_toArray, List.set_cons_zero, List.set_cons_succ]
      refine wpAnyH_done (by kernel_rfl) ?_ _
      have BB : Hid (Below w.heap.size w x30) := hS
      clear hS
      have t0 : (0 : Nat) = 0 := rfl
      have hv_0 := HV.out.cell 0 _ rfl
      have hv_1 := HV.out.cell 1 _ rfl
      have hv_2 := HV.out.cell 2 _ rfl
      have hv_3 := HV.out.cell 3 _ rfl
      have hv_4 := HV.out.cell 4 _ rfl
      go_wp2_with (first
        | (have q0 := t0; go_at_call 8; refine (SR.out x30).mono ?_; rintro e9 w1 ⟨rfl, B9⟩; have HV : Hid (Vr w1 gv (sv true 5 0 2 (.slice wo 104 wc))) := HV.out.below B9 (range_lt HV.out.1 (Nat.succ_pos _)); have BB : Hid (Below w.heap.size w w1) := BB.out.trans (B9.mono BB.out.size); clear hv_0 hv_1 hv_2 hv_3 hv_4; have hv_0 := HV.out.cell 0 _ rfl; have hv_1 := HV.out.cell 1 _ rfl; have hv_2 := HV.out.cell 2 _ rfl; have hv_3 := HV.out.cell 3 _ rfl; have hv_4 := HV.out.cell 4 _ rfl; clear B9; clear t0; have t1 : (1 : Nat) = 1 := rfl))
      go_ret
      exact ⟨rfl, BB.out⟩
    · refine step_make _ rfl (some 6) rfl (.const (.int .i64 96)) (.const (.int .i64 96)) rfl x26.heap.size (Nat.le_refl _) 96 96 rfl rfl rfl (by omega) ?_
      intro x31 o9 hb l9
      have HV : Hid (Vr x31 gv (sv false 0 0 0 (.slice none 0 0))) := HV.out.below hb (range_lt HV.out.1 (Nat.succ_pos _))
      have Ygb9 : Hid (Byt x31 (.slice (some ⟨x26.heap.size, 0, none⟩) 96 96) (nul 96)) := nul_byt o9
      have hS : Below w.heap.size w x31 := hS.trans (hb.mono hS.size)
      clear o9 hb l9
      obtain ⟨gb9, hg9⟩ : ∃ g, g = x26.heap.size := ⟨_, rfl⟩
      rw [← hg9] at Ygb9 ⊢
      clear hg9
      refine hK.out _ _ hS (fun _ => ?_)
      simp only [Act.put, List.setIfInBounds_toArray, List.set_cons_zero, List.set_cons_succ]
      clear hK K
      refine wpAnyH_ready (rs := [0]) (by kernel_rfl) (by simp) ?_
      refine AllReadyH.cons rfl (fun K hK => ?_) AllReadyH.nil
      refine step_make _ rfl (some 4) rfl (.const (.int .i64 32)) (.const (.int .i64 32)) rfl x31.heap.size (Nat.le_refl _) 32 32 rfl rfl rfl (by omega) ?_
      intro x32 o9 hb l9
      have HV : Hid (Vr x32 gv (sv false 0 0 0 (.slice none 0 0))) := HV.out.below hb (range_lt HV.out.1 (Nat.succ_pos _))
      have Ygb9 : Hid (Byt x32 (.slice (some ⟨gb9, 0, none⟩) 96 96) (nul 96)) := Ygb9.out.below hb
      have Yga : Hid (Byt x32 (.slice (some ⟨x31.heap.size, 0, none⟩) 32 32) (nul 32)) := nul_byt o9
      have hS : Below w.heap.size w x32 := hS.trans (hb.mono hS.size)
      clear o9 hb l9
      obtain ⟨ga, hg9⟩ : ∃ g, g = x31.heap.size := ⟨_, rfl⟩
      rw [← hg9] at Yga ⊢
      clear hg9
      refine hK.out _ _ hS (fun _ => ?_)
      simp only [Act.put, List.setIfInBounds_toArray, List.set_cons_zero, List.set_cons_succ]
      clear hK K
      refine wpAnyH_ready (rs := [3]) (by kernel_rfl) (by simp) ?_
      refine AllReadyH.cons rfl (fun K hK => ?_) AllReadyH.nil
      refine he.step_callW _ (by rfl) (some 7) rfl 16 #[.tmp 4, .const (.int .i64 5), .tmp 5, .tmp 6] #[23, 3, 46, 23] rfl (fun q w' => by rfl) #[.slice (some ⟨ga, 0, none⟩) 32 32, .int .i64 5, .agg (he.hv 0 0 0 0 0 2).toArray, .slice (some ⟨gb9, 0, none⟩) 96 96] (by simp only [List.map_toArray, List.map_cons, List.map_nil]; rfl) (fun u w' => (∃ wo wc, u = .tuple #[.agg (sv true 5 0 2 (.slice wo 104 wc)).toArray, .int .i64 0]) ∧ Below x32.heap.size x32 w') ?_ ?_
      · exact (SM.out x32 _ _ Yga.out Ygb9.out).mono fun e w' ⟨wo, wc, h1, h2⟩ => ⟨_, h1, ⟨wo, wc, rfl⟩, h2⟩
      rintro _ x33 ⟨⟨wo, wc, rfl⟩, hb⟩
      have HV : Hid (Vr x33 gv (sv false 0 0 0 (.slice none 0 0))) := HV.out.below hb (range_lt HV.out.1 (Nat.succ_pos _))
      have Ygb9 : Hid (Byt x33 (.slice (some ⟨gb9, 0, none⟩) 96 96) (nul 96)) := Ygb9.out.below hb
      have Yga : Hid (Byt x33 (.slice (some ⟨ga, 0, none⟩) 32 32) (nul 32)) := Yga.out.below hb
      have hS : Below w.heap.size w x33 := hS.trans (hb.mono hS.size)
      clear hb
      refine hK.out _ _ hS (fun _ => ?_)
      simp only [Act.put, List.setIfInBounds_toArray, List.set_cons_zero, List.set_cons_succ]
      clear hK K
      refine take_lawH 4 (some 3) (.tuple #[.agg (sv true 5 0 2 (.slice wo 104 wc)).toArray, .int .i64 0]) rfl rfl (by kernel_rfl) (by kernel_rfl) (by kernel_rfl) (fun _ _ _ h => h) (Or.inl ⟨by rfl, fun w' hw' => by rfl⟩) hS ?_
      simp only [Act.put, List.setIfInBounds_toArray, List.set_cons_zero, List.set_cons_succ]
      refine take_lawH 5 (some 8) (.agg (sv true 5 0 2 (.slice wo 104 wc)).toArray) rfl rfl (by kernel_rfl) (by kernel_rfl) (by kernel_rfl) (fun _ _ _ h => h) (Or.inl ⟨by rfl, fun w' hw' => by rfl⟩) hS ?_
      simp only [Act.put, List.setIfInBounds_toArray, List.set_cons_zero, List.set_cons_succ]
      refine take_lawH 6 (some 9) (.int .i64 0) rfl rfl (by kernel_rfl) (by kernel_rfl) (by kernel_rfl) (fun _ _ _ h => h) (Or.inl ⟨by rfl, fun w' hw' => by rfl⟩) hS ?_
      simp only [Act.put, List.setIfInBounds_toArray, List.set_cons_zero, List.set_cons_succ]
      refine wpAnyH_ready (rs := [8]) (by kernel_rfl) (by simp) ?_
      refine AllReadyH.cons rfl (fun K hK => ?_) AllReadyH.nil
      refine step_storeC _ rfl none rfl (.tmp 1) (.tmp 8) 25 rfl gv (sv false 0 0 0 (.slice none 0 0)) (sv true 5 0 2 (.slice wo 104 wc)) rfl rfl HV.out rfl rowy_slot.2 (sv_one _ _ _ _ rfl) ?_
      intro x34 v9 hb
      have HV : Hid (Vr x34 gv (sv true 5 0 2 (.slice wo 104 wc))) := v9
      have hS : Below w.heap.size w x34 := hS.trans (hb.mono LV.out)
      clear v9 hb
      refine hK.out _ _ hS (fun _ => ?_)
      simp only [Act.put]
      clear hK K
      refine take_lawH 9 (some 2) (.int .i64 0) rfl rfl (by kernel_rfl) (by kernel_rfl) (by kernel_rfl) (fun _ _ _ h => h) (Or.inl ⟨by rfl, fun w' hw' => by rfl⟩) hS ?_
      simp only [Act.put, List.setIfInBounds_toArray, List.set_cons_zero, List.set_cons_succ]
      refine wpAnyH_done (by kernel_rfl) ?_ _
      have BB : Hid (Below w.heap.size w x34) := hS
      clear hS
      have t0 : (0 : Nat) = 0 := rfl
      have hv_0 := HV.out.cell 0 _ rfl
      have hv_1 := HV.out.cell 1 _ rfl
      have hv_2 := HV.out.cell 2 _ rfl
      have hv_3 := HV.out.cell 3 _ rfl
      have hv_4 := HV.out.cell 4 _ rfl
      go_wp2_with (first
        | (have q0 := t0; go_at_call 8; refine (SR.out x34).mono ?_; rintro e9 w1 ⟨rfl, B9⟩; have HV : Hid (Vr w1 gv (sv true 5 0 2 (.slice wo 104 wc))) := HV.out.below B9 (range_lt HV.out.1 (Nat.succ_pos _)); have BB : Hid (Below w.heap.size w w1) := BB.out.trans (B9.mono BB.out.size); clear hv_0 hv_1 hv_2 hv_3 hv_4; have hv_0 := HV.out.cell 0 _ rfl; have hv_1 := HV.out.cell 1 _ rfl; have hv_2 := HV.out.cell 2 _ rfl; have hv_3 := HV.out.cell 3 _ rfl; have hv_4 := HV.out.cell 4 _ rfl; clear B9; clear t0; have t1 : (1 : Nat) = 1 := rfl))
      go_ret
      exact ⟨rfl, BB.out⟩
end Go.Proofs.YtifepmdhbhdjpaaDoor.so

