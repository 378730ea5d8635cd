/- The law's step: a spot put, a place moved; the whole. No claim of its own. -/
import Derived.Test.YtedmmpognhpbdaaJLs
namespace Go.Proofs.Ytedmmpognhpbdaa.pm
open Go.RowKit Go.Proofs.Ytedmmpognhpbdaa.he
set_option maxRecDepth 20000

section
variable {ops : Array Oper} {o : Oper} {a : Act} {Q : Exit → Act → World → Prop} {K : Act → World → Prop} {E : Prop}
theorem step_newC (w : World) (hg : o.guard = none) (d : Option Tmp) (hd : o.dst = d) (t : TypeId) (hop : o.op = Op.alloc t) (cs : List Value) (hz : (Try.prog.info? t).map (fun i => (i.zero, i.size)) = some (some (.agg cs.toArray), cs.length))
    (hK : ∀ w', Vr w' w.heap.size cs → Below w.heap.size w w' → w.heap.size < w'.heap.size → K (a.put d (.pointer (some ⟨w.heap.size, 0, none⟩))) w') : if Region.wanted o (yielded ops a.tmps) = true then Oper.wp Try.prog o a w K Q else E := by
  have hw : Region.wanted o (yielded ops a.tmps) = true := by simp [Region.wanted, hg]
  rw [if_pos hw]
  subst hd
  have hz' := (zero_of_info hz).1
  unfold Oper.wp
  simp [execOp, hop, Instr.alloc, hz', newVar, newRow, Value.cells, Result.andThen]
  exact hK _ (Vr.new w t cs) ((Below.refl _ _).alloc (Nat.le_refl _) _) (by simp)
end
set_option maxHeartbeats 8000000 in
theorem step3b (w wr : World) (c : Nat) (d s : Nat → Nat) (f : Nat → Nat → Sp) (b : Nat) (v : Value) (L : List Ce) (x : Stp) (hk : Wk w wr c d s f (some b) v L) (i l k : Nat) (hx : x.k = 3) (ho : Hok x.s.h) (hr : Rgt s x.s.h) (hn : x.s.h.n = (i : Int)) (hi : i < 4) (hl : x.s.h.l = (l : Int)) (hc : x.s.h.c = (k : Int)) (h1 : 1 ≤ k) (hb : l + k ≤ s i) : Calls Try.prog 10 #[pt c, .agg (rmc s v).toArray, .agg x.cs.toArray] wr (Ans w wr c d s (some b) v) := by
  have HK : Hid (Wk w wr c d s f (some b) v L) := hk
  have KX : Hid (x.k = 3) := hx
  have SR : Hid (∀ W, Calls Try.prog 29 #[.agg (rmc s v).toArray, .agg x.s.cs.toArray] W fun e w' => e = .returned (.bool true) ∧ Below W.heap.size W w') := fun W => by rw [← decide_eq_true hr]; exact rright_any s v x.s W hk.z9 ho
  have LV : Hid (lv x.s = true) := hr.1
  have EN : Hid (x.s.h.n = (i : Int)) := hn
  have EL : Hid (x.s.h.l = (l : Int)) := hl
  have EC : Hid (x.s.h.c = (k : Int)) := hc
  have I4 : Hid (i < 4) := hi
  have K1 : Hid (1 ≤ k) := h1
  have KB : Hid (l + k ≤ s i) := hb
  clear hk hx ho hr hn hl hc hi h1 hb
  have t0 : (0 : Nat) = 0 := rfl
  go_enter Try.func10, Try.ntmps10
  go_wp2_with (first
    | (have qq := t4; go_at_call 20; refine (put_loop c b d s f x.s _ (HK.out.below BB.out).m i l k EN.out I4.out EL.out EC.out HK.out.z9 LV.out K1.out KB.out).mono ?_; rintro e w4 ⟨vl, RL, rfl, P9, S9, p9, c9⟩; have FZ : Hid (¬ Own4 c d s (some b) w2.heap.size ∧ ¬ Blk v w2.heap.size) := HK.out.fresh B2.out.1; have FM : Hid (¬ Own4 c d s (some b) wr.heap.size ∧ ¬ Blk v wr.heap.size) := HK.out.fresh (Nat.le_refl _); have FX : Hid (¬ Own4 c d s (some b) w1.heap.size ∧ ¬ Blk v w1.heap.size) := HK.out.fresh B2.out.2.2.2; have LZ : Hid (w2.heap.size < w3.heap.size) := range_lt VZ.out.1 (Nat.succ_pos _); have PM : Hid (Pm w4 c d s (up f i (ft (f i) x.s l k)) (some b) (cnt s (up f i (ft (f i) x.s l k)))) := p9; have CH : Hid (Ch (Own4 c d s (some b)) w3 w4) := (c9.weak fun k9 _ e => by rcases e with e | e; exact .inr (.inl ⟨i, I4.out, by have := K1.out; have := KB.out; omega, e⟩); exact .inr (.inr (by rw [e]))); have PL1 : Hid (Pls w4 vl RL) := P9; have RG : Hid (RL = gn (L.map (ptC i l k x.s) ++ pnew i l x.s L k) L) := put_gn HK.out.r I4.out LV.out KB.out S9; have CL : Hid (Cl w4 v L) := (HK.out.below BB.out).l.ch CH.out HK.out.dis; have VZ : Hid (Vr w4 w2.heap.size (rmc (fun _ => 0) (.slice none 0 0))) := VZ.out.heap (CH.out.block _ (range_lt VZ.out.1 (Nat.succ_pos _)) FZ.out.1); have VM : Hid (Vr w4 wr.heap.size (rmc s v)) := VM.out.heap (CH.out.block _ (range_lt VM.out.1 (Nat.succ_pos _)) FM.out.1); have VX : Hid (Vr w4 w1.heap.size x.cs) := VX.out.heap (CH.out.block _ (range_lt VX.out.1 (Nat.succ_pos _)) FX.out.1); clear nk P9 S9 p9 c9 t4)
    | (have qq := t3; refine load_law _ (by rfl) 37 (.tmp 79) rfl w1.heap.size 3 x.s.cs rfl rowy_spot (stp_spot VX.out.1) ?_; clear t3; have t4 : (0 : Nat) = 0 := rfl)
    | (have qq := t2; (with_reducible refine at_alloc ?_); refine new_lawC _ _ zero_rmap ?_; intro w3 X9 B9 _; have VZ : Hid (Vr w3 w2.heap.size (rmc (fun _ => 0) (.slice none 0 0))) := X9; have VM : Hid (Vr w3 wr.heap.size (rmc s v)) := VM.out.below B9 (range_lt VM.out.1 (Nat.succ_pos _)); have VX : Hid (Vr w3 w1.heap.size x.cs) := VX.out.below B9 (range_lt VX.out.1 (Nat.succ_pos _)); have B2 : Hid (wr.heap.size ≤ w2.heap.size ∧ wr.heap.size < w2.heap.size ∧ w1.heap.size < w2.heap.size ∧ wr.heap.size ≤ w1.heap.size) := ⟨BB.out.size, LM.out, LX.out, L1.out⟩; have BB : Hid (Below wr.heap.size wr w3) := BB.out.trans (B9.mono BB.out.size); have nk : w3.cell? ⟨w1.heap.size, 0, none⟩ = some (.int .i64 3) := (by rw [← KX.out]; exact VX.out.cell 0 _ rfl); clear X9 B9 LM LX L1 t2; have t3 : (0 : Nat) = 0 := rfl)
    | (have qq := t1; refine box_lawC _ x.cs rfl ?_; intro w2 X9 B9 l9; have VX : Hid (Vr w2 w1.heap.size x.cs) := X9; have VM : Hid (Vr w2 wr.heap.size (rmc s v)) := VM.out.below B9 (range_lt VM.out.1 (Nat.succ_pos _)); have L1 : Hid (wr.heap.size ≤ w1.heap.size) := BB.out.size; have BB : Hid (Below wr.heap.size wr w2) := BB.out.trans (B9.mono BB.out.size); have LM : Hid (wr.heap.size < w2.heap.size) := range_lt VM.out.1 (Nat.succ_pos _); have LX : Hid (w1.heap.size < w2.heap.size) := l9; clear X9 B9 l9 t1; have t2 : (0 : Nat) = 0 := rfl)
    | (have qq := t0; refine box_lawC _ (rmc s v) rfl ?_; intro w1 X9 B9 _; have VM : Hid (Vr w1 wr.heap.size (rmc s v)) := X9; have BB : Hid (Below wr.heap.size wr w1) := B9; clear X9 B9 t0; have t1 : (0 : Nat) = 0 := rfl))
  have BL : Hid (Below w4.heap.size w4 w4.drew) := below_dr (Below.refl _ _) 1
  have VM : Hid (Vr w4.drew wr.heap.size (rmc s v)) := VM.out.drewN 1
  have VX : Hid (Vr w4.drew w1.heap.size x.cs) := VX.out.drewN 1
  refine wp_region_held_drew (S := fun w' => w'.rangeAt wr.heap.size 0 (rmc s v) ∧ w'.rangeAt w1.heap.size 3 x.s.cs) (by kernel_rfl) ⟨VM.out.1, stp_spot VX.out.1⟩ (fun hS => ?_)
  obtain ⟨u1, hx0⟩ : ∃ x, x = w4.drew := ⟨_, rfl⟩
  rw [← hx0] at hS BL VM VX ⊢
  clear hx0
  refine take_lawH 0 (some 84) (.agg (rmc s v).toArray) rfl rfl (by kernel_rfl) (by kernel_rfl) (by kernel_rfl) (fun _ _ _ h => h) (Or.inl ⟨by rfl, fun w' hw' => by exact exec_loadN 28 (.tmp 4) rfl _ rfl _ _ (load_cells rowy_rmap hw'.1)⟩) hS ?_
  simp only [Act.put, List.setIfInBounds_toArray, List.set_cons_zero, List.set_cons_succ]
  refine take_lawH 1 (some 85) (.pointer (some ⟨w1.heap.size, 3, none⟩)) rfl rfl (by kernel_rfl) (by kernel_rfl) (by kernel_rfl) (fun _ _ _ h => h) (Or.inl ⟨by rfl, fun w' hw' => by go_simp⟩) hS ?_
  simp only [Act.put, List.setIfInBounds_toArray, List.set_cons_zero, List.set_cons_succ]
  refine take_lawH 2 (some 86) (.agg x.s.cs.toArray) rfl rfl (by kernel_rfl) (by kernel_rfl) (by kernel_rfl) (fun _ _ _ h => h) (Or.inl ⟨by rfl, fun w' hw' => by exact exec_loadN 37 (.tmp 85) rfl _ rfl _ _ (load_cells rowy_spot hw'.2)⟩) hS ?_
  simp only [Act.put, List.setIfInBounds_toArray, List.set_cons_zero, List.set_cons_succ]
  refine wpAnyH_ready (rs := [3]) (by kernel_rfl) (by simp) ?_
  refine AllReadyH.cons rfl (fun K hK => ?_) AllReadyH.nil
  refine step_callG u1 rfl (some 87) rfl 18 #[.tmp 86] _ rfl (fun _ _ => rfl) #[.agg x.s.cs.toArray] (by simp only [List.map_toArray, List.map_cons, List.map_nil]; rfl) (fun v9 w' => v9 = .agg x.s.cs.toArray ∧ Below u1.heap.size u1 w') ((of_any x.s u1).mono fun e w' ⟨h1, h2⟩ => ⟨_, h1, rfl, h2⟩) ?_
  rintro v9 u2 ⟨rfl, B9⟩
  have BL : Hid (Below w4.heap.size w4 u2) := BL.out.trans (B9.mono BL.out.size)
  have VM : Hid (Vr u2 wr.heap.size (rmc s v)) := VM.out.below B9 (range_lt VM.out.1 (Nat.succ_pos _))
  have VX : Hid (Vr u2 w1.heap.size x.cs) := VX.out.below B9 (range_lt VX.out.1 (Nat.succ_pos _))
  have hS : u2.rangeAt wr.heap.size 0 (rmc s v) ∧ u2.rangeAt w1.heap.size 3 x.s.cs := ⟨VM.out.1, stp_spot VX.out.1⟩
  clear B9
  refine hK.out _ _ hS (fun _ => ?_)
  simp only [Act.put, List.setIfInBounds_toArray, List.set_cons_zero, List.set_cons_succ]
  clear hK K
  refine wpAnyH_ready (rs := [4]) (by kernel_rfl) (by simp) ?_
  refine AllReadyH.cons rfl (fun K hK => ?_) AllReadyH.nil
  refine step_callG u2 rfl (some 88) rfl 29 #[.tmp 84, .tmp 87] _ rfl (fun _ _ => rfl) #[.agg (rmc s v).toArray, .agg x.s.cs.toArray] (by simp only [List.map_toArray, List.map_cons, List.map_nil]; rfl) (fun v9 w' => v9 = .bool true ∧ Below u2.heap.size u2 w') ((SR.out u2).mono fun e w' ⟨h1, h2⟩ => ⟨_, h1, rfl, h2⟩) ?_
  rintro v9 u3 ⟨rfl, B9⟩
  have BL : Hid (Below w4.heap.size w4 u3) := BL.out.trans (B9.mono BL.out.size)
  have VM : Hid (Vr u3 wr.heap.size (rmc s v)) := VM.out.below B9 (range_lt VM.out.1 (Nat.succ_pos _))
  have VX : Hid (Vr u3 w1.heap.size x.cs) := VX.out.below B9 (range_lt VX.out.1 (Nat.succ_pos _))
  have hS : u3.rangeAt wr.heap.size 0 (rmc s v) ∧ u3.rangeAt w1.heap.size 3 x.s.cs := ⟨VM.out.1, stp_spot VX.out.1⟩
  clear B9
  refine hK.out _ _ hS (fun _ => ?_)
  simp only [Act.put, List.setIfInBounds_toArray, List.set_cons_zero, List.set_cons_succ]
  clear hK K
  refine take_lawH 5 (some 89) (.bool false) rfl rfl (by kernel_rfl) (by kernel_rfl) (by kernel_rfl) (fun _ _ _ h => h) (Or.inl ⟨by rfl, fun w' hw' => by go_simp⟩) hS ?_
  simp only [Act.put, List.setIfInBounds_toArray, List.set_cons_zero, List.set_cons_succ]
  refine wpAnyH_done (by kernel_rfl) ?_ _
  have BL4 : Hid (Below w4.heap.size w4 u3) := BL.out
  clear BL
  have BL : Hid (Below w4.heap.size w4 u3) := BL4.out
  have VZ : Hid (Vr u3 w2.heap.size (rmc (fun _ => 0) (.slice none 0 0))) := VZ.out.below BL.out (range_lt VZ.out.1 (Nat.succ_pos _))
  clear BL4
  go_wp2
  have BL : Hid (Below w4.heap.size w4 u3.drew) := below_dr BL.out 1
  have VM : Hid (Vr u3.drew wr.heap.size (rmc s v)) := VM.out.drewN 1
  have VX : Hid (Vr u3.drew w1.heap.size x.cs) := VX.out.drewN 1
  have VZ : Hid (Vr u3.drew w2.heap.size (rmc (fun _ => 0) (.slice none 0 0))) := VZ.out.drewN 1
  refine wp_region_held_drew (S := fun w' => w'.rangeAt wr.heap.size 0 (rmc s v) ∧ w'.rangeAt w1.heap.size 3 x.s.cs) (by kernel_rfl) ⟨VM.out.1, stp_spot VX.out.1⟩ (fun hS => ?_)
  obtain ⟨s1, hx0⟩ : ∃ x, x = u3.drew := ⟨_, rfl⟩
  rw [← hx0] at hS BL VM VX VZ ⊢
  clear hx0
  refine take_lawH 0 (some 99) (.agg (rmc s v).toArray) rfl rfl (by kernel_rfl) (by kernel_rfl) (by kernel_rfl) (fun _ _ _ h => h) (Or.inl ⟨by rfl, fun w' hw' => by exact exec_loadN 28 (.tmp 4) rfl _ rfl _ _ (load_cells rowy_rmap hw'.1)⟩) hS ?_
  simp only [Act.put, List.setIfInBounds_toArray, List.set_cons_zero, List.set_cons_succ]
  refine take_lawH 1 (some 100) (.pointer (some ⟨w1.heap.size, 3, none⟩)) rfl rfl (by kernel_rfl) (by kernel_rfl) (by kernel_rfl) (fun _ _ _ h => h) (Or.inl ⟨by rfl, fun w' hw' => by go_simp⟩) hS ?_
  simp only [Act.put, List.setIfInBounds_toArray, List.set_cons_zero, List.set_cons_succ]
  refine take_lawH 2 (some 101) (.agg x.s.cs.toArray) rfl rfl (by kernel_rfl) (by kernel_rfl) (by kernel_rfl) (fun _ _ _ h => h) (Or.inl ⟨by rfl, fun w' hw' => by exact exec_loadN 37 (.tmp 100) rfl _ rfl _ _ (load_cells rowy_spot hw'.2)⟩) hS ?_
  simp only [Act.put, List.setIfInBounds_toArray, List.set_cons_zero, List.set_cons_succ]
  refine wpAnyH_ready (rs := [3, 8]) (by kernel_rfl) (by simp) ?_
  refine AllReadyH.cons rfl (fun K hK => ?_) (AllReadyH.cons rfl (fun K hK => ?_) AllReadyH.nil)
  · refine step_callG s1 rfl (some 102) rfl 18 #[.tmp 101] _ rfl (fun _ _ => rfl) #[.agg x.s.cs.toArray] (by simp only [List.map_toArray, List.map_cons, List.map_nil]; rfl) (fun v9 w' => v9 = .agg x.s.cs.toArray ∧ Below s1.heap.size s1 w') ((of_any x.s s1).mono fun e w' ⟨h1, h2⟩ => ⟨_, h1, rfl, h2⟩) ?_
    rintro v9 s2 ⟨rfl, B9⟩
    have VM : Hid (Vr s2 wr.heap.size (rmc s v)) := VM.out.below B9 (range_lt VM.out.1 (Nat.succ_pos _))
    have VX : Hid (Vr s2 w1.heap.size x.cs) := VX.out.below B9 (range_lt VX.out.1 (Nat.succ_pos _))
    have VZ : Hid (Vr s2 w2.heap.size (rmc (fun _ => 0) (.slice none 0 0))) := VZ.out.below B9 (range_lt VZ.out.1 (Nat.succ_pos _))
    have BL : Hid (Below w4.heap.size w4 s2) := BL.out.trans (B9.mono BL.out.size)
    have hS : s2.rangeAt wr.heap.size 0 (rmc s v) ∧ s2.rangeAt w1.heap.size 3 x.s.cs := ⟨VM.out.1, stp_spot VX.out.1⟩
    clear B9
    refine hK.out _ _ hS (fun _ => ?_)
    simp only [Act.put, List.setIfInBounds_toArray, List.set_cons_zero, List.set_cons_succ]
    clear hK K
    refine wpAnyH_ready (rs := [4, 8]) (by kernel_rfl) (by simp) ?_
    refine AllReadyH.cons rfl (fun K hK => ?_) (AllReadyH.cons rfl (fun K hK => ?_) AllReadyH.nil)
    · refine step_callG s2 rfl (some 103) rfl 30 #[.tmp 99, .tmp 102] _ rfl (fun _ _ => rfl) #[.agg (rmc s v).toArray, .agg x.s.cs.toArray] (by simp only [List.map_toArray, List.map_cons, List.map_nil]; rfl) (fun v9 w' => ∃ v' vg, v9 = .tuple #[.agg (rmc s v').toArray, vg] ∧ Cl w' v' (L.map (ptC i l k x.s) ++ pnew i l x.s L k) ∧ (∀ k, Blk v' k → s2.heap.size ≤ k ∧ k < w'.heap.size) ∧ Pls w' vg (gn (L.map (ptC i l k x.s) ++ pnew i l x.s L k) L) ∧ (∀ k, Blk vg k → s2.heap.size ≤ k ∧ k < w'.heap.size) ∧ Below s2.heap.size s2 w') ((rput_any s v L x.s i l k s2 (CL.out.below BL.out) (by have := HK.out.len; omega) EN.out EL.out EC.out (by have := KB.out; have := HK.out.z i I4.out; omega)).mono fun e w' ⟨v', vg, h1, h2, h3, h4, h5, h6⟩ => ⟨_, h1, v', vg, rfl, h2, h3, h4, h5, h6⟩) ?_
      rintro v9 s3 ⟨v', vg, rfl, l9, b9, g9, q9, B9⟩
      have KN : Hid (Wk w s3 c d s (up f i (ft (f i) x.s l k)) (some b) v' (L.map (ptC i l k x.s) ++ pnew i l x.s L k) ∧ Nx w3 s3 c d s (some b) v d s (some b) v') := wk_new (HK.out.below BB.out) (PM.out.below BL.out) (CH.out.trans (Ch.of_below BL.out)) (fun k hk => hk) B9 (HK.out.r.put I4.out LV.out KB.out) l9 b9 (fun j _ => Nat.le_refl _)
      have KW : Hid (Wk w s3 c d s (up f i (ft (f i) x.s l k)) (some b) v' (L.map (ptC i l k x.s) ++ pnew i l x.s L k)) := KN.out.1
      have NX : Hid (Nx w3 s3 c d s (some b) v d s (some b) v') := KN.out.2
      have PL2 : Hid (Pls s3 vg RL) := by rw [RG.out]; exact g9
      have KV : Hid (∀ k, Blk v' k → s2.heap.size ≤ k ∧ k < s3.heap.size) := b9
      have KG : Hid (∀ k, Blk vg k → s2.heap.size ≤ k ∧ k < s3.heap.size) := q9
      have VM : Hid (Vr s3 wr.heap.size (rmc s v)) := VM.out.below B9 (range_lt VM.out.1 (Nat.succ_pos _))
      have VX : Hid (Vr s3 w1.heap.size x.cs) := VX.out.below B9 (range_lt VX.out.1 (Nat.succ_pos _))
      have VZ : Hid (Vr s3 w2.heap.size (rmc (fun _ => 0) (.slice none 0 0))) := VZ.out.below B9 (range_lt VZ.out.1 (Nat.succ_pos _))
      have BL : Hid (Below w4.heap.size w4 s3) := BL.out.trans (B9.mono BL.out.size)
      have hS : s3.rangeAt wr.heap.size 0 (rmc s v) ∧ s3.rangeAt w1.heap.size 3 x.s.cs := ⟨VM.out.1, stp_spot VX.out.1⟩
      clear B9
      clear l9 b9 g9 q9 KN
      refine hK.out _ _ hS (fun _ => ?_)
      simp only [Act.put, List.setIfInBounds_toArray, List.set_cons_zero, List.set_cons_succ]
      clear hK K
      refine take_lawH 5 (some 98) (.tuple #[.agg (rmc s v').toArray, vg]) rfl rfl (by kernel_rfl) (by kernel_rfl) (by kernel_rfl) (fun _ _ _ h => h) (Or.inl ⟨by rfl, fun w' hw' => by rfl⟩) hS ?_
      simp only [Act.put, List.setIfInBounds_toArray, List.set_cons_zero, List.set_cons_succ]
      refine take_lawH 6 (some 104) (.agg (rmc s v').toArray) rfl rfl (by kernel_rfl) (by kernel_rfl) (by kernel_rfl) (fun _ _ _ h => h) (Or.inl ⟨by rfl, fun w' hw' => by go_simp⟩) hS ?_
      simp only [Act.put, List.setIfInBounds_toArray, List.set_cons_zero, List.set_cons_succ]
      refine take_lawH 7 (some 105) (vg) rfl rfl (by kernel_rfl) (by kernel_rfl) (by kernel_rfl) (fun _ _ _ h => h) (Or.inl ⟨by rfl, fun w' hw' => by go_simp⟩) hS ?_
      simp only [Act.put, List.setIfInBounds_toArray, List.set_cons_zero, List.set_cons_succ]
      refine wpAnyH_ready (rs := [8]) (by kernel_rfl) (by simp) ?_
      refine AllReadyH.cons rfl (fun K hK => ?_) AllReadyH.nil
      refine step_newC s3 rfl (some 14) rfl 28 rfl _ zero_rmap ?_
      intro s4 X9 B9 l9
      have VQ : Hid (Vr s4 s3.heap.size (rmc (fun _ => 0) (.slice none 0 0))) := X9
      have BX : Hid (w2.heap.size < s3.heap.size) := range_lt VZ.out.1 (Nat.succ_pos _)
      have BQ : Hid (w4.heap.size ≤ s3.heap.size ∧ s3.heap.size < s4.heap.size) := ⟨BL.out.size, l9⟩
      have QA : Hid (∀ k, (s2.heap.size ≤ k ∧ k < s3.heap.size) → k ≠ s3.heap.size) := fun k hk => by have : s3.heap.size ≤ s3.heap.size := Nat.le_refl _; omega
      have VM : Hid (Vr s4 wr.heap.size (rmc s v)) := VM.out.below B9 (range_lt VM.out.1 (Nat.succ_pos _))
      have VX : Hid (Vr s4 w1.heap.size x.cs) := VX.out.below B9 (range_lt VX.out.1 (Nat.succ_pos _))
      have VZ : Hid (Vr s4 w2.heap.size (rmc (fun _ => 0) (.slice none 0 0))) := VZ.out.below B9 (range_lt VZ.out.1 (Nat.succ_pos _))
      have BL : Hid (Below w4.heap.size w4 s4) := BL.out.trans (B9.mono BL.out.size)
      have KW : Hid (Wk w s4 c d s (up f i (ft (f i) x.s l k)) (some b) v' (L.map (ptC i l k x.s) ++ pnew i l x.s L k)) := KW.out.below B9
      have NX : Hid (Nx w3 s4 c d s (some b) v d s (some b) v') := NX.out.trans (Nx.of_below B9)
      have PL2 : Hid (Pls s4 vg RL) := PL2.out.below B9
      have hS : s4.rangeAt wr.heap.size 0 (rmc s v) ∧ s4.rangeAt w1.heap.size 3 x.s.cs := ⟨VM.out.1, stp_spot VX.out.1⟩
      clear B9
      clear X9 l9
      refine hK.out _ _ hS (fun _ => ?_)
      simp only [Act.put, List.setIfInBounds_toArray, List.set_cons_zero, List.set_cons_succ]
      clear hK K
      refine wpAnyH_ready (rs := [9]) (by kernel_rfl) (by simp) ?_
      refine AllReadyH.cons rfl (fun K hK => ?_) AllReadyH.nil
      refine step_storeG s4 rfl none rfl (.tmp 14) (.tmp 104) 28 rfl s3.heap.size (rmc (fun _ => 0) (.slice none 0 0)) (rmc s v') rfl rfl VQ.out rfl size_rmap (rmc_all KW.out.l) ?_
      intro s5 X9 G9
      have VN : Hid (Vr s5 s3.heap.size (rmc s v')) := X9
      have KW : Hid (Wk w s5 c d s (up f i (ft (f i) x.s l k)) (some b) v' (L.map (ptC i l k x.s) ++ pnew i l x.s L k)) := KW.out.var G9 (by have := BX.out; have := B2.out; have := HK.out.h.size; omega) (fun e => by have := PM.out.olt e; have := BQ.out; omega) (fun e => QA.out _ (KV.out _ e) rfl)
      have NX : Hid (Nx w3 s5 c d s (some b) v d s (some b) v') := NX.out.var G9 (by have := CH.out.size; have := BQ.out; omega)
      have BL : Hid (Below w4.heap.size w4 s5) := BL.out.grown G9 BL.out.size (fun k hk => by have := BQ.out; cases hk; omega)
      have PL2 : Hid (Pls s5 vg RL) := PL2.out.ch (P := fun k => k = s3.heap.size) (Ch.of_grown (P := fun k => k = s3.heap.size) G9 rfl) (fun k hk e => QA.out _ (KG.out k hk) e)
      have PL1 : Hid (Pls s5 vl RL) := PL1.out.below BL.out
      have VZ : Hid (Vr s5 w2.heap.size (rmc (fun _ => 0) (.slice none 0 0))) := VZ.out.heap (G9.block _ (range_lt VZ.out.1 (Nat.succ_pos _)) (fun e => by have := BX.out; have := Option.some.inj e; omega))
      have VM : Hid (Vr s5 wr.heap.size (rmc s v)) := VM.out.heap (G9.block _ (range_lt VM.out.1 (Nat.succ_pos _)) (fun e => by have := BX.out; have := B2.out; have := Option.some.inj e; omega))
      have VX : Hid (Vr s5 w1.heap.size x.cs) := VX.out.heap (G9.block _ (range_lt VX.out.1 (Nat.succ_pos _)) (fun e => by have := BX.out; have := B2.out; have := Option.some.inj e; omega))
      have hS : s5.rangeAt wr.heap.size 0 (rmc s v) ∧ s5.rangeAt w1.heap.size 3 x.s.cs := ⟨VM.out.1, stp_spot VX.out.1⟩
      clear X9 G9
      refine hK.out _ _ hS (fun _ => ?_)
      simp only [Act.put]
      clear hK K
      refine take_lawH 10 (some 15) (vg) rfl rfl (by kernel_rfl) (by kernel_rfl) (by kernel_rfl) (fun _ _ _ h => h) (Or.inl ⟨by rfl, fun w' hw' => by rfl⟩) hS ?_
      simp only [Act.put, List.setIfInBounds_toArray, List.set_cons_zero, List.set_cons_succ]
      refine wpAnyH_done (by kernel_rfl) ?_ _
      have LN : Hid (RL.length ≤ 100000) := by have := gn_short (L.map (ptC i l k x.s) ++ pnew i l x.s L k) L; have := HK.out.len; rw [RG.out]; show _ ≤ _; omega
      clear VM VX PM CH CL BQ QA KV KG BL VQ
      go_wp2
      have KW : Hid (Wk w s5.drew c d s (up f i (ft (f i) x.s l k)) (some b) v' (L.map (ptC i l k x.s) ++ pnew i l x.s L k)) := KW.out.below (below_dr (Below.refl _ _) 1)
      have NX : Hid (Nx w3 s5.drew c d s (some b) v d s (some b) v') := NX.out.trans (Nx.of_below (below_dr (Below.refl _ _) 1))
      have VN : Hid (Vr s5.drew s3.heap.size (rmc s v')) := VN.out.drewN 1
      have VZ : Hid (Vr s5.drew w2.heap.size (rmc (fun _ => 0) (.slice none 0 0))) := VZ.out.drewN 1
      have PL1 : Hid (Pls s5.drew vl RL) := PL1.out.below (below_dr (Below.refl _ _) 1)
      have PL2 : Hid (Pls s5.drew vg RL) := PL2.out.below (below_dr (Below.refl _ _) 1)
      refine wp_region_held_drew (S := fun w' => w'.rangeAt s3.heap.size 0 (rmc s v')) (by kernel_rfl) VN.out.1 (fun hS => ?_)
      obtain ⟨y15_1, hx0⟩ : ∃ x, x = s5.drew := ⟨_, rfl⟩
      rw [← hx0] at hS KW NX VN VZ PL1 PL2 ⊢
      clear hx0
      refine take_lawH 0 (some 106) (.agg (rmc s v').toArray) rfl rfl (by kernel_rfl) (by kernel_rfl) (by kernel_rfl) (fun _ _ _ h => h) (Or.inl ⟨by rfl, fun w' hw' => by exact exec_loadN 28 (.tmp 14) rfl _ rfl _ _ (load_cells rowy_rmap hw')⟩) hS ?_
      simp only [Act.put, List.setIfInBounds_toArray, List.set_cons_zero, List.set_cons_succ]
      refine take_lawH 1 (some 107) (.int .i64 0) rfl rfl (by kernel_rfl) (by kernel_rfl) (by kernel_rfl) (fun _ _ _ h => h) (Or.inl ⟨by rfl, fun w' hw' => by rfl⟩) hS ?_
      simp only [Act.put, List.setIfInBounds_toArray, List.set_cons_zero, List.set_cons_succ]
      refine take_lawH 2 (some 108) (.bool true) rfl rfl (by kernel_rfl) (by kernel_rfl) (by kernel_rfl) (fun _ _ _ h => h) (Or.inl ⟨by rfl, fun w' hw' => by go_simp⟩) hS ?_
      simp only [Act.put, List.setIfInBounds_toArray, List.set_cons_zero, List.set_cons_succ]
      refine take_lawH 3 (some 109) (.bool true) rfl rfl (by kernel_rfl) (by kernel_rfl) (by kernel_rfl) (fun _ _ _ h => h) (Or.inl ⟨by rfl, fun w' hw' => by rfl⟩) hS ?_
      simp only [Act.put, List.setIfInBounds_toArray, List.set_cons_zero, List.set_cons_succ]
      refine take_lawH 4 (some 110) (vl) rfl rfl (by kernel_rfl) (by kernel_rfl) (by kernel_rfl) (fun _ _ _ h => h) (Or.inl ⟨by rfl, fun w' hw' => by rfl⟩) hS ?_
      simp only [Act.put, List.setIfInBounds_toArray, List.set_cons_zero, List.set_cons_succ]
      refine take_lawH 5 (some 111) (vg) rfl rfl (by kernel_rfl) (by kernel_rfl) (by kernel_rfl) (fun _ _ _ h => h) (Or.inl ⟨by rfl, fun w' hw' => by rfl⟩) hS ?_
      simp only [Act.put, List.setIfInBounds_toArray, List.set_cons_zero, List.set_cons_succ]
      refine wpAnyH_ready (rs := [6]) (by kernel_rfl) (by simp) ?_
      refine AllReadyH.cons rfl (fun K hK => ?_) AllReadyH.nil
      refine step_callW y15_1 (by rfl) (some 112) rfl 28 #[.tmp 110, .tmp 111] _ rfl (fun _ _ => rfl) #[vl, vg] (by simp only [List.map_toArray, List.map_cons, List.map_nil]; rfl) (fun v9 w' => v9 = .bool true ∧ Below y15_1.heap.size y15_1 w') ((places_any vl vg RL y15_1 PL1.out PL2.out LN.out).mono fun e w' ⟨h1, h2⟩ => ⟨_, h1, rfl, h2⟩) ?_
      rintro v9 y15_2 ⟨rfl, B9⟩
      have KW : Hid (Wk w y15_2 c d s (up f i (ft (f i) x.s l k)) (some b) v' (L.map (ptC i l k x.s) ++ pnew i l x.s L k)) := KW.out.below B9
      have NX : Hid (Nx w3 y15_2 c d s (some b) v d s (some b) v') := NX.out.trans (Nx.of_below B9)
      have VN : Hid (Vr y15_2 s3.heap.size (rmc s v')) := VN.out.below B9 (range_lt VN.out.1 (Nat.succ_pos _))
      have VZ : Hid (Vr y15_2 w2.heap.size (rmc (fun _ => 0) (.slice none 0 0))) := VZ.out.below B9 (range_lt VZ.out.1 (Nat.succ_pos _))
      have hS : y15_2.rangeAt s3.heap.size 0 (rmc s v') := VN.out.1
      clear B9
      refine hK.out _ _ hS (fun _ => ?_)
      simp only [Act.put, List.setIfInBounds_toArray, List.set_cons_zero, List.set_cons_succ]
      clear hK K
      refine take_lawH 7 (some 113) (.bool true) rfl rfl (by kernel_rfl) (by kernel_rfl) (by kernel_rfl) (fun _ _ _ h => h) (Or.inl ⟨by rfl, fun w' hw' => by rfl⟩) hS ?_
      simp only [Act.put, List.setIfInBounds_toArray, List.set_cons_zero, List.set_cons_succ]
      refine wpAnyH_ready (rs := [8]) (by kernel_rfl) (by simp) ?_
      refine AllReadyH.cons rfl (fun K hK => ?_) AllReadyH.nil
      refine step_storeG y15_2 rfl none rfl (.tmp 6) (.tmp 106) 28 rfl w2.heap.size (rmc (fun _ => 0) (.slice none 0 0)) (rmc s v') rfl rfl VZ.out rfl size_rmap (rmc_all KW.out.l) ?_
      intro y15_3 X9 G9
      have R9 : Hid (y15_3.rangeAt w2.heap.size 0 (rmc s v')) := X9.1
      have G8 : Hid (y15_2.grownBy y15_3 (some w2.heap.size)) := G9
      have VN : Hid (Vr y15_3 s3.heap.size (rmc s v')) := VN.out.heap (G9.block _ (range_lt VN.out.1 (Nat.succ_pos _)) (fun e => by have := BX.out; have := Option.some.inj e; omega))
      have hS : y15_3.rangeAt s3.heap.size 0 (rmc s v') := VN.out.1
      clear X9 G9
      refine hK.out _ _ hS (fun _ => ?_)
      simp only [Act.put]
      clear hK K
      refine take_lawH 9 (some 7) (.bool true) rfl rfl (by kernel_rfl) (by kernel_rfl) (by kernel_rfl) (fun _ _ _ h => h) (Or.inl ⟨by rfl, fun w' hw' => by rfl⟩) hS ?_
      simp only [Act.put, List.setIfInBounds_toArray, List.set_cons_zero, List.set_cons_succ]
      refine wpAnyH_done (by kernel_rfl) ?_ _
      go_wp2
      have FR := NX.out.free LZ.out FZ.out.1 FZ.out.2
      exact bodyPost_ret (v := .tuple #[.agg (rmc s v').toArray, .bool true]) (results_cv rfl _ _ w2.heap.size _ (.bool true) rowy_rmap rfl rfl R9.out) rfl ⟨_, _, _, _, v', _, rfl, KW.out.var G8.out (Nat.le_trans HK.out.h.size B2.out.1) FR.1 FR.2, ((Nx.of_below BB.out).trans NX.out).var G8.out B2.out.1⟩
    · refine step_newC s2 rfl (some 14) rfl 28 rfl _ zero_rmap ?_
      intro s6 X9 B9 l9
      have VQ : Hid (Vr s6 s2.heap.size (rmc (fun _ => 0) (.slice none 0 0))) := X9
      have BX : Hid (w2.heap.size < s2.heap.size) := range_lt VZ.out.1 (Nat.succ_pos _)
      have BQ : Hid (w4.heap.size ≤ s2.heap.size ∧ s2.heap.size < s6.heap.size) := ⟨BL.out.size, l9⟩
      have VM : Hid (Vr s6 wr.heap.size (rmc s v)) := VM.out.below B9 (range_lt VM.out.1 (Nat.succ_pos _))
      have VX : Hid (Vr s6 w1.heap.size x.cs) := VX.out.below B9 (range_lt VX.out.1 (Nat.succ_pos _))
      have VZ : Hid (Vr s6 w2.heap.size (rmc (fun _ => 0) (.slice none 0 0))) := VZ.out.below B9 (range_lt VZ.out.1 (Nat.succ_pos _))
      have BL : Hid (Below w4.heap.size w4 s6) := BL.out.trans (B9.mono BL.out.size)
      have hS : s6.rangeAt wr.heap.size 0 (rmc s v) ∧ s6.rangeAt w1.heap.size 3 x.s.cs := ⟨VM.out.1, stp_spot VX.out.1⟩
      clear B9
      clear X9 l9
      refine hK.out _ _ hS (fun _ => ?_)
      simp only [Act.put, List.setIfInBounds_toArray, List.set_cons_zero, List.set_cons_succ]
      clear hK K
      refine wpAnyH_ready (rs := [4]) (by kernel_rfl) (by simp) ?_
      refine AllReadyH.cons rfl (fun K hK => ?_) AllReadyH.nil
      refine step_callG s6 rfl (some 103) rfl 30 #[.tmp 99, .tmp 102] _ rfl (fun _ _ => rfl) #[.agg (rmc s v).toArray, .agg x.s.cs.toArray] (by simp only [List.map_toArray, List.map_cons, List.map_nil]; rfl) (fun v9 w' => ∃ v' vg, v9 = .tuple #[.agg (rmc s v').toArray, vg] ∧ Cl w' v' (L.map (ptC i l k x.s) ++ pnew i l x.s L k) ∧ (∀ k, Blk v' k → s6.heap.size ≤ k ∧ k < w'.heap.size) ∧ Pls w' vg (gn (L.map (ptC i l k x.s) ++ pnew i l x.s L k) L) ∧ (∀ k, Blk vg k → s6.heap.size ≤ k ∧ k < w'.heap.size) ∧ Below s6.heap.size s6 w') ((rput_any s v L x.s i l k s6 (CL.out.below BL.out) (by have := HK.out.len; omega) EN.out EL.out EC.out (by have := KB.out; have := HK.out.z i I4.out; omega)).mono fun e w' ⟨v', vg, h1, h2, h3, h4, h5, h6⟩ => ⟨_, h1, v', vg, rfl, h2, h3, h4, h5, h6⟩) ?_
      rintro v9 s7 ⟨v', vg, rfl, l9, b9, g9, q9, B9⟩
      have KN : Hid (Wk w s7 c d s (up f i (ft (f i) x.s l k)) (some b) v' (L.map (ptC i l k x.s) ++ pnew i l x.s L k) ∧ Nx w3 s7 c d s (some b) v d s (some b) v') := wk_new (HK.out.below BB.out) (PM.out.below BL.out) (CH.out.trans (Ch.of_below BL.out)) (fun k hk => hk) B9 (HK.out.r.put I4.out LV.out KB.out) l9 b9 (fun j _ => Nat.le_refl _)
      have KW : Hid (Wk w s7 c d s (up f i (ft (f i) x.s l k)) (some b) v' (L.map (ptC i l k x.s) ++ pnew i l x.s L k)) := KN.out.1
      have NX : Hid (Nx w3 s7 c d s (some b) v d s (some b) v') := KN.out.2
      have PL2 : Hid (Pls s7 vg RL) := by rw [RG.out]; exact g9
      have KV : Hid (∀ k, Blk v' k → s6.heap.size ≤ k ∧ k < s7.heap.size) := b9
      have KG : Hid (∀ k, Blk vg k → s6.heap.size ≤ k ∧ k < s7.heap.size) := q9
      have QA : Hid (∀ k, (s6.heap.size ≤ k ∧ k < s7.heap.size) → k ≠ s2.heap.size) := fun k hk => by have := range_lt VQ.out.1 (Nat.succ_pos _); omega
      have VM : Hid (Vr s7 wr.heap.size (rmc s v)) := VM.out.below B9 (range_lt VM.out.1 (Nat.succ_pos _))
      have VX : Hid (Vr s7 w1.heap.size x.cs) := VX.out.below B9 (range_lt VX.out.1 (Nat.succ_pos _))
      have VZ : Hid (Vr s7 w2.heap.size (rmc (fun _ => 0) (.slice none 0 0))) := VZ.out.below B9 (range_lt VZ.out.1 (Nat.succ_pos _))
      have BL : Hid (Below w4.heap.size w4 s7) := BL.out.trans (B9.mono BL.out.size)
      have VQ : Hid (Vr s7 s2.heap.size (rmc (fun _ => 0) (.slice none 0 0))) := VQ.out.below B9 (range_lt VQ.out.1 (Nat.succ_pos _))
      have hS : s7.rangeAt wr.heap.size 0 (rmc s v) ∧ s7.rangeAt w1.heap.size 3 x.s.cs := ⟨VM.out.1, stp_spot VX.out.1⟩
      clear B9
      clear l9 b9 g9 q9 KN
      refine hK.out _ _ hS (fun _ => ?_)
      simp only [Act.put, List.setIfInBounds_toArray, List.set_cons_zero, List.set_cons_succ]
      clear hK K
      refine take_lawH 5 (some 98) (.tuple #[.agg (rmc s v').toArray, vg]) rfl rfl (by kernel_rfl) (by kernel_rfl) (by kernel_rfl) (fun _ _ _ h => h) (Or.inl ⟨by rfl, fun w' hw' => by rfl⟩) hS ?_
      simp only [Act.put, List.setIfInBounds_toArray, List.set_cons_zero, List.set_cons_succ]
      refine take_lawH 6 (some 104) (.agg (rmc s v').toArray) rfl rfl (by kernel_rfl) (by kernel_rfl) (by kernel_rfl) (fun _ _ _ h => h) (Or.inl ⟨by rfl, fun w' hw' => by go_simp⟩) hS ?_
      simp only [Act.put, List.setIfInBounds_toArray, List.set_cons_zero, List.set_cons_succ]
      refine take_lawH 7 (some 105) (vg) rfl rfl (by kernel_rfl) (by kernel_rfl) (by kernel_rfl) (fun _ _ _ h => h) (Or.inl ⟨by rfl, fun w' hw' => by go_simp⟩) hS ?_
      simp only [Act.put, List.setIfInBounds_toArray, List.set_cons_zero, List.set_cons_succ]
      refine wpAnyH_ready (rs := [9]) (by kernel_rfl) (by simp) ?_
      refine AllReadyH.cons rfl (fun K hK => ?_) AllReadyH.nil
      refine step_storeG s7 rfl none rfl (.tmp 14) (.tmp 104) 28 rfl s2.heap.size (rmc (fun _ => 0) (.slice none 0 0)) (rmc s v') rfl rfl VQ.out rfl size_rmap (rmc_all KW.out.l) ?_
      intro s8 X9 G9
      have VN : Hid (Vr s8 s2.heap.size (rmc s v')) := X9
      have KW : Hid (Wk w s8 c d s (up f i (ft (f i) x.s l k)) (some b) v' (L.map (ptC i l k x.s) ++ pnew i l x.s L k)) := KW.out.var G9 (by have := BX.out; have := B2.out; have := HK.out.h.size; omega) (fun e => by have := PM.out.olt e; have := BQ.out; omega) (fun e => QA.out _ (KV.out _ e) rfl)
      have NX : Hid (Nx w3 s8 c d s (some b) v d s (some b) v') := NX.out.var G9 (by have := CH.out.size; have := BQ.out; omega)
      have BL : Hid (Below w4.heap.size w4 s8) := BL.out.grown G9 BL.out.size (fun k hk => by have := BQ.out; cases hk; omega)
      have PL2 : Hid (Pls s8 vg RL) := PL2.out.ch (P := fun k => k = s2.heap.size) (Ch.of_grown (P := fun k => k = s2.heap.size) G9 rfl) (fun k hk e => QA.out _ (KG.out k hk) e)
      have PL1 : Hid (Pls s8 vl RL) := PL1.out.below BL.out
      have VZ : Hid (Vr s8 w2.heap.size (rmc (fun _ => 0) (.slice none 0 0))) := VZ.out.heap (G9.block _ (range_lt VZ.out.1 (Nat.succ_pos _)) (fun e => by have := BX.out; have := Option.some.inj e; omega))
      have VM : Hid (Vr s8 wr.heap.size (rmc s v)) := VM.out.heap (G9.block _ (range_lt VM.out.1 (Nat.succ_pos _)) (fun e => by have := BX.out; have := B2.out; have := Option.some.inj e; omega))
      have VX : Hid (Vr s8 w1.heap.size x.cs) := VX.out.heap (G9.block _ (range_lt VX.out.1 (Nat.succ_pos _)) (fun e => by have := BX.out; have := B2.out; have := Option.some.inj e; omega))
      have hS : s8.rangeAt wr.heap.size 0 (rmc s v) ∧ s8.rangeAt w1.heap.size 3 x.s.cs := ⟨VM.out.1, stp_spot VX.out.1⟩
      clear X9 G9
      refine hK.out _ _ hS (fun _ => ?_)
      simp only [Act.put]
      clear hK K
      refine take_lawH 10 (some 15) (vg) rfl rfl (by kernel_rfl) (by kernel_rfl) (by kernel_rfl) (fun _ _ _ h => h) (Or.inl ⟨by rfl, fun w' hw' => by rfl⟩) hS ?_
      simp only [Act.put, List.setIfInBounds_toArray, List.set_cons_zero, List.set_cons_succ]
      refine wpAnyH_done (by kernel_rfl) ?_ _
      have LN : Hid (RL.length ≤ 100000) := by have := gn_short (L.map (ptC i l k x.s) ++ pnew i l x.s L k) L; have := HK.out.len; rw [RG.out]; show _ ≤ _; omega
      clear VM VX PM CH CL BQ QA KV KG BL VQ
      go_wp2
      have KW : Hid (Wk w s8.drew c d s (up f i (ft (f i) x.s l k)) (some b) v' (L.map (ptC i l k x.s) ++ pnew i l x.s L k)) := KW.out.below (below_dr (Below.refl _ _) 1)
      have NX : Hid (Nx w3 s8.drew c d s (some b) v d s (some b) v') := NX.out.trans (Nx.of_below (below_dr (Below.refl _ _) 1))
      have VN : Hid (Vr s8.drew s2.heap.size (rmc s v')) := VN.out.drewN 1
      have VZ : Hid (Vr s8.drew w2.heap.size (rmc (fun _ => 0) (.slice none 0 0))) := VZ.out.drewN 1
      have PL1 : Hid (Pls s8.drew vl RL) := PL1.out.below (below_dr (Below.refl _ _) 1)
      have PL2 : Hid (Pls s8.drew vg RL) := PL2.out.below (below_dr (Below.refl _ _) 1)
      refine wp_region_held_drew (S := fun w' => w'.rangeAt s2.heap.size 0 (rmc s v')) (by kernel_rfl) VN.out.1 (fun hS => ?_)
      obtain ⟨y15_1, hx0⟩ : ∃ x, x = s8.drew := ⟨_, rfl⟩
      rw [← hx0] at hS KW NX VN VZ PL1 PL2 ⊢
      clear hx0
      refine take_lawH 0 (some 106) (.agg (rmc s v').toArray) rfl rfl (by kernel_rfl) (by kernel_rfl) (by kernel_rfl) (fun _ _ _ h => h) (Or.inl ⟨by rfl, fun w' hw' => by exact exec_loadN 28 (.tmp 14) rfl _ rfl _ _ (load_cells rowy_rmap hw')⟩) hS ?_
      simp only [Act.put, List.setIfInBounds_toArray, List.set_cons_zero, List.set_cons_succ]
      refine take_lawH 1 (some 107) (.int .i64 0) rfl rfl (by kernel_rfl) (by kernel_rfl) (by kernel_rfl) (fun _ _ _ h => h) (Or.inl ⟨by rfl, fun w' hw' => by rfl⟩) hS ?_
      simp only [Act.put, List.setIfInBounds_toArray, List.set_cons_zero, List.set_cons_succ]
      refine take_lawH 2 (some 108) (.bool true) rfl rfl (by kernel_rfl) (by kernel_rfl) (by kernel_rfl) (fun _ _ _ h => h) (Or.inl ⟨by rfl, fun w' hw' => by go_simp⟩) hS ?_
      simp only [Act.put, List.setIfInBounds_toArray, List.set_cons_zero, List.set_cons_succ]
      refine take_lawH 3 (some 109) (.bool true) rfl rfl (by kernel_rfl) (by kernel_rfl) (by kernel_rfl) (fun _ _ _ h => h) (Or.inl ⟨by rfl, fun w' hw' => by rfl⟩) hS ?_
      simp only [Act.put, List.setIfInBounds_toArray, List.set_cons_zero, List.set_cons_succ]
      refine take_lawH 4 (some 110) (vl) rfl rfl (by kernel_rfl) (by kernel_rfl) (by kernel_rfl) (fun _ _ _ h => h) (Or.inl ⟨by rfl, fun w' hw' => by rfl⟩) hS ?_
      simp only [Act.put, List.setIfInBounds_toArray, List.set_cons_zero, List.set_cons_succ]
      refine take_lawH 5 (some 111) (vg) rfl rfl (by kernel_rfl) (by kernel_rfl) (by kernel_rfl) (fun _ _ _ h => h) (Or.inl ⟨by rfl, fun w' hw' => by rfl⟩) hS ?_
      simp only [Act.put, List.setIfInBounds_toArray, List.set_cons_zero, List.set_cons_succ]
      refine wpAnyH_ready (rs := [6]) (by kernel_rfl) (by simp) ?_
      refine AllReadyH.cons rfl (fun K hK => ?_) AllReadyH.nil
      refine step_callW y15_1 (by rfl) (some 112) rfl 28 #[.tmp 110, .tmp 111] _ rfl (fun _ _ => rfl) #[vl, vg] (by simp only [List.map_toArray, List.map_cons, List.map_nil]; rfl) (fun v9 w' => v9 = .bool true ∧ Below y15_1.heap.size y15_1 w') ((places_any vl vg RL y15_1 PL1.out PL2.out LN.out).mono fun e w' ⟨h1, h2⟩ => ⟨_, h1, rfl, h2⟩) ?_
      rintro v9 y15_2 ⟨rfl, B9⟩
      have KW : Hid (Wk w y15_2 c d s (up f i (ft (f i) x.s l k)) (some b) v' (L.map (ptC i l k x.s) ++ pnew i l x.s L k)) := KW.out.below B9
      have NX : Hid (Nx w3 y15_2 c d s (some b) v d s (some b) v') := NX.out.trans (Nx.of_below B9)
      have VN : Hid (Vr y15_2 s2.heap.size (rmc s v')) := VN.out.below B9 (range_lt VN.out.1 (Nat.succ_pos _))
      have VZ : Hid (Vr y15_2 w2.heap.size (rmc (fun _ => 0) (.slice none 0 0))) := VZ.out.below B9 (range_lt VZ.out.1 (Nat.succ_pos _))
      have hS : y15_2.rangeAt s2.heap.size 0 (rmc s v') := VN.out.1
      clear B9
      refine hK.out _ _ hS (fun _ => ?_)
      simp only [Act.put, List.setIfInBounds_toArray, List.set_cons_zero, List.set_cons_succ]
      clear hK K
      refine take_lawH 7 (some 113) (.bool true) rfl rfl (by kernel_rfl) (by kernel_rfl) (by kernel_rfl) (fun _ _ _ h => h) (Or.inl ⟨by rfl, fun w' hw' => by rfl⟩) hS ?_
      simp only [Act.put, List.setIfInBounds_toArray, List.set_cons_zero, List.set_cons_succ]
      refine wpAnyH_ready (rs := [8]) (by kernel_rfl) (by simp) ?_
      refine AllReadyH.cons rfl (fun K hK => ?_) AllReadyH.nil
      refine step_storeG y15_2 rfl none rfl (.tmp 6) (.tmp 106) 28 rfl w2.heap.size (rmc (fun _ => 0) (.slice none 0 0)) (rmc s v') rfl rfl VZ.out rfl size_rmap (rmc_all KW.out.l) ?_
      intro y15_3 X9 G9
      have R9 : Hid (y15_3.rangeAt w2.heap.size 0 (rmc s v')) := X9.1
      have G8 : Hid (y15_2.grownBy y15_3 (some w2.heap.size)) := G9
      have VN : Hid (Vr y15_3 s2.heap.size (rmc s v')) := VN.out.heap (G9.block _ (range_lt VN.out.1 (Nat.succ_pos _)) (fun e => by have := BX.out; have := Option.some.inj e; omega))
      have hS : y15_3.rangeAt s2.heap.size 0 (rmc s v') := VN.out.1
      clear X9 G9
      refine hK.out _ _ hS (fun _ => ?_)
      simp only [Act.put]
      clear hK K
      refine take_lawH 9 (some 7) (.bool true) rfl rfl (by kernel_rfl) (by kernel_rfl) (by kernel_rfl) (fun _ _ _ h => h) (Or.inl ⟨by rfl, fun w' hw' => by rfl⟩) hS ?_
      simp only [Act.put, List.setIfInBounds_toArray, List.set_cons_zero, List.set_cons_succ]
      refine wpAnyH_done (by kernel_rfl) ?_ _
      go_wp2
      have FR := NX.out.free LZ.out FZ.out.1 FZ.out.2
      exact bodyPost_ret (v := .tuple #[.agg (rmc s v').toArray, .bool true]) (results_cv rfl _ _ w2.heap.size _ (.bool true) rowy_rmap rfl rfl R9.out) rfl ⟨_, _, _, _, v', _, rfl, KW.out.var G8.out (Nat.le_trans HK.out.h.size B2.out.1) FR.1 FR.2, ((Nx.of_below BB.out).trans NX.out).var G8.out B2.out.1⟩
  · refine step_newC s1 rfl (some 14) rfl 28 rfl _ zero_rmap ?_
    intro s9 X9 B9 l9
    have VQ : Hid (Vr s9 s1.heap.size (rmc (fun _ => 0) (.slice none 0 0))) := X9
    have BX : Hid (w2.heap.size < s1.heap.size) := range_lt VZ.out.1 (Nat.succ_pos _)
    have BQ : Hid (w4.heap.size ≤ s1.heap.size ∧ s1.heap.size < s9.heap.size) := ⟨BL.out.size, l9⟩
    have VM : Hid (Vr s9 wr.heap.size (rmc s v)) := VM.out.below B9 (range_lt VM.out.1 (Nat.succ_pos _))
    have VX : Hid (Vr s9 w1.heap.size x.cs) := VX.out.below B9 (range_lt VX.out.1 (Nat.succ_pos _))
    have VZ : Hid (Vr s9 w2.heap.size (rmc (fun _ => 0) (.slice none 0 0))) := VZ.out.below B9 (range_lt VZ.out.1 (Nat.succ_pos _))
    have BL : Hid (Below w4.heap.size w4 s9) := BL.out.trans (B9.mono BL.out.size)
    have hS : s9.rangeAt wr.heap.size 0 (rmc s v) ∧ s9.rangeAt w1.heap.size 3 x.s.cs := ⟨VM.out.1, stp_spot VX.out.1⟩
    clear B9
    clear X9 l9
    refine hK.out _ _ hS (fun _ => ?_)
    simp only [Act.put, List.setIfInBounds_toArray, List.set_cons_zero, List.set_cons_succ]
    clear hK K
    refine wpAnyH_ready (rs := [3]) (by kernel_rfl) (by simp) ?_
    refine AllReadyH.cons rfl (fun K hK => ?_) AllReadyH.nil
    refine step_callG s9 rfl (some 102) rfl 18 #[.tmp 101] _ rfl (fun _ _ => rfl) #[.agg x.s.cs.toArray] (by simp only [List.map_toArray, List.map_cons, List.map_nil]; rfl) (fun v9 w' => v9 = .agg x.s.cs.toArray ∧ Below s9.heap.size s9 w') ((of_any x.s s9).mono fun e w' ⟨h1, h2⟩ => ⟨_, h1, rfl, h2⟩) ?_
    rintro v9 s10 ⟨rfl, B9⟩
    have VM : Hid (Vr s10 wr.heap.size (rmc s v)) := VM.out.below B9 (range_lt VM.out.1 (Nat.succ_pos _))
    have VX : Hid (Vr s10 w1.heap.size x.cs) := VX.out.below B9 (range_lt VX.out.1 (Nat.succ_pos _))
    have VZ : Hid (Vr s10 w2.heap.size (rmc (fun _ => 0) (.slice none 0 0))) := VZ.out.below B9 (range_lt VZ.out.1 (Nat.succ_pos _))
    have BL : Hid (Below w4.heap.size w4 s10) := BL.out.trans (B9.mono BL.out.size)
    have VQ : Hid (Vr s10 s1.heap.size (rmc (fun _ => 0) (.slice none 0 0))) := VQ.out.below B9 (range_lt VQ.out.1 (Nat.succ_pos _))
    have hS : s10.rangeAt wr.heap.size 0 (rmc s v) ∧ s10.rangeAt w1.heap.size 3 x.s.cs := ⟨VM.out.1, stp_spot VX.out.1⟩
    clear B9
    refine hK.out _ _ hS (fun _ => ?_)
    simp only [Act.put, List.setIfInBounds_toArray, List.set_cons_zero, List.set_cons_succ]
    clear hK K
    refine wpAnyH_ready (rs := [4]) (by kernel_rfl) (by simp) ?_
    refine AllReadyH.cons rfl (fun K hK => ?_) AllReadyH.nil
    refine step_callG s10 rfl (some 103) rfl 30 #[.tmp 99, .tmp 102] _ rfl (fun _ _ => rfl) #[.agg (rmc s v).toArray, .agg x.s.cs.toArray] (by simp only [List.map_toArray, List.map_cons, List.map_nil]; rfl) (fun v9 w' => ∃ v' vg, v9 = .tuple #[.agg (rmc s v').toArray, vg] ∧ Cl w' v' (L.map (ptC i l k x.s) ++ pnew i l x.s L k) ∧ (∀ k, Blk v' k → s10.heap.size ≤ k ∧ k < w'.heap.size) ∧ Pls w' vg (gn (L.map (ptC i l k x.s) ++ pnew i l x.s L k) L) ∧ (∀ k, Blk vg k → s10.heap.size ≤ k ∧ k < w'.heap.size) ∧ Below s10.heap.size s10 w') ((rput_any s v L x.s i l k s10 (CL.out.below BL.out) (by have := HK.out.len; omega) EN.out EL.out EC.out (by have := KB.out; have := HK.out.z i I4.out; omega)).mono fun e w' ⟨v', vg, h1, h2, h3, h4, h5, h6⟩ => ⟨_, h1, v', vg, rfl, h2, h3, h4, h5, h6⟩) ?_
    rintro v9 s11 ⟨v', vg, rfl, l9, b9, g9, q9, B9⟩
    have KN : Hid (Wk w s11 c d s (up f i (ft (f i) x.s l k)) (some b) v' (L.map (ptC i l k x.s) ++ pnew i l x.s L k) ∧ Nx w3 s11 c d s (some b) v d s (some b) v') := wk_new (HK.out.below BB.out) (PM.out.below BL.out) (CH.out.trans (Ch.of_below BL.out)) (fun k hk => hk) B9 (HK.out.r.put I4.out LV.out KB.out) l9 b9 (fun j _ => Nat.le_refl _)
    have KW : Hid (Wk w s11 c d s (up f i (ft (f i) x.s l k)) (some b) v' (L.map (ptC i l k x.s) ++ pnew i l x.s L k)) := KN.out.1
    have NX : Hid (Nx w3 s11 c d s (some b) v d s (some b) v') := KN.out.2
    have PL2 : Hid (Pls s11 vg RL) := by rw [RG.out]; exact g9
    have KV : Hid (∀ k, Blk v' k → s10.heap.size ≤ k ∧ k < s11.heap.size) := b9
    have KG : Hid (∀ k, Blk vg k → s10.heap.size ≤ k ∧ k < s11.heap.size) := q9
    have QA : Hid (∀ k, (s10.heap.size ≤ k ∧ k < s11.heap.size) → k ≠ s1.heap.size) := fun k hk => by have := range_lt VQ.out.1 (Nat.succ_pos _); omega
    have VM : Hid (Vr s11 wr.heap.size (rmc s v)) := VM.out.below B9 (range_lt VM.out.1 (Nat.succ_pos _))
    have VX : Hid (Vr s11 w1.heap.size x.cs) := VX.out.below B9 (range_lt VX.out.1 (Nat.succ_pos _))
    have VZ : Hid (Vr s11 w2.heap.size (rmc (fun _ => 0) (.slice none 0 0))) := VZ.out.below B9 (range_lt VZ.out.1 (Nat.succ_pos _))
    have BL : Hid (Below w4.heap.size w4 s11) := BL.out.trans (B9.mono BL.out.size)
    have VQ : Hid (Vr s11 s1.heap.size (rmc (fun _ => 0) (.slice none 0 0))) := VQ.out.below B9 (range_lt VQ.out.1 (Nat.succ_pos _))
    have hS : s11.rangeAt wr.heap.size 0 (rmc s v) ∧ s11.rangeAt w1.heap.size 3 x.s.cs := ⟨VM.out.1, stp_spot VX.out.1⟩
    clear B9
    clear l9 b9 g9 q9 KN
    refine hK.out _ _ hS (fun _ => ?_)
    simp only [Act.put, List.setIfInBounds_toArray, List.set_cons_zero, List.set_cons_succ]
    clear hK K
    refine take_lawH 5 (some 98) (.tuple #[.agg (rmc s v').toArray, vg]) rfl rfl (by kernel_rfl) (by kernel_rfl) (by kernel_rfl) (fun _ _ _ h => h) (Or.inl ⟨by rfl, fun w' hw' => by rfl⟩) hS ?_
    simp only [Act.put, List.setIfInBounds_toArray, List.set_cons_zero, List.set_cons_succ]
    refine take_lawH 6 (some 104) (.agg (rmc s v').toArray) rfl rfl (by kernel_rfl) (by kernel_rfl) (by kernel_rfl) (fun _ _ _ h => h) (Or.inl ⟨by rfl, fun w' hw' => by go_simp⟩) hS ?_
    simp only [Act.put, List.setIfInBounds_toArray, List.set_cons_zero, List.set_cons_succ]
    refine take_lawH 7 (some 105) (vg) rfl rfl (by kernel_rfl) (by kernel_rfl) (by kernel_rfl) (fun _ _ _ h => h) (Or.inl ⟨by rfl, fun w' hw' => by go_simp⟩) hS ?_
    simp only [Act.put, List.setIfInBounds_toArray, List.set_cons_zero, List.set_cons_succ]
    refine wpAnyH_ready (rs := [9]) (by kernel_rfl) (by simp) ?_
    refine AllReadyH.cons rfl (fun K hK => ?_) AllReadyH.nil
    refine step_storeG s11 rfl none rfl (.tmp 14) (.tmp 104) 28 rfl s1.heap.size (rmc (fun _ => 0) (.slice none 0 0)) (rmc s v') rfl rfl VQ.out rfl size_rmap (rmc_all KW.out.l) ?_
    intro s12 X9 G9
    have VN : Hid (Vr s12 s1.heap.size (rmc s v')) := X9
    have KW : Hid (Wk w s12 c d s (up f i (ft (f i) x.s l k)) (some b) v' (L.map (ptC i l k x.s) ++ pnew i l x.s L k)) := KW.out.var G9 (by have := BX.out; have := B2.out; have := HK.out.h.size; omega) (fun e => by have := PM.out.olt e; have := BQ.out; omega) (fun e => QA.out _ (KV.out _ e) rfl)
    have NX : Hid (Nx w3 s12 c d s (some b) v d s (some b) v') := NX.out.var G9 (by have := CH.out.size; have := BQ.out; omega)
    have BL : Hid (Below w4.heap.size w4 s12) := BL.out.grown G9 BL.out.size (fun k hk => by have := BQ.out; cases hk; omega)
    have PL2 : Hid (Pls s12 vg RL) := PL2.out.ch (P := fun k => k = s1.heap.size) (Ch.of_grown (P := fun k => k = s1.heap.size) G9 rfl) (fun k hk e => QA.out _ (KG.out k hk) e)
    have PL1 : Hid (Pls s12 vl RL) := PL1.out.below BL.out
    have VZ : Hid (Vr s12 w2.heap.size (rmc (fun _ => 0) (.slice none 0 0))) := VZ.out.heap (G9.block _ (range_lt VZ.out.1 (Nat.succ_pos _)) (fun e => by have := BX.out; have := Option.some.inj e; omega))
    have VM : Hid (Vr s12 wr.heap.size (rmc s v)) := VM.out.heap (G9.block _ (range_lt VM.out.1 (Nat.succ_pos _)) (fun e => by have := BX.out; have := B2.out; have := Option.some.inj e; omega))
    have VX : Hid (Vr s12 w1.heap.size x.cs) := VX.out.heap (G9.block _ (range_lt VX.out.1 (Nat.succ_pos _)) (fun e => by have := BX.out; have := B2.out; have := Option.some.inj e; omega))
    have hS : s12.rangeAt wr.heap.size 0 (rmc s v) ∧ s12.rangeAt w1.heap.size 3 x.s.cs := ⟨VM.out.1, stp_spot VX.out.1⟩
    clear X9 G9
    refine hK.out _ _ hS (fun _ => ?_)
    simp only [Act.put]
    clear hK K
    refine take_lawH 10 (some 15) (vg) rfl rfl (by kernel_rfl) (by kernel_rfl) (by kernel_rfl) (fun _ _ _ h => h) (Or.inl ⟨by rfl, fun w' hw' => by rfl⟩) hS ?_
    simp only [Act.put, List.setIfInBounds_toArray, List.set_cons_zero, List.set_cons_succ]
    refine wpAnyH_done (by kernel_rfl) ?_ _
    have LN : Hid (RL.length ≤ 100000) := by have := gn_short (L.map (ptC i l k x.s) ++ pnew i l x.s L k) L; have := HK.out.len; rw [RG.out]; show _ ≤ _; omega
    clear VM VX PM CH CL BQ QA KV KG BL VQ
    go_wp2
    have KW : Hid (Wk w s12.drew c d s (up f i (ft (f i) x.s l k)) (some b) v' (L.map (ptC i l k x.s) ++ pnew i l x.s L k)) := KW.out.below (below_dr (Below.refl _ _) 1)
    have NX : Hid (Nx w3 s12.drew c d s (some b) v d s (some b) v') := NX.out.trans (Nx.of_below (below_dr (Below.refl _ _) 1))
    have VN : Hid (Vr s12.drew s1.heap.size (rmc s v')) := VN.out.drewN 1
    have VZ : Hid (Vr s12.drew w2.heap.size (rmc (fun _ => 0) (.slice none 0 0))) := VZ.out.drewN 1
    have PL1 : Hid (Pls s12.drew vl RL) := PL1.out.below (below_dr (Below.refl _ _) 1)
    have PL2 : Hid (Pls s12.drew vg RL) := PL2.out.below (below_dr (Below.refl _ _) 1)
    refine wp_region_held_drew (S := fun w' => w'.rangeAt s1.heap.size 0 (rmc s v')) (by kernel_rfl) VN.out.1 (fun hS => ?_)
    obtain ⟨y15_1, hx0⟩ : ∃ x, x = s12.drew := ⟨_, rfl⟩
    rw [← hx0] at hS KW NX VN VZ PL1 PL2 ⊢
    clear hx0
    refine take_lawH 0 (some 106) (.agg (rmc s v').toArray) rfl rfl (by kernel_rfl) (by kernel_rfl) (by kernel_rfl) (fun _ _ _ h => h) (Or.inl ⟨by rfl, fun w' hw' => by exact exec_loadN 28 (.tmp 14) rfl _ rfl _ _ (load_cells rowy_rmap hw')⟩) hS ?_
    simp only [Act.put, List.setIfInBounds_toArray, List.set_cons_zero, List.set_cons_succ]
    refine take_lawH 1 (some 107) (.int .i64 0) rfl rfl (by kernel_rfl) (by kernel_rfl) (by kernel_rfl) (fun _ _ _ h => h) (Or.inl ⟨by rfl, fun w' hw' => by rfl⟩) hS ?_
    simp only [Act.put, List.setIfInBounds_toArray, List.set_cons_zero, List.set_cons_succ]
    refine take_lawH 2 (some 108) (.bool true) rfl rfl (by kernel_rfl) (by kernel_rfl) (by kernel_rfl) (fun _ _ _ h => h) (Or.inl ⟨by rfl, fun w' hw' => by go_simp⟩) hS ?_
    simp only [Act.put, List.setIfInBounds_toArray, List.set_cons_zero, List.set_cons_succ]
    refine take_lawH 3 (some 109) (.bool true) rfl rfl (by kernel_rfl) (by kernel_rfl) (by kernel_rfl) (fun _ _ _ h => h) (Or.inl ⟨by rfl, fun w' hw' => by rfl⟩) hS ?_
    simp only [Act.put, List.setIfInBounds_toArray, List.set_cons_zero, List.set_cons_succ]
    refine take_lawH 4 (some 110) (vl) rfl rfl (by kernel_rfl) (by kernel_rfl) (by kernel_rfl) (fun _ _ _ h => h) (Or.inl ⟨by rfl, fun w' hw' => by rfl⟩) hS ?_
    simp only [Act.put, List.setIfInBounds_toArray, List.set_cons_zero, List.set_cons_succ]
    refine take_lawH 5 (some 111) (vg) rfl rfl (by kernel_rfl) (by kernel_rfl) (by kernel_rfl) (fun _ _ _ h => h) (Or.inl ⟨by rfl, fun w' hw' => by rfl⟩) hS ?_
    simp only [Act.put, List.setIfInBounds_toArray, List.set_cons_zero, List.set_cons_succ]
    refine wpAnyH_ready (rs := [6]) (by kernel_rfl) (by simp) ?_
    refine AllReadyH.cons rfl (fun K hK => ?_) AllReadyH.nil
    refine step_callW y15_1 (by rfl) (some 112) rfl 28 #[.tmp 110, .tmp 111] _ rfl (fun _ _ => rfl) #[vl, vg] (by simp only [List.map_toArray, List.map_cons, List.map_nil]; rfl) (fun v9 w' => v9 = .bool true ∧ Below y15_1.heap.size y15_1 w') ((places_any vl vg RL y15_1 PL1.out PL2.out LN.out).mono fun e w' ⟨h1, h2⟩ => ⟨_, h1, rfl, h2⟩) ?_
    rintro v9 y15_2 ⟨rfl, B9⟩
    have KW : Hid (Wk w y15_2 c d s (up f i (ft (f i) x.s l k)) (some b) v' (L.map (ptC i l k x.s) ++ pnew i l x.s L k)) := KW.out.below B9
    have NX : Hid (Nx w3 y15_2 c d s (some b) v d s (some b) v') := NX.out.trans (Nx.of_below B9)
    have VN : Hid (Vr y15_2 s1.heap.size (rmc s v')) := VN.out.below B9 (range_lt VN.out.1 (Nat.succ_pos _))
    have VZ : Hid (Vr y15_2 w2.heap.size (rmc (fun _ => 0) (.slice none 0 0))) := VZ.out.below B9 (range_lt VZ.out.1 (Nat.succ_pos _))
    have hS : y15_2.rangeAt s1.heap.size 0 (rmc s v') := VN.out.1
    clear B9
    refine hK.out _ _ hS (fun _ => ?_)
    simp only [Act.put, List.setIfInBounds_toArray, List.set_cons_zero, List.set_cons_succ]
    clear hK K
    refine take_lawH 7 (some 113) (.bool true) rfl rfl (by kernel_rfl) (by kernel_rfl) (by kernel_rfl) (fun _ _ _ h => h) (Or.inl ⟨by rfl, fun w' hw' => by rfl⟩) hS ?_
    simp only [Act.put, List.setIfInBounds_toArray, List.set_cons_zero, List.set_cons_succ]
    refine wpAnyH_ready (rs := [8]) (by kernel_rfl) (by simp) ?_
    refine AllReadyH.cons rfl (fun K hK => ?_) AllReadyH.nil
    refine step_storeG y15_2 rfl none rfl (.tmp 6) (.tmp 106) 28 rfl w2.heap.size (rmc (fun _ => 0) (.slice none 0 0)) (rmc s v') rfl rfl VZ.out rfl size_rmap (rmc_all KW.out.l) ?_
    intro y15_3 X9 G9
    have R9 : Hid (y15_3.rangeAt w2.heap.size 0 (rmc s v')) := X9.1
    have G8 : Hid (y15_2.grownBy y15_3 (some w2.heap.size)) := G9
    have VN : Hid (Vr y15_3 s1.heap.size (rmc s v')) := VN.out.heap (G9.block _ (range_lt VN.out.1 (Nat.succ_pos _)) (fun e => by have := BX.out; have := Option.some.inj e; omega))
    have hS : y15_3.rangeAt s1.heap.size 0 (rmc s v') := VN.out.1
    clear X9 G9
    refine hK.out _ _ hS (fun _ => ?_)
    simp only [Act.put]
    clear hK K
    refine take_lawH 9 (some 7) (.bool true) rfl rfl (by kernel_rfl) (by kernel_rfl) (by kernel_rfl) (fun _ _ _ h => h) (Or.inl ⟨by rfl, fun w' hw' => by rfl⟩) hS ?_
    simp only [Act.put, List.setIfInBounds_toArray, List.set_cons_zero, List.set_cons_succ]
    refine wpAnyH_done (by kernel_rfl) ?_ _
    go_wp2
    have FR := NX.out.free LZ.out FZ.out.1 FZ.out.2
    exact bodyPost_ret (v := .tuple #[.agg (rmc s v').toArray, .bool true]) (results_cv rfl _ _ w2.heap.size _ (.bool true) rowy_rmap rfl rfl R9.out) rfl ⟨_, _, _, _, v', _, rfl, KW.out.var G8.out (Nat.le_trans HK.out.h.size B2.out.1) FR.1 FR.2, ((Nx.of_below BB.out).trans NX.out).var G8.out B2.out.1⟩
set_option maxHeartbeats 8000000 in
theorem step4a (w wr : World) (c : Nat) (d s : Nat → Nat) (f : Nat → Nat → Sp) (rb : Option Nat) (v : Value) (L : List Ce) (x : Stp) (hk : Wk w wr c d s f rb v L) (hx : x.k ≠ 1 ∧ x.k ≠ 2 ∧ x.k ≠ 3) (hpq : x.s.p ≠ x.t) (hq : 0 < cnt s f x.t) : Calls Try.prog 10 #[pt c, .agg (rmc s v).toArray, .agg x.cs.toArray] wr (Ans w wr c d s rb v) := by
  have HK : Hid (Wk w wr c d s f rb v L) := hk
  have e1 : (x.k == 1) = false := beq_eq_false_iff_ne.2 hx.1
  have e2 : (x.k == 2) = false := beq_eq_false_iff_ne.2 hx.2.1
  have e3 : (x.k == 3) = false := beq_eq_false_iff_ne.2 hx.2.2
  have f1 : decide (x.k = 1) = false := decide_eq_false hx.1
  have f2 : decide (x.k = 2) = false := decide_eq_false hx.2.1
  have f3 : decide (x.k = 3) = false := decide_eq_false hx.2.2
  have SM : Hid (∀ W, Below wr.heap.size wr W → Calls Try.prog 24 #[pt c, .agg (pc x.s.p).toArray, .agg (pc x.t).toArray, .agg x.s.o.cs.toArray] W fun e w' => e = .returned (.int .i64 2) ∧ Below W.heap.size W w') := fun W hW => move_busy c rb d s f (cnt s f) x.s.p x.t x.s.o W (hk.m.below hW) hpq hq
  have eq : ∀ W : World, (Op.equalIn 10000 31 (.agg (pc x.s.p).toArray) (.agg (pc x.t).toArray)).run Try.prog W = .ok false W := fun W => (run_equal x.s.p x.t W).trans (by rw [decide_eq_false hpq])
  have gd : Try.prog.eqGuardType Try.prog.depth 31 = false := by kernel_rfl
  have RR : Hid (∀ W, Cl W v L → Calls Try.prog 12 #[.agg (rmc s v).toArray, .agg (pc x.t).toArray] W fun e w' => e = .returned (.int .i64 (cnt s f x.t)) ∧ Below W.heap.size W w') := fun W hW => by rw [← hk.r.refs x.t]; exact rrefs_any s v L x.t W hW (by have := hk.len; omega)
  generalize cnt s f x.t = gq at RR hq
  have d1 : decide (gq > 0) = true := decide_eq_true hq
  clear hk hx hpq hq
  have t0 : (0 : Nat) = 0 := rfl
  go_enter Try.func10, Try.ntmps10
  go_wp2_with (first
    | (have qq := tx; (with_reducible refine at_store ?_); refine store_lawC _ (rmc s v) w2.heap.size 0 rfl rfl VZ.out.2 size_rmap (rmc_all HK.out.l) ?_; intro w9 e9 r9 _ _; have R9 : Hid (w9.rangeAt w2.heap.size 0 (rmc s v)) := r9; have G9 : Hid (w5.grownBy w9 (some w2.heap.size)) := (by rw [e9.out]; exact (wrt_cells w5 w2.heap.size 0 5 _ rfl).1); clear e9 r9 tx)
    | (have qq := t9; refine load_law _ (by rfl) 28 (.tmp 4) rfl wr.heap.size 0 (rmc s v) rfl rowy_rmap VM.out.1 ?_; clear t9; have tx : (0 : Nat) = 0 := rfl)
    | (have qq := t8; go_at_call 12; refine (RR.out _ (HK.out.below BB.out).l).mono ?_; rintro e w5 ⟨rfl, B9⟩; have VZ : Hid (Vr w5 w2.heap.size (rmc (fun _ => 0) (.slice none 0 0))) := VZ.out.below B9 (range_lt VZ.out.1 (Nat.succ_pos _)); have VM : Hid (Vr w5 wr.heap.size (rmc s v)) := VM.out.below B9 (range_lt VM.out.1 (Nat.succ_pos _)); have VX : Hid (Vr w5 w1.heap.size x.cs) := VX.out.below B9 (range_lt VX.out.1 (Nat.succ_pos _)); have BB : Hid (Below wr.heap.size wr w5) := BB.out.trans (B9.mono BB.out.size); clear B9 t8; have t9 : (0 : Nat) = 0 := rfl)
    | (have qq := t7; refine load_law _ (by rfl) 31 (.tmp 132) rfl w1.heap.size 17 (pc x.t) rfl rowy_place (stp_to VX.out.1) ?_; clear t7; have t8 : (0 : Nat) = 0 := rfl)
    | (have qq := t6b; refine load_law _ (by rfl) 28 (.tmp 4) rfl wr.heap.size 0 (rmc s v) rfl rowy_rmap VM.out.1 ?_; clear t6b; have t7 : (0 : Nat) = 0 := rfl)
    | (have qq := t6a; refine load_law _ (by rfl) 31 (.tmp 127) rfl w1.heap.size 17 (pc x.t) rfl rowy_place (stp_to VX.out.1) ?_; clear t6a; have t6b : (0 : Nat) = 0 := rfl)
    | (have qq := t5; refine load_law _ (by rfl) 31 (.tmp 125) rfl w1.heap.size 3 (pc x.s.p) rfl rowy_place (place_at (stp_spot VX.out.1)) ?_; clear t5; have t6a : (0 : Nat) = 0 := rfl)
    | (have qq := t4; go_at_call 24; refine (SM.out _ BB.out).mono ?_; rintro e w4 ⟨rfl, B9⟩; have VZ : Hid (Vr w4 w2.heap.size (rmc (fun _ => 0) (.slice none 0 0))) := VZ.out.below B9 (range_lt VZ.out.1 (Nat.succ_pos _)); have VM : Hid (Vr w4 wr.heap.size (rmc s v)) := VM.out.below B9 (range_lt VM.out.1 (Nat.succ_pos _)); have VX : Hid (Vr w4 w1.heap.size x.cs) := VX.out.below B9 (range_lt VX.out.1 (Nat.succ_pos _)); have BB : Hid (Below wr.heap.size wr w4) := BB.out.trans (B9.mono BB.out.size); clear B9 nk t4; have t5 : (0 : Nat) = 0 := rfl)
    | (have qq := t4b; refine load_law _ (by rfl) 35 (.tmp 121) rfl w1.heap.size 11 x.s.o.cs rfl rowy_hd (order_at (stp_spot VX.out.1)) ?_; clear t4b; have t4 : (0 : Nat) = 0 := rfl)
    | (have qq := t4a; refine load_law _ (by rfl) 31 (.tmp 118) rfl w1.heap.size 17 (pc x.t) rfl rowy_place (stp_to VX.out.1) ?_; clear t4a; have t4b : (0 : Nat) = 0 := rfl)
    | (have qq := t3; refine load_law _ (by rfl) 31 (.tmp 116) rfl w1.heap.size 3 (pc x.s.p) rfl rowy_place (place_at (stp_spot VX.out.1)) ?_; clear t3; have t4a : (0 : Nat) = 0 := rfl)
    | (have qq := t2; (with_reducible refine at_alloc ?_); refine new_lawC _ _ zero_rmap ?_; intro w3 X9 B9 _; have VZ : Hid (Vr w3 w2.heap.size (rmc (fun _ => 0) (.slice none 0 0))) := X9; have VM : Hid (Vr w3 wr.heap.size (rmc s v)) := VM.out.below B9 (range_lt VM.out.1 (Nat.succ_pos _)); have VX : Hid (Vr w3 w1.heap.size x.cs) := VX.out.below B9 (range_lt VX.out.1 (Nat.succ_pos _)); have B2 : Hid (wr.heap.size ≤ w2.heap.size ∧ wr.heap.size < w2.heap.size ∧ w1.heap.size < w2.heap.size ∧ wr.heap.size ≤ w1.heap.size) := ⟨BB.out.size, LM.out, LX.out, L1.out⟩; have BB : Hid (Below wr.heap.size wr w3) := BB.out.trans (B9.mono BB.out.size); have nk : w3.cell? ⟨w1.heap.size, 0, none⟩ = some (.int .i64 x.k) := VX.out.cell 0 _ rfl; clear X9 B9 LM LX L1 t2; have t3 : (0 : Nat) = 0 := rfl)
    | (have qq := t1; refine box_lawC _ x.cs rfl ?_; intro w2 X9 B9 l9; have VX : Hid (Vr w2 w1.heap.size x.cs) := X9; have VM : Hid (Vr w2 wr.heap.size (rmc s v)) := VM.out.below B9 (range_lt VM.out.1 (Nat.succ_pos _)); have L1 : Hid (wr.heap.size ≤ w1.heap.size) := BB.out.size; have BB : Hid (Below wr.heap.size wr w2) := BB.out.trans (B9.mono BB.out.size); have LM : Hid (wr.heap.size < w2.heap.size) := range_lt VM.out.1 (Nat.succ_pos _); have LX : Hid (w1.heap.size < w2.heap.size) := l9; clear X9 B9 l9 t1; have t2 : (0 : Nat) = 0 := rfl)
    | (have qq := t0; refine box_lawC _ (rmc s v) rfl ?_; intro w1 X9 B9 _; have VM : Hid (Vr w1 wr.heap.size (rmc s v)) := X9; have BB : Hid (Below wr.heap.size wr w1) := B9; clear X9 B9 t0; have t1 : (0 : Nat) = 0 := rfl))
  have FR := HK.out.fresh B2.out.1
  exact bodyPost_ret (v := .tuple #[.agg (rmc s v).toArray, .bool true]) (results_cv rfl _ _ w2.heap.size _ (.bool true) rowy_rmap rfl rfl R9.out) rfl ⟨d, s, f, rb, v, L, rfl, (HK.out.below BB.out).var G9.out (Nat.le_trans HK.out.h.size B2.out.1) FR.1 FR.2, (Nx.of_below BB.out).var G9.out B2.out.1⟩
set_option maxHeartbeats 8000000 in
theorem step4b (w wr : World) (c : Nat) (d s : Nat → Nat) (f : Nat → Nat → Sp) (rb : Option Nat) (v : Value) (L : List Ce) (x : Stp) (hk : Wk w wr c d s f rb v L) (hx : x.k ≠ 1 ∧ x.k ≠ 2 ∧ x.k ≠ 3) (hpq : x.s.p ≠ x.t) (hq : ¬ 0 < cnt s f x.t) : Calls Try.prog 10 #[pt c, .agg (rmc s v).toArray, .agg x.cs.toArray] wr (Ans w wr c d s rb v) := by
  have HK : Hid (Wk w wr c d s f rb v L) := hk
  have e1 : (x.k == 1) = false := beq_eq_false_iff_ne.2 hx.1
  have e2 : (x.k == 2) = false := beq_eq_false_iff_ne.2 hx.2.1
  have e3 : (x.k == 3) = false := beq_eq_false_iff_ne.2 hx.2.2
  have f1 : decide (x.k = 1) = false := decide_eq_false hx.1
  have f2 : decide (x.k = 2) = false := decide_eq_false hx.2.1
  have f3 : decide (x.k = 3) = false := decide_eq_false hx.2.2
  have SM : Hid (∀ W, Below wr.heap.size wr W → Calls Try.prog 24 #[pt c, .agg (pc x.s.p).toArray, .agg (pc x.t).toArray, .agg x.s.o.cs.toArray] W fun e w' => e = .returned (.int .i64 0) ∧ Pm w' c d s (FF x.s.p x.t x.s.o f s 4) rb (cnt s (FF x.s.p x.t x.s.o f s 4)) ∧ Ch (Own4 c d s rb) W w') := fun W hW => move_ok c rb d s f x.s.p x.t x.s.o W (hk.m.below hW) hk.z9 (fun h => hq h.2)
  have eq : ∀ W : World, (Op.equalIn 10000 31 (.agg (pc x.s.p).toArray) (.agg (pc x.t).toArray)).run Try.prog W = .ok false W := fun W => (run_equal x.s.p x.t W).trans (by rw [decide_eq_false hpq])
  have gd : Try.prog.eqGuardType Try.prog.depth 31 = false := by kernel_rfl
  have RR : Hid (∀ W, Cl W v L → Calls Try.prog 12 #[.agg (rmc s v).toArray, .agg (pc x.t).toArray] W fun e w' => e = .returned (.int .i64 (cnt s f x.t)) ∧ Below W.heap.size W w') := fun W hW => by rw [← hk.r.refs x.t]; exact rrefs_any s v L x.t W hW (by have := hk.len; omega)
  generalize cnt s f x.t = gq at RR hq
  have d1 : decide (gq > 0) = false := decide_eq_false hq
  clear hk hx hpq hq
  have t0 : (0 : Nat) = 0 := rfl
  go_enter Try.func10, Try.ntmps10
  go_wp2_with (first
    | (have qq := tc; (with_reducible refine at_store ?_); refine store_lawC _ (rmc s v') w2.heap.size 0 rfl rfl VZ.out.2 size_rmap (rmc_all KW.out.l) ?_; intro w9 e9 r9 _ _; have R9 : Hid (w9.rangeAt w2.heap.size 0 (rmc s v')) := r9; have G9 : Hid (w6.grownBy w9 (some w2.heap.size)) := (by rw [e9.out]; exact (wrt_cells w6 w2.heap.size 0 5 _ rfl).1); clear e9 r9 tc)
    | (have qq := tb; go_at_call 31; refine (rmove_any s v L x.s.p x.t x.s.o _ (CL.out.below BE.out) (by have := HK.out.len; omega)).mono ?_; rintro e w6 ⟨v', rfl, l9, b9, B9⟩; have KN : Hid (Wk w w6 c d s (FF x.s.p x.t x.s.o f s 4) rb v' (L.map (mvC x.s.p x.t x.s.o)) ∧ Nx w3 w6 c d s rb v d s rb v') := wk_new (HK.out.below BB.out) (PM.out.below BE.out) (CH.out.trans (Ch.of_below BE.out)) (fun k hk => hk) B9 (HK.out.r.move x.s.p x.t x.s.o) l9 b9 (fun j _ => Nat.le_refl _); have KW : Hid (Wk w w6 c d s (FF x.s.p x.t x.s.o f s 4) rb v' (L.map (mvC x.s.p x.t x.s.o))) := KN.out.1; have NX : Hid (Nx w3 w6 c d s rb v d s rb v') := KN.out.2; have VZ : Hid (Vr w6 w2.heap.size (rmc (fun _ => 0) (.slice none 0 0))) := VZ.out.below B9 (range_lt VZ.out.1 (Nat.succ_pos _)); clear l9 b9 B9 KN tb; have tc : (0 : Nat) = 0 := rfl)
    | (have qq := tbb; refine load_law _ (by rfl) 35 (.tmp 147) rfl w1.heap.size 11 x.s.o.cs rfl rowy_hd (order_at (stp_spot VX.out.1)) ?_; clear tbb; have tb : (0 : Nat) = 0 := rfl)
    | (have qq := tba; refine load_law _ (by rfl) 31 (.tmp 144) rfl w1.heap.size 17 (pc x.t) rfl rowy_place (stp_to VX.out.1) ?_; clear tba; have tbb : (0 : Nat) = 0 := rfl)
    | (have qq := ta; refine load_law _ (by rfl) 31 (.tmp 142) rfl w1.heap.size 3 (pc x.s.p) rfl rowy_place (place_at (stp_spot VX.out.1)) ?_; clear ta; have tba : (0 : Nat) = 0 := rfl)
    | (have qq := t9; refine load_law _ (by rfl) 28 (.tmp 4) rfl wr.heap.size 0 (rmc s v) rfl rowy_rmap VM.out.1 ?_; clear t9; have ta : (0 : Nat) = 0 := rfl)
    | (have qq := t8; go_at_call 12; refine (RR.out _ (CL.out.below BE.out)).mono ?_; rintro e w5 ⟨rfl, B9⟩; have VZ : Hid (Vr w5 w2.heap.size (rmc (fun _ => 0) (.slice none 0 0))) := VZ.out.below B9 (range_lt VZ.out.1 (Nat.succ_pos _)); have VM : Hid (Vr w5 wr.heap.size (rmc s v)) := VM.out.below B9 (range_lt VM.out.1 (Nat.succ_pos _)); have VX : Hid (Vr w5 w1.heap.size x.cs) := VX.out.below B9 (range_lt VX.out.1 (Nat.succ_pos _)); have BE : Hid (Below w4.heap.size w4 w5) := BE.out.trans (B9.mono BE.out.size); clear B9 t8; have t9 : (0 : Nat) = 0 := rfl)
    | (have qq := t7; refine load_law _ (by rfl) 31 (.tmp 132) rfl w1.heap.size 17 (pc x.t) rfl rowy_place (stp_to VX.out.1) ?_; clear t7; have t8 : (0 : Nat) = 0 := rfl)
    | (have qq := t6b; refine load_law _ (by rfl) 28 (.tmp 4) rfl wr.heap.size 0 (rmc s v) rfl rowy_rmap VM.out.1 ?_; clear t6b; have t7 : (0 : Nat) = 0 := rfl)
    | (have qq := t6a; refine load_law _ (by rfl) 31 (.tmp 127) rfl w1.heap.size 17 (pc x.t) rfl rowy_place (stp_to VX.out.1) ?_; clear t6a; have t6b : (0 : Nat) = 0 := rfl)
    | (have qq := t5; refine load_law _ (by rfl) 31 (.tmp 125) rfl w1.heap.size 3 (pc x.s.p) rfl rowy_place (place_at (stp_spot VX.out.1)) ?_; clear t5; have t6a : (0 : Nat) = 0 := rfl)
    | (have qq := t4; go_at_call 24; refine (SM.out _ BB.out).mono ?_; rintro e w4 ⟨rfl, p9, c9⟩; have FZ : Hid (¬ Own4 c d s rb w2.heap.size ∧ ¬ Blk v w2.heap.size) := HK.out.fresh B2.out.1; have FM : Hid (¬ Own4 c d s rb wr.heap.size ∧ ¬ Blk v wr.heap.size) := HK.out.fresh (Nat.le_refl _); have FX : Hid (¬ Own4 c d s rb w1.heap.size ∧ ¬ Blk v w1.heap.size) := HK.out.fresh B2.out.2.2.2; have LZ : Hid (w2.heap.size < w3.heap.size) := range_lt VZ.out.1 (Nat.succ_pos _); have PM : Hid (Pm w4 c d s (FF x.s.p x.t x.s.o f s 4) rb (cnt s (FF x.s.p x.t x.s.o f s 4))) := p9; have CH : Hid (Ch (Own4 c d s rb) w3 w4) := c9; have CL : Hid (Cl w4 v L) := (HK.out.below BB.out).l.ch CH.out HK.out.dis; have VZ : Hid (Vr w4 w2.heap.size (rmc (fun _ => 0) (.slice none 0 0))) := VZ.out.heap (CH.out.block _ (range_lt VZ.out.1 (Nat.succ_pos _)) FZ.out.1); have VM : Hid (Vr w4 wr.heap.size (rmc s v)) := VM.out.heap (CH.out.block _ (range_lt VM.out.1 (Nat.succ_pos _)) FM.out.1); have VX : Hid (Vr w4 w1.heap.size x.cs) := VX.out.heap (CH.out.block _ (range_lt VX.out.1 (Nat.succ_pos _)) FX.out.1); have BE : Hid (Below w4.heap.size w4 w4) := Below.refl _ _; clear nk p9 c9 t4; have t5 : (0 : Nat) = 0 := rfl)
    | (have qq := t4b; refine load_law _ (by rfl) 35 (.tmp 121) rfl w1.heap.size 11 x.s.o.cs rfl rowy_hd (order_at (stp_spot VX.out.1)) ?_; clear t4b; have t4 : (0 : Nat) = 0 := rfl)
    | (have qq := t4a; refine load_law _ (by rfl) 31 (.tmp 118) rfl w1.heap.size 17 (pc x.t) rfl rowy_place (stp_to VX.out.1) ?_; clear t4a; have t4b : (0 : Nat) = 0 := rfl)
    | (have qq := t3; refine load_law _ (by rfl) 31 (.tmp 116) rfl w1.heap.size 3 (pc x.s.p) rfl rowy_place (place_at (stp_spot VX.out.1)) ?_; clear t3; have t4a : (0 : Nat) = 0 := rfl)
    | (have qq := t2; (with_reducible refine at_alloc ?_); refine new_lawC _ _ zero_rmap ?_; intro w3 X9 B9 _; have VZ : Hid (Vr w3 w2.heap.size (rmc (fun _ => 0) (.slice none 0 0))) := X9; have VM : Hid (Vr w3 wr.heap.size (rmc s v)) := VM.out.below B9 (range_lt VM.out.1 (Nat.succ_pos _)); have VX : Hid (Vr w3 w1.heap.size x.cs) := VX.out.below B9 (range_lt VX.out.1 (Nat.succ_pos _)); have B2 : Hid (wr.heap.size ≤ w2.heap.size ∧ wr.heap.size < w2.heap.size ∧ w1.heap.size < w2.heap.size ∧ wr.heap.size ≤ w1.heap.size) := ⟨BB.out.size, LM.out, LX.out, L1.out⟩; have BB : Hid (Below wr.heap.size wr w3) := BB.out.trans (B9.mono BB.out.size); have nk : w3.cell? ⟨w1.heap.size, 0, none⟩ = some (.int .i64 x.k) := VX.out.cell 0 _ rfl; clear X9 B9 LM LX L1 t2; have t3 : (0 : Nat) = 0 := rfl)
    | (have qq := t1; refine box_lawC _ x.cs rfl ?_; intro w2 X9 B9 l9; have VX : Hid (Vr w2 w1.heap.size x.cs) := X9; have VM : Hid (Vr w2 wr.heap.size (rmc s v)) := VM.out.below B9 (range_lt VM.out.1 (Nat.succ_pos _)); have L1 : Hid (wr.heap.size ≤ w1.heap.size) := BB.out.size; have BB : Hid (Below wr.heap.size wr w2) := BB.out.trans (B9.mono BB.out.size); have LM : Hid (wr.heap.size < w2.heap.size) := range_lt VM.out.1 (Nat.succ_pos _); have LX : Hid (w1.heap.size < w2.heap.size) := l9; clear X9 B9 l9 t1; have t2 : (0 : Nat) = 0 := rfl)
    | (have qq := t0; refine box_lawC _ (rmc s v) rfl ?_; intro w1 X9 B9 _; have VM : Hid (Vr w1 wr.heap.size (rmc s v)) := X9; have BB : Hid (Below wr.heap.size wr w1) := B9; clear X9 B9 t0; have t1 : (0 : Nat) = 0 := rfl))
  have FR := NX.out.free LZ.out FZ.out.1 FZ.out.2
  exact bodyPost_ret (v := .tuple #[.agg (rmc s v').toArray, .bool true]) (results_cv rfl _ _ w2.heap.size _ (.bool true) rowy_rmap rfl rfl R9.out) rfl ⟨_, _, _, _, v', _, rfl, KW.out.var G9.out (Nat.le_trans HK.out.h.size B2.out.1) FR.1 FR.2, ((Nx.of_below BB.out).trans NX.out).var G9.out B2.out.1⟩
set_option maxHeartbeats 8000000 in
theorem step4c (w wr : World) (c : Nat) (d s : Nat → Nat) (f : Nat → Nat → Sp) (rb : Option Nat) (v : Value) (L : List Ce) (x : Stp) (hk : Wk w wr c d s f rb v L) (hx : x.k ≠ 1 ∧ x.k ≠ 2 ∧ x.k ≠ 3) (hpq : x.s.p = x.t) : Calls Try.prog 10 #[pt c, .agg (rmc s v).toArray, .agg x.cs.toArray] wr (Ans w wr c d s rb v) := by
  have HK : Hid (Wk w wr c d s f rb v L) := hk
  have e1 : (x.k == 1) = false := beq_eq_false_iff_ne.2 hx.1
  have e2 : (x.k == 2) = false := beq_eq_false_iff_ne.2 hx.2.1
  have e3 : (x.k == 3) = false := beq_eq_false_iff_ne.2 hx.2.2
  have f1 : decide (x.k = 1) = false := decide_eq_false hx.1
  have f2 : decide (x.k = 2) = false := decide_eq_false hx.2.1
  have f3 : decide (x.k = 3) = false := decide_eq_false hx.2.2
  have SM : Hid (∀ W, Below wr.heap.size wr W → Calls Try.prog 24 #[pt c, .agg (pc x.s.p).toArray, .agg (pc x.t).toArray, .agg x.s.o.cs.toArray] W fun e w' => e = .returned (.int .i64 0) ∧ Pm w' c d s (FF x.s.p x.t x.s.o f s 4) rb (cnt s (FF x.s.p x.t x.s.o f s 4)) ∧ Ch (Own4 c d s rb) W w') := fun W hW => move_ok c rb d s f x.s.p x.t x.s.o W (hk.m.below hW) hk.z9 (fun h => h.1 hpq)
  have eq : ∀ W : World, (Op.equalIn 10000 31 (.agg (pc x.s.p).toArray) (.agg (pc x.t).toArray)).run Try.prog W = .ok true W := fun W => (run_equal x.s.p x.t W).trans (by rw [decide_eq_true hpq])
  have gd : Try.prog.eqGuardType Try.prog.depth 31 = false := by kernel_rfl
  clear hk hx hpq
  have t0 : (0 : Nat) = 0 := rfl
  go_enter Try.func10, Try.ntmps10
  go_wp2_with (first
    | (have qq := tc; (with_reducible refine at_store ?_); refine store_lawC _ (rmc s v') w2.heap.size 0 rfl rfl VZ.out.2 size_rmap (rmc_all KW.out.l) ?_; intro w9 e9 r9 _ _; have R9 : Hid (w9.rangeAt w2.heap.size 0 (rmc s v')) := r9; have G9 : Hid (w6.grownBy w9 (some w2.heap.size)) := (by rw [e9.out]; exact (wrt_cells w6 w2.heap.size 0 5 _ rfl).1); clear e9 r9 tc)
    | (have qq := tb; go_at_call 31; refine (rmove_any s v L x.s.p x.t x.s.o _ (CL.out.below BE.out) (by have := HK.out.len; omega)).mono ?_; rintro e w6 ⟨v', rfl, l9, b9, B9⟩; have KN : Hid (Wk w w6 c d s (FF x.s.p x.t x.s.o f s 4) rb v' (L.map (mvC x.s.p x.t x.s.o)) ∧ Nx w3 w6 c d s rb v d s rb v') := wk_new (HK.out.below BB.out) (PM.out.below BE.out) (CH.out.trans (Ch.of_below BE.out)) (fun k hk => hk) B9 (HK.out.r.move x.s.p x.t x.s.o) l9 b9 (fun j _ => Nat.le_refl _); have KW : Hid (Wk w w6 c d s (FF x.s.p x.t x.s.o f s 4) rb v' (L.map (mvC x.s.p x.t x.s.o))) := KN.out.1; have NX : Hid (Nx w3 w6 c d s rb v d s rb v') := KN.out.2; have VZ : Hid (Vr w6 w2.heap.size (rmc (fun _ => 0) (.slice none 0 0))) := VZ.out.below B9 (range_lt VZ.out.1 (Nat.succ_pos _)); clear l9 b9 B9 KN tb; have tc : (0 : Nat) = 0 := rfl)
    | (have qq := tbb; refine load_law _ (by rfl) 35 (.tmp 147) rfl w1.heap.size 11 x.s.o.cs rfl rowy_hd (order_at (stp_spot VX.out.1)) ?_; clear tbb; have tb : (0 : Nat) = 0 := rfl)
    | (have qq := tba; refine load_law _ (by rfl) 31 (.tmp 144) rfl w1.heap.size 17 (pc x.t) rfl rowy_place (stp_to VX.out.1) ?_; clear tba; have tbb : (0 : Nat) = 0 := rfl)
    | (have qq := ta; refine load_law _ (by rfl) 31 (.tmp 142) rfl w1.heap.size 3 (pc x.s.p) rfl rowy_place (place_at (stp_spot VX.out.1)) ?_; clear ta; have tba : (0 : Nat) = 0 := rfl)
    | (have qq := t6b; refine load_law _ (by rfl) 28 (.tmp 4) rfl wr.heap.size 0 (rmc s v) rfl rowy_rmap VM.out.1 ?_; clear t6b; have ta : (0 : Nat) = 0 := rfl)
    | (have qq := t6a; refine load_law _ (by rfl) 31 (.tmp 127) rfl w1.heap.size 17 (pc x.t) rfl rowy_place (stp_to VX.out.1) ?_; clear t6a; have t6b : (0 : Nat) = 0 := rfl)
    | (have qq := t5; refine load_law _ (by rfl) 31 (.tmp 125) rfl w1.heap.size 3 (pc x.s.p) rfl rowy_place (place_at (stp_spot VX.out.1)) ?_; clear t5; have t6a : (0 : Nat) = 0 := rfl)
    | (have qq := t4; go_at_call 24; refine (SM.out _ BB.out).mono ?_; rintro e w4 ⟨rfl, p9, c9⟩; have FZ : Hid (¬ Own4 c d s rb w2.heap.size ∧ ¬ Blk v w2.heap.size) := HK.out.fresh B2.out.1; have FM : Hid (¬ Own4 c d s rb wr.heap.size ∧ ¬ Blk v wr.heap.size) := HK.out.fresh (Nat.le_refl _); have FX : Hid (¬ Own4 c d s rb w1.heap.size ∧ ¬ Blk v w1.heap.size) := HK.out.fresh B2.out.2.2.2; have LZ : Hid (w2.heap.size < w3.heap.size) := range_lt VZ.out.1 (Nat.succ_pos _); have PM : Hid (Pm w4 c d s (FF x.s.p x.t x.s.o f s 4) rb (cnt s (FF x.s.p x.t x.s.o f s 4))) := p9; have CH : Hid (Ch (Own4 c d s rb) w3 w4) := c9; have CL : Hid (Cl w4 v L) := (HK.out.below BB.out).l.ch CH.out HK.out.dis; have VZ : Hid (Vr w4 w2.heap.size (rmc (fun _ => 0) (.slice none 0 0))) := VZ.out.heap (CH.out.block _ (range_lt VZ.out.1 (Nat.succ_pos _)) FZ.out.1); have VM : Hid (Vr w4 wr.heap.size (rmc s v)) := VM.out.heap (CH.out.block _ (range_lt VM.out.1 (Nat.succ_pos _)) FM.out.1); have VX : Hid (Vr w4 w1.heap.size x.cs) := VX.out.heap (CH.out.block _ (range_lt VX.out.1 (Nat.succ_pos _)) FX.out.1); have BE : Hid (Below w4.heap.size w4 w4) := Below.refl _ _; clear nk p9 c9 t4; have t5 : (0 : Nat) = 0 := rfl)
    | (have qq := t4b; refine load_law _ (by rfl) 35 (.tmp 121) rfl w1.heap.size 11 x.s.o.cs rfl rowy_hd (order_at (stp_spot VX.out.1)) ?_; clear t4b; have t4 : (0 : Nat) = 0 := rfl)
    | (have qq := t4a; refine load_law _ (by rfl) 31 (.tmp 118) rfl w1.heap.size 17 (pc x.t) rfl rowy_place (stp_to VX.out.1) ?_; clear t4a; have t4b : (0 : Nat) = 0 := rfl)
    | (have qq := t3; refine load_law _ (by rfl) 31 (.tmp 116) rfl w1.heap.size 3 (pc x.s.p) rfl rowy_place (place_at (stp_spot VX.out.1)) ?_; clear t3; have t4a : (0 : Nat) = 0 := rfl)
    | (have qq := t2; (with_reducible refine at_alloc ?_); refine new_lawC _ _ zero_rmap ?_; intro w3 X9 B9 _; have VZ : Hid (Vr w3 w2.heap.size (rmc (fun _ => 0) (.slice none 0 0))) := X9; have VM : Hid (Vr w3 wr.heap.size (rmc s v)) := VM.out.below B9 (range_lt VM.out.1 (Nat.succ_pos _)); have VX : Hid (Vr w3 w1.heap.size x.cs) := VX.out.below B9 (range_lt VX.out.1 (Nat.succ_pos _)); have B2 : Hid (wr.heap.size ≤ w2.heap.size ∧ wr.heap.size < w2.heap.size ∧ w1.heap.size < w2.heap.size ∧ wr.heap.size ≤ w1.heap.size) := ⟨BB.out.size, LM.out, LX.out, L1.out⟩; have BB : Hid (Below wr.heap.size wr w3) := BB.out.trans (B9.mono BB.out.size); have nk : w3.cell? ⟨w1.heap.size, 0, none⟩ = some (.int .i64 x.k) := VX.out.cell 0 _ rfl; clear X9 B9 LM LX L1 t2; have t3 : (0 : Nat) = 0 := rfl)
    | (have qq := t1; refine box_lawC _ x.cs rfl ?_; intro w2 X9 B9 l9; have VX : Hid (Vr w2 w1.heap.size x.cs) := X9; have VM : Hid (Vr w2 wr.heap.size (rmc s v)) := VM.out.below B9 (range_lt VM.out.1 (Nat.succ_pos _)); have L1 : Hid (wr.heap.size ≤ w1.heap.size) := BB.out.size; have BB : Hid (Below wr.heap.size wr w2) := BB.out.trans (B9.mono BB.out.size); have LM : Hid (wr.heap.size < w2.heap.size) := range_lt VM.out.1 (Nat.succ_pos _); have LX : Hid (w1.heap.size < w2.heap.size) := l9; clear X9 B9 l9 t1; have t2 : (0 : Nat) = 0 := rfl)
    | (have qq := t0; refine box_lawC _ (rmc s v) rfl ?_; intro w1 X9 B9 _; have VM : Hid (Vr w1 wr.heap.size (rmc s v)) := X9; have BB : Hid (Below wr.heap.size wr w1) := B9; clear X9 B9 t0; have t1 : (0 : Nat) = 0 := rfl))
  have FR := NX.out.free LZ.out FZ.out.1 FZ.out.2
  exact bodyPost_ret (v := .tuple #[.agg (rmc s v').toArray, .bool true]) (results_cv rfl _ _ w2.heap.size _ (.bool true) rowy_rmap rfl rfl R9.out) rfl ⟨_, _, _, _, v', _, rfl, KW.out.var G9.out (Nat.le_trans HK.out.h.size B2.out.1) FR.1 FR.2, ((Nx.of_below BB.out).trans NX.out).var G9.out B2.out.1⟩
theorem step_any (w wr : World) (c : Nat) (d s : Nat → Nat) (f : Nat → Nat → Sp) (rb : Option Nat) (v : Value) (L : List Ce) (x : Stp) (hk : Wk w wr c d s f rb v L) (hz : x.z ≤ 40 ∨ 65535 < x.z) (ho : Hok x.s.h) : Calls Try.prog 10 #[pt c, .agg (rmc s v).toArray, .agg x.cs.toArray] wr (Ans w wr c d s rb v) := by
  by_cases h1 : x.k = 1
  · exact step1 w wr c d s f rb v L x hk h1 hz
  by_cases h2 : x.k = 2
  · by_cases n1 : x.n < 0
    · exact step2a w wr c d s f rb v L x hk h2 n1
    by_cases n2 : x.n > 3
    · exact step2b w wr c d s f rb v L x hk h2 n2
    obtain ⟨i, hi⟩ : ∃ i : Nat, x.n = (i : Int) := ⟨x.n.toNat, by omega⟩
    by_cases hs : s i = 0
    · exact step2c w wr c d s f rb v L x hk h2 i hi (by omega) hs
    · obtain ⟨b, rfl⟩ := hk.m.rbs (i := i) (by omega) (by omega)
      exact step2d w wr c d s f b v L x hk i h2 hi (by omega) (by omega)
  by_cases h3 : x.k = 3
  · by_cases hr : Rgt s x.s.h
    · obtain ⟨g1, g2, g3, g4⟩ := hr
      obtain ⟨q1, q2, q3⟩ := szn_pos (s := s) (n := x.s.h.n) (by omega)
      obtain ⟨b, rfl⟩ := hk.m.rbs (i := x.s.h.n.toNat) (by omega) (by omega)
      exact step3b w wr c d s f b v L x hk x.s.h.n.toNat x.s.h.l.toNat x.s.h.c.toNat h3 ho ⟨g1, g2, g3, g4⟩ (by omega) (by omega) (by have := ho.1; omega) (by omega) (by omega) (by have := ho.1; omega)
    · exact step3a w wr c d s f rb v L x hk h3 ho hr
  by_cases hp : x.s.p = x.t
  · exact step4c w wr c d s f rb v L x hk ⟨h1, h2, h3⟩ hp
  by_cases hq : 0 < cnt s f x.t
  · exact step4a w wr c d s f rb v L x hk ⟨h1, h2, h3⟩ hp hq
  · exact step4b w wr c d s f rb v L x hk ⟨h1, h2, h3⟩ hp hq
end Go.Proofs.Ytedmmpognhpbdaa.pm
