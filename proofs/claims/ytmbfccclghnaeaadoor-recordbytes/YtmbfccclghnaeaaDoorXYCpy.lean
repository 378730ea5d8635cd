/- What record's Copy answers. No claim of its own. -/
import Derived.Test.YtmbfccclghnaeaaDoorPackI
namespace Go.Proofs.YtmbfccclghnaeaaDoor.re
open Go.RowKit Go.Proofs.YtmbfccclghnaeaaDoor.fa Go.Proofs.YtmbfccclghnaeaaDoor.he Go.Proofs.YtmbfccclghnaeaaDoor.so
set_option maxRecDepth 20000

/-- a load at a world that is known, in a region that draws its order -/
theorem step_loadV {ops : Array Oper} {o : Oper} {a : Act} {Q : Exit → Act → World → Prop} {K : Act → World → Prop} {E : Prop} (w : World) (hw : Region.wanted o (yielded ops a.tmps) = true) (d : Option Tmp) (hd : o.dst = d) (t : TypeId) (x : Operand) (hop : o.op = Op.load t x) (p v : Value) (hx : a.eval x = p) (hr : (Instr.loadAt t p).run Tryd.prog w = .ok v w) (hK : K (a.put d v) w) : if Region.wanted o (yielded ops a.tmps) = true then Oper.wp Tryd.prog o a w K Q else E := by
  rw [if_pos hw]
  subst hd
  unfold Oper.wp execOp
  simp only [hop, hx, Sem.run_bind, Sem.run_pure, Result.andThen_ok, hr]
  exact hK
theorem scopy (s : Sc) (w : World) (h : Byt w s.v s.xs) (hl : s.xs.length ≤ 140737488355328) : Calls Tryd.prog 32 #[.agg s.cs.toArray] w fun x w' => ∃ r : Sc, x = .returned (.agg r.cs.toArray) ∧ r.d = s.d ∧ Bow w.heap.size w' r.v r.xs ∧ Below w.heap.size w w' :=
  (so.copy_any s.u s.n s.e s.t s.v s.xs w h hl).mono fun _ _ ⟨co, cc, e, y, hb⟩ => ⟨⟨s.u, s.n, s.e, s.t, .slice co s.xs.length cc, s.xs⟩, e, rfl, y, hb⟩

set_option maxHeartbeats 8000000 in
theorem copy_any (g p b : Int) (a c : Value) (al cl : List Int) (S : Nat → Sc) (w : World) (hR : Rin w g p b a c al cl S) (h1 : al.length ≤ 1000000) (h2 : cl.length ≤ 1000000) (h3 : ∀ k, k < 4 → (S k).xs.length ≤ 1000000) :
    Calls Tryd.prog 10 #[.agg (rv g p a b c S).toArray] w fun x w' => ∃ so sc ko kc T, x = .returned (.agg (rv g p (.slice so al.length sc) b (.slice ko cl.length kc) T).toArray) ∧ Bow w.heap.size w' (.slice so al.length sc) al ∧ Bow w.heap.size w' (.slice ko cl.length kc) cl ∧ (∀ k, k < 4 → (T k).d = (S k).d ∧ Bow w.heap.size w' (T k).v (T k).xs) ∧ Below w.heap.size w w' := by
  have SC : Hid (∀ k, k < 4 → ∀ w0, Below w.heap.size w w0 → Calls Tryd.prog 32 #[.agg (S k).cs.toArray] w0 fun x w' => ∃ r : Sc, x = .returned (.agg r.cs.toArray) ∧ r.d = (S k).d ∧ Bow w0.heap.size w' r.v r.xs ∧ Below w0.heap.size w0 w') := fun k hk w0 q => scopy (S k) w0 ((hR.2.2.2 k hk).2.below q) (Nat.le_trans (h3 k hk) (by decide))
  have RI : Hid (Rin w g p b a c al cl S) := hR
  have HA : Hid (Byt w a al) := hR.2.1
  have HC : Hid (Byt w c cl) := hR.2.2.1
  have LNYS : Hid (al.length ≤ 140737488355328) := Nat.le_trans h1 (by decide)
  have LNYK : Hid (cl.length ≤ 140737488355328) := Nat.le_trans h2 (by decide)
  have HS1 : Hid (∀ k, k < 4 → Slc (S k).v) := hR.slc
  obtain ⟨ao, ca, rfl⟩ := form hR.2.1
  obtain ⟨co, cc, rfl⟩ := form hR.2.2.1
  clear hR h1 h2 h3
  have t0 : (0 : Nat) = 0 := rfl
  go_enter Tryd.func10, Tryd.ntmps10
  go_wp2_with (first
    | (have q1 := t1; (with_reducible refine at_alloc ?_); refine new_lawN _ rv0 zero_record rv0_nob ?_; intro w2 X9 N9 B9; have LT_HB_HR : Hid (w.heap.size < w1.heap.size) := range_lt HB.out.1 (Nat.succ_pos _); have LE_HR : Hid (w.heap.size ≤ w1.heap.size) := BB.out.size; have NB_HB : Hid (NoB w2 w.heap.size) := NB_HB.out.heap (B9.block _ (range_lt HB.out.1 (Nat.succ_pos _))); have HB : Hid (Vr w2 w.heap.size (rv g p (.slice ao al.length ca) b (.slice co cl.length cc) S)) := HB.out.below B9 (range_lt HB.out.1 (Nat.succ_pos _)); have HR : Hid (Vr w2 w1.heap.size rv0) := X9; have NB_HR : Hid (NoB w2 w1.heap.size) := N9; have BB : Hid (Below w.heap.size w w2) := BB.out.trans (B9.mono BB.out.size); clear X9 N9 B9; clear t1; have t2 : (1 : Nat) = 1 := rfl)
    | (have q0 := t0; refine box_lawN _ (rv g p (.slice ao al.length ca) b (.slice co cl.length cc) S) rfl RI.out.nob ?_; intro w1 X9 N9 B9; have LE_HB : Hid (w.heap.size ≤ w.heap.size) := Nat.le_refl _; have HB : Hid (Vr w1 w.heap.size (rv g p (.slice ao al.length ca) b (.slice co cl.length cc) S)) := X9; have NB_HB : Hid (NoB w1 w.heap.size) := N9; have BB : Hid (Below w.heap.size w w1) := B9; clear X9 N9 B9; clear t0; have t1 : (1 : Nat) = 1 := rfl))
  go_cut [1] (fun r1 wc => ∃ (so : Option Addr) (sc : Nat) (ko : Option Addr) (kc : Nat), r1 = .pointer (some ⟨w.heap.size, 0, none⟩) ∧ Vr wc w.heap.size (rv g p (.slice so al.length sc) b (.slice ko cl.length kc) S) ∧ NoB wc w.heap.size ∧ Vr wc w1.heap.size rv0 ∧ NoB wc w1.heap.size ∧ Bow w.heap.size wc (.slice so al.length sc) al ∧ Bow w.heap.size wc (.slice ko cl.length kc) cl ∧ Below w.heap.size w wc)
  case first =>
    have HB : Hid (Vr w2.drew w.heap.size (rv g p (.slice ao al.length ca) b (.slice co cl.length cc) S)) := HB.out.drewN 1
    have NB_HB : Hid (NoB w2.drew w.heap.size) := NB_HB.out.heap rfl
    have HR : Hid (Vr w2.drew w1.heap.size rv0) := HR.out.drewN 1
    have NB_HR : Hid (NoB w2.drew w1.heap.size) := NB_HR.out.heap rfl
    refine wp_region_held_drew (S := fun w' => Below w.heap.size w w') (by kernel_rfl) BB.out.drew (fun hS => ?_)
    obtain ⟨x1, hx0⟩ : ∃ x, x = w2.drew := ⟨_, rfl⟩
    rw [← hx0] at hS HB NB_HB HR NB_HR ⊢
    clear hx0
    refine take_lawH 0 (some 5) (.pointer (some ⟨w.heap.size, 2, none⟩)) rfl rfl (by kernel_rfl) (by kernel_rfl) (by kernel_rfl) (fun _ _ _ h => h) (Or.inl ⟨by rfl, fun w' hw' => by go_simp⟩) hS ?_
    simp only [Act.put, List.setIfInBounds_toArray, List.set_cons_zero, List.set_cons_succ]
    refine take_lawH 3 (some 8) (.pointer (some ⟨w.heap.size, 4, none⟩)) rfl rfl (by kernel_rfl) (by kernel_rfl) (by kernel_rfl) (fun _ _ _ h => h) (Or.inl ⟨by rfl, fun w' hw' => by go_simp⟩) hS ?_
    simp only [Act.put, List.setIfInBounds_toArray, List.set_cons_zero, List.set_cons_succ]
    refine wpAnyH_ready (rs := [1, 4]) (by kernel_rfl) (by simp) ?_
    refine AllReadyH.cons rfl (fun K hK => ?_) (AllReadyH.cons rfl (fun K hK => ?_) AllReadyH.nil)
    · refine step_loadV _ (by rfl) (some 6) rfl 23 (.tmp 5) rfl _ (.slice ao al.length ca) rfl (load_one one_bytes (HB.out.cell 2 _ rfl)) ?_
      refine hK.out _ _ hS (fun _ => ?_)
      simp only [Act.put, List.setIfInBounds_toArray, List.set_cons_zero, List.set_cons_succ]
      clear hK K
      refine wpAnyH_ready (rs := [2, 4]) (by kernel_rfl) (by simp) ?_
      refine AllReadyH.cons rfl (fun K hK => ?_) (AllReadyH.cons rfl (fun K hK => ?_) AllReadyH.nil)
      · refine he.step_callW _ (by rfl) (some 7) rfl 31 #[.tmp 6] #[23] rfl (fun q w' => by rfl) #[.slice ao al.length ca] (by simp only [List.map_toArray, List.map_cons, List.map_nil]; rfl) (fun z9 w' => (∃ yo yc, z9 = .slice yo al.length yc ∧ Bow w.heap.size w' (.slice yo al.length yc) al) ∧ Below x1.heap.size x1 w') ?_ ?_
        · exact (bclone_any _ _ x1 (HA.out.below hS) LNYS.out).mono fun e w' ⟨z, h1, h2, h3⟩ => (by obtain ⟨yo, yc, rfl⟩ := form h2.1; exact ⟨_, h1, ⟨yo, yc, rfl, h2.mono hS.size⟩, h3⟩)
        rintro _ x2 ⟨⟨so, sc, rfl, y9⟩, hb⟩
        have NB_HB : Hid (NoB x2 w.heap.size) := NB_HB.out.heap (hb.block _ (range_lt HB.out.1 (Nat.succ_pos _)))
        have HB : Hid (Vr x2 w.heap.size (rv g p (.slice ao al.length ca) b (.slice co cl.length cc) S)) := HB.out.below hb (range_lt HB.out.1 (Nat.succ_pos _))
        have NB_HR : Hid (NoB x2 w1.heap.size) := NB_HR.out.heap (hb.block _ (range_lt HR.out.1 (Nat.succ_pos _)))
        have HR : Hid (Vr x2 w1.heap.size rv0) := HR.out.below hb (range_lt HR.out.1 (Nat.succ_pos _))
        have YS : Hid (Bow w.heap.size x2 (.slice so al.length sc) al) := y9
        clear y9
        have hS : Below w.heap.size w x2 := hS.trans (hb.mono hS.size)
        clear hb
        refine hK.out _ _ hS (fun _ => ?_)
        simp only [Act.put, List.setIfInBounds_toArray, List.set_cons_zero, List.set_cons_succ]
        clear hK K
        refine wpAnyH_ready (rs := [4]) (by kernel_rfl) (by simp) ?_
        refine AllReadyH.cons rfl (fun K hK => ?_) AllReadyH.nil
        refine step_loadV _ (by rfl) (some 9) rfl 23 (.tmp 8) rfl _ (.slice co cl.length cc) rfl (load_one one_bytes (HB.out.cell 4 _ rfl)) ?_
        refine hK.out _ _ hS (fun _ => ?_)
        simp only [Act.put, List.setIfInBounds_toArray, List.set_cons_zero, List.set_cons_succ]
        clear hK K
        refine take_lawH 6 (some 11) (.pointer (some ⟨w.heap.size, 2, none⟩)) rfl rfl (by kernel_rfl) (by kernel_rfl) (by kernel_rfl) (fun _ _ _ h => h) (Or.inl ⟨by rfl, fun w' hw' => by go_simp⟩) hS ?_
        simp only [Act.put, List.setIfInBounds_toArray, List.set_cons_zero, List.set_cons_succ]
        refine wpAnyH_ready (rs := [5]) (by kernel_rfl) (by simp) ?_
        refine AllReadyH.cons rfl (fun K hK => ?_) AllReadyH.nil
        refine he.step_callW _ (by rfl) (some 10) rfl 31 #[.tmp 9] #[23] rfl (fun q w' => by rfl) #[.slice co cl.length cc] (by simp only [List.map_toArray, List.map_cons, List.map_nil]; rfl) (fun z9 w' => (∃ yo yc, z9 = .slice yo cl.length yc ∧ Bow w.heap.size w' (.slice yo cl.length yc) cl) ∧ Below x2.heap.size x2 w') ?_ ?_
        · exact (bclone_any _ _ x2 (HC.out.below hS) LNYK.out).mono fun e w' ⟨z, h1, h2, h3⟩ => (by obtain ⟨yo, yc, rfl⟩ := form h2.1; exact ⟨_, h1, ⟨yo, yc, rfl, h2.mono hS.size⟩, h3⟩)
        rintro _ x3 ⟨⟨ko, kc, rfl, y9⟩, hb⟩
        have NB_HB : Hid (NoB x3 w.heap.size) := NB_HB.out.heap (hb.block _ (range_lt HB.out.1 (Nat.succ_pos _)))
        have HB : Hid (Vr x3 w.heap.size (rv g p (.slice ao al.length ca) b (.slice co cl.length cc) S)) := HB.out.below hb (range_lt HB.out.1 (Nat.succ_pos _))
        have NB_HR : Hid (NoB x3 w1.heap.size) := NB_HR.out.heap (hb.block _ (range_lt HR.out.1 (Nat.succ_pos _)))
        have HR : Hid (Vr x3 w1.heap.size rv0) := HR.out.below hb (range_lt HR.out.1 (Nat.succ_pos _))
        have YS : Hid (Bow w.heap.size x3 (.slice so al.length sc) al) := YS.out.below hb
        have YK : Hid (Bow w.heap.size x3 (.slice ko cl.length kc) cl) := y9
        clear y9
        have hS : Below w.heap.size w x3 := hS.trans (hb.mono hS.size)
        clear hb
        refine hK.out _ _ hS (fun _ => ?_)
        simp only [Act.put, List.setIfInBounds_toArray, List.set_cons_zero, List.set_cons_succ]
        clear hK K
        refine wpAnyH_ready (rs := [7]) (by kernel_rfl) (by simp) ?_
        refine AllReadyH.cons rfl (fun K hK => ?_) AllReadyH.nil
        refine step_setC _ rfl none rfl (.tmp 11) (.tmp 7) 23 rfl (rv g p (.slice ao al.length ca) b (.slice co cl.length cc) S) w.heap.size 2 (.slice so al.length sc) rfl rfl HB.out NB_HB.out (show (2 : Nat) < 25 by decide) (slc_sl _ _ _) size_bytes ?_
        intro x4 v9 n9 B9 E9
        have NB_HR : Hid (NoB x4 w1.heap.size) := NB_HR.out.heap (E9 _ (Nat.ne_of_gt LT_HB_HR.out))
        have HR : Hid (Vr x4 w1.heap.size rv0) := HR.out.heap (E9 _ (Nat.ne_of_gt LT_HB_HR.out))
        have YS : Hid (Bow w.heap.size x4 (.slice so al.length sc) al) := bow_nob YS.out NB_HB.out E9
        have YK : Hid (Bow w.heap.size x4 (.slice ko cl.length kc) cl) := bow_nob YK.out NB_HB.out E9
        have HB : Hid (Vr x4 w.heap.size (rv g p (.slice so al.length sc) b (.slice co cl.length cc) S)) := v9
        have NB_HB : Hid (NoB x4 w.heap.size) := n9
        have hS : Below w.heap.size w x4 := hS.trans B9
        clear v9 n9 B9 E9
        refine hK.out _ _ hS (fun _ => ?_)
        simp only [Act.put]
        clear hK K
        refine take_lawH 8 (some 12) (.pointer (some ⟨w.heap.size, 4, none⟩)) rfl rfl (by kernel_rfl) (by kernel_rfl) (by kernel_rfl) (fun _ _ _ h => h) (Or.inl ⟨by rfl, fun w' hw' => by go_simp⟩) hS ?_
        simp only [Act.put, List.setIfInBounds_toArray, List.set_cons_zero, List.set_cons_succ]
        refine wpAnyH_ready (rs := [9]) (by kernel_rfl) (by simp) ?_
        refine AllReadyH.cons rfl (fun K hK => ?_) AllReadyH.nil
        refine step_setC _ rfl none rfl (.tmp 12) (.tmp 10) 23 rfl (rv g p (.slice so al.length sc) b (.slice co cl.length cc) S) w.heap.size 4 (.slice ko cl.length kc) rfl rfl HB.out NB_HB.out (show (4 : Nat) < 25 by decide) (slc_sl _ _ _) size_bytes ?_
        intro x5 v9 n9 B9 E9
        have NB_HR : Hid (NoB x5 w1.heap.size) := NB_HR.out.heap (E9 _ (Nat.ne_of_gt LT_HB_HR.out))
        have HR : Hid (Vr x5 w1.heap.size rv0) := HR.out.heap (E9 _ (Nat.ne_of_gt LT_HB_HR.out))
        have YS : Hid (Bow w.heap.size x5 (.slice so al.length sc) al) := bow_nob YS.out NB_HB.out E9
        have YK : Hid (Bow w.heap.size x5 (.slice ko cl.length kc) cl) := bow_nob YK.out NB_HB.out E9
        have HB : Hid (Vr x5 w.heap.size (rv g p (.slice so al.length sc) b (.slice ko cl.length kc) S)) := v9
        have NB_HB : Hid (NoB x5 w.heap.size) := n9
        have hS : Below w.heap.size w x5 := hS.trans B9
        clear v9 n9 B9 E9
        refine hK.out _ _ hS (fun _ => ?_)
        simp only [Act.put]
        clear hK K
        refine wpAnyH_done (by kernel_rfl) ?_ _
        go_wp2_with fail
        go_meet
        exact ⟨so, sc, ko, kc, rfl, HB.out, NB_HB.out, HR.out, NB_HR.out, YS.out, YK.out, hS⟩
      · refine step_loadV _ (by rfl) (some 9) rfl 23 (.tmp 8) rfl _ (.slice co cl.length cc) rfl (load_one one_bytes (HB.out.cell 4 _ rfl)) ?_
        refine hK.out _ _ hS (fun _ => ?_)
        simp only [Act.put, List.setIfInBounds_toArray, List.set_cons_zero, List.set_cons_succ]
        clear hK K
        refine wpAnyH_ready (rs := [2]) (by kernel_rfl) (by simp) ?_
        refine AllReadyH.cons rfl (fun K hK => ?_) AllReadyH.nil
        refine he.step_callW _ (by rfl) (some 7) rfl 31 #[.tmp 6] #[23] rfl (fun q w' => by rfl) #[.slice ao al.length ca] (by simp only [List.map_toArray, List.map_cons, List.map_nil]; rfl) (fun z9 w' => (∃ yo yc, z9 = .slice yo al.length yc ∧ Bow w.heap.size w' (.slice yo al.length yc) al) ∧ Below x1.heap.size x1 w') ?_ ?_
        · exact (bclone_any _ _ x1 (HA.out.below hS) LNYS.out).mono fun e w' ⟨z, h1, h2, h3⟩ => (by obtain ⟨yo, yc, rfl⟩ := form h2.1; exact ⟨_, h1, ⟨yo, yc, rfl, h2.mono hS.size⟩, h3⟩)
        rintro _ x6 ⟨⟨so, sc, rfl, y9⟩, hb⟩
        have NB_HB : Hid (NoB x6 w.heap.size) := NB_HB.out.heap (hb.block _ (range_lt HB.out.1 (Nat.succ_pos _)))
        have HB : Hid (Vr x6 w.heap.size (rv g p (.slice ao al.length ca) b (.slice co cl.length cc) S)) := HB.out.below hb (range_lt HB.out.1 (Nat.succ_pos _))
        have NB_HR : Hid (NoB x6 w1.heap.size) := NB_HR.out.heap (hb.block _ (range_lt HR.out.1 (Nat.succ_pos _)))
        have HR : Hid (Vr x6 w1.heap.size rv0) := HR.out.below hb (range_lt HR.out.1 (Nat.succ_pos _))
        have YS : Hid (Bow w.heap.size x6 (.slice so al.length sc) al) := y9
        clear y9
        have hS : Below w.heap.size w x6 := hS.trans (hb.mono hS.size)
        clear hb
        refine hK.out _ _ hS (fun _ => ?_)
        simp only [Act.put, List.setIfInBounds_toArray, List.set_cons_zero, List.set_cons_succ]
        clear hK K
        refine take_lawH 6 (some 11) (.pointer (some ⟨w.heap.size, 2, none⟩)) rfl rfl (by kernel_rfl) (by kernel_rfl) (by kernel_rfl) (fun _ _ _ h => h) (Or.inl ⟨by rfl, fun w' hw' => by go_simp⟩) hS ?_
        simp only [Act.put, List.setIfInBounds_toArray, List.set_cons_zero, List.set_cons_succ]
        refine wpAnyH_ready (rs := [5]) (by kernel_rfl) (by simp) ?_
        refine AllReadyH.cons rfl (fun K hK => ?_) AllReadyH.nil
        refine he.step_callW _ (by rfl) (some 10) rfl 31 #[.tmp 9] #[23] rfl (fun q w' => by rfl) #[.slice co cl.length cc] (by simp only [List.map_toArray, List.map_cons, List.map_nil]; rfl) (fun z9 w' => (∃ yo yc, z9 = .slice yo cl.length yc ∧ Bow w.heap.size w' (.slice yo cl.length yc) cl) ∧ Below x6.heap.size x6 w') ?_ ?_
        · exact (bclone_any _ _ x6 (HC.out.below hS) LNYK.out).mono fun e w' ⟨z, h1, h2, h3⟩ => (by obtain ⟨yo, yc, rfl⟩ := form h2.1; exact ⟨_, h1, ⟨yo, yc, rfl, h2.mono hS.size⟩, h3⟩)
        rintro _ x7 ⟨⟨ko, kc, rfl, y9⟩, hb⟩
        have NB_HB : Hid (NoB x7 w.heap.size) := NB_HB.out.heap (hb.block _ (range_lt HB.out.1 (Nat.succ_pos _)))
        have HB : Hid (Vr x7 w.heap.size (rv g p (.slice ao al.length ca) b (.slice co cl.length cc) S)) := HB.out.below hb (range_lt HB.out.1 (Nat.succ_pos _))
        have NB_HR : Hid (NoB x7 w1.heap.size) := NB_HR.out.heap (hb.block _ (range_lt HR.out.1 (Nat.succ_pos _)))
        have HR : Hid (Vr x7 w1.heap.size rv0) := HR.out.below hb (range_lt HR.out.1 (Nat.succ_pos _))
        have YS : Hid (Bow w.heap.size x7 (.slice so al.length sc) al) := YS.out.below hb
        have YK : Hid (Bow w.heap.size x7 (.slice ko cl.length kc) cl) := y9
        clear y9
        have hS : Below w.heap.size w x7 := hS.trans (hb.mono hS.size)
        clear hb
        refine hK.out _ _ hS (fun _ => ?_)
        simp only [Act.put, List.setIfInBounds_toArray, List.set_cons_zero, List.set_cons_succ]
        clear hK K
        refine wpAnyH_ready (rs := [7]) (by kernel_rfl) (by simp) ?_
        refine AllReadyH.cons rfl (fun K hK => ?_) AllReadyH.nil
        refine step_setC _ rfl none rfl (.tmp 11) (.tmp 7) 23 rfl (rv g p (.slice ao al.length ca) b (.slice co cl.length cc) S) w.heap.size 2 (.slice so al.length sc) rfl rfl HB.out NB_HB.out (show (2 : Nat) < 25 by decide) (slc_sl _ _ _) size_bytes ?_
        intro x8 v9 n9 B9 E9
        have NB_HR : Hid (NoB x8 w1.heap.size) := NB_HR.out.heap (E9 _ (Nat.ne_of_gt LT_HB_HR.out))
        have HR : Hid (Vr x8 w1.heap.size rv0) := HR.out.heap (E9 _ (Nat.ne_of_gt LT_HB_HR.out))
        have YS : Hid (Bow w.heap.size x8 (.slice so al.length sc) al) := bow_nob YS.out NB_HB.out E9
        have YK : Hid (Bow w.heap.size x8 (.slice ko cl.length kc) cl) := bow_nob YK.out NB_HB.out E9
        have HB : Hid (Vr x8 w.heap.size (rv g p (.slice so al.length sc) b (.slice co cl.length cc) S)) := v9
        have NB_HB : Hid (NoB x8 w.heap.size) := n9
        have hS : Below w.heap.size w x8 := hS.trans B9
        clear v9 n9 B9 E9
        refine hK.out _ _ hS (fun _ => ?_)
        simp only [Act.put]
        clear hK K
        refine take_lawH 8 (some 12) (.pointer (some ⟨w.heap.size, 4, none⟩)) rfl rfl (by kernel_rfl) (by kernel_rfl) (by kernel_rfl) (fun _ _ _ h => h) (Or.inl ⟨by rfl, fun w' hw' => by go_simp⟩) hS ?_
        simp only [Act.put, List.setIfInBounds_toArray, List.set_cons_zero, List.set_cons_succ]
        refine wpAnyH_ready (rs := [9]) (by kernel_rfl) (by simp) ?_
        refine AllReadyH.cons rfl (fun K hK => ?_) AllReadyH.nil
        refine step_setC _ rfl none rfl (.tmp 12) (.tmp 10) 23 rfl (rv g p (.slice so al.length sc) b (.slice co cl.length cc) S) w.heap.size 4 (.slice ko cl.length kc) rfl rfl HB.out NB_HB.out (show (4 : Nat) < 25 by decide) (slc_sl _ _ _) size_bytes ?_
        intro x9 v9 n9 B9 E9
        have NB_HR : Hid (NoB x9 w1.heap.size) := NB_HR.out.heap (E9 _ (Nat.ne_of_gt LT_HB_HR.out))
        have HR : Hid (Vr x9 w1.heap.size rv0) := HR.out.heap (E9 _ (Nat.ne_of_gt LT_HB_HR.out))
        have YS : Hid (Bow w.heap.size x9 (.slice so al.length sc) al) := bow_nob YS.out NB_HB.out E9
        have YK : Hid (Bow w.heap.size x9 (.slice ko cl.length kc) cl) := bow_nob YK.out NB_HB.out E9
        have HB : Hid (Vr x9 w.heap.size (rv g p (.slice so al.length sc) b (.slice ko cl.length kc) S)) := v9
        have NB_HB : Hid (NoB x9 w.heap.size) := n9
        have hS : Below w.heap.size w x9 := hS.trans B9
        clear v9 n9 B9 E9
        refine hK.out _ _ hS (fun _ => ?_)
        simp only [Act.put]
        clear hK K
        refine wpAnyH_done (by kernel_rfl) ?_ _
        go_wp2_with fail
        go_meet
        exact ⟨so, sc, ko, kc, rfl, HB.out, NB_HB.out, HR.out, NB_HR.out, YS.out, YK.out, hS⟩
    · refine step_loadV _ (by rfl) (some 9) rfl 23 (.tmp 8) rfl _ (.slice co cl.length cc) rfl (load_one one_bytes (HB.out.cell 4 _ rfl)) ?_
      refine hK.out _ _ hS (fun _ => ?_)
      simp only [Act.put, List.setIfInBounds_toArray, List.set_cons_zero, List.set_cons_succ]
      clear hK K
      refine wpAnyH_ready (rs := [1]) (by kernel_rfl) (by simp) ?_
      refine AllReadyH.cons rfl (fun K hK => ?_) AllReadyH.nil
      refine step_loadV _ (by rfl) (some 6) rfl 23 (.tmp 5) rfl _ (.slice ao al.length ca) rfl (load_one one_bytes (HB.out.cell 2 _ rfl)) ?_
      refine hK.out _ _ hS (fun _ => ?_)
      simp only [Act.put, List.setIfInBounds_toArray, List.set_cons_zero, List.set_cons_succ]
      clear hK K
      refine wpAnyH_ready (rs := [2]) (by kernel_rfl) (by simp) ?_
      refine AllReadyH.cons rfl (fun K hK => ?_) AllReadyH.nil
      refine he.step_callW _ (by rfl) (some 7) rfl 31 #[.tmp 6] #[23] rfl (fun q w' => by rfl) #[.slice ao al.length ca] (by simp only [List.map_toArray, List.map_cons, List.map_nil]; rfl) (fun z9 w' => (∃ yo yc, z9 = .slice yo al.length yc ∧ Bow w.heap.size w' (.slice yo al.length yc) al) ∧ Below x1.heap.size x1 w') ?_ ?_
      · exact (bclone_any _ _ x1 (HA.out.below hS) LNYS.out).mono fun e w' ⟨z, h1, h2, h3⟩ => (by obtain ⟨yo, yc, rfl⟩ := form h2.1; exact ⟨_, h1, ⟨yo, yc, rfl, h2.mono hS.size⟩, h3⟩)
      rintro _ x10 ⟨⟨so, sc, rfl, y9⟩, hb⟩
      have NB_HB : Hid (NoB x10 w.heap.size) := NB_HB.out.heap (hb.block _ (range_lt HB.out.1 (Nat.succ_pos _)))
      have HB : Hid (Vr x10 w.heap.size (rv g p (.slice ao al.length ca) b (.slice co cl.length cc) S)) := HB.out.below hb (range_lt HB.out.1 (Nat.succ_pos _))
      have NB_HR : Hid (NoB x10 w1.heap.size) := NB_HR.out.heap (hb.block _ (range_lt HR.out.1 (Nat.succ_pos _)))
      have HR : Hid (Vr x10 w1.heap.size rv0) := HR.out.below hb (range_lt HR.out.1 (Nat.succ_pos _))
      have YS : Hid (Bow w.heap.size x10 (.slice so al.length sc) al) := y9
      clear y9
      have hS : Below w.heap.size w x10 := hS.trans (hb.mono hS.size)
      clear hb
      refine hK.out _ _ hS (fun _ => ?_)
      simp only [Act.put, List.setIfInBounds_toArray, List.set_cons_zero, List.set_cons_succ]
      clear hK K
      refine take_lawH 6 (some 11) (.pointer (some ⟨w.heap.size, 2, none⟩)) rfl rfl (by kernel_rfl) (by kernel_rfl) (by kernel_rfl) (fun _ _ _ h => h) (Or.inl ⟨by rfl, fun w' hw' => by go_simp⟩) hS ?_
      simp only [Act.put, List.setIfInBounds_toArray, List.set_cons_zero, List.set_cons_succ]
      refine wpAnyH_ready (rs := [5]) (by kernel_rfl) (by simp) ?_
      refine AllReadyH.cons rfl (fun K hK => ?_) AllReadyH.nil
      refine he.step_callW _ (by rfl) (some 10) rfl 31 #[.tmp 9] #[23] rfl (fun q w' => by rfl) #[.slice co cl.length cc] (by simp only [List.map_toArray, List.map_cons, List.map_nil]; rfl) (fun z9 w' => (∃ yo yc, z9 = .slice yo cl.length yc ∧ Bow w.heap.size w' (.slice yo cl.length yc) cl) ∧ Below x10.heap.size x10 w') ?_ ?_
      · exact (bclone_any _ _ x10 (HC.out.below hS) LNYK.out).mono fun e w' ⟨z, h1, h2, h3⟩ => (by obtain ⟨yo, yc, rfl⟩ := form h2.1; exact ⟨_, h1, ⟨yo, yc, rfl, h2.mono hS.size⟩, h3⟩)
      rintro _ x11 ⟨⟨ko, kc, rfl, y9⟩, hb⟩
      have NB_HB : Hid (NoB x11 w.heap.size) := NB_HB.out.heap (hb.block _ (range_lt HB.out.1 (Nat.succ_pos _)))
      have HB : Hid (Vr x11 w.heap.size (rv g p (.slice ao al.length ca) b (.slice co cl.length cc) S)) := HB.out.below hb (range_lt HB.out.1 (Nat.succ_pos _))
      have NB_HR : Hid (NoB x11 w1.heap.size) := NB_HR.out.heap (hb.block _ (range_lt HR.out.1 (Nat.succ_pos _)))
      have HR : Hid (Vr x11 w1.heap.size rv0) := HR.out.below hb (range_lt HR.out.1 (Nat.succ_pos _))
      have YS : Hid (Bow w.heap.size x11 (.slice so al.length sc) al) := YS.out.below hb
      have YK : Hid (Bow w.heap.size x11 (.slice ko cl.length kc) cl) := y9
      clear y9
      have hS : Below w.heap.size w x11 := hS.trans (hb.mono hS.size)
      clear hb
      refine hK.out _ _ hS (fun _ => ?_)
      simp only [Act.put, List.setIfInBounds_toArray, List.set_cons_zero, List.set_cons_succ]
      clear hK K
      refine wpAnyH_ready (rs := [7]) (by kernel_rfl) (by simp) ?_
      refine AllReadyH.cons rfl (fun K hK => ?_) AllReadyH.nil
      refine step_setC _ rfl none rfl (.tmp 11) (.tmp 7) 23 rfl (rv g p (.slice ao al.length ca) b (.slice co cl.length cc) S) w.heap.size 2 (.slice so al.length sc) rfl rfl HB.out NB_HB.out (show (2 : Nat) < 25 by decide) (slc_sl _ _ _) size_bytes ?_
      intro x12 v9 n9 B9 E9
      have NB_HR : Hid (NoB x12 w1.heap.size) := NB_HR.out.heap (E9 _ (Nat.ne_of_gt LT_HB_HR.out))
      have HR : Hid (Vr x12 w1.heap.size rv0) := HR.out.heap (E9 _ (Nat.ne_of_gt LT_HB_HR.out))
      have YS : Hid (Bow w.heap.size x12 (.slice so al.length sc) al) := bow_nob YS.out NB_HB.out E9
      have YK : Hid (Bow w.heap.size x12 (.slice ko cl.length kc) cl) := bow_nob YK.out NB_HB.out E9
      have HB : Hid (Vr x12 w.heap.size (rv g p (.slice so al.length sc) b (.slice co cl.length cc) S)) := v9
      have NB_HB : Hid (NoB x12 w.heap.size) := n9
      have hS : Below w.heap.size w x12 := hS.trans B9
      clear v9 n9 B9 E9
      refine hK.out _ _ hS (fun _ => ?_)
      simp only [Act.put]
      clear hK K
      refine take_lawH 8 (some 12) (.pointer (some ⟨w.heap.size, 4, none⟩)) rfl rfl (by kernel_rfl) (by kernel_rfl) (by kernel_rfl) (fun _ _ _ h => h) (Or.inl ⟨by rfl, fun w' hw' => by go_simp⟩) hS ?_
      simp only [Act.put, List.setIfInBounds_toArray, List.set_cons_zero, List.set_cons_succ]
      refine wpAnyH_ready (rs := [9]) (by kernel_rfl) (by simp) ?_
      refine AllReadyH.cons rfl (fun K hK => ?_) AllReadyH.nil
      refine step_setC _ rfl none rfl (.tmp 12) (.tmp 10) 23 rfl (rv g p (.slice so al.length sc) b (.slice co cl.length cc) S) w.heap.size 4 (.slice ko cl.length kc) rfl rfl HB.out NB_HB.out (show (4 : Nat) < 25 by decide) (slc_sl _ _ _) size_bytes ?_
      intro x13 v9 n9 B9 E9
      have NB_HR : Hid (NoB x13 w1.heap.size) := NB_HR.out.heap (E9 _ (Nat.ne_of_gt LT_HB_HR.out))
      have HR : Hid (Vr x13 w1.heap.size rv0) := HR.out.heap (E9 _ (Nat.ne_of_gt LT_HB_HR.out))
      have YS : Hid (Bow w.heap.size x13 (.slice so al.length sc) al) := bow_nob YS.out NB_HB.out E9
      have YK : Hid (Bow w.heap.size x13 (.slice ko cl.length kc) cl) := bow_nob YK.out NB_HB.out E9
      have HB : Hid (Vr x13 w.heap.size (rv g p (.slice so al.length sc) b (.slice ko cl.length kc) S)) := v9
      have NB_HB : Hid (NoB x13 w.heap.size) := n9
      have hS : Below w.heap.size w x13 := hS.trans B9
      clear v9 n9 B9 E9
      refine hK.out _ _ hS (fun _ => ?_)
      simp only [Act.put]
      clear hK K
      refine wpAnyH_done (by kernel_rfl) ?_ _
      go_wp2_with fail
      go_meet
      exact ⟨so, sc, ko, kc, rfl, HB.out, NB_HB.out, HR.out, NB_HR.out, YS.out, YK.out, hS⟩
  case rest =>
    clear HB NB_HB HR NB_HR BB
    obtain ⟨so, sc, ko, kc, rfl, x1, x2, x3, x4, x5, x6, x7⟩ := hcut
    have HB : Hid (Vr wc w.heap.size (rv g p (.slice so al.length sc) b (.slice ko cl.length kc) S)) := x1
    have NB_HB : Hid (NoB wc w.heap.size) := x2
    have HR : Hid (Vr wc w1.heap.size rv0) := x3
    have NB_HR : Hid (NoB wc w1.heap.size) := x4
    have YS : Hid (Bow w.heap.size wc (.slice so al.length sc) al) := x5
    have YK : Hid (Bow w.heap.size wc (.slice ko cl.length kc) cl) := x6
    have BB : Hid (Below w.heap.size w wc) := x7
    clear x1 x2 x3 x4 x5 x6 x7
    have t0 : (0 : Nat) = 0 := rfl
    go_wp2_with (first
      | (have q0 := t0; refine load_lawC _ rfl (sls S) w.heap.size 5 rfl (Vr.slots HB.out) rowy_slots ?_; clear t0))
    go_loopw [15] (fun i wr => ∃ (k : Nat) (T : Nat → Sc), k ≤ 4 ∧ i = .int .i64 (k : Int) ∧ (∀ j, j < k → (T j).d = (S j).d ∧ Bow w.heap.size wr (T j).v (T j).xs) ∧ (∀ j, j < 4 → Slc (T j).v) ∧ Vr wr w.heap.size (rv g p (.slice so al.length sc) b (.slice ko cl.length kc) T) ∧ (NoB wr w.heap.size ∧ Vr wr w1.heap.size rv0 ∧ NoB wr w1.heap.size) ∧ (Bow w.heap.size wr (.slice so al.length sc) al ∧ Bow w.heap.size wr (.slice ko cl.length kc) cl) ∧ Below w.heap.size w wr) (fun i _ => 4 - (intOf i).toNat)
    case atStart => exact ⟨0, S, Nat.zero_le _, rfl, upto_zero, HS1.out, HB.out, ⟨NB_HB.out, HR.out, NB_HR.out⟩, ⟨YS.out, YK.out⟩, BB.out⟩
    case round =>
      clear HB NB_HB HR NB_HR YS YK BB
      obtain ⟨k, T, hk4, rfl, hj, hs, hv, ⟨nv9, hr9, nr9⟩, ⟨ys, yk⟩, hBl⟩ := hrel
      have HJ : Hid (∀ j, j < k → (T j).d = (S j).d ∧ Bow w.heap.size wr (T j).v (T j).xs) := hj
      have HJ2 : Hid (∀ j, j < k → Bow w.heap.size wr (T j).v (T j).xs) := fun j h => (hj j h).2
      have HSl : Hid (∀ j, j < 4 → Slc (T j).v) := hs
      have HB : Hid (Vr wr w.heap.size (rv g p (.slice so al.length sc) b (.slice ko cl.length kc) T)) := hv
      have NB_HB : Hid (NoB wr w.heap.size) := nv9
      have HR : Hid (Vr wr w1.heap.size rv0) := hr9
      have NB_HR : Hid (NoB wr w1.heap.size) := nr9
      have YS : Hid (Bow w.heap.size wr (.slice so al.length sc) al) := ys
      have YK : Hid (Bow w.heap.size wr (.slice ko cl.length kc) cl) := yk
      have BB : Hid (Below w.heap.size w wr) := hBl
      have LE_HB : Hid (w.heap.size ≤ w.heap.size) := Nat.le_refl _
      clear hj hs hv nv9 hr9 nr9 ys yk hBl
      by_cases hk : k < 4
      · have SK : Hid (Slc (S k).v) := HS1.out k hk
        have ki : (k : Int) < 4 := by omega
        have t0 : (0 : Nat) = 0 := rfl
        go_wp2_with (first
          | (have q4 := t4; (with_reducible refine at_store ?_); refine store_lawC _ s9.cs w.heap.size (5 + k * 5) rfl rfl (Vr.sthere HB.out k hk) rowy_slot.2 (cs_one SL.out) ?_; intro w44 E9 R9 T9 B9; have K9 : ∀ k, k ≠ w.heap.size → w44.heap[k]? = w43.heap[k]? := (by rw [E9.out]; exact fun k hk => heap_cells _ _ _ _ k hk); have HJ2 : Hid (∀ j, j < k → Bow w.heap.size w44 (T j).v (T j).xs) := fun j hj => bow_nob (HJ2.out j hj) NB_HB.out K9; have YS : Hid (Bow w.heap.size w44 (.slice so al.length sc) al) := bow_nob YS.out NB_HB.out K9; have YK : Hid (Bow w.heap.size w44 (.slice ko cl.length kc) cl) := bow_nob YK.out NB_HB.out K9; have NB_HR : Hid (NoB w44 w1.heap.size) := NB_HR.out.heap (K9 _ (Nat.ne_of_gt LT_HB_HR.out)); have HR : Hid (Vr w44 w1.heap.size rv0) := HR.out.heap (K9 _ (Nat.ne_of_gt LT_HB_HR.out)); have NB_HS : Hid (NoB w44 wr.heap.size) := NB_HS.out.heap (K9 _ (Nat.ne_of_gt LT_HB_HS.out)); have HS : Hid (Vr w44 wr.heap.size (S k).cs) := HS.out.heap (K9 _ (Nat.ne_of_gt LT_HB_HS.out)); have YD : Hid (Bow w.heap.size w44 s9.v s9.xs) := bow_nob YD.out NB_HB.out K9; have NB9 : Hid (NoB w44 w.heap.size) := (by rw [E9.out]; exact NoB.upd NB_HB.out HB.out k hk s9 SL.out); have V9 : Hid (Vr w44 w.heap.size (rv g p (.slice so al.length sc) b (.slice ko cl.length kc) (upd T k s9))) := (by rw [E9.out]; exact Vr.upd HB.out k hk s9); clear NB_HB HB; have NB_HB := NB9; have HB := V9; clear NB9 V9; have BB : Hid (Below w.heap.size w w44) := BB.out.trans (B9.mono LE_HB.out); clear hs_0 hs_1 hs_2 hs_3 hs_4; have hs_0 := HS.out.cell 0 _ rfl; have hs_1 := HS.out.cell 1 _ rfl; have hs_2 := HS.out.cell 2 _ rfl; have hs_3 := HS.out.cell 3 _ rfl; have hs_4 := HS.out.cell 4 _ rfl; clear E9 R9 T9 B9 K9; clear t4; have t5 : (1 : Nat) = 1 := rfl)
          | (have q3 := t3; go_at_call 32; refine (SC.out k hk w42 BB.out).mono ?_; rintro e9 w43 ⟨s9, rfl, d8, y8, B9⟩; have YS : Hid (Bow w.heap.size w43 (.slice so al.length sc) al) := YS.out.below B9; have YK : Hid (Bow w.heap.size w43 (.slice ko cl.length kc) cl) := YK.out.below B9; have NB_HB : Hid (NoB w43 w.heap.size) := NB_HB.out.heap (B9.block _ (range_lt HB.out.1 (Nat.succ_pos _))); have HB : Hid (Vr w43 w.heap.size (rv g p (.slice so al.length sc) b (.slice ko cl.length kc) T)) := HB.out.below B9 (range_lt HB.out.1 (Nat.succ_pos _)); have NB_HR : Hid (NoB w43 w1.heap.size) := NB_HR.out.heap (B9.block _ (range_lt HR.out.1 (Nat.succ_pos _))); have HR : Hid (Vr w43 w1.heap.size rv0) := HR.out.below B9 (range_lt HR.out.1 (Nat.succ_pos _)); have NB_HS : Hid (NoB w43 wr.heap.size) := NB_HS.out.heap (B9.block _ (range_lt HS.out.1 (Nat.succ_pos _))); have HS : Hid (Vr w43 wr.heap.size (S k).cs) := HS.out.below B9 (range_lt HS.out.1 (Nat.succ_pos _)); have YD : Hid (Bow w.heap.size w43 s9.v s9.xs) := y8.mono BB.out.size; have ED : Hid (s9.d = (S k).d) := d8; have SL : Hid (Slc s9.v) := slc_byt y8.1; have HJ2 : Hid (∀ j, j < k → Bow w.heap.size w43 (T j).v (T j).xs) := fun j hj => (HJ2.out j hj).below B9; have BB : Hid (Below w.heap.size w w43) := BB.out.trans (B9.mono BB.out.size); clear hs_0 hs_1 hs_2 hs_3 hs_4; have hs_0 := HS.out.cell 0 _ rfl; have hs_1 := HS.out.cell 1 _ rfl; have hs_2 := HS.out.cell 2 _ rfl; have hs_3 := HS.out.cell 3 _ rfl; have hs_4 := HS.out.cell 4 _ rfl; clear B9 d8 y8; clear t3; have t4 : (1 : Nat) = 1 := rfl)
          | (have q2 := t2; (with_reducible refine at_store ?_); refine store_lawC _ (S k).cs wr.heap.size 0 rfl rfl HS.out.2 rowy_slot.2 (cs_one SK.out) ?_; intro w42 E9 R9 T9 B9; have K9 : ∀ k, k ≠ wr.heap.size → w42.heap[k]? = w41.heap[k]? := (by rw [E9.out]; exact fun k hk => heap_cells _ _ _ _ k hk); have HJ2 : Hid (∀ j, j < k → Bow w.heap.size w42 (T j).v (T j).xs) := fun j hj => bow_nob (HJ2.out j hj) NB_HS.out K9; have YS : Hid (Bow w.heap.size w42 (.slice so al.length sc) al) := bow_nob YS.out NB_HS.out K9; have YK : Hid (Bow w.heap.size w42 (.slice ko cl.length kc) cl) := bow_nob YK.out NB_HS.out K9; have NB_HB : Hid (NoB w42 w.heap.size) := NB_HB.out.heap (K9 _ (Nat.ne_of_lt LT_HB_HS.out)); have HB : Hid (Vr w42 w.heap.size (rv g p (.slice so al.length sc) b (.slice ko cl.length kc) T)) := HB.out.heap (K9 _ (Nat.ne_of_lt LT_HB_HS.out)); have NB_HR : Hid (NoB w42 w1.heap.size) := NB_HR.out.heap (K9 _ (Nat.ne_of_lt LT_HR_HS.out)); have HR : Hid (Vr w42 w1.heap.size rv0) := HR.out.heap (K9 _ (Nat.ne_of_lt LT_HR_HS.out)); have NB_HS : Hid (NoB w42 wr.heap.size) := (by rw [E9.out]; exact NB_HS.out.set HS.out rfl (cs_nob SK.out)); have HS : Hid (Vr w42 wr.heap.size (S k).cs) := ⟨R9, T9⟩; have BB : Hid (Below w.heap.size w w42) := BB.out.trans (B9.mono LE_HS.out); have hs_0 := HS.out.cell 0 _ rfl; have hs_1 := HS.out.cell 1 _ rfl; have hs_2 := HS.out.cell 2 _ rfl; have hs_3 := HS.out.cell 3 _ rfl; have hs_4 := HS.out.cell 4 _ rfl; clear E9 R9 T9 B9 K9; clear t2; have t3 : (1 : Nat) = 1 := rfl)
          | (have q1 := t1; (with_reducible refine at_alloc ?_); refine new_lawN _ (sv false 0 0 0 (.slice none 0 0)) zero_slot (sv_nob _ _ _ _ _ _ _) ?_; intro w41 X9 N9 B9; have LT_HB_HS : Hid (w.heap.size < wr.heap.size) := range_lt HB.out.1 (Nat.succ_pos _); have LT_HR_HS : Hid (w1.heap.size < wr.heap.size) := range_lt HR.out.1 (Nat.succ_pos _); have LE_HS : Hid (w.heap.size ≤ wr.heap.size) := BB.out.size; have YS : Hid (Bow w.heap.size w41 (.slice so al.length sc) al) := YS.out.below B9; have YK : Hid (Bow w.heap.size w41 (.slice ko cl.length kc) cl) := YK.out.below B9; have NB_HB : Hid (NoB w41 w.heap.size) := NB_HB.out.heap (B9.block _ (range_lt HB.out.1 (Nat.succ_pos _))); have HB : Hid (Vr w41 w.heap.size (rv g p (.slice so al.length sc) b (.slice ko cl.length kc) T)) := HB.out.below B9 (range_lt HB.out.1 (Nat.succ_pos _)); have NB_HR : Hid (NoB w41 w1.heap.size) := NB_HR.out.heap (B9.block _ (range_lt HR.out.1 (Nat.succ_pos _))); have HR : Hid (Vr w41 w1.heap.size rv0) := HR.out.below B9 (range_lt HR.out.1 (Nat.succ_pos _)); have HS : Hid (Vr w41 wr.heap.size (sv false 0 0 0 (.slice none 0 0))) := X9; have NB_HS : Hid (NoB w41 wr.heap.size) := N9; have HJ2 : Hid (∀ j, j < k → Bow w.heap.size w41 (T j).v (T j).xs) := fun j hj => (HJ2.out j hj).below B9; have BB : Hid (Below w.heap.size w w41) := BB.out.trans (B9.mono BB.out.size); clear X9 N9 B9; clear t1; have t2 : (1 : Nat) = 1 := rfl)
          | (have q0 := t0; refine idx_law _ rfl (.tmp 14) (.tmp 15) 26 rfl (.agg (sls S).toArray) (.int .i64 (k : Int)) (.agg (S k).cs.toArray) rfl rfl (run_idx _ S k hk) ?_; clear t0; have t1 : (1 : Nat) = 1 := rfl))
        go_roundw
        case rel => exact ⟨k + 1, upd T k s9, by omega, by go_num, upto_succ (fun j hj => by rw [upd_other _ _ _ _ (Nat.ne_of_lt hj)]; exact ⟨(HJ.out j hj).1, HJ2.out j hj⟩) (by rw [upd_same]; exact ⟨ED.out, YD.out⟩), (fun j hj => by by_cases e : j = k <;> first | (rw [e, upd_same]; exact SL.out) | (rw [upd_other _ _ _ _ e]; exact HSl.out j hj)), HB.out, ⟨NB_HB.out, HR.out, NB_HR.out⟩, ⟨YS.out, YK.out⟩, BB.out⟩
        case measure => simp [intOf]; omega
      · have e4 : k = 4 := by omega
        subst e4
        have t0 : (0 : Nat) = 0 := rfl
        go_wp2_with (first
          | (have q1 := t1; (with_reducible refine at_store ?_); refine store_lawC _ (rv g p (.slice so al.length sc) b (.slice ko cl.length kc) T) w1.heap.size 0 rfl rfl HR.out.2 rowy_record.2 (rv_one (slc_sl _ _ _) (slc_sl _ _ _) HSl.out) ?_; intro w41 E9 R9 T9 B9; have K9 : ∀ k, k ≠ w1.heap.size → w41.heap[k]? = wr.heap[k]? := (by rw [E9.out]; exact fun k hk => heap_cells _ _ _ _ k hk); have HJ2 : Hid (∀ j, j < 4 → Bow w.heap.size w41 (T j).v (T j).xs) := fun j hj => bow_nob (HJ2.out j hj) NB_HR.out K9; have YS : Hid (Bow w.heap.size w41 (.slice so al.length sc) al) := bow_nob YS.out NB_HR.out K9; have YK : Hid (Bow w.heap.size w41 (.slice ko cl.length kc) cl) := bow_nob YK.out NB_HR.out K9; have NB_HB : Hid (NoB w41 w.heap.size) := NB_HB.out.heap (K9 _ (Nat.ne_of_lt LT_HB_HR.out)); have HB : Hid (Vr w41 w.heap.size (rv g p (.slice so al.length sc) b (.slice ko cl.length kc) T)) := HB.out.heap (K9 _ (Nat.ne_of_lt LT_HB_HR.out)); have NB_HR : Hid (NoB w41 w1.heap.size) := (by rw [E9.out]; exact NB_HR.out.set HR.out rfl (rv_nob (slc_sl _ _ _) (slc_sl _ _ _) HSl.out)); have HR : Hid (Vr w41 w1.heap.size (rv g p (.slice so al.length sc) b (.slice ko cl.length kc) T)) := ⟨R9, T9⟩; have BB : Hid (Below w.heap.size w w41) := BB.out.trans (B9.mono LE_HR.out); clear E9 R9 T9 B9 K9; clear t1; have t2 : (1 : Nat) = 1 := rfl)
          | (have q0 := t0; refine load_lawC _ rfl (rv g p (.slice so al.length sc) b (.slice ko cl.length kc) T) w.heap.size 0 rfl HB.out.1 rowy_record ?_; clear t0; have t1 : (1 : Nat) = 1 := rfl))
        exact bodyPost_ret (v := .agg (rv g p (.slice so al.length sc) b (.slice ko cl.length kc) T).toArray) (results_c rfl _ _ w1.heap.size _ rowy_record rfl HR.out.1) rfl ⟨_, _, _, _, _, rfl, YS.out, YK.out, fun j hj => ⟨(HJ.out j hj).1, HJ2.out j hj⟩, BB.out⟩
end Go.Proofs.YtmbfccclghnaeaaDoor.re
