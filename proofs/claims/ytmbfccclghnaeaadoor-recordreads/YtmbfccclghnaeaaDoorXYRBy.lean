/- What the reference's Bytes and Fits of records answer. No claim of its own. -/
import Derived.Test.YtmbfccclghnaeaaDoorPackQ
import Derived.Test.YtmbfccclghnaeaaDoorPackK
import Derived.Test.YtmbfccclghnaeaaDoorPackP
namespace Go.Proofs.YtmbfccclghnaeaaDoor.re
open Go.RowKit Go.Proofs.YtmbfccclghnaeaaDoor.fa Go.Proofs.YtmbfccclghnaeaaDoor.he Go.Proofs.YtmbfccclghnaeaaDoor.so
set_option maxRecDepth 20000

set_option maxHeartbeats 2000000 in
theorem bak_own (v : Value) (xs : List Int) (w : World) (hb : Byt w v xs) (hl : xs.length ≤ 1048576) :
    Calls Tryd.prog 57 #[v] w fun e w' => ∃ v', e = .returned v' ∧ Own w.heap.size w' v' xs.reverse ∧ Below w.heap.size w w' := by
  obtain ⟨ao, cap, rfl, h1, h2, h3, -, h5⟩ := hb
  have H5 : Hid (0 < xs.length → ∃ b off, ao = some ⟨b, off, none⟩ ∧ ∀ t, t < xs.length → w.cell? ⟨b, off + t, none⟩ = some (.int .u8 (gb xs t))) := h5
  clear h5 h3
  go_enter Tryd.func57, Tryd.ntmps57
  go_wp2
  go_loopw [3, 4] (fun v i wr => ∃ k : Nat, k ≤ xs.length ∧ i = .int .i64 ((xs.length : Int) - 1 - k) ∧ Own w.heap.size wr v (xs.reverse.take k) ∧ Below w.heap.size w wr) (fun _ i _ => (intOf i + 1).toNat)
  case atStart => exact ⟨0, Nat.zero_le _, by simp, Own.empty w (Nat.le_refl _), (Below.refl _ _).alloc (Nat.le_refl _) _⟩
  case round =>
    obtain ⟨k, hk, rfl, hown, hbel⟩ := hrel
    have hsz := hbel.size
    by_cases hlt : k < xs.length
    · obtain ⟨b, off, rfl, hca⟩ := H5.out (by omega)
      have c0 := hca (xs.length - 1 - k) (by omega)
      have c1 : wr.cell? ⟨b, off + (xs.length - 1 - k), none⟩ = some (.int .u8 (gb xs (xs.length - 1 - k))) := by rw [hbel.cell (World.block_lt_of_cell? w _ c0)]; exact c0
      have e2 : ((xs.length : Int) - 1 - (k : Int)).toNat = xs.length - 1 - k := by omega
      clear c0 hca
      go_wp2_with (at_builtin; refine push_law wr rfl (.tmp 13) (.tmp 18) rfl w.heap.size (by omega) _ _ (gb xs (xs.length - 1 - k)) rfl rfl hown (by simp; omega) ?_; intro v' w1 hown' hbel')
      rw [← rev_snoc xs k hlt] at hown'
      go_roundw
      case rel => exact ⟨k + 1, by omega, by go_num, hown', hbel.trans hbel'⟩
      case measure => simp [intOf]; omega
    · have hks : k = xs.length := by omega
      subst hks
      rw [List.take_of_length_le (by simp)] at hown
      go_wp2
      go_ret
      exact ⟨_, rfl, hown, hbel⟩

set_option maxHeartbeats 2000000 in
theorem rbig_own (x : Int) (w : World) (hn : 0 ≤ x ∧ x ≤ 18446744073709551615) :
    Calls Tryd.prog 39 #[.int .u64 x, .int .i64 8] w fun e w' => ∃ v, e = .returned v ∧ Own w.heap.size w' v (le x 8).reverse ∧ Below w.heap.size w w' := by
  have SL : Hid (Calls Tryd.prog 58 #[.int .u64 x, .int .i64 8] w fun e w' => ∃ v, e = .returned v ∧ Byt w' v (le x 8) ∧ Below w.heap.size w w') := by
    have := rlittle_any x 8 w hn
    rw [(show clamp 8 8 = 8 by decide)] at this
    exact this
  clear hn
  go_enter Tryd.func39, Tryd.ntmps39
  go_wp2_with (first
    | (go_at_call 58; refine SL.out.mono ?_; rintro e w1 ⟨v1, rfl, hv1, hb1⟩; have hz1 := hb1.size)
    | (go_at_call 57; refine (bak_own v1 _ _ hv1 (by rw [le_len]; omega)).mono ?_; rintro e w2 ⟨v2, rfl, hv2, hb2⟩))
  go_ret
  exact ⟨_, rfl, own_less hv2 hz1, hb1.trans (hb2.mono hz1)⟩

theorem rbig8 (n : Int) (w : World) (hn : U64 n) : Calls Tryd.prog 39 #[.int .u64 n, .int .i64 8] w fun e w' => ∃ v, e = .returned v ∧ Byt w' v (be n 8) ∧ Below w.heap.size w w' :=
  (rbig_own n w hn).mono fun _ _ ⟨v, h1, h2, h3⟩ => ⟨v, h1, h2.byt (be_all _ _), h3⟩
theorem rfill8 (w : World) : Calls Tryd.prog 40 #[.int .u8 0, .int .i64 8] w fun e w' => ∃ v, e = .returned v ∧ Byt w' v (List.replicate 8 0) ∧ Below w.heap.size w w' := rfill_any 0 8 w (by omega)

set_option linter.unusedSimpArgs false in
set_option maxHeartbeats 4000000 in
theorem rbytes_any (g p b : Int) (a c : Value) (al cl : List Int) (S : Nat → Sc) (kv : Value) (ks : List Int) (w : World) (hR : Rin w g p b a c al cl S) (hk : Byt w kv ks) (h : Rok al cl S) (hn : ks.length = 32) :
    Calls Tryd.prog 19 #[.agg (rv g p a b c S).toArray, kv] w fun x w' => ∃ r, x = .returned r ∧ Byt w' r (rbs g p al b cl S ks) ∧ Below w.heap.size w w' := by
  have SB : Hid (∀ k, k < 4 → ∀ w0, Below w.heap.size w w0 → Calls Tryd.prog 41 #[.agg (S k).cs.toArray] w0 fun x w' => ∃ r, x = .returned r ∧ Byt w' r (S k).d.bs ∧ Below w0.heap.size w0 w') := fun k hk w0 q => so.rbytes_sb _ _ _ _ _ _ w0 ((hR.2.2.2 k hk).2.below q) (hR.2.2.2 k hk).1 (h.2.2 k hk)
  have SM : Hid (∀ w0 v, Below w.heap.size w w0 → Byt w0 v (txt g p al b cl S 4) → Calls Tryd.prog 42 #[kv, v] w0 fun x w' => ∃ r, x = .returned r ∧ Byt w' r (mc.tagB (mc.blk ks) (txt g p al b cl S 4)) ∧ Below w0.heap.size w0 w') := fun w0 v q hv => mc.rtag_any w0 kv v ks _ (hk.below q) hv (by omega) (by rw [txt_len g p al b cl S h 4 (by omega)]; omega)
  have HT : Hid (∀ k, k ≤ 4 → (txt g p al b cl S k).length = 80 + k * 128) := txt_len g p al b cl S h
  have HSl : Hid (∀ k, k < 4 → (S k).d.bs.length = 128) := fun k hk => Sl.len (h.2.2 k hk)
  have TA : Hid (AllB (txt g p al b cl S 4)) := (by rw [txt_four]; exact Rc.all hR.2.1.all hR.2.2.1.all (hR.2.2.2 0 (by omega)).2.all (hR.2.2.2 1 (by omega)).2.all (hR.2.2.2 2 (by omega)).2.all (hR.2.2.2 3 (by omega)).2.all)
  have TL4 := txt_len g p al b cl S h 4 (by omega)
  have TGL : Hid ((txt g p al b cl S 4).length + (mc.tagB (mc.blk ks) (txt g p al b cl S 4)).length ≤ 140737488355328) := (by show _ ≤ _; rw [TL4, mc.tagB_len]; omega)
  have TGA : Hid (AllB (mc.tagB (mc.blk ks) (txt g p al b cl S 4))) := mc.tagB_all _ _
  have T0 : Hid (((((be g 8 ++ be p 8) ++ al) ++ be b 8) ++ List.replicate 8 0) ++ cl = txt g p al b cl S 0) := (by show _ = _; simp [txt, cats, hd6])
  have HA : Hid (Byt w a al) := hR.2.1
  have HC : Hid (Byt w c cl) := hR.2.2.1
  have U0 : Hid (U64 g) := hR.1.1
  have U1 : Hid (U64 p) := hR.1.2.1
  have U3 : Hid (U64 b) := hR.1.2.2
  have LA : Hid (al.length = 16) := h.1
  have LC : Hid (cl.length = 32) := h.2.1
  unfold rbs
  rw [← txt_four]
  obtain ⟨TT, hTT⟩ : ∃ z, txt g p al b cl S 4 = z := ⟨_, rfl⟩
  have EQ : Hid (txt g p al b cl S 4 = TT) := hTT
  rw [hTT] at SM TA TGL TGA ⊢
  obtain ⟨TG, hTG⟩ : ∃ z, mc.tagB (mc.blk ks) TT = z := ⟨_, rfl⟩
  rw [hTG] at SM TGL TGA ⊢
  obtain ⟨ao, ca, rfl⟩ := form hR.2.1
  obtain ⟨co, cc, rfl⟩ := form hR.2.2.1
  clear hR hk h hn TL4 hTT hTG
  have t0 : (0 : Nat) = 0 := rfl
  go_enter Tryd.func19, Tryd.ntmps19
  go_wp2_with (first
    | (have q0 := t0; refine box_lawC _ (rv g p (.slice ao al.length ca) b (.slice co cl.length cc) S) rfl ?_; intro w1 X9 B9 l9; have HB0 : Hid (Vr w1 w.heap.size (rv g p (.slice ao al.length ca) b (.slice co cl.length cc) S)) := X9; have BB : Hid (Below w.heap.size w w1) := B9; clear X9 B9 l9; clear t0; have t1 : (1 : Nat) = 1 := rfl))
  have BW := BB
  have L0 : Hid (w.heap.size < w1.heap.size) := range_lt HB0.out.1 (Nat.succ_pos _)
  go_cut [5] (fun r5 wc => ∃ z, r5 = z ∧ Own w1.heap.size wc z (be g 8 ++ be p 8) ∧ Below w1.heap.size w1 wc)
  case first =>
    refine wp_region_held_drew (S := fun w' => Below w1.heap.size w1 w') (by kernel_rfl) (Below.refl _ _).drew (fun hS => ?_)
    obtain ⟨x1, hx0⟩ : ∃ x, x = w1.drew := ⟨_, rfl⟩
    rw [← hx0] at hS  ⊢
    clear hx0
    refine take_lawH 0 (some 7) (.pointer (some ⟨w.heap.size, 0, none⟩)) rfl rfl (by kernel_rfl) (by kernel_rfl) (by kernel_rfl) (fun _ _ _ h => h) (Or.inl ⟨by rfl, fun w' hw' => by go_simp⟩) hS ?_
    simp only [Act.put, List.setIfInBounds_toArray, List.set_cons_zero, List.set_cons_succ]
    refine take_lawH 1 (some 8) (.int .u64 g) rfl rfl (by kernel_rfl) (by kernel_rfl) (by kernel_rfl) (fun _ _ _ h => h) (Or.inl ⟨by rfl, fun w' hw' => by exact exec_loadN 22 (.tmp 7) rfl _ rfl _ _ (load_one one_u64 ((HB0.out.below hw' (range_lt HB0.out.1 (Nat.succ_pos _))).cell 0 _ rfl))⟩) hS ?_
    simp only [Act.put, List.setIfInBounds_toArray, List.set_cons_zero, List.set_cons_succ]
    refine take_lawH 3 (some 10) (.pointer (some ⟨w.heap.size, 1, none⟩)) rfl rfl (by kernel_rfl) (by kernel_rfl) (by kernel_rfl) (fun _ _ _ h => h) (Or.inl ⟨by rfl, fun w' hw' => by go_simp⟩) hS ?_
    simp only [Act.put, List.setIfInBounds_toArray, List.set_cons_zero, List.set_cons_succ]
    refine take_lawH 4 (some 11) (.int .u64 p) rfl rfl (by kernel_rfl) (by kernel_rfl) (by kernel_rfl) (fun _ _ _ h => h) (Or.inl ⟨by rfl, fun w' hw' => by exact exec_loadN 22 (.tmp 10) rfl _ rfl _ _ (load_one one_u64 ((HB0.out.below hw' (range_lt HB0.out.1 (Nat.succ_pos _))).cell 1 _ rfl))⟩) hS ?_
    simp only [Act.put, List.setIfInBounds_toArray, List.set_cons_zero, List.set_cons_succ]
    refine wpAnyH_ready (rs := [2]) (by kernel_rfl) (by simp) ?_
    refine AllReadyH.cons rfl (fun K hK => ?_) AllReadyH.nil
    refine he.step_callW _ (by rfl) (some 9) rfl 39 #[.tmp 8, .const (.int .i64 8)] #[22, 3] rfl (fun q w' => by rfl) #[.int .u64 g, .int .i64 8] (by simp only [List.map_toArray, List.map_cons, List.map_nil]; rfl) (fun z9 w' => Own w1.heap.size w' z9 (be g 8) ∧ Below x1.heap.size x1 w') ?_ ?_
    · exact (rbig_own g x1 U0.out).mono fun e w' ⟨z, h1, h2, h3⟩ => ⟨_, h1, own_less h2 hS.size, h3⟩
    rintro v9 x2 ⟨o9, hb⟩
    have O1 : Hid (Own w1.heap.size x2 v9 (be g 8)) := o9
    clear o9
    have hS : Below w1.heap.size w1 x2 := hS.trans (hb.mono hS.size)
    clear hb
    refine hK.out _ _ hS (fun _ => ?_)
    simp only [Act.put, List.setIfInBounds_toArray, List.set_cons_zero, List.set_cons_succ]
    clear hK K
    refine wpAnyH_ready (rs := [5]) (by kernel_rfl) (by simp) ?_
    refine AllReadyH.cons rfl (fun K hK => ?_) AllReadyH.nil
    refine he.step_callW _ (by rfl) (some 12) rfl 39 #[.tmp 11, .const (.int .i64 8)] #[22, 3] rfl (fun q w' => by rfl) #[.int .u64 p, .int .i64 8] (by simp only [List.map_toArray, List.map_cons, List.map_nil]; rfl) (fun z9 w' => Byt w' z9 (be p 8) ∧ Below x2.heap.size x2 w') ?_ ?_
    · exact (rbig_own p x2 U1.out).mono fun e w' ⟨z, h1, h2, h3⟩ => ⟨_, h1, h2.byt (be_all _ _), h3⟩
    rintro u9 x3 ⟨y9, hb⟩
    have O1 : Hid (Own w1.heap.size x3 v9 (be g 8)) := own_low O1.out hb
    have Y1 : Hid (Byt x3 u9 (be p 8)) := y9
    clear y9
    have hS : Below w1.heap.size w1 x3 := hS.trans (hb.mono hS.size)
    clear hb
    refine hK.out _ _ hS (fun _ => ?_)
    simp only [Act.put, List.setIfInBounds_toArray, List.set_cons_zero, List.set_cons_succ]
    clear hK K
    refine wpAnyH_ready (rs := [6]) (by kernel_rfl) (by simp) ?_
    refine AllReadyH.cons rfl (fun K hK => ?_) AllReadyH.nil
    refine step_pushs _ rfl (some 13) rfl (.tmp 9) (.tmp 12) rfl w1.heap.size hS.size _ _ (be g 8) (be p 8) rfl rfl O1.out Y1.out (by rw [be_len]; omega) (by rw [be_len]; omega) ?_
    intro t9 x4 o9 hb
    have O2 : Hid (Own w1.heap.size x4 t9 (be g 8 ++ be p 8)) := o9
    have hS : Below w1.heap.size w1 x4 := hS.trans hb
    clear o9 hb O1 Y1
    refine hK.out _ _ hS (fun _ => ?_)
    simp only [Act.put, List.setIfInBounds_toArray, List.set_cons_zero, List.set_cons_succ]
    clear hK K
    refine take_lawH 7 (some 5) (t9) rfl rfl (by kernel_rfl) (by kernel_rfl) (by kernel_rfl) (fun _ _ _ h => h) (Or.inl ⟨by rfl, fun w' hw' => by rfl⟩) hS ?_
    simp only [Act.put, List.setIfInBounds_toArray, List.set_cons_zero, List.set_cons_succ]
    refine wpAnyH_done (by kernel_rfl) ?_ _
    go_wp2_with fail
    go_meet
    exact ⟨_, rfl, O2.out, hS⟩
  case rest =>
    obtain ⟨z5, h5, x1, x2⟩ := hcut
    subst h5
    have O2 := hdH x1
    have HB0 : Hid (Vr wc w.heap.size (rv g p (.slice ao al.length ca) b (.slice co cl.length cc) S)) := HB0.out.below x2 L0.out
    clear BB
    have BB : Hid (Below w1.heap.size w1 wc) := x2
    clear x1 x2
    have hb0_2 := HB0.out.cell 2 _ rfl
    have hb0_3 := HB0.out.cell 3 _ rfl
    have hb0_4 := HB0.out.cell 4 _ rfl
    have t0 : (0 : Nat) = 0 := rfl
    go_wp2_with (first
      | (have q5 := t5; at_builtin; refine pushs_law _ rfl (.tmp 26) (.tmp 28) rfl w1.heap.size BB.out.size _ _ ((((be g 8 ++ be p 8) ++ al) ++ be b 8) ++ List.replicate 8 0) (cl) rfl rfl O2.out (HC.out.below (BW.out.trans (BB.out.mono BW.out.size))) (by simp only [List.length_append, be_len, List.length_replicate, LA.out, LC.out]; omega) ?_; intro v9 y6 o9 B9; have O9 : Hid (Own w1.heap.size y6 v9 (((((be g 8 ++ be p 8) ++ al) ++ be b 8) ++ List.replicate 8 0) ++ cl)) := o9; have BB : Hid (Below w1.heap.size w1 y6) := BB.out.trans B9; have HB0 : Hid (Vr y6 w.heap.size (rv g p (.slice ao al.length ca) b (.slice co cl.length cc) S)) := HB0.out.below B9 L0.out; clear hb0_2 hb0_3 hb0_4; have hb0_2 := HB0.out.cell 2 _ rfl; have hb0_3 := HB0.out.cell 3 _ rfl; have hb0_4 := HB0.out.cell 4 _ rfl; clear o9 B9; clear O2; have O2 := O9; clear O9; clear t5; have t6 : (1 : Nat) = 1 := rfl)
      | (have q4 := t4; at_builtin; refine pushs_law _ rfl (.tmp 23) (.tmp 24) rfl w1.heap.size BB.out.size _ _ (((be g 8 ++ be p 8) ++ al) ++ be b 8) (List.replicate 8 0) rfl rfl O2.out Y4.out (by simp only [List.length_append, be_len, List.length_replicate, LA.out, LC.out]; omega) ?_; intro v9 y5 o9 B9; have O9 : Hid (Own w1.heap.size y5 v9 ((((be g 8 ++ be p 8) ++ al) ++ be b 8) ++ List.replicate 8 0)) := o9; have BB : Hid (Below w1.heap.size w1 y5) := BB.out.trans B9; have HB0 : Hid (Vr y5 w.heap.size (rv g p (.slice ao al.length ca) b (.slice co cl.length cc) S)) := HB0.out.below B9 L0.out; clear hb0_2 hb0_3 hb0_4; have hb0_2 := HB0.out.cell 2 _ rfl; have hb0_3 := HB0.out.cell 3 _ rfl; have hb0_4 := HB0.out.cell 4 _ rfl; clear o9 B9; clear O2; have O2 := O9; clear O9; clear t4; have t5 : (1 : Nat) = 1 := rfl)
      | (have q3 := t3; go_at_call 40; refine (rfill8 y3).mono ?_; rintro e9 y4 ⟨v8, rfl, y8, B9⟩; have Y4 : Hid (Byt y4 v8 (List.replicate 8 0)) := y8; have O2 : Hid (Own w1.heap.size y4 _ (((be g 8 ++ be p 8) ++ al) ++ be b 8)) := own_low O2.out B9; have BB : Hid (Below w1.heap.size w1 y4) := BB.out.trans (B9.mono BB.out.size); have HB0 : Hid (Vr y4 w.heap.size (rv g p (.slice ao al.length ca) b (.slice co cl.length cc) S)) := HB0.out.below B9 (range_lt HB0.out.1 (Nat.succ_pos _)); clear hb0_2 hb0_3 hb0_4; have hb0_2 := HB0.out.cell 2 _ rfl; have hb0_3 := HB0.out.cell 3 _ rfl; have hb0_4 := HB0.out.cell 4 _ rfl; clear y8 B9; clear t3; have t4 : (1 : Nat) = 1 := rfl)
      | (have q2 := t2; at_builtin; refine pushs_law _ rfl (.tmp 18) (.tmp 21) rfl w1.heap.size BB.out.size _ _ ((be g 8 ++ be p 8) ++ al) (be b 8) rfl rfl O2.out Y3.out (by simp only [List.length_append, be_len, List.length_replicate, LA.out, LC.out]; omega) ?_; intro v9 y3 o9 B9; have O9 : Hid (Own w1.heap.size y3 v9 (((be g 8 ++ be p 8) ++ al) ++ be b 8)) := o9; have BB : Hid (Below w1.heap.size w1 y3) := BB.out.trans B9; have HB0 : Hid (Vr y3 w.heap.size (rv g p (.slice ao al.length ca) b (.slice co cl.length cc) S)) := HB0.out.below B9 L0.out; clear hb0_2 hb0_3 hb0_4; have hb0_2 := HB0.out.cell 2 _ rfl; have hb0_3 := HB0.out.cell 3 _ rfl; have hb0_4 := HB0.out.cell 4 _ rfl; clear o9 B9; clear O2; have O2 := O9; clear O9; clear t2; have t3 : (1 : Nat) = 1 := rfl)
      | (have q1 := t1; go_at_call 39; refine (rbig8 b y1 U3.out).mono ?_; rintro e9 y2 ⟨v8, rfl, y8, B9⟩; have Y3 : Hid (Byt y2 v8 (be b 8)) := y8; have O2 : Hid (Own w1.heap.size y2 _ ((be g 8 ++ be p 8) ++ al)) := own_low O2.out B9; have BB : Hid (Below w1.heap.size w1 y2) := BB.out.trans (B9.mono BB.out.size); have HB0 : Hid (Vr y2 w.heap.size (rv g p (.slice ao al.length ca) b (.slice co cl.length cc) S)) := HB0.out.below B9 (range_lt HB0.out.1 (Nat.succ_pos _)); clear hb0_2 hb0_3 hb0_4; have hb0_2 := HB0.out.cell 2 _ rfl; have hb0_3 := HB0.out.cell 3 _ rfl; have hb0_4 := HB0.out.cell 4 _ rfl; clear y8 B9; clear t1; have t2 : (1 : Nat) = 1 := rfl)
      | (have q0 := t0; at_builtin; refine pushs_law _ rfl (.tmp 14) (.tmp 16) rfl w1.heap.size BB.out.size _ _ (be g 8 ++ be p 8) (al) rfl rfl O2.out (HA.out.below (BW.out.trans (BB.out.mono BW.out.size))) (by simp only [List.length_append, be_len, List.length_replicate, LA.out, LC.out]; omega) ?_; intro v9 y1 o9 B9; have O9 : Hid (Own w1.heap.size y1 v9 ((be g 8 ++ be p 8) ++ al)) := o9; have BB : Hid (Below w1.heap.size w1 y1) := BB.out.trans B9; have HB0 : Hid (Vr y1 w.heap.size (rv g p (.slice ao al.length ca) b (.slice co cl.length cc) S)) := HB0.out.below B9 L0.out; clear hb0_2 hb0_3 hb0_4; have hb0_2 := HB0.out.cell 2 _ rfl; have hb0_3 := HB0.out.cell 3 _ rfl; have hb0_4 := HB0.out.cell 4 _ rfl; clear o9 B9; clear O2; have O2 := O9; clear O9; clear t0; have t1 : (1 : Nat) = 1 := rfl))
    clear hb0_2 hb0_3 hb0_4
    go_loopw [6, 5] (fun i r wr => ∃ k : Nat, k ≤ 4 ∧ i = .int .i64 (k : Int) ∧ Own w1.heap.size wr r (txt g p al b cl S k) ∧ Vr wr w.heap.size (rv g p (.slice ao al.length ca) b (.slice co cl.length cc) S) ∧ Below w1.heap.size w1 wr) (fun i _ _ => 4 - (intOf i).toNat)
    case atStart => exact ⟨0, Nat.zero_le _, rfl, by rw [← T0.out]; exact O2.out, HB0.out, BB.out⟩
    case round =>
      clear O2 HB0 BB
      obtain ⟨k, hk4, rfl, o2, hv, hBl⟩ := hrel
      have B0 : Hid (Below w1.heap.size w1 wr) := hBl
      have HB0 : Hid (Vr wr w.heap.size (rv g p (.slice ao al.length ca) b (.slice co cl.length cc) S)) := hv
      clear hBl hv
      by_cases hk : k < 4
      · have TL : Hid ((txt g p al b cl S k).length = 80 + k * 128) := HT.out k (by omega)
        have SLn : Hid ((S k).d.bs.length = 128) := HSl.out k hk
        have ki : (k : Int) < 4 := by omega
        have O2 : Hid (Own w1.heap.size wr u5 (txt g p al b cl S k)) := o2
        clear o2
        have t0 : (0 : Nat) = 0 := rfl
        go_wp2_with (first
          | (have q2 := t2; at_builtin; refine pushs_law _ rfl (.tmp 34) (.tmp 39) rfl w1.heap.size (Nat.le_trans B0.out.size BB.out.size) _ _ (txt g p al b cl S k) (S k).d.bs rfl rfl (own_low O2.out BB.out) HW.out (by rw [TL.out, SLn.out]; omega) ?_; intro v3 w90 o3 B3; have O3 : Hid (Own w1.heap.size w90 v3 (txt g p al b cl S (k + 1))) := o3; have BZ : Hid (Below w1.heap.size w1 w90) := (B0.out.trans (BB.out.mono B0.out.size)).trans B3; have HB0 : Hid (Vr w90 w.heap.size (rv g p (.slice ao al.length ca) b (.slice co cl.length cc) S)) := (HB0.out.below BB.out (range_lt HB0.out.1 (Nat.succ_pos _))).below B3 L0.out; clear o3 B3; clear t2; have t3 : (1 : Nat) = 1 := rfl)
          | (have q1 := t1; go_at_call 41; refine (SB.out k hk wr (BW.out.trans (B0.out.mono BW.out.size))).mono ?_; rintro e9 w41 ⟨r9, rfl, Y9, B9⟩; have HW : Hid (Byt w41 r9 (S k).d.bs) := Y9; have BB : Hid (Below wr.heap.size wr w41) := B9; clear B9 Y9; clear t1; have t2 : (1 : Nat) = 1 := rfl)
          | (have q0 := t0; refine load_lawC _ rfl (S k).cs w.heap.size (5 + k * 5) rfl (Vr.slot HB0.out k hk) rowy_rslot ?_; clear t0; have t1 : (1 : Nat) = 1 := rfl))
        go_roundw
        case rel => exact ⟨k + 1, by omega, by go_num, O3.out, HB0.out, BZ.out⟩
        case measure => simp [intOf]; omega
      · have e4 : k = 4 := by omega
        subst e4
        have O2 : Hid (Own w1.heap.size wr u5 TT) := (by rw [← EQ.out]; exact o2)
        clear o2 hk hk4 HT HSl SB
        have t0 : (0 : Nat) = 0 := rfl
        go_wp2_with (first
          | (have q1 := t1; at_builtin; refine pushs_law _ rfl (.tmp 41) (.tmp 44) rfl w1.heap.size (Nat.le_trans B0.out.size BB.out.size) _ _ TT TG rfl rfl (own_low O2.out BB.out) HW.out TGL.out ?_; intro v3 w90 o3 B3; have O3 : Hid (Own w1.heap.size w90 v3 (TT ++ TG)) := o3; have BZ : Hid (Below w1.heap.size w1 w90) := (B0.out.trans (BB.out.mono B0.out.size)).trans B3; clear o3 B3; clear t1; have t2 : (1 : Nat) = 1 := rfl)
          | (have q0 := t0; go_at_call 42; refine (SM.out wr _ (BW.out.trans (B0.out.mono BW.out.size)) (O2.out.byt TA.out)).mono ?_; rintro e9 w41 ⟨g9, rfl, Y9, B9⟩; have HW : Hid (Byt w41 g9 TG) := Y9; have BB : Hid (Below wr.heap.size wr w41) := B9; clear B9 Y9; clear t0; have t1 : (1 : Nat) = 1 := rfl))
        go_ret
        exact ⟨_, rfl, O3.out.byt (allB_app TA.out TGA.out), BW.out.trans (BZ.out.mono BW.out.size)⟩

set_option maxHeartbeats 2000000 in
theorem rfits_any (v kv : Value) (xs ks : List Int) (w : World) (hb : Byt w v xs) (hk : Byt w kv ks) (hl : xs.length = 624) (hn : ks.length ≤ 1000000) (D : Bool) (hD : decide (mc.tagB (mc.blk ks) (xs.take 592) = xs.drop 592) = D) :
    Calls Tryd.prog 21 #[v, kv] w fun x w' => x = .returned (.bool D) ∧ Below w.heap.size w w' := by
  have HB : Hid (Byt w v xs) := hb
  have HL : Hid (xs.length = 624) := hl
  have LX : Hid (592 ≤ xs.length) := (by show _ ≤ _; omega)
  have HD : Hid (decide (mc.tagB (mc.blk ks) (xs.take 592) = xs.drop 592) = D) := hD
  have ST : Hid (∀ w0, Below w.heap.size w w0 → Calls Tryd.prog 42 #[kv, sl v 0 592] w0 fun x w' => ∃ r, x = .returned r ∧ Byt w' r (mc.tagB (mc.blk ks) (xs.take 592)) ∧ Below w0.heap.size w0 w') := fun w0 q => mc.rtag_any w0 kv (sl v 0 592) ks (xs.take 592) (hk.below q) (sl_to (hb.below q) 592 (by omega)) hn (by rw [List.length_take]; omega)
  have SD : Hid (∀ w0, Below w.heap.size w w0 → Byt w0 (sl v 592 624) (xs.drop 592)) := fun w0 q => by
    have z := sl_from (hb.below q) 592 (by omega)
    rwa [hl] at z
  generalize mc.tagB (mc.blk ks) (xs.take 592) = TG at ST HD
  obtain ⟨bo, bc, rfl⟩ := byt_form hb hl
  clear hb hk hl hn hD
  go_enter Tryd.func21, Tryd.ntmps21
  go_wp2
  refine wp_region_held_drew (S := fun w' => Below w.heap.size w w') (by kernel_rfl) (Below.refl _ _).drew (fun hS => ?_)
  obtain ⟨x1, hx0⟩ : ∃ x, x = w.drew := ⟨_, rfl⟩
  rw [← hx0] at hS  ⊢
  clear hx0
  refine take_lawH 0 (some 5) (kv) rfl rfl (by kernel_rfl) (by kernel_rfl) (by kernel_rfl) (fun _ _ _ h => h) (Or.inl ⟨by rfl, fun w' hw' => by rfl⟩) hS ?_
  simp only [Act.put, List.setIfInBounds_toArray, List.set_cons_zero, List.set_cons_succ]
  refine take_lawH 1 (some 6) (.slice bo 624 bc) rfl rfl (by kernel_rfl) (by kernel_rfl) (by kernel_rfl) (fun _ _ _ h => h) (Or.inl ⟨by rfl, fun w' hw' => by rfl⟩) hS ?_
  simp only [Act.put, List.setIfInBounds_toArray, List.set_cons_zero, List.set_cons_succ]
  refine take_lawH 2 (some 7) (sl (.slice bo 624 bc) 0 592) rfl rfl (by kernel_rfl) (by kernel_rfl) (by kernel_rfl) (fun _ _ _ h => h) (Or.inl ⟨by rfl, fun w' hw' => by exact exec_to (.tmp 6) (.const (.int .i64 592)) rfl _ xs _ HB.out 592 rfl rfl LX.out _⟩) hS ?_
  simp only [Act.put, List.setIfInBounds_toArray, List.set_cons_zero, List.set_cons_succ]
  refine take_lawH 4 (some 9) (.slice bo 624 bc) rfl rfl (by kernel_rfl) (by kernel_rfl) (by kernel_rfl) (fun _ _ _ h => h) (Or.inl ⟨by rfl, fun w' hw' => by rfl⟩) hS ?_
  simp only [Act.put, List.setIfInBounds_toArray, List.set_cons_zero, List.set_cons_succ]
  refine take_lawH 5 (some 10) (sl (.slice bo 624 bc) 592 624) rfl rfl (by kernel_rfl) (by kernel_rfl) (by kernel_rfl) (fun _ _ _ h => h) (Or.inl ⟨by rfl, fun w' hw' => by exact exec_from (.tmp 9) (.const (.int .i64 592)) rfl _ xs _ HB.out 592 624 rfl rfl HL.out (by omega) _⟩) hS ?_
  simp only [Act.put, List.setIfInBounds_toArray, List.set_cons_zero, List.set_cons_succ]
  refine wpAnyH_ready (rs := [3]) (by kernel_rfl) (by simp) ?_
  refine AllReadyH.cons rfl (fun K hK => ?_) AllReadyH.nil
  refine he.step_callW _ (by rfl) (some 8) rfl 42 #[.tmp 5, .tmp 7] #[23, 23] rfl (fun q w' => by rfl) #[kv, sl (.slice bo 624 bc) 0 592] (by simp only [List.map_toArray, List.map_cons, List.map_nil]; rfl) (fun z9 w' => Byt w' z9 TG ∧ Below x1.heap.size x1 w') ?_ ?_
  · exact (ST.out x1 hS).mono fun e w' ⟨r, h1, h2, h3⟩ => ⟨_, h1, h2, h3⟩
  rintro r9 x2 ⟨y9, hb⟩
  have YT : Hid (Byt x2 r9 TG) := y9
  clear y9
  have hS : Below w.heap.size w x2 := hS.trans (hb.mono hS.size)
  clear hb
  refine hK.out _ _ hS (fun _ => ?_)
  simp only [Act.put, List.setIfInBounds_toArray, List.set_cons_zero, List.set_cons_succ]
  clear hK K
  refine wpAnyH_ready (rs := [6]) (by kernel_rfl) (by simp) ?_
  refine AllReadyH.cons rfl (fun K hK => ?_) AllReadyH.nil
  refine he.step_callW _ (by rfl) (some 11) rfl 18 #[.tmp 8, .tmp 10] #[23, 23] rfl (fun q w' => by rfl) #[r9, sl (.slice bo 624 bc) 592 624] (by simp only [List.map_toArray, List.map_cons, List.map_nil]; rfl) (fun z9 w' => z9 = .bool D ∧ Below x2.heap.size x2 w') ?_ ?_
  · exact (same_dec x2 _ _ TG (xs.drop 592) YT.out (SD.out x2 hS)).mono fun e w' ⟨h1, h2⟩ => ⟨_, h1, (by rw [HD.out]), h2⟩
  rintro _ x3 ⟨rfl, hb⟩
  have YT : Hid (Byt x3 r9 TG) := YT.out.below hb
  have hS : Below w.heap.size w x3 := hS.trans (hb.mono hS.size)
  clear hb
  refine hK.out _ _ hS (fun _ => ?_)
  simp only [Act.put, List.setIfInBounds_toArray, List.set_cons_zero, List.set_cons_succ]
  clear hK K
  refine take_lawH 7 (some 4) (.bool D) rfl rfl (by kernel_rfl) (by kernel_rfl) (by kernel_rfl) (fun _ _ _ h => h) (Or.inl ⟨by rfl, fun w' hw' => by rfl⟩) hS ?_
  simp only [Act.put, List.setIfInBounds_toArray, List.set_cons_zero, List.set_cons_succ]
  refine wpAnyH_done (by kernel_rfl) ?_ _
  have BZ : Hid (Below w.heap.size w _) := hS
  clear hS
  go_wp2
  go_ret
  exact ⟨rfl, BZ.out⟩
end Go.Proofs.YtmbfccclghnaeaaDoor.re
