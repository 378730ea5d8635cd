/- What the reference's Pages answers. No claim of its own. -/
import Derived.Test.YtahfcpdekjdceaaDoorPackJ
import Derived.Test.YtahfcpdekjdceaaDoorXKRmk
import Derived.Test.YtahfcpdekjdceaaDoorPackK
namespace Go.Proofs.YtahfcpdekjdceaaDoor.ck
open Go.RowKit Go.Proofs.YtahfcpdekjdceaaDoor.fa Go.Proofs.YtahfcpdekjdceaaDoor.he Go.Proofs.YtahfcpdekjdceaaDoor.pa
set_option maxRecDepth 20000

set_option maxHeartbeats 4000000 in
theorem rpages_any (g0 g1 g3 g4 g5 : Int) (S : Nat) (v : Value) (xs : List Int) (gen : Int) (w : World) (hr : ge.Rt [g0, g1, (S : Int), g3, g4, g5]) (hb : Byt w v xs) (hl : xs.length = 624) (hg : 0 ≤ gen ∧ gen ≤ 18446744073709551615) :
    Calls Tryd.prog 11 #[.agg (ints .i64 [g0, g1, (S : Int), g3, g4, g5]), v, .int .u64 gen] w fun x w' => ∃ r, x = .returned r ∧ Pgs w' r (fl (P255 S xs gen) (nc S)) ∧ Below w.heap.size w w' := by
  have ⟨s1, s2⟩ := rt_sec hr
  have hn := nc_le s1 s2
  have HB : Hid (Byt w v xs) := hb
  have HL : Hid (xs.length = 624) := hl
  have SC : Hid (∀ w0, Calls Tryd.prog 25 #[.agg (ints .i64 [g0, g1, (S : Int), g3, g4, g5])] w0 fun x w' => x = .returned (.int .i64 (nc S : Int)) ∧ Below w0.heap.size w0 w') := fun w0 => rchunks_nc hr w0
  have SF : Hid (∀ w0, Calls Tryd.prog 26 #[.int .u8 255, .int .i64 (((nc S * S : Nat) : Int) - 624)] w0 fun e w' => ∃ v, e = .returned v ∧ Byt w' v (List.replicate (nc S * S - 624) 255) ∧ Below w0.heap.size w0 w') := fun w0 => by
    have z := rfill_any 255 (((nc S * S : Nat) : Int) - 624) w0 (by omega)
    rw [show clamp (((nc S * S : Nat) : Int) - 624) 65536 = nc S * S - 624 by unfold clamp; omega] at z
    exact z
  have SH : Hid (∀ {k : Nat} w0, Calls Tryd.prog 28 #[.agg (ints .i64 [g0, g1, (S : Int), g3, g4, g5]), .int .i64 (k : Int), .int .u64 gen] w0 fun x w' => x = .returned (.agg (hv 4 (k : Int) 0 (nc S : Int) gen 0).toArray) ∧ Below w0.heap.size w0 w') := fun {k} w0 => rhead_any g0 g1 g3 g4 g5 S k gen w0 hr
  have SM : Hid (∀ {k : Nat} w0 u, k < nc S → Byt w0 u (sec S xs k) → Calls Tryd.prog 27 #[.agg (ints .i64 [g0, g1, (S : Int), g3, g4, g5]), .agg (hv 4 (k : Int) 0 (nc S : Int) gen 0).toArray, u, .slice none 0 0] w0 fun x w' => ∃ v, x = .returned v ∧ Own w0.heap.size w' v (P255 S xs gen k) ∧ Below w0.heap.size w0 w') := fun {k} w0 u hk hu => by
    have z := rmake_own g0 g1 g3 g4 g5 S 4 k 0 (nc S) gen 0 u (.slice none 0 0) (sec S xs k) [] w0 hu (Byt.nil w0) ⟨⟨by omega, by omega⟩, hg, by omega, by omega⟩ ⟨s1, s2⟩ (rh_k s1 s2 hk) (sec_len s1 s2 hl hk) (.inl rfl)
    rwa [make_p255 s1 s2 hl hk] at z
  have XL : Hid ((pd S xs).length = nc S * S) := pd_len s1 s2 hl
  have XA : Hid (AllB (pd S xs)) := pd_all hb.all
  have XE : Hid (xs ++ List.replicate (nc S * S - 624) 255 = pd S xs) := rfl
  have XS : Hid (∀ i, i < nc S → sub (pd S xs) (i * S) (i * S + S) = sec S xs i) := fun i _ => rfl
  have SE : Hid (∀ i, i < nc S → i * S + S ≤ nc S * S) := fun i hi => sec_end hi
  have FA : Hid (∀ i, i < nc S → AllB (P255 S xs gen i)) := fun i hi => p255_all s1 s2 hi hb.all
  have FL : Hid ((List.replicate (nc S * S - 624) (255 : Int)).length ≤ 10000) := (by show _ ≤ _; rw [List.length_replicate]; omega)
  have MQ : Hid (IntKind.i64.wrap ((nc S : Int) * (S : Int)) = ((nc S * S : Nat) : Int)) := wrap_mul hn.2.1 s2
  have MD : Hid (IntKind.i64.wrap (((nc S * S : Nat) : Int) - 624) = ((nc S * S : Nat) : Int) - 624) := wrap_small ⟨by omega, by omega⟩
  generalize P255 S xs gen = F at SM FA ⊢
  generalize sec S xs = sq at SM XS
  generalize pd S xs = X at XL XA XE XS
  generalize List.replicate (nc S * S - 624) (255 : Int) = Fl at SF XE FL
  generalize nc S * S = M at SF XL SE MQ MD hn
  generalize nc S = N at SC SH SM XS SE FA MQ hn ⊢
  have n20 : N ≤ 20 := hn.2.1
  have s4 : S ≤ 4096 := s2
  clear hr hb hl hn hg s1 s2
  have t0 : (0 : Nat) = 0 := rfl
  go_enter Tryd.func11, Tryd.ntmps11
  go_wp2_with (first
    | (have q2 := t2; go_at_call 25; refine (SC.out w2).mono ?_; rintro e9 w3 ⟨rfl, B9⟩; have HB0 : Hid (Vr w3 w.heap.size [.int .i64 g0, .int .i64 g1, .int .i64 (S : Int), .int .i64 g3, .int .i64 g4, .int .i64 g5]) := HB0.out.below B9 (range_lt HB0.out.1 (Nat.succ_pos _)); have HN : Hid (OwnR w1.heap.size w3 (.slice (some ⟨w1.heap.size, 0, none⟩) 0 0) []) := HN.out.below B9; have BB : Hid (Below w.heap.size w w3) := BB.out.trans (B9.mono BB.out.size); clear hb0_0 hb0_1 hb0_2 hb0_3 hb0_4 hb0_5; have hb0_0 := HB0.out.cell 0 _ rfl; have hb0_1 := HB0.out.cell 1 _ rfl; have hb0_2 := HB0.out.cell 2 _ rfl; have hb0_3 := HB0.out.cell 3 _ rfl; have hb0_4 := HB0.out.cell 4 _ rfl; have hb0_5 := HB0.out.cell 5 _ rfl; have BO : Hid (Below w1.heap.size w1 w3) := BO.out.trans (B9.mono BO.out.size); clear B9; clear t2; have t3 : (1 : Nat) = 1 := rfl)
    | (have q1 := t1; have BQ := BB; have HBQ := HB0; refine nil_lawR _ rfl rfl ?_; intro w2 o9 B9; have HB0 : Hid (Vr w2 w.heap.size [.int .i64 g0, .int .i64 g1, .int .i64 (S : Int), .int .i64 g3, .int .i64 g4, .int .i64 g5]) := HB0.out.below B9 (range_lt HB0.out.1 (Nat.succ_pos _)); have HN : Hid (OwnR w1.heap.size w2 (.slice (some ⟨w1.heap.size, 0, none⟩) 0 0) []) := o9; have BB : Hid (Below w.heap.size w w2) := BB.out.trans (B9.mono BB.out.size); clear hb0_0 hb0_1 hb0_2 hb0_3 hb0_4 hb0_5; have hb0_0 := HB0.out.cell 0 _ rfl; have hb0_1 := HB0.out.cell 1 _ rfl; have hb0_2 := HB0.out.cell 2 _ rfl; have hb0_3 := HB0.out.cell 3 _ rfl; have hb0_4 := HB0.out.cell 4 _ rfl; have hb0_5 := HB0.out.cell 5 _ rfl; have BO : Hid (Below w1.heap.size w1 w2) := B9; clear B9 o9; clear t1; have t2 : (1 : Nat) = 1 := rfl)
    | (have q0 := t0; refine box_lawC _ [.int .i64 g0, .int .i64 g1, .int .i64 (S : Int), .int .i64 g3, .int .i64 g4, .int .i64 g5] rfl ?_; intro w1 X9 B9 l9; have HB0 : Hid (Vr w1 w.heap.size [.int .i64 g0, .int .i64 g1, .int .i64 (S : Int), .int .i64 g3, .int .i64 g4, .int .i64 g5]) := X9; have BB : Hid (Below w.heap.size w w1) := B9; have hb0_0 := HB0.out.cell 0 _ rfl; have hb0_1 := HB0.out.cell 1 _ rfl; have hb0_2 := HB0.out.cell 2 _ rfl; have hb0_3 := HB0.out.cell 3 _ rfl; have hb0_4 := HB0.out.cell 4 _ rfl; have hb0_5 := HB0.out.cell 5 _ rfl; clear X9 B9 l9; clear t0; have t1 : (1 : Nat) = 1 := rfl))
  refine wp_region_held_drew (S := fun w' => Below w3.heap.size w3 w') (by kernel_rfl) (Below.refl _ _).drew (fun hS => ?_)
  obtain ⟨x1, hx0⟩ : ∃ x, x = w3.drew := ⟨_, rfl⟩
  rw [← hx0] at hS  ⊢
  clear hx0
  refine take_lawH 1 (some 15) (v) rfl rfl (by kernel_rfl) (by kernel_rfl) (by kernel_rfl) (fun _ _ _ h => h) (Or.inl ⟨by rfl, fun w' hw' => by rfl⟩) hS ?_
  simp only [Act.put, List.setIfInBounds_toArray, List.set_cons_zero, List.set_cons_succ]
  refine take_lawH 3 (some 17) (.int .i64 (N : Int)) rfl rfl (by kernel_rfl) (by kernel_rfl) (by kernel_rfl) (fun _ _ _ h => h) (Or.inl ⟨by rfl, fun w' hw' => by rfl⟩) hS ?_
  simp only [Act.put, List.setIfInBounds_toArray, List.set_cons_zero, List.set_cons_succ]
  refine take_lawH 4 (some 18) (.pointer (some ⟨w.heap.size, 2, none⟩)) rfl rfl (by kernel_rfl) (by kernel_rfl) (by kernel_rfl) (fun _ _ _ h => h) (Or.inl ⟨by rfl, fun w' hw' => by go_simp⟩) hS ?_
  simp only [Act.put, List.setIfInBounds_toArray, List.set_cons_zero, List.set_cons_succ]
  refine take_lawH 5 (some 19) (.int .i64 (S : Int)) rfl rfl (by kernel_rfl) (by kernel_rfl) (by kernel_rfl) (fun _ _ _ h => h) (Or.inl ⟨by rfl, fun w' hw' => by exact exec_loadN 3 (.tmp 18) rfl _ rfl _ _ (ld_int ((HB0.out.below hw' (range_lt HB0.out.1 (Nat.succ_pos _))).cell 2 _ rfl))⟩) hS ?_
  simp only [Act.put, List.setIfInBounds_toArray, List.set_cons_zero, List.set_cons_succ]
  refine take_lawH 6 (some 20) (.int .i64 (M : Int)) rfl rfl (by kernel_rfl) (by kernel_rfl) (by kernel_rfl) (fun _ _ _ h => h) (Or.inl ⟨by rfl, fun w' hw' => by exact exec_mul (.tmp 17) (.tmp 19) rfl (N : Int) (S : Int) _ rfl rfl MQ.out⟩) hS ?_
  simp only [Act.put, List.setIfInBounds_toArray, List.set_cons_zero, List.set_cons_succ]
  refine take_lawH 7 (some 21) (.int .i64 ((M : Int) - 624)) rfl rfl (by kernel_rfl) (by kernel_rfl) (by kernel_rfl) (fun _ _ _ h => h) (Or.inl ⟨by rfl, fun w' hw' => by exact exec_sub (.tmp 20) (.const (.int .i64 624)) rfl (M : Int) 624 _ rfl rfl MD.out⟩) hS ?_
  simp only [Act.put, List.setIfInBounds_toArray, List.set_cons_zero, List.set_cons_succ]
  refine wpAnyH_ready (rs := [0]) (by kernel_rfl) (by simp) ?_
  refine AllReadyH.cons rfl (fun K hK => ?_) AllReadyH.nil
  refine step_nil _ rfl (some 14) rfl rfl ?_
  intro nv x2 O9 hb
  have z0 : w3.heap.size ≤ x1.heap.size := hS.size
  have ON : Hid (Own w3.heap.size x2 nv []) := own_less O9 z0
  have hS : Below w3.heap.size w3 x2 := hS.trans (hb.mono hS.size)
  clear hb O9 z0
  refine hK.out _ _ hS (fun _ => ?_)
  simp only [Act.put, List.setIfInBounds_toArray, List.set_cons_zero, List.set_cons_succ]
  clear hK K
  refine wpAnyH_ready (rs := [2]) (by kernel_rfl) (by simp) ?_
  refine AllReadyH.cons rfl (fun K hK => ?_) AllReadyH.nil
  refine step_pushs _ rfl (some 16) rfl (.tmp 14) (.tmp 15) rfl w3.heap.size hS.size _ _ [] xs rfl rfl ON.out (HB.out.below (BB.out.trans (hS.mono BB.out.size))) (by simp) (by have := HL.out; omega) ?_
  intro pv1 x3 O9 hb
  have ON : Hid (Own w3.heap.size x3 pv1 xs) := (by rw [List.nil_append] at O9; exact O9)
  have hS : Below w3.heap.size w3 x3 := hS.trans hb
  clear hb O9
  refine hK.out _ _ hS (fun _ => ?_)
  simp only [Act.put, List.setIfInBounds_toArray, List.set_cons_zero, List.set_cons_succ]
  clear hK K
  refine wpAnyH_ready (rs := [8]) (by kernel_rfl) (by simp) ?_
  refine AllReadyH.cons rfl (fun K hK => ?_) AllReadyH.nil
  refine step_callW _ (by rfl) (some 22) rfl 26 #[.const (.int .u8 255), .tmp 21] #[5, 3] rfl (fun q w' => by rfl) #[.int .u8 255, .int .i64 ((M : Int) - 624)] (by simp only [List.map_toArray, List.map_cons, List.map_nil]; rfl) (fun u w' => Byt w' u Fl ∧ Below x3.heap.size x3 w') ?_ ?_
  · exact (SF.out x3).mono fun e w' ⟨v, h1, h2, h3⟩ => ⟨_, h1, h2, h3⟩
  rintro fv x4 ⟨y9, hb⟩
  have HF : Hid (Byt x4 fv Fl) := y9
  have ON : Hid (Own w3.heap.size x4 pv1 xs) := own_low ON.out hb
  clear y9
  have hS : Below w3.heap.size w3 x4 := hS.trans (hb.mono hS.size)
  clear hb
  refine hK.out _ _ hS (fun _ => ?_)
  simp only [Act.put, List.setIfInBounds_toArray, List.set_cons_zero, List.set_cons_succ]
  clear hK K
  refine wpAnyH_ready (rs := [9]) (by kernel_rfl) (by simp) ?_
  refine AllReadyH.cons rfl (fun K hK => ?_) AllReadyH.nil
  refine step_pushs _ rfl (some 23) rfl (.tmp 16) (.tmp 22) rfl w3.heap.size hS.size _ _ xs Fl rfl rfl ON.out HF.out (by have := HL.out; omega) (by have := FL.out; omega) ?_
  intro av x5 O9 hb
  have HX : Hid (Own w3.heap.size x5 av X) := (by rw [XE.out] at O9; exact O9)
  have hS : Below w3.heap.size w3 x5 := hS.trans hb
  clear hb O9
  refine hK.out _ _ hS (fun _ => ?_)
  simp only [Act.put, List.setIfInBounds_toArray, List.set_cons_zero, List.set_cons_succ]
  clear hK K
  refine take_lawH 10 (some 9) (av) rfl rfl (by kernel_rfl) (by kernel_rfl) (by kernel_rfl) (fun _ _ _ h => h) (Or.inl ⟨by rfl, fun w' hw' => by rfl⟩) hS ?_
  simp only [Act.put, List.setIfInBounds_toArray, List.set_cons_zero, List.set_cons_succ]
  refine wpAnyH_done (by kernel_rfl) ?_ _
  have HX : Hid (Own w1.heap.size x5 av X) := own_less HX.out BO.out.size
  have HP0 : Hid (Pgk w1.heap.size x5 (.slice (some ⟨w1.heap.size, 0, none⟩) 0 0) F 0) := Pgk.empty (HN.out.below hS) F
  have BO : Hid (Below w1.heap.size w1 x5) := BO.out.trans (hS.mono BO.out.size)
  have BW : Hid (Below w.heap.size w w1) := BQ.out
  clear hS BB HN ON HF HB0 hb0_0 hb0_1 hb0_2 hb0_3 hb0_4 hb0_5
  have HB0 := HBQ
  go_wp2
  go_loopw [10, 7] (fun i r wr => ∃ k : Nat, k ≤ N ∧ i = .int .i64 (k : Int) ∧ Pgk w1.heap.size wr r F k ∧ Own w1.heap.size wr av X ∧ Below w1.heap.size w1 wr) (fun i _ _ => N - (intOf i).toNat)
  case atStart => exact ⟨0, Nat.zero_le _, rfl, HP0.out, HX.out, BO.out⟩
  case round =>
    obtain ⟨k, hk, rfl, hR, hX, hB⟩ := hrel
    have BR : Hid (Below w1.heap.size w1 wr) := hB
    clear hB HX HP0 BO
    by_cases hlt : k < N
    · have lk : (k : Int) < (N : Int) := by omega
      have HR : Hid (Pgk w1.heap.size wr u7 F k) := hR
      have HX : Hid (Own w1.heap.size wr av X) := hX
      have YX : Hid (Byt wr av X) := hX.byt XA.out
      obtain ⟨p0, e0⟩ : ∃ z : Nat, z = k * S := ⟨_, rfl⟩
      obtain ⟨p1, e1⟩ : ∃ z : Nat, z = k * S + S := ⟨_, rfl⟩
      have m0 : Hid (IntKind.i64.wrap ((k : Int) * (S : Int)) = (p0 : Int)) := (by show _ = _; rw [e0]; exact wrap_mul (by omega) s4)
      have m1 : Hid (IntKind.i64.wrap ((p0 : Int) + (S : Int)) = (p1 : Int)) := (by show _ = _; have := mul_small (k := k) (S := S) (by omega) s4; rw [wrap_small ⟨by omega, by omega⟩]; omega)
      have pl : Hid (p0 ≤ p1 ∧ p1 ≤ X.length) := ⟨by omega, by rw [XL.out, e1]; exact SE.out k hlt⟩
      have pq : Hid (sub X p0 p1 = sq k) := (by show _ = _; rw [e0, e1]; exact XS.out k hlt)
      clear e0 e1 hR hX
      go_wp2
      have HR : Hid (Pgk w1.heap.size wr.drew u7 F k) := HR.out.below (Below.refl _ _).drew
      have HX : Hid (Own w1.heap.size wr.drew av X) := own_low HX.out (Below.refl _ _).drew
      refine wp_region_held_drew (S := fun w' => Below w1.heap.size w1 w') (by kernel_rfl) BR.out.drew (fun hS => ?_)
      obtain ⟨y1, hx0⟩ : ∃ x, x = wr.drew := ⟨_, rfl⟩
      rw [← hx0] at hS HR HX ⊢
      clear hx0
      refine take_lawH 0 (some 29) (u7) rfl rfl (by kernel_rfl) (by kernel_rfl) (by kernel_rfl) (fun _ _ _ h => h) (Or.inl ⟨by rfl, fun w' hw' => by rfl⟩) hS ?_
      simp only [Act.put, List.setIfInBounds_toArray, List.set_cons_zero, List.set_cons_succ]
      refine take_lawH 1 (some 30) (.agg ([.int .i64 g0, .int .i64 g1, .int .i64 (S : Int), .int .i64 g3, .int .i64 g4, .int .i64 g5] : List Value).toArray) rfl rfl (by kernel_rfl) (by kernel_rfl) (by kernel_rfl) (fun _ _ _ h => h) (Or.inl ⟨by rfl, fun w' hw' => by exact exec_loadN 23 (.tmp 3) rfl _ rfl _ _ (load_cells rowy_geo (HB0.out.below hw' (range_lt HB0.out.1 (Nat.succ_pos _))).1)⟩) hS ?_
      simp only [Act.put, List.setIfInBounds_toArray, List.set_cons_zero, List.set_cons_succ]
      refine take_lawH 2 (some 31) (.agg ([.int .i64 g0, .int .i64 g1, .int .i64 (S : Int), .int .i64 g3, .int .i64 g4, .int .i64 g5] : List Value).toArray) rfl rfl (by kernel_rfl) (by kernel_rfl) (by kernel_rfl) (fun _ _ _ h => h) (Or.inl ⟨by rfl, fun w' hw' => by exact exec_loadN 23 (.tmp 3) rfl _ rfl _ _ (load_cells rowy_geo (HB0.out.below hw' (range_lt HB0.out.1 (Nat.succ_pos _))).1)⟩) hS ?_
      simp only [Act.put, List.setIfInBounds_toArray, List.set_cons_zero, List.set_cons_succ]
      refine take_lawH 3 (some 32) (.int .i64 (k : Int)) rfl rfl (by kernel_rfl) (by kernel_rfl) (by kernel_rfl) (fun _ _ _ h => h) (Or.inl ⟨by rfl, fun w' hw' => by rfl⟩) hS ?_
      simp only [Act.put, List.setIfInBounds_toArray, List.set_cons_zero, List.set_cons_succ]
      refine take_lawH 4 (some 33) (.int .u64 gen) rfl rfl (by kernel_rfl) (by kernel_rfl) (by kernel_rfl) (fun _ _ _ h => h) (Or.inl ⟨by rfl, fun w' hw' => by rfl⟩) hS ?_
      simp only [Act.put, List.setIfInBounds_toArray, List.set_cons_zero, List.set_cons_succ]
      refine take_lawH 6 (some 35) (av) rfl rfl (by kernel_rfl) (by kernel_rfl) (by kernel_rfl) (fun _ _ _ h => h) (Or.inl ⟨by rfl, fun w' hw' => by rfl⟩) hS ?_
      simp only [Act.put, List.setIfInBounds_toArray, List.set_cons_zero, List.set_cons_succ]
      refine take_lawH 7 (some 36) (.int .i64 (k : Int)) rfl rfl (by kernel_rfl) (by kernel_rfl) (by kernel_rfl) (fun _ _ _ h => h) (Or.inl ⟨by rfl, fun w' hw' => by rfl⟩) hS ?_
      simp only [Act.put, List.setIfInBounds_toArray, List.set_cons_zero, List.set_cons_succ]
      refine take_lawH 8 (some 37) (.pointer (some ⟨w.heap.size, 2, none⟩)) rfl rfl (by kernel_rfl) (by kernel_rfl) (by kernel_rfl) (fun _ _ _ h => h) (Or.inl ⟨by rfl, fun w' hw' => by go_simp⟩) hS ?_
      simp only [Act.put, List.setIfInBounds_toArray, List.set_cons_zero, List.set_cons_succ]
      refine take_lawH 9 (some 38) (.int .i64 (S : Int)) rfl rfl (by kernel_rfl) (by kernel_rfl) (by kernel_rfl) (fun _ _ _ h => h) (Or.inl ⟨by rfl, fun w' hw' => by exact exec_loadN 3 (.tmp 37) rfl _ rfl _ _ (ld_int ((HB0.out.below hw' (range_lt HB0.out.1 (Nat.succ_pos _))).cell 2 _ rfl))⟩) hS ?_
      simp only [Act.put, List.setIfInBounds_toArray, List.set_cons_zero, List.set_cons_succ]
      refine take_lawH 10 (some 39) (.int .i64 (p0 : Int)) rfl rfl (by kernel_rfl) (by kernel_rfl) (by kernel_rfl) (fun _ _ _ h => h) (Or.inl ⟨by rfl, fun w' hw' => by exact exec_mul (.tmp 36) (.tmp 38) rfl (k : Int) (S : Int) _ rfl rfl m0.out⟩) hS ?_
      simp only [Act.put, List.setIfInBounds_toArray, List.set_cons_zero, List.set_cons_succ]
      refine take_lawH 11 (some 40) (.int .i64 (k : Int)) rfl rfl (by kernel_rfl) (by kernel_rfl) (by kernel_rfl) (fun _ _ _ h => h) (Or.inl ⟨by rfl, fun w' hw' => by rfl⟩) hS ?_
      simp only [Act.put, List.setIfInBounds_toArray, List.set_cons_zero, List.set_cons_succ]
      refine take_lawH 12 (some 41) (.pointer (some ⟨w.heap.size, 2, none⟩)) rfl rfl (by kernel_rfl) (by kernel_rfl) (by kernel_rfl) (fun _ _ _ h => h) (Or.inl ⟨by rfl, fun w' hw' => by go_simp⟩) hS ?_
      simp only [Act.put, List.setIfInBounds_toArray, List.set_cons_zero, List.set_cons_succ]
      refine take_lawH 13 (some 42) (.int .i64 (S : Int)) rfl rfl (by kernel_rfl) (by kernel_rfl) (by kernel_rfl) (fun _ _ _ h => h) (Or.inl ⟨by rfl, fun w' hw' => by exact exec_loadN 3 (.tmp 41) rfl _ rfl _ _ (ld_int ((HB0.out.below hw' (range_lt HB0.out.1 (Nat.succ_pos _))).cell 2 _ rfl))⟩) hS ?_
      simp only [Act.put, List.setIfInBounds_toArray, List.set_cons_zero, List.set_cons_succ]
      refine take_lawH 14 (some 43) (.int .i64 (p0 : Int)) rfl rfl (by kernel_rfl) (by kernel_rfl) (by kernel_rfl) (fun _ _ _ h => h) (Or.inl ⟨by rfl, fun w' hw' => by exact exec_mul (.tmp 40) (.tmp 42) rfl (k : Int) (S : Int) _ rfl rfl m0.out⟩) hS ?_
      simp only [Act.put, List.setIfInBounds_toArray, List.set_cons_zero, List.set_cons_succ]
      refine take_lawH 15 (some 44) (.pointer (some ⟨w.heap.size, 2, none⟩)) rfl rfl (by kernel_rfl) (by kernel_rfl) (by kernel_rfl) (fun _ _ _ h => h) (Or.inl ⟨by rfl, fun w' hw' => by go_simp⟩) hS ?_
      simp only [Act.put, List.setIfInBounds_toArray, List.set_cons_zero, List.set_cons_succ]
      refine take_lawH 16 (some 45) (.int .i64 (S : Int)) rfl rfl (by kernel_rfl) (by kernel_rfl) (by kernel_rfl) (fun _ _ _ h => h) (Or.inl ⟨by rfl, fun w' hw' => by exact exec_loadN 3 (.tmp 44) rfl _ rfl _ _ (ld_int ((HB0.out.below hw' (range_lt HB0.out.1 (Nat.succ_pos _))).cell 2 _ rfl))⟩) hS ?_
      simp only [Act.put, List.setIfInBounds_toArray, List.set_cons_zero, List.set_cons_succ]
      refine take_lawH 17 (some 46) (.int .i64 (p1 : Int)) rfl rfl (by kernel_rfl) (by kernel_rfl) (by kernel_rfl) (fun _ _ _ h => h) (Or.inl ⟨by rfl, fun w' hw' => by exact exec_add (.tmp 43) (.tmp 45) rfl (p0 : Int) (S : Int) _ rfl rfl m1.out⟩) hS ?_
      simp only [Act.put, List.setIfInBounds_toArray, List.set_cons_zero, List.set_cons_succ]
      refine take_lawH 18 (some 47) (sl av p0 p1) rfl rfl (by kernel_rfl) (by kernel_rfl) (by kernel_rfl) (fun _ _ _ h => h) (Or.inl ⟨by rfl, fun w' hw' => by exact exec_part (.tmp 35) (.tmp 39) (.tmp 46) rfl av X _ YX.out p0 p1 rfl rfl rfl pl.out.1 pl.out.2 _⟩) hS ?_
      simp only [Act.put, List.setIfInBounds_toArray, List.set_cons_zero, List.set_cons_succ]
      refine wpAnyH_ready (rs := [5]) (by kernel_rfl) (by simp) ?_
      refine AllReadyH.cons rfl (fun K hK => ?_) AllReadyH.nil
      refine step_callW _ (by rfl) (some 34) rfl 28 #[.tmp 31, .tmp 32, .tmp 33] #[23, 3, 25] rfl (fun q w' => by rfl) #[.agg ([.int .i64 g0, .int .i64 g1, .int .i64 (S : Int), .int .i64 g3, .int .i64 g4, .int .i64 g5] : List Value).toArray, .int .i64 (k : Int), .int .u64 gen] (by simp only [List.map_toArray, List.map_cons, List.map_nil]; rfl) (fun u w' => u = .agg (hv 4 (k : Int) 0 (N : Int) gen 0).toArray ∧ Below y1.heap.size y1 w') ?_ ?_
      · exact (SH.out y1).mono fun e w' ⟨h1, h2⟩ => ⟨_, h1, rfl, h2⟩
      rintro _ y2 ⟨rfl, hb⟩
      have HR : Hid (Pgk w1.heap.size y2 u7 F k) := HR.out.below hb
      have HX : Hid (Own w1.heap.size y2 av X) := own_low HX.out hb
      have hS : Below w1.heap.size w1 y2 := hS.trans (hb.mono hS.size)
      clear hb
      refine hK.out _ _ hS (fun _ => ?_)
      simp only [Act.put, List.setIfInBounds_toArray, List.set_cons_zero, List.set_cons_succ]
      clear hK K
      refine wpAnyH_ready (rs := [19]) (by kernel_rfl) (by simp) ?_
      refine AllReadyH.cons rfl (fun K hK => ?_) AllReadyH.nil
      refine step_callW _ (by rfl) (some 48) rfl 27 #[.tmp 30, .tmp 34, .tmp 47, .const (.slice none 0 0)] #[23, 57, 24, 24] rfl (fun q w' => by rfl) #[.agg ([.int .i64 g0, .int .i64 g1, .int .i64 (S : Int), .int .i64 g3, .int .i64 g4, .int .i64 g5] : List Value).toArray, .agg (hv 4 (k : Int) 0 (N : Int) gen 0).toArray, sl av p0 p1, .slice none 0 0] (by simp only [List.map_toArray, List.map_cons, List.map_nil]; rfl) (fun u w' => Own y2.heap.size w' u (F k) ∧ Below y2.heap.size y2 w') ?_ ?_
      · exact (SM.out y2 _ hlt (by have z := sl_sub (HX.out.byt XA.out) p0 p1 pl.out.1 pl.out.2; rw [pq.out] at z; exact z)).mono fun e w' ⟨v, h1, h2, h3⟩ => ⟨_, h1, h2, h3⟩
      rintro pv y3 ⟨o9, hb⟩
      have HR : Hid (Pgk w1.heap.size y3 u7 F k) := HR.out.below hb
      have HX : Hid (Own w1.heap.size y3 av X) := own_low HX.out hb
      have HO : Hid (Own w1.heap.size y3 pv (F k)) := own_less o9 hS.size
      clear o9
      have hS : Below w1.heap.size w1 y3 := hS.trans (hb.mono hS.size)
      clear hb
      refine hK.out _ _ hS (fun _ => ?_)
      simp only [Act.put, List.setIfInBounds_toArray, List.set_cons_zero, List.set_cons_succ]
      clear hK K
      refine wpAnyH_ready (rs := [20]) (by kernel_rfl) (by simp) ?_
      refine AllReadyH.cons rfl (fun K hK => ?_) AllReadyH.nil
      refine step_oneR _ (by rfl) (some 49) rfl (.tmp 48) rfl pv (own_sle HO.out) rfl ?_
      intro y4 o9 hb
      have O8 : Hid (OwnR y3.heap.size y4 (.slice (some ⟨y3.heap.size, 0, none⟩) 1 1) [pv]) := o9
      have HR : Hid (Pgk w1.heap.size y4 u7 F k) := HR.out.below hb
      have HX : Hid (Own w1.heap.size y4 av X) := own_low HX.out hb
      have HO : Hid (Own w1.heap.size y4 pv (F k)) := own_low HO.out hb
      have hS : Below w1.heap.size w1 y4 := hS.trans (hb.mono hS.size)
      clear hb o9
      refine hK.out _ _ hS (fun _ => ?_)
      simp only [Act.put, List.setIfInBounds_toArray, List.set_cons_zero, List.set_cons_succ]
      clear hK K
      refine wpAnyH_ready (rs := [21]) (by kernel_rfl) (by simp) ?_
      refine AllReadyH.cons rfl (fun K hK => ?_) AllReadyH.nil
      refine step_pushP _ (by rfl) (some 50) rfl (.tmp 29) (.tmp 49) rfl w1.heap.size _ hS.size u7 _ pv F k rfl rfl HR.out O8.out HO.out (own_sle HO.out) (by omega) ?_
      intro v3 y5 o9 hb k9
      have HZ : Hid (Pgk w1.heap.size y5 v3 F (k + 1)) := o9
      have HX : Hid (Own w1.heap.size y5 av X) := k9 _ _ _ HX.out
      have hS : Below w1.heap.size w1 y5 := hS.trans hb
      clear o9 hb k9
      refine hK.out _ _ hS (fun _ => ?_)
      simp only [Act.put, List.setIfInBounds_toArray, List.set_cons_zero, List.set_cons_succ]
      clear hK K
      refine take_lawH 22 (some 7) (v3) rfl rfl (by kernel_rfl) (by kernel_rfl) (by kernel_rfl) (fun _ _ _ h => h) (Or.inl ⟨by rfl, fun w' hw' => by rfl⟩) hS ?_
      simp only [Act.put, List.setIfInBounds_toArray, List.set_cons_zero, List.set_cons_succ]
      refine wpAnyH_done (by kernel_rfl) ?_ _
      have BZ : Hid (Below w1.heap.size w1 y5) := hS
      clear hS
      go_wp2
      go_roundw
      case rel => exact ⟨k + 1, by omega, by go_num, HZ.out, HX.out, BZ.out⟩
      case measure => simp [intOf]; omega
    · have ek : k = N := by omega
      subst ek
      have HR : Hid (Pgk w1.heap.size wr u7 F k) := hR
      clear hR hX
      go_wp2
      go_ret
      exact ⟨_, rfl, HR.out.pgs FA.out, BW.out.trans (BR.out.mono BW.out.size)⟩
end Go.Proofs.YtahfcpdekjdceaaDoor.ck
