/- Texts put together (a claim holds few files). No claim of its own. -/
import Derived.Test.YtahfcpdekjdceaaDoorPackK
import Derived.Test.YtahfcpdekjdceaaDoorPackD
import Derived.Test.YtahfcpdekjdceaaDoorPackI
import Derived.Deep.Slices
/- What chunk's Hold answers. No claim of its own. -/
namespace Go.Proofs.YtahfcpdekjdceaaDoor.ck
open Go.RowKit Go.Proofs.YtahfcpdekjdceaaDoor.fa Go.Proofs.YtahfcpdekjdceaaDoor.he Go.Proofs.YtahfcpdekjdceaaDoor.pa
set_option maxRecDepth 20000

set_option maxHeartbeats 4000000 in
theorem hold_geo (g0 g1 g2 g3 g4 g5 : Int) (v : Value) (w : World) (hr : ¬ ge.Rt [g0, g1, g2, g3, g4, g5]) :
    Calls Tryd.prog 14 #[.agg (ints .i64 [g0, g1, g2, g3, g4, g5]), v] w fun x w' => x = .returned (.tuple #[.int .u64 0, .slice none 0 0, .bool false]) ∧ Below w.heap.size w w' := by
  have SC : Hid (∀ w0, Calls Tryd.prog 29 #[.agg (ints .i64 [g0, g1, g2, g3, g4, g5])] w0 fun x w' => x = .returned (.int .i64 0) ∧ Below w0.heap.size w0 w') := fun w0 => ge.chunks_no [g0, g1, g2, g3, g4, g5] rfl hr w0
  clear hr
  have t0 : (0 : Nat) = 0 := rfl
  go_enter Tryd.func14, Tryd.ntmps14
  go_wp2_with (first
    | (have q1 := t1; go_at_call 29; refine (SC.out w1).mono ?_; rintro e9 w2 ⟨rfl, B9⟩; have HB0 : Hid (Vr w2 w.heap.size [.int .i64 g0, .int .i64 g1, .int .i64 g2, .int .i64 g3, .int .i64 g4, .int .i64 g5]) := HB0.out.below B9 (range_lt HB0.out.1 (Nat.succ_pos _)); have BB : Hid (Below w.heap.size w w2) := BB.out.trans (B9.mono BB.out.size); clear hb0_0 hb0_1 hb0_2 hb0_3 hb0_4 hb0_5; have hb0_0 := HB0.out.cell 0 _ rfl; have hb0_1 := HB0.out.cell 1 _ rfl; have hb0_2 := HB0.out.cell 2 _ rfl; have hb0_3 := HB0.out.cell 3 _ rfl; have hb0_4 := HB0.out.cell 4 _ rfl; have hb0_5 := HB0.out.cell 5 _ rfl; clear B9; clear t1; have t2 : (1 : Nat) = 1 := rfl)
    | (have q0 := t0; refine box_lawC _ [.int .i64 g0, .int .i64 g1, .int .i64 g2, .int .i64 g3, .int .i64 g4, .int .i64 g5] rfl ?_; intro w1 X9 B9 l9; have HB0 : Hid (Vr w1 w.heap.size [.int .i64 g0, .int .i64 g1, .int .i64 g2, .int .i64 g3, .int .i64 g4, .int .i64 g5]) := X9; have BB : Hid (Below w.heap.size w w1) := B9; have hb0_0 := HB0.out.cell 0 _ rfl; have hb0_1 := HB0.out.cell 1 _ rfl; have hb0_2 := HB0.out.cell 2 _ rfl; have hb0_3 := HB0.out.cell 3 _ rfl; have hb0_4 := HB0.out.cell 4 _ rfl; have hb0_5 := HB0.out.cell 5 _ rfl; clear X9 B9 l9; clear t0; have t1 : (1 : Nat) = 1 := rfl))
  go_ret3
  exact ⟨rfl, BB.out⟩

set_option maxHeartbeats 4000000 in
theorem hold_few (g0 g1 g3 g4 g5 : Int) (S : Nat) (ao : Option Addr) (n cap : Nat) (w : World) (hr : ge.Rt [g0, g1, (S : Int), g3, g4, g5]) (hl : n < nc S) :
    Calls Tryd.prog 14 #[.agg (ints .i64 [g0, g1, (S : Int), g3, g4, g5]), .slice ao n cap] w fun x w' => x = .returned (.tuple #[.int .u64 0, .slice none 0 0, .bool false]) ∧ Below w.heap.size w w' := by
  have SC : Hid (∀ w0, Calls Tryd.prog 29 #[.agg (ints .i64 [g0, g1, (S : Int), g3, g4, g5])] w0 fun x w' => x = .returned (.int .i64 (nc S : Int)) ∧ Below w0.heap.size w0 w') := fun w0 => chunks_nc hr w0
  have n0 : ((nc S : Int) == 0) = false := beq_eq_false_iff_ne.2 (by omega)
  have n1 : (n : Int) < (nc S : Int) := by omega
  generalize (nc S : Int) = N at SC n0 n1
  clear hr hl
  have t0 : (0 : Nat) = 0 := rfl
  go_enter Tryd.func14, Tryd.ntmps14
  go_wp2_with (first
    | (have q1 := t1; go_at_call 29; refine (SC.out w1).mono ?_; rintro e9 w2 ⟨rfl, B9⟩; have HB0 : Hid (Vr w2 w.heap.size [.int .i64 g0, .int .i64 g1, .int .i64 (S : Int), .int .i64 g3, .int .i64 g4, .int .i64 g5]) := HB0.out.below B9 (range_lt HB0.out.1 (Nat.succ_pos _)); have BB : Hid (Below w.heap.size w w2) := BB.out.trans (B9.mono BB.out.size); clear hb0_0 hb0_1 hb0_2 hb0_3 hb0_4 hb0_5; have hb0_0 := HB0.out.cell 0 _ rfl; have hb0_1 := HB0.out.cell 1 _ rfl; have hb0_2 := HB0.out.cell 2 _ rfl; have hb0_3 := HB0.out.cell 3 _ rfl; have hb0_4 := HB0.out.cell 4 _ rfl; have hb0_5 := HB0.out.cell 5 _ rfl; clear B9; clear t1; have t2 : (1 : Nat) = 1 := rfl)
    | (have q0 := t0; refine box_lawC _ [.int .i64 g0, .int .i64 g1, .int .i64 (S : Int), .int .i64 g3, .int .i64 g4, .int .i64 g5] rfl ?_; intro w1 X9 B9 l9; have HB0 : Hid (Vr w1 w.heap.size [.int .i64 g0, .int .i64 g1, .int .i64 (S : Int), .int .i64 g3, .int .i64 g4, .int .i64 g5]) := X9; have BB : Hid (Below w.heap.size w w1) := B9; have hb0_0 := HB0.out.cell 0 _ rfl; have hb0_1 := HB0.out.cell 1 _ rfl; have hb0_2 := HB0.out.cell 2 _ rfl; have hb0_3 := HB0.out.cell 3 _ rfl; have hb0_4 := HB0.out.cell 4 _ rfl; have hb0_5 := HB0.out.cell 5 _ rfl; clear X9 B9 l9; clear t0; have t1 : (1 : Nat) = 1 := rfl))
  go_ret3
  exact ⟨rfl, BB.out⟩

set_option maxHeartbeats 4000000 in
theorem hold_in (g0 g1 g3 g4 g5 : Int) (S : Nat) (b off n cap : Nat) (ls : List (List Int)) (w : World) (u : Value) (D : Bool) (hr : ge.Rt [g0, g1, (S : Int), g3, g4, g5]) (hT : Tab w) (hn' : nc S ≤ n) (hcap : n ≤ cap) (hc : w.cell? ⟨b, off + (nc S - 1), none⟩ = some u) (hu : Byt w u (ls.getD (nc S - 1) [])) (hall : ∀ i, i < n → ∃ z, w.cell? ⟨b, off + i, none⟩ = some z ∧ Byt w z (ls.getD i [])) (hlen : n = ls.length) (hD : D = true ↔ Dn S (ls.getD (nc S - 1) [])) :
    Calls Tryd.prog 14 #[.agg (ints .i64 [g0, g1, (S : Int), g3, g4, g5]), .slice (some ⟨b, off, none⟩) n cap] w fun x w' => HoldIs S ls x w' ∧ Below w.heap.size w w' := by
  have ⟨s1, s2⟩ := rt_sec hr
  have hn := nc_le s1 s2
  have SC : Hid (∀ w0, Calls Tryd.prog 29 #[.agg (ints .i64 [g0, g1, (S : Int), g3, g4, g5])] w0 fun x w' => x = .returned (.int .i64 (nc S : Int)) ∧ Below w0.heap.size w0 w') := fun w0 => chunks_nc hr w0
  have SD : Hid (∀ w0, Below w.heap.size w w0 → Calls Tryd.prog 30 #[.agg (ints .i64 [g0, g1, (S : Int), g3, g4, g5]), u, .int .i64 4] w0 fun x w' => (∃ pg, x = .returned (.tuple #[.agg pg.toArray, .bool D]) ∧ Pg9 pg (if D = true then glast S ls else 0)) ∧ Below w0.heap.size w0 w') := fun w0 q => done_all g0 g1 g3 g4 g5 S u _ w0 hr (hu.below q) (hT.below q) D hD
  have SH : Hid (∀ {k : Nat} w0, Calls Tryd.prog 23 #[.agg (ints .i64 [g0, g1, (S : Int), g3, g4, g5]), .int .i64 (k : Int), .int .u64 (glast S ls)] w0 fun x w' => x = .returned (.agg (hv 4 (k : Int) 0 (nc S : Int) (glast S ls) 0).toArray) ∧ Below w0.heap.size w0 w') := fun {k} w0 => headof_any g0 g1 g3 g4 g5 S k (glast S ls) w0 hr
  have HC : Hid (∀ w', Below w.heap.size w w' → w'.cell? ⟨b, off + (nc S - 1), none⟩ = some u) := fun w' q => by rw [q.cell (World.block_lt_of_cell? _ _ hc)]; exact hc
  have HA : Hid (∀ i, i < n → ∃ z, (∀ w', Below w.heap.size w w' → w'.cell? ⟨b, off + i, none⟩ = some z) ∧ Byt w z (ls.getD i [])) := fun i hi => by
    obtain ⟨z, h1, h2⟩ := hall i hi
    exact ⟨z, fun w' q => by rw [q.cell (World.block_lt_of_cell? _ _ h1)]; exact h1, h2⟩
  have HD : Hid (D = true ↔ Dn S (ls.getD (nc S - 1) [])) := hD
  have HR : Hid (ge.Rt [g0, g1, (S : Int), g3, g4, g5] ∧ Tab w) := ⟨hr, hT⟩
  have HX : Hid (Khd S ls ↔ (∀ i, i < nc S → Kpg S (glast S ls) i (ls.getD i [])) ∧ Kcm S (ls.getD (nc S - 1) [])) := (by rw [Hid, khd_last hn.1]; exact ⟨fun h => h.2, fun h => ⟨by omega, h⟩⟩)
  have HG : Hid (Khd S ls → kgen S ls = glast S ls) := fun h => (kgen_last hn.1 h).symm
  have HKr : Hid (krec S ls = (parts (fun j => (ls.getD j []).take S) (nc S)).take 624) := rfl
  have HM : Hid (624 ≤ nc S * S) := hn.2.2.1
  have hM : (nc S : Int) * (S : Int) = ((nc S * S : Nat) : Int) := (Int.natCast_mul _ _).symm
  have N1 : Hid (IntKind.i64.wrap ((nc S : Int) - 1) = ((nc S - 1 : Nat) : Int)) := (by show _ = _; rw [IntKind.wrap_i64]; omega)
  have NN : Hid (nc S - 1 < n) := (by show _ < _; omega)
  have NC : Hid (nc S ≤ cap) := (by show _ ≤ _; omega)
  have n0 : ((nc S : Int) == 0) = false := beq_eq_false_iff_ne.2 (by omega)
  have n2 : ¬ ((n : Int) < (nc S : Int)) := by omega
  have n20 : nc S ≤ 20 := hn.2.1
  have ML : Hid (nc S * S ≤ 1099511627776) := (by show _ ≤ _; omega)
  have m1 : (624 : Int) ≤ ((nc S * S : Nat) : Int) := by omega
  have m2 : ((nc S * S : Nat) : Int) ≤ 10000 := by omega
  have nn : nc S ≤ n := hn'
  have s4 : S ≤ 4096 := s2
  obtain ⟨M, eM⟩ : ∃ M, nc S * S = M := ⟨_, rfl⟩
  rw [eM] at HM hM ML m1 m2
  have EM : Hid (nc S * S = M) := eM
  obtain ⟨N, eN⟩ : ∃ N, nc S = N := ⟨_, rfl⟩
  rw [eN] at SC SH HC HD HX HKr hM N1 NN NC n0 n2 n20 nn EM
  obtain ⟨F, eF⟩ : ∃ F : Nat → List Int, F = fun j => (ls.getD j []).take S := ⟨_, rfl⟩
  rw [← eF] at HKr
  have EF : Hid (∀ j, F j = (ls.getD j []).take S) := fun j => by rw [eF]
  have HDG : Hid (D = true → (if D = true then glast S ls else 0) = glast S ls) := fun h => if_pos h
  have EK : Hid (nc S = N) := eN
  clear hr hT hu hc hall hD hn hn' hcap s1 s2 eM eN eF
  clear hlen
  obtain ⟨G, eG⟩ : ∃ G, (if D = true then glast S ls else 0) = G := ⟨_, rfl⟩
  rw [eG] at SD HDG
  clear eG
  have t0 : (0 : Nat) = 0 := rfl
  go_enter Tryd.func14, Tryd.ntmps14
  go_wp2_with (first
    | (have q1 := t1; go_at_call 29; refine (SC.out w1).mono ?_; rintro e9 w2 ⟨rfl, B9⟩; have HB0 : Hid (Vr w2 w.heap.size [.int .i64 g0, .int .i64 g1, .int .i64 (S : Int), .int .i64 g3, .int .i64 g4, .int .i64 g5]) := HB0.out.below B9 (range_lt HB0.out.1 (Nat.succ_pos _)); have BB : Hid (Below w.heap.size w w2) := BB.out.trans (B9.mono BB.out.size); clear hb0_0 hb0_1 hb0_2 hb0_3 hb0_4 hb0_5; have hb0_0 := HB0.out.cell 0 _ rfl; have hb0_1 := HB0.out.cell 1 _ rfl; have hb0_2 := HB0.out.cell 2 _ rfl; have hb0_3 := HB0.out.cell 3 _ rfl; have hb0_4 := HB0.out.cell 4 _ rfl; have hb0_5 := HB0.out.cell 5 _ rfl; clear B9; clear t1; have t2 : (1 : Nat) = 1 := rfl)
    | (have q0 := t0; refine box_lawC _ [.int .i64 g0, .int .i64 g1, .int .i64 (S : Int), .int .i64 g3, .int .i64 g4, .int .i64 g5] rfl ?_; intro w1 X9 B9 l9; have HB0 : Hid (Vr w1 w.heap.size [.int .i64 g0, .int .i64 g1, .int .i64 (S : Int), .int .i64 g3, .int .i64 g4, .int .i64 g5]) := X9; have BB : Hid (Below w.heap.size w w1) := B9; have hb0_0 := HB0.out.cell 0 _ rfl; have hb0_1 := HB0.out.cell 1 _ rfl; have hb0_2 := HB0.out.cell 2 _ rfl; have hb0_3 := HB0.out.cell 3 _ rfl; have hb0_4 := HB0.out.cell 4 _ rfl; have hb0_5 := HB0.out.cell 5 _ rfl; clear X9 B9 l9; clear t0; have t1 : (1 : Nat) = 1 := rfl))
  go_cut [8, 9] (fun r8 r9 wc => ∃ gv : Nat, r8 = .pointer (some ⟨gv, 0, none⟩) ∧ r9 = .bool D ∧ wc.cell? ⟨gv, 4, none⟩ = some (.int .u64 G) ∧ Below w2.heap.size w2 wc)
  case first =>
    refine wp_region_held_drew (S := fun w' => Below w2.heap.size w2 w') (by kernel_rfl) (Below.refl _ _).drew (fun hS => ?_)
    obtain ⟨x1, hx0⟩ : ∃ x, x = w2.drew := ⟨_, rfl⟩
    rw [← hx0] at hS  ⊢
    clear hx0
    refine take_lawH 0 (some 27) (.agg ([.int .i64 g0, .int .i64 g1, .int .i64 (S : Int), .int .i64 g3, .int .i64 g4, .int .i64 g5] : List Value).toArray) rfl rfl (by kernel_rfl) (by kernel_rfl) (by kernel_rfl) (fun _ _ _ h => h) (Or.inl ⟨by rfl, fun w' hw' => by exact exec_loadN 23 (.tmp 2) rfl _ rfl _ _ (load_cells rowy_geo (HB0.out.below hw' (range_lt HB0.out.1 (Nat.succ_pos _))).1)⟩) hS ?_
    simp only [Act.put, List.setIfInBounds_toArray, List.set_cons_zero, List.set_cons_succ]
    refine take_lawH 1 (some 28) (.slice (some ⟨b, off, none⟩) n cap) rfl rfl (by kernel_rfl) (by kernel_rfl) (by kernel_rfl) (fun _ _ _ h => h) (Or.inl ⟨by rfl, fun w' hw' => by rfl⟩) hS ?_
    simp only [Act.put, List.setIfInBounds_toArray, List.set_cons_zero, List.set_cons_succ]
    refine take_lawH 2 (some 29) (.int .i64 (N : Int)) rfl rfl (by kernel_rfl) (by kernel_rfl) (by kernel_rfl) (fun _ _ _ h => h) (Or.inl ⟨by rfl, fun w' hw' => by rfl⟩) hS ?_
    simp only [Act.put, List.setIfInBounds_toArray, List.set_cons_zero, List.set_cons_succ]
    refine take_lawH 3 (some 30) (.int .i64 ((N - 1 : Nat) : Int)) rfl rfl (by kernel_rfl) (by kernel_rfl) (by kernel_rfl) (fun _ _ _ h => h) (Or.inl ⟨by rfl, fun w' hw' => by exact exec_sub (.tmp 29) (.const (.int .i64 1)) rfl (N : Int) 1 _ rfl rfl N1.out⟩) hS ?_
    simp only [Act.put, List.setIfInBounds_toArray, List.set_cons_zero, List.set_cons_succ]
    refine take_lawH 4 (some 31) (.pointer (some ⟨b, off + (N - 1), none⟩)) rfl rfl (by kernel_rfl) (by kernel_rfl) (by kernel_rfl) (fun _ _ _ h => h) (Or.inl ⟨by rfl, fun w' hw' => by exact exec_idxR (.tmp 28) (.tmp 30) rfl b off n cap (N - 1) rfl rfl NN.out _⟩) hS ?_
    simp only [Act.put, List.setIfInBounds_toArray, List.set_cons_zero, List.set_cons_succ]
    refine take_lawH 5 (some 32) (u) rfl rfl (by kernel_rfl) (by kernel_rfl) (by kernel_rfl) (fun _ _ _ h => h) (Or.inl ⟨by rfl, fun w' hw' => by exact exec_loadN 24 (.tmp 31) rfl _ rfl _ _ (load_one one_bytes (HC.out _ (BB.out.trans (hw'.mono BB.out.size))))⟩) hS ?_
    simp only [Act.put, List.setIfInBounds_toArray, List.set_cons_zero, List.set_cons_succ]
    refine wpAnyH_ready (rs := [6, 10]) (by kernel_rfl) (by simp) ?_
    refine AllReadyH.cons rfl (fun K hK => ?_) (AllReadyH.cons rfl (fun K hK => ?_) AllReadyH.nil)
    · refine step_callW _ (by rfl) (some 33) rfl 30 #[.tmp 27, .tmp 32, .const (.int .i64 4)] #[23, 24, 3] rfl (fun q w' => by rfl) #[.agg ([.int .i64 g0, .int .i64 g1, .int .i64 (S : Int), .int .i64 g3, .int .i64 g4, .int .i64 g5] : List Value).toArray, u, .int .i64 4] (by simp only [List.map_toArray, List.map_cons, List.map_nil]; rfl) (fun z w' => (∃ pg, z = .tuple #[.agg pg.toArray, .bool D] ∧ Pg9 pg G) ∧ Below x1.heap.size x1 w') ?_ ?_
      · exact (SD.out x1 (BB.out.trans (hS.mono BB.out.size))).mono fun e w' ⟨⟨pg, h1, h2⟩, h3⟩ => ⟨_, h1, ⟨pg, rfl, h2⟩, h3⟩
      rintro _ x2 ⟨⟨pg, rfl, p9⟩, hb⟩
      have PG : Hid (Pg9 pg G) := p9
      clear p9
      have hS : Below w2.heap.size w2 x2 := hS.trans (hb.mono hS.size)
      clear hb
      refine hK.out _ _ hS (fun _ => ?_)
      simp only [Act.put, List.setIfInBounds_toArray, List.set_cons_zero, List.set_cons_succ]
      clear hK K
      refine take_lawH 7 (some 26) (.tuple #[.agg pg.toArray, .bool D]) rfl rfl (by kernel_rfl) (by kernel_rfl) (by kernel_rfl) (fun _ _ _ h => h) (Or.inl ⟨by rfl, fun w' hw' => by rfl⟩) hS ?_
      simp only [Act.put, List.setIfInBounds_toArray, List.set_cons_zero, List.set_cons_succ]
      refine take_lawH 8 (some 34) (.agg pg.toArray) rfl rfl (by kernel_rfl) (by kernel_rfl) (by kernel_rfl) (fun _ _ _ h => h) (Or.inl ⟨by rfl, fun w' hw' => by rfl⟩) hS ?_
      simp only [Act.put, List.setIfInBounds_toArray, List.set_cons_zero, List.set_cons_succ]
      refine take_lawH 9 (some 35) (.bool D) rfl rfl (by kernel_rfl) (by kernel_rfl) (by kernel_rfl) (fun _ _ _ h => h) (Or.inl ⟨by rfl, fun w' hw' => by rfl⟩) hS ?_
      simp only [Act.put, List.setIfInBounds_toArray, List.set_cons_zero, List.set_cons_succ]
      refine wpAnyH_ready (rs := [10]) (by kernel_rfl) (by simp) ?_
      refine AllReadyH.cons rfl (fun K hK => ?_) AllReadyH.nil
      refine step_newC _ rfl (some 8) rfl 64 rfl Z9 zero_page ?_
      intro x3 v9 hb l9
      have HV : Hid (Vr x3 x2.heap.size Z9) := v9
      have LV : Hid (w2.heap.size ≤ x2.heap.size) := hS.size
      have hS : Below w2.heap.size w2 x3 := hS.trans (hb.mono hS.size)
      clear v9 hb l9
      obtain ⟨gv, hg9⟩ : ∃ g, g = x2.heap.size := ⟨_, rfl⟩
      rw [← hg9] at HV LV ⊢
      clear hg9
      refine hK.out _ _ hS (fun _ => ?_)
      simp only [Act.put, List.setIfInBounds_toArray, List.set_cons_zero, List.set_cons_succ]
      clear hK K
      refine wpAnyH_ready (rs := [11]) (by kernel_rfl) (by simp) ?_
      refine AllReadyH.cons rfl (fun K hK => ?_) AllReadyH.nil
      refine step_storeC _ rfl none rfl (.tmp 8) (.tmp 34) 64 rfl gv Z9 pg rfl rfl HV.out (by rw [PG.out.1]; rfl) (by rw [PG.out.1]; exact rowy_page.2) PG.out.2.1 ?_
      intro x4 v9 B9
      have CV : Hid (x4.cell? ⟨gv, 4, none⟩ = some (.int .u64 G)) := v9.cell 4 _ PG.out.2.2
      have hS : Below w2.heap.size w2 x4 := hS.trans (B9.mono LV.out)
      clear v9 B9
      refine hK.out _ _ hS (fun _ => ?_)
      simp only [Act.put]
      clear hK K
      refine take_lawH 12 (some 9) (.bool D) rfl rfl (by kernel_rfl) (by kernel_rfl) (by kernel_rfl) (fun _ _ _ h => h) (Or.inl ⟨by rfl, fun w' hw' => by rfl⟩) hS ?_
      simp only [Act.put, List.setIfInBounds_toArray, List.set_cons_zero, List.set_cons_succ]
      refine wpAnyH_done (by kernel_rfl) ?_ _
      go_wp2_with fail
      go_meet
      exact ⟨gv, rfl, rfl, CV.out, hS⟩
    · refine step_newC _ rfl (some 8) rfl 64 rfl Z9 zero_page ?_
      intro x5 v9 hb l9
      have HV : Hid (Vr x5 x1.heap.size Z9) := v9
      have LV : Hid (w2.heap.size ≤ x1.heap.size) := hS.size
      have hS : Below w2.heap.size w2 x5 := hS.trans (hb.mono hS.size)
      clear v9 hb l9
      obtain ⟨gv, hg9⟩ : ∃ g, g = x1.heap.size := ⟨_, rfl⟩
      rw [← hg9] at HV LV ⊢
      clear hg9
      refine hK.out _ _ hS (fun _ => ?_)
      simp only [Act.put, List.setIfInBounds_toArray, List.set_cons_zero, List.set_cons_succ]
      clear hK K
      refine wpAnyH_ready (rs := [6]) (by kernel_rfl) (by simp) ?_
      refine AllReadyH.cons rfl (fun K hK => ?_) AllReadyH.nil
      refine step_callW _ (by rfl) (some 33) rfl 30 #[.tmp 27, .tmp 32, .const (.int .i64 4)] #[23, 24, 3] rfl (fun q w' => by rfl) #[.agg ([.int .i64 g0, .int .i64 g1, .int .i64 (S : Int), .int .i64 g3, .int .i64 g4, .int .i64 g5] : List Value).toArray, u, .int .i64 4] (by simp only [List.map_toArray, List.map_cons, List.map_nil]; rfl) (fun z w' => (∃ pg, z = .tuple #[.agg pg.toArray, .bool D] ∧ Pg9 pg G) ∧ Below x5.heap.size x5 w') ?_ ?_
      · exact (SD.out x5 (BB.out.trans (hS.mono BB.out.size))).mono fun e w' ⟨⟨pg, h1, h2⟩, h3⟩ => ⟨_, h1, ⟨pg, rfl, h2⟩, h3⟩
      rintro _ x6 ⟨⟨pg, rfl, p9⟩, hb⟩
      have PG : Hid (Pg9 pg G) := p9
      have HV : Hid (Vr x6 gv Z9) := HV.out.below hb (range_lt HV.out.1 (Nat.succ_pos _))
      clear p9
      have hS : Below w2.heap.size w2 x6 := hS.trans (hb.mono hS.size)
      clear hb
      refine hK.out _ _ hS (fun _ => ?_)
      simp only [Act.put, List.setIfInBounds_toArray, List.set_cons_zero, List.set_cons_succ]
      clear hK K
      refine take_lawH 7 (some 26) (.tuple #[.agg pg.toArray, .bool D]) rfl rfl (by kernel_rfl) (by kernel_rfl) (by kernel_rfl) (fun _ _ _ h => h) (Or.inl ⟨by rfl, fun w' hw' => by rfl⟩) hS ?_
      simp only [Act.put, List.setIfInBounds_toArray, List.set_cons_zero, List.set_cons_succ]
      refine take_lawH 8 (some 34) (.agg pg.toArray) rfl rfl (by kernel_rfl) (by kernel_rfl) (by kernel_rfl) (fun _ _ _ h => h) (Or.inl ⟨by rfl, fun w' hw' => by rfl⟩) hS ?_
      simp only [Act.put, List.setIfInBounds_toArray, List.set_cons_zero, List.set_cons_succ]
      refine take_lawH 9 (some 35) (.bool D) rfl rfl (by kernel_rfl) (by kernel_rfl) (by kernel_rfl) (fun _ _ _ h => h) (Or.inl ⟨by rfl, fun w' hw' => by rfl⟩) hS ?_
      simp only [Act.put, List.setIfInBounds_toArray, List.set_cons_zero, List.set_cons_succ]
      refine wpAnyH_ready (rs := [11]) (by kernel_rfl) (by simp) ?_
      refine AllReadyH.cons rfl (fun K hK => ?_) AllReadyH.nil
      refine step_storeC _ rfl none rfl (.tmp 8) (.tmp 34) 64 rfl gv Z9 pg rfl rfl HV.out (by rw [PG.out.1]; rfl) (by rw [PG.out.1]; exact rowy_page.2) PG.out.2.1 ?_
      intro x7 v9 B9
      have CV : Hid (x7.cell? ⟨gv, 4, none⟩ = some (.int .u64 G)) := v9.cell 4 _ PG.out.2.2
      have hS : Below w2.heap.size w2 x7 := hS.trans (B9.mono LV.out)
      clear v9 B9
      refine hK.out _ _ hS (fun _ => ?_)
      simp only [Act.put]
      clear hK K
      refine take_lawH 12 (some 9) (.bool D) rfl rfl (by kernel_rfl) (by kernel_rfl) (by kernel_rfl) (fun _ _ _ h => h) (Or.inl ⟨by rfl, fun w' hw' => by rfl⟩) hS ?_
      simp only [Act.put, List.setIfInBounds_toArray, List.set_cons_zero, List.set_cons_succ]
      refine wpAnyH_done (by kernel_rfl) ?_ _
      go_wp2_with fail
      go_meet
      exact ⟨gv, rfl, rfl, CV.out, hS⟩
  case rest =>
    obtain ⟨gv, rfl, rfl, x1, x2⟩ := hcut
    have BW : Hid (Below w.heap.size w wc) := BB.out.trans (x2.mono BB.out.size)
    clear hb0_0 hb0_1 hb0_2 hb0_3 hb0_4 hb0_5
    cases hd : D with
    | false =>
      subst hd
      have BW2 := BW
      clear HB0 x2
      go_wp2
      go_ret3
      refine ⟨.inr ⟨fun h => ?_, rfl⟩, BW.out⟩
      have z := HX.out.1 h
      have k := z.1 (N - 1) (by have := NN.out; have := HM.out; have e := EM.out; cases N with | zero => simp at e; omega | succ m => omega)
      exact Bool.false_ne_true (HD.out.2 ⟨k.1, k.2.1, z.2, k.2.2.1⟩)
    | true =>
      subst hd
      have eG := HDG.out rfl
      subst eG
      replace x1 : wc.cell? ⟨gv, 4, none⟩ = some (.int .u64 (glast S ls)) := x1
      have DD : Hid (Dn S (ls.getD (N - 1) [])) := HD.out.1 rfl
      obtain ⟨G, eG⟩ : ∃ G, glast S ls = G := ⟨_, rfl⟩
      have EG : Hid (glast S ls = G) := eG
      rw [eG] at SH HX HG x1
      clear eG HD HDG SD
      have BB : Hid (Below w.heap.size w wc) := BW.out
      have HB0 : Hid (Vr wc w.heap.size [.int .i64 g0, .int .i64 g1, .int .i64 (S : Int), .int .i64 g3, .int .i64 g4, .int .i64 g5]) := HB0.out.below x2 (range_lt HB0.out.1 (Nat.succ_pos _))
      have hb0_0 := HB0.out.cell 0 _ rfl
      have hb0_1 := HB0.out.cell 1 _ rfl
      have hb0_2 := HB0.out.cell 2 _ rfl
      have hb0_3 := HB0.out.cell 3 _ rfl
      have hb0_4 := HB0.out.cell 4 _ rfl
      have hb0_5 := HB0.out.cell 5 _ rfl
      clear x2
      have t0 : (0 : Nat) = 0 := rfl
      go_wp2_with (first
        | (have q1 := t1; refine cut_toR _ rfl (.tmp 46) (.tmp 47) rfl b off n cap N rfl rfl NC.out ?_; clear t1; have t2 : (1 : Nat) = 1 := rfl)
        | (have q0 := t0; at_make; have HBm := HB0; have BBm := BB; refine room_law _ rfl _ _ rfl wc.heap.size (Nat.le_refl _) M rfl rfl ML.out ?_; intro w61 o9 B9 l9; have HB0 : Hid (Vr w61 w.heap.size [.int .i64 g0, .int .i64 g1, .int .i64 (S : Int), .int .i64 g3, .int .i64 g4, .int .i64 g5]) := HB0.out.below B9 (range_lt HB0.out.1 (Nat.succ_pos _)); have HO : Hid (Own wc.heap.size w61 (.slice (some ⟨wc.heap.size, 0, none⟩) 0 M) []) := o9; have BM : Hid (Below wc.heap.size wc w61) := B9; have BB : Hid (Below w.heap.size w w61) := BB.out.trans (B9.mono BB.out.size); clear hb0_0 hb0_1 hb0_2 hb0_3 hb0_4 hb0_5; have hb0_0 := HB0.out.cell 0 _ rfl; have hb0_1 := HB0.out.cell 1 _ rfl; have hb0_2 := HB0.out.cell 2 _ rfl; have hb0_3 := HB0.out.cell 3 _ rfl; have hb0_4 := HB0.out.cell 4 _ rfl; have hb0_5 := HB0.out.cell 5 _ rfl; clear HB0 BB; have HB0 := HBm; have BB := BBm; clear HBm BBm; clear B9 o9 l9; clear t0; have t1 : (1 : Nat) = 1 := rfl))
      clear hb0_0 hb0_1 hb0_2 hb0_3 hb0_4 hb0_5 x1
      go_loopw [50, 11] (fun i r wr => ∃ k : Nat, k ≤ N ∧ i = .int .i64 (k : Int) ∧ Own wc.heap.size wr r (parts F k) ∧ (∀ j, j < k → Kpg S G j (ls.getD j [])) ∧ Below wc.heap.size wc wr) (fun i _ _ => N - (intOf i).toNat)
      case atStart => exact ⟨0, Nat.zero_le _, rfl, HO.out, fun j hj => absurd hj (Nat.not_lt_zero _), BM.out⟩
      case round =>
        obtain ⟨k, hk, rfl, hO, hJ, hB⟩ := hrel
        have BR : Hid (Below wc.heap.size wc wr) := hB
        have HJ : Hid (∀ j, j < k → Kpg S G j (ls.getD j [])) := hJ
        have HB0 : Hid (Vr wr w.heap.size [.int .i64 g0, .int .i64 g1, .int .i64 (S : Int), .int .i64 g3, .int .i64 g4, .int .i64 g5]) := HB0.out.below hB (range_lt HB0.out.1 (Nat.succ_pos _))
        clear hJ hB HO BM BB
        by_cases hlt : k < N
        · have lk : (k : Int) < (N : Int) := by omega
          have HO : Hid (Own wc.heap.size wr u11 (parts F k)) := hO
          obtain ⟨z, hz, hy⟩ := HA.out k (by omega)
          have hz1 : wr.cell? ⟨b, off + k, none⟩ = some z := hz _ (BW.out.trans (BR.out.mono BW.out.size))
          have HY : Hid (Byt wr z (ls.getD k [])) := (hy.below BW.out).below BR.out
          have HT : Hid (Tab wr) := (HR.out.2.below BW.out).below BR.out
          have PL : Hid ((parts F k).length + (F k).length ≤ 140737488355328) := (by
            have e : (parts F k).length = k * S := parts_len (n := k) (fun i hi => by rw [EF.out, List.length_take, (HJ.out i hi).1]; omega) k (Nat.le_refl _)
            have := mul_small (k := k) (S := S) (by omega) s4
            have : (F k).length ≤ S := by rw [EF.out, List.length_take]; omega
            show _ ≤ _
            omega)
          clear hO hz hy
          have hb0_0 := HB0.out.cell 0 _ rfl
          have hb0_1 := HB0.out.cell 1 _ rfl
          have hb0_2 := HB0.out.cell 2 _ rfl
          have hb0_3 := HB0.out.cell 3 _ rfl
          have hb0_4 := HB0.out.cell 4 _ rfl
          have hb0_5 := HB0.out.cell 5 _ rfl
          by_cases hf : (ls.getD k []).length = S + 88 ∧ Tl ((ls.getD k []).drop S)
          · have SB : Hid (∀ w0, w0 = wr → Calls Tryd.prog 31 #[.agg (ints .i64 [g0, g1, (S : Int), g3, g4, g5]), z] w0 fun x w' => ∃ po pc uo uc, x = .returned (.tuple #[.agg (pg9 (qk ((ls.getD k []).drop S)) (qn ((ls.getD k []).drop S)) (he.qc ((ls.getD k []).drop S)) (ql ((ls.getD k []).drop S)) (qe ((ls.getD k []).drop S)) (qt ((ls.getD k []).drop S)) (.slice po S pc) (.slice uo 32 uc) (decide (((ls.getD k []).drop S).drop 80 = List.replicate 8 0))).toArray, .int .i64 0]) ∧ Byt w' (.slice po S pc) ((ls.getD k []).take S) ∧ Byt w' (.slice uo 32 uc) (sub ((ls.getD k []).drop S) 48 80) ∧ Below w0.heap.size w0 w') := fun w0 e => by
              subst e
              exact read_page g0 g1 g3 g4 g5 S z _ w0 HY.out HR.out.1 hf.1 HT.out hf.2
            rw [← EF.out k] at SB
            by_cases hh : qk ((ls.getD k []).drop S) = 4 ∧ qn ((ls.getD k []).drop S) = (k : Int) ∧ he.qc ((ls.getD k []).drop S) = 0 ∧ ql ((ls.getD k []).drop S) = (N : Int) ∧ qe ((ls.getD k []).drop S) = G ∧ qt ((ls.getD k []).drop S) = 0
            · have HQ : Hid ((!decide (qk ((ls.getD k []).drop S) = 4 ∧ qn ((ls.getD k []).drop S) = (k : Int) ∧ he.qc ((ls.getD k []).drop S) = 0 ∧ ql ((ls.getD k []).drop S) = (N : Int) ∧ qe ((ls.getD k []).drop S) = G ∧ qt ((ls.getD k []).drop S) = 0)) = false) := (by show _ = _; rw [decide_eq_true hh]; rfl)
              have KK : Hid (Kpg S G k (ls.getD k [])) := ⟨hf.1, hf.2, hh.1, hh.2.1, hh.2.2.1, by rw [EK.out]; exact hh.2.2.2.1, hh.2.2.2.2.1, hh.2.2.2.2.2⟩
              generalize qk ((ls.getD k []).drop S) = qk9 at SB HQ
              generalize qn ((ls.getD k []).drop S) = qn9 at SB HQ
              generalize he.qc ((ls.getD k []).drop S) = qc9 at SB HQ
              generalize ql ((ls.getD k []).drop S) = ql9 at SB HQ
              generalize qe ((ls.getD k []).drop S) = qe9 at SB HQ
              generalize qt ((ls.getD k []).drop S) = qt9 at SB HQ
              generalize decide (((ls.getD k []).drop S).drop 80 = List.replicate 8 0) = Dk at SB
              clear hf hh
              have t0 : (0 : Nat) = 0 := rfl
              go_wp2_with (first
                | (have q2 := t2; (with_reducible refine at_store ?_); refine store_lawC _ (pg9 qk9 qn9 qc9 ql9 qe9 qt9 (.slice po S pc) (.slice uo 32 uc) Dk) w41.heap.size 0 rfl rfl HN.out.2 rowy_page.2 (pg9_one _ _ _ _ _ _ _ _ _ _ _ _ _) ?_; intro w43 E9 R9 T9 B9; have B9 : Below w41.heap.size w41 w43 := BA.out.trans B9; have HB0 : Hid (Vr w43 w.heap.size [.int .i64 g0, .int .i64 g1, .int .i64 (S : Int), .int .i64 g3, .int .i64 g4, .int .i64 g5]) := HB0.out.below B9 (range_lt HB0.out.1 (Nat.succ_pos _)); have HO : Hid (Own wc.heap.size w43 u11 (parts F k)) := own_low HO.out B9; have HP : Hid (Byt w43 (.slice po S pc) (F k)) := HP.out.below B9; have HV : Hid (Vr w43 w41.heap.size (pg9 qk9 qn9 qc9 ql9 qe9 qt9 (.slice po S pc) (.slice uo 32 uc) Dk)) := ⟨R9, T9⟩; have BB : Hid (Below wr.heap.size wr w43) := BB.out.trans (B9.mono BB.out.size); clear hb0_0 hb0_1 hb0_2 hb0_3 hb0_4 hb0_5; have hb0_0 := HB0.out.cell 0 _ rfl; have hb0_1 := HB0.out.cell 1 _ rfl; have hb0_2 := HB0.out.cell 2 _ rfl; have hb0_3 := HB0.out.cell 3 _ rfl; have hb0_4 := HB0.out.cell 4 _ rfl; have hb0_5 := HB0.out.cell 5 _ rfl; clear E9 R9 T9 B9 HN BA; clear t2; have t3 : (1 : Nat) = 1 := rfl)
                | (have q1 := t1; (with_reducible refine at_alloc ?_); refine new_lawC _ Z9 zero_page ?_; intro w42 X9 B9 l9; have HN : Hid (Vr w42 w41.heap.size Z9) := X9; have BA : Hid (Below w41.heap.size w41 w42) := B9; clear X9 B9 l9; clear t1; have t2 : (1 : Nat) = 1 := rfl)
                | (have q0 := t0; go_at_call 31; refine (SB.out wr rfl).mono ?_; rintro e9 w41 ⟨po, pc, uo, uc, rfl, y8, y9, B9⟩; have HB0 : Hid (Vr w41 w.heap.size [.int .i64 g0, .int .i64 g1, .int .i64 (S : Int), .int .i64 g3, .int .i64 g4, .int .i64 g5]) := HB0.out.below B9 (range_lt HB0.out.1 (Nat.succ_pos _)); have HO : Hid (Own wc.heap.size w41 u11 (parts F k)) := own_low HO.out B9; have HP : Hid (Byt w41 (.slice po S pc) (F k)) := y8; have BB : Hid (Below wr.heap.size wr w41) := B9; clear hb0_0 hb0_1 hb0_2 hb0_3 hb0_4 hb0_5; have hb0_0 := HB0.out.cell 0 _ rfl; have hb0_1 := HB0.out.cell 1 _ rfl; have hb0_2 := HB0.out.cell 2 _ rfl; have hb0_3 := HB0.out.cell 3 _ rfl; have hb0_4 := HB0.out.cell 4 _ rfl; have hb0_5 := HB0.out.cell 5 _ rfl; clear B9 y8 y9; clear t0; have t1 : (1 : Nat) = 1 := rfl))
              refine wp_region_held_drew (S := fun w' => Below w43.heap.size w43 w') (by kernel_rfl) (Below.refl _ _).drew (fun hS => ?_)
              obtain ⟨y1, hx0⟩ : ∃ x, x = w43.drew := ⟨_, rfl⟩
              rw [← hx0] at hS  ⊢
              clear hx0
              refine take_lawH 0 (some 61) (.int .i64 0) rfl rfl (by kernel_rfl) (by kernel_rfl) (by kernel_rfl) (fun _ _ _ h => h) (Or.inl ⟨by rfl, fun w' hw' => by rfl⟩) hS ?_
              simp only [Act.put, List.setIfInBounds_toArray, List.set_cons_zero, List.set_cons_succ]
              refine take_lawH 1 (some 62) (.bool false) rfl rfl (by kernel_rfl) (by kernel_rfl) (by kernel_rfl) (fun _ _ _ h => h) (Or.inl ⟨by rfl, fun w' hw' => by exact exec_neq0 (.tmp 61) rfl 0 rfl rfl false rfl _⟩) hS ?_
              simp only [Act.put, List.setIfInBounds_toArray, List.set_cons_zero, List.set_cons_succ]
              refine take_lawH 2 (some 63) (.bool false) rfl rfl (by kernel_rfl) (by kernel_rfl) (by kernel_rfl) (fun _ _ _ h => h) (Or.inl ⟨by rfl, fun w' hw' => by rfl⟩) hS ?_
              simp only [Act.put, List.setIfInBounds_toArray, List.set_cons_zero, List.set_cons_succ]
              refine take_lawH 3 (some 64) (.pointer (some ⟨w41.heap.size, 0, none⟩)) rfl rfl (by kernel_rfl) (by kernel_rfl) (by kernel_rfl) (fun _ _ _ h => h) (Or.inl ⟨by rfl, fun w' hw' => by go_simp⟩) hS ?_
              simp only [Act.put, List.setIfInBounds_toArray, List.set_cons_zero, List.set_cons_succ]
              refine take_lawH 4 (some 65) (.agg (hv qk9 qn9 qc9 ql9 qe9 qt9).toArray) rfl rfl (by kernel_rfl) (by kernel_rfl) (by kernel_rfl) (fun _ _ _ h => h) (Or.inl ⟨by rfl, fun w' hw' => by exact exec_loadN 57 (.tmp 64) rfl _ rfl _ _ (load_cells rowy_head (range_head (HV.out.below hw' (range_lt HV.out.1 (Nat.succ_pos _))).1))⟩) hS ?_
              simp only [Act.put, List.setIfInBounds_toArray, List.set_cons_zero, List.set_cons_succ]
              refine take_lawH 5 (some 66) (.agg ([.int .i64 g0, .int .i64 g1, .int .i64 (S : Int), .int .i64 g3, .int .i64 g4, .int .i64 g5] : List Value).toArray) rfl rfl (by kernel_rfl) (by kernel_rfl) (by kernel_rfl) (fun _ _ _ h => h) (Or.inl ⟨by rfl, fun w' hw' => by exact exec_loadN 23 (.tmp 2) rfl _ rfl _ _ (load_cells rowy_geo (HB0.out.below hw' (range_lt HB0.out.1 (Nat.succ_pos _))).1)⟩) hS ?_
              simp only [Act.put, List.setIfInBounds_toArray, List.set_cons_zero, List.set_cons_succ]
              refine take_lawH 6 (some 67) (.int .i64 (k : Int)) rfl rfl (by kernel_rfl) (by kernel_rfl) (by kernel_rfl) (fun _ _ _ h => h) (Or.inl ⟨by rfl, fun w' hw' => by rfl⟩) hS ?_
              simp only [Act.put, List.setIfInBounds_toArray, List.set_cons_zero, List.set_cons_succ]
              refine take_lawH 7 (some 68) (.int .u64 G) rfl rfl (by kernel_rfl) (by kernel_rfl) (by kernel_rfl) (fun _ _ _ h => h) (Or.inl ⟨by rfl, fun w' hw' => by rfl⟩) hS ?_
              simp only [Act.put, List.setIfInBounds_toArray, List.set_cons_zero, List.set_cons_succ]
              refine wpAnyH_ready (rs := [8]) (by kernel_rfl) (by simp) ?_
              refine AllReadyH.cons rfl (fun K hK => ?_) AllReadyH.nil
              refine step_callW _ (by rfl) (some 69) rfl 23 #[.tmp 66, .tmp 67, .tmp 68] #[23, 3, 25] rfl (fun q w' => by rfl) #[.agg ([.int .i64 g0, .int .i64 g1, .int .i64 (S : Int), .int .i64 g3, .int .i64 g4, .int .i64 g5] : List Value).toArray, .int .i64 (k : Int), .int .u64 G] (by simp only [List.map_toArray, List.map_cons, List.map_nil]; rfl) (fun u w' => u = .agg (hv 4 (k : Int) 0 (N : Int) G 0).toArray ∧ Below y1.heap.size y1 w') ?_ ?_
              · exact (SH.out y1).mono fun e w' ⟨h1, h2⟩ => ⟨_, h1, rfl, h2⟩
              rintro _ y2 ⟨rfl, hb⟩
              have hS : Below w43.heap.size w43 y2 := hS.trans (hb.mono hS.size)
              clear hb
              refine hK.out _ _ hS (fun _ => ?_)
              simp only [Act.put, List.setIfInBounds_toArray, List.set_cons_zero, List.set_cons_succ]
              clear hK K
              refine take_lawH 9 (some 70) (.bool false) rfl rfl (by kernel_rfl) (by kernel_rfl) (by kernel_rfl) (fun _ _ _ h => h) (Or.inl ⟨by rfl, fun w' hw' => by exact exec_neqH (.tmp 65) (.tmp 69) rfl qk9 qn9 qc9 ql9 qe9 qt9 4 (k : Int) 0 (N : Int) G 0 rfl rfl false HQ.out _⟩) hS ?_
              simp only [Act.put, List.setIfInBounds_toArray, List.set_cons_zero, List.set_cons_succ]
              refine take_lawH 10 (some 71) (.bool false) rfl rfl (by kernel_rfl) (by kernel_rfl) (by kernel_rfl) (fun _ _ _ h => h) (Or.inl ⟨by rfl, fun w' hw' => by rfl⟩) hS ?_
              simp only [Act.put, List.setIfInBounds_toArray, List.set_cons_zero, List.set_cons_succ]
              refine wpAnyH_done (by kernel_rfl) ?_ _
              (try clear hb0_0 hb0_1 hb0_2 hb0_3 hb0_4 hb0_5)
              have HO : Hid (Own wc.heap.size y2 u11 (parts F k)) := own_low HO.out hS
              have HP : Hid (Byt y2 (.slice po S pc) (F k)) := HP.out.below hS
              have HV : Hid (Vr y2 w41.heap.size (pg9 qk9 qn9 qc9 ql9 qe9 qt9 (.slice po S pc) (.slice uo 32 uc) Dk)) := HV.out.below hS (range_lt HV.out.1 (Nat.succ_pos _))
              have hv_6 := HV.out.cell 6 _ rfl
              have BZ : Hid (Below wr.heap.size wr y2) := BB.out.trans (hS.mono BB.out.size)
              clear hS BB
              have BB := BZ
              have t80 : (1 : Nat) = 1 := rfl
              go_wp2_with (first
                | (have q80 := t80; at_builtin; refine pushs_law _ rfl (.tmp 72) (.tmp 74) rfl wc.heap.size (Nat.le_trans BR.out.size BB.out.size) u11 (.slice po S pc) (parts F k) (F k) rfl rfl HO.out HP.out PL.out ?_; intro v3 wz o3 B3; have O3 : Hid (Own wc.heap.size wz v3 (parts F k ++ F k)) := o3; have B4 : Hid (Below wc.heap.size wc wz) := (BR.out.trans (BB.out.mono BR.out.size)).trans B3; clear o3 B3 t80))
              go_roundw
              case rel => exact ⟨k + 1, by omega, by go_num, O3.out, fun j hj => by
                  by_cases e : j = k
                  · rw [e]; exact KK.out
                  · exact HJ.out j (by omega), B4.out⟩
              case measure => simp [intOf]; omega
            · have HQ : Hid ((!decide (qk ((ls.getD k []).drop S) = 4 ∧ qn ((ls.getD k []).drop S) = (k : Int) ∧ he.qc ((ls.getD k []).drop S) = 0 ∧ ql ((ls.getD k []).drop S) = (N : Int) ∧ qe ((ls.getD k []).drop S) = G ∧ qt ((ls.getD k []).drop S) = 0)) = true) := (by show _ = _; rw [decide_eq_false hh]; rfl)
              have NK : Hid (¬ Khd S ls) := fun h => (by
                have q := (HX.out.1 h).1 k hlt
                exact hh ⟨q.2.2.1, q.2.2.2.1, q.2.2.2.2.1, by rw [← EK.out]; exact q.2.2.2.2.2.1, q.2.2.2.2.2.2.1, q.2.2.2.2.2.2.2⟩)
              generalize qk ((ls.getD k []).drop S) = qk9 at SB HQ
              generalize qn ((ls.getD k []).drop S) = qn9 at SB HQ
              generalize he.qc ((ls.getD k []).drop S) = qc9 at SB HQ
              generalize ql ((ls.getD k []).drop S) = ql9 at SB HQ
              generalize qe ((ls.getD k []).drop S) = qe9 at SB HQ
              generalize qt ((ls.getD k []).drop S) = qt9 at SB HQ
              generalize decide (((ls.getD k []).drop S).drop 80 = List.replicate 8 0) = Dk at SB
              clear hf hh
              have t0 : (0 : Nat) = 0 := rfl
              go_wp2_with (first
                | (have q2 := t2; (with_reducible refine at_store ?_); refine store_lawC _ (pg9 qk9 qn9 qc9 ql9 qe9 qt9 (.slice po S pc) (.slice uo 32 uc) Dk) w41.heap.size 0 rfl rfl HN.out.2 rowy_page.2 (pg9_one _ _ _ _ _ _ _ _ _ _ _ _ _) ?_; intro w43 E9 R9 T9 B9; have B9 : Below w41.heap.size w41 w43 := BA.out.trans B9; have HB0 : Hid (Vr w43 w.heap.size [.int .i64 g0, .int .i64 g1, .int .i64 (S : Int), .int .i64 g3, .int .i64 g4, .int .i64 g5]) := HB0.out.below B9 (range_lt HB0.out.1 (Nat.succ_pos _)); have HO : Hid (Own wc.heap.size w43 u11 (parts F k)) := own_low HO.out B9; have HP : Hid (Byt w43 (.slice po S pc) (F k)) := HP.out.below B9; have HV : Hid (Vr w43 w41.heap.size (pg9 qk9 qn9 qc9 ql9 qe9 qt9 (.slice po S pc) (.slice uo 32 uc) Dk)) := ⟨R9, T9⟩; have BB : Hid (Below wr.heap.size wr w43) := BB.out.trans (B9.mono BB.out.size); clear hb0_0 hb0_1 hb0_2 hb0_3 hb0_4 hb0_5; have hb0_0 := HB0.out.cell 0 _ rfl; have hb0_1 := HB0.out.cell 1 _ rfl; have hb0_2 := HB0.out.cell 2 _ rfl; have hb0_3 := HB0.out.cell 3 _ rfl; have hb0_4 := HB0.out.cell 4 _ rfl; have hb0_5 := HB0.out.cell 5 _ rfl; clear E9 R9 T9 B9 HN BA; clear t2; have t3 : (1 : Nat) = 1 := rfl)
                | (have q1 := t1; (with_reducible refine at_alloc ?_); refine new_lawC _ Z9 zero_page ?_; intro w42 X9 B9 l9; have HN : Hid (Vr w42 w41.heap.size Z9) := X9; have BA : Hid (Below w41.heap.size w41 w42) := B9; clear X9 B9 l9; clear t1; have t2 : (1 : Nat) = 1 := rfl)
                | (have q0 := t0; go_at_call 31; refine (SB.out wr rfl).mono ?_; rintro e9 w41 ⟨po, pc, uo, uc, rfl, y8, y9, B9⟩; have HB0 : Hid (Vr w41 w.heap.size [.int .i64 g0, .int .i64 g1, .int .i64 (S : Int), .int .i64 g3, .int .i64 g4, .int .i64 g5]) := HB0.out.below B9 (range_lt HB0.out.1 (Nat.succ_pos _)); have HO : Hid (Own wc.heap.size w41 u11 (parts F k)) := own_low HO.out B9; have HP : Hid (Byt w41 (.slice po S pc) (F k)) := y8; have BB : Hid (Below wr.heap.size wr w41) := B9; clear hb0_0 hb0_1 hb0_2 hb0_3 hb0_4 hb0_5; have hb0_0 := HB0.out.cell 0 _ rfl; have hb0_1 := HB0.out.cell 1 _ rfl; have hb0_2 := HB0.out.cell 2 _ rfl; have hb0_3 := HB0.out.cell 3 _ rfl; have hb0_4 := HB0.out.cell 4 _ rfl; have hb0_5 := HB0.out.cell 5 _ rfl; clear B9 y8 y9; clear t0; have t1 : (1 : Nat) = 1 := rfl))
              refine wp_region_held_drew (S := fun w' => Below w43.heap.size w43 w') (by kernel_rfl) (Below.refl _ _).drew (fun hS => ?_)
              obtain ⟨y1, hx0⟩ : ∃ x, x = w43.drew := ⟨_, rfl⟩
              rw [← hx0] at hS  ⊢
              clear hx0
              refine take_lawH 0 (some 61) (.int .i64 0) rfl rfl (by kernel_rfl) (by kernel_rfl) (by kernel_rfl) (fun _ _ _ h => h) (Or.inl ⟨by rfl, fun w' hw' => by rfl⟩) hS ?_
              simp only [Act.put, List.setIfInBounds_toArray, List.set_cons_zero, List.set_cons_succ]
              refine take_lawH 1 (some 62) (.bool false) rfl rfl (by kernel_rfl) (by kernel_rfl) (by kernel_rfl) (fun _ _ _ h => h) (Or.inl ⟨by rfl, fun w' hw' => by exact exec_neq0 (.tmp 61) rfl 0 rfl rfl false rfl _⟩) hS ?_
              simp only [Act.put, List.setIfInBounds_toArray, List.set_cons_zero, List.set_cons_succ]
              refine take_lawH 2 (some 63) (.bool false) rfl rfl (by kernel_rfl) (by kernel_rfl) (by kernel_rfl) (fun _ _ _ h => h) (Or.inl ⟨by rfl, fun w' hw' => by rfl⟩) hS ?_
              simp only [Act.put, List.setIfInBounds_toArray, List.set_cons_zero, List.set_cons_succ]
              refine take_lawH 3 (some 64) (.pointer (some ⟨w41.heap.size, 0, none⟩)) rfl rfl (by kernel_rfl) (by kernel_rfl) (by kernel_rfl) (fun _ _ _ h => h) (Or.inl ⟨by rfl, fun w' hw' => by go_simp⟩) hS ?_
              simp only [Act.put, List.setIfInBounds_toArray, List.set_cons_zero, List.set_cons_succ]
              refine take_lawH 4 (some 65) (.agg (hv qk9 qn9 qc9 ql9 qe9 qt9).toArray) rfl rfl (by kernel_rfl) (by kernel_rfl) (by kernel_rfl) (fun _ _ _ h => h) (Or.inl ⟨by rfl, fun w' hw' => by exact exec_loadN 57 (.tmp 64) rfl _ rfl _ _ (load_cells rowy_head (range_head (HV.out.below hw' (range_lt HV.out.1 (Nat.succ_pos _))).1))⟩) hS ?_
              simp only [Act.put, List.setIfInBounds_toArray, List.set_cons_zero, List.set_cons_succ]
              refine take_lawH 5 (some 66) (.agg ([.int .i64 g0, .int .i64 g1, .int .i64 (S : Int), .int .i64 g3, .int .i64 g4, .int .i64 g5] : List Value).toArray) rfl rfl (by kernel_rfl) (by kernel_rfl) (by kernel_rfl) (fun _ _ _ h => h) (Or.inl ⟨by rfl, fun w' hw' => by exact exec_loadN 23 (.tmp 2) rfl _ rfl _ _ (load_cells rowy_geo (HB0.out.below hw' (range_lt HB0.out.1 (Nat.succ_pos _))).1)⟩) hS ?_
              simp only [Act.put, List.setIfInBounds_toArray, List.set_cons_zero, List.set_cons_succ]
              refine take_lawH 6 (some 67) (.int .i64 (k : Int)) rfl rfl (by kernel_rfl) (by kernel_rfl) (by kernel_rfl) (fun _ _ _ h => h) (Or.inl ⟨by rfl, fun w' hw' => by rfl⟩) hS ?_
              simp only [Act.put, List.setIfInBounds_toArray, List.set_cons_zero, List.set_cons_succ]
              refine take_lawH 7 (some 68) (.int .u64 G) rfl rfl (by kernel_rfl) (by kernel_rfl) (by kernel_rfl) (fun _ _ _ h => h) (Or.inl ⟨by rfl, fun w' hw' => by rfl⟩) hS ?_
              simp only [Act.put, List.setIfInBounds_toArray, List.set_cons_zero, List.set_cons_succ]
              refine wpAnyH_ready (rs := [8]) (by kernel_rfl) (by simp) ?_
              refine AllReadyH.cons rfl (fun K hK => ?_) AllReadyH.nil
              refine step_callW _ (by rfl) (some 69) rfl 23 #[.tmp 66, .tmp 67, .tmp 68] #[23, 3, 25] rfl (fun q w' => by rfl) #[.agg ([.int .i64 g0, .int .i64 g1, .int .i64 (S : Int), .int .i64 g3, .int .i64 g4, .int .i64 g5] : List Value).toArray, .int .i64 (k : Int), .int .u64 G] (by simp only [List.map_toArray, List.map_cons, List.map_nil]; rfl) (fun u w' => u = .agg (hv 4 (k : Int) 0 (N : Int) G 0).toArray ∧ Below y1.heap.size y1 w') ?_ ?_
              · exact (SH.out y1).mono fun e w' ⟨h1, h2⟩ => ⟨_, h1, rfl, h2⟩
              rintro _ y2 ⟨rfl, hb⟩
              have hS : Below w43.heap.size w43 y2 := hS.trans (hb.mono hS.size)
              clear hb
              refine hK.out _ _ hS (fun _ => ?_)
              simp only [Act.put, List.setIfInBounds_toArray, List.set_cons_zero, List.set_cons_succ]
              clear hK K
              refine take_lawH 9 (some 70) (.bool true) rfl rfl (by kernel_rfl) (by kernel_rfl) (by kernel_rfl) (fun _ _ _ h => h) (Or.inl ⟨by rfl, fun w' hw' => by exact exec_neqH (.tmp 65) (.tmp 69) rfl qk9 qn9 qc9 ql9 qe9 qt9 4 (k : Int) 0 (N : Int) G 0 rfl rfl true HQ.out _⟩) hS ?_
              simp only [Act.put, List.setIfInBounds_toArray, List.set_cons_zero, List.set_cons_succ]
              refine take_lawH 10 (some 71) (.bool true) rfl rfl (by kernel_rfl) (by kernel_rfl) (by kernel_rfl) (fun _ _ _ h => h) (Or.inl ⟨by rfl, fun w' hw' => by rfl⟩) hS ?_
              simp only [Act.put, List.setIfInBounds_toArray, List.set_cons_zero, List.set_cons_succ]
              refine wpAnyH_done (by kernel_rfl) ?_ _
              have BZ : Hid (Below wr.heap.size wr y2) := BB.out.trans (hS.mono BB.out.size)
              clear hS
              go_wp2
              go_ret3
              exact ⟨.inr ⟨NK.out, rfl⟩, BW.out.trans ((BR.out.trans (BZ.out.mono BR.out.size)).mono BW.out.size)⟩
          · have SB : Hid (∀ w0, w0 = wr → Calls Tryd.prog 31 #[.agg (ints .i64 [g0, g1, (S : Int), g3, g4, g5]), z] w0 fun x w' => ∃ E, x = .returned (.tuple #[.agg Z9.toArray, .int .i64 E]) ∧ E ≠ 0 ∧ Below w0.heap.size w0 w') := fun w0 e => by
              subst e
              exact read_bad g0 g1 g3 g4 g5 S z _ w0 HR.out.1 HY.out HT.out hf
            have NK : Hid (¬ Khd S ls) := fun h => hf ⟨((HX.out.1 h).1 k hlt).1, ((HX.out.1 h).1 k hlt).2.1⟩
            clear hf
            have t0 : (0 : Nat) = 0 := rfl
            go_wp2_with (first
              | (have q2 := t2; (with_reducible refine at_store ?_); refine store_lawC _ Z9 w41.heap.size 0 rfl rfl HN.out.2 rowy_page.2 (pg9_one _ _ _ _ _ _ _ _ _ _ _ _ _) ?_; intro w43 E9 R9 T9 B9; have B9 : Below w41.heap.size w41 w43 := BA.out.trans B9; have HB0 : Hid (Vr w43 w.heap.size [.int .i64 g0, .int .i64 g1, .int .i64 (S : Int), .int .i64 g3, .int .i64 g4, .int .i64 g5]) := HB0.out.below B9 (range_lt HB0.out.1 (Nat.succ_pos _)); have HO : Hid (Own wc.heap.size w43 u11 (parts F k)) := own_low HO.out B9; have HV : Hid (Vr w43 w41.heap.size Z9) := ⟨R9, T9⟩; have BB : Hid (Below wr.heap.size wr w43) := BB.out.trans (B9.mono BB.out.size); clear hb0_0 hb0_1 hb0_2 hb0_3 hb0_4 hb0_5; have hb0_0 := HB0.out.cell 0 _ rfl; have hb0_1 := HB0.out.cell 1 _ rfl; have hb0_2 := HB0.out.cell 2 _ rfl; have hb0_3 := HB0.out.cell 3 _ rfl; have hb0_4 := HB0.out.cell 4 _ rfl; have hb0_5 := HB0.out.cell 5 _ rfl; clear E9 R9 T9 B9 HN BA; clear t2; have t3 : (1 : Nat) = 1 := rfl)
              | (have q1 := t1; (with_reducible refine at_alloc ?_); refine new_lawC _ Z9 zero_page ?_; intro w42 X9 B9 l9; have HN : Hid (Vr w42 w41.heap.size Z9) := X9; have BA : Hid (Below w41.heap.size w41 w42) := B9; clear X9 B9 l9; clear t1; have t2 : (1 : Nat) = 1 := rfl)
              | (have q0 := t0; go_at_call 31; refine (SB.out wr rfl).mono ?_; rintro e9 w41 ⟨E, rfl, ez, B9⟩; have HB0 : Hid (Vr w41 w.heap.size [.int .i64 g0, .int .i64 g1, .int .i64 (S : Int), .int .i64 g3, .int .i64 g4, .int .i64 g5]) := HB0.out.below B9 (range_lt HB0.out.1 (Nat.succ_pos _)); have HO : Hid (Own wc.heap.size w41 u11 (parts F k)) := own_low HO.out B9; have EZ : Hid ((E != 0) = true) := bne_iff_ne.2 ez; have BB : Hid (Below wr.heap.size wr w41) := B9; clear hb0_0 hb0_1 hb0_2 hb0_3 hb0_4 hb0_5; have hb0_0 := HB0.out.cell 0 _ rfl; have hb0_1 := HB0.out.cell 1 _ rfl; have hb0_2 := HB0.out.cell 2 _ rfl; have hb0_3 := HB0.out.cell 3 _ rfl; have hb0_4 := HB0.out.cell 4 _ rfl; have hb0_5 := HB0.out.cell 5 _ rfl; clear B9 ez; clear t0; have t1 : (1 : Nat) = 1 := rfl))
            refine wp_region_held_drew (S := fun w' => Below w43.heap.size w43 w') (by kernel_rfl) (Below.refl _ _).drew (fun hS => ?_)
            obtain ⟨y1, hx0⟩ : ∃ x, x = w43.drew := ⟨_, rfl⟩
            rw [← hx0] at hS  ⊢
            clear hx0
            refine take_lawH 0 (some 61) (.int .i64 E) rfl rfl (by kernel_rfl) (by kernel_rfl) (by kernel_rfl) (fun _ _ _ h => h) (Or.inl ⟨by rfl, fun w' hw' => by rfl⟩) hS ?_
            simp only [Act.put, List.setIfInBounds_toArray, List.set_cons_zero, List.set_cons_succ]
            refine take_lawH 1 (some 62) (.bool true) rfl rfl (by kernel_rfl) (by kernel_rfl) (by kernel_rfl) (fun _ _ _ h => h) (Or.inl ⟨by rfl, fun w' hw' => by exact exec_neq0 (.tmp 61) rfl E rfl rfl true EZ.out _⟩) hS ?_
            simp only [Act.put, List.setIfInBounds_toArray, List.set_cons_zero, List.set_cons_succ]
            refine take_lawH 2 (some 63) (.bool true) rfl rfl (by kernel_rfl) (by kernel_rfl) (by kernel_rfl) (fun _ _ _ h => h) (Or.inl ⟨by rfl, fun w' hw' => by rfl⟩) hS ?_
            simp only [Act.put, List.setIfInBounds_toArray, List.set_cons_zero, List.set_cons_succ]
            refine take_lawH 3 (some 64) (undef) rfl rfl (by kernel_rfl) (by kernel_rfl) (by kernel_rfl) (fun _ _ _ h => h) (Or.inr ⟨by rfl, rfl⟩) hS ?_
            simp only [Act.put, List.setIfInBounds_toArray, List.set_cons_zero, List.set_cons_succ]
            refine take_lawH 4 (some 65) (undef) rfl rfl (by kernel_rfl) (by kernel_rfl) (by kernel_rfl) (fun _ _ _ h => h) (Or.inr ⟨by rfl, rfl⟩) hS ?_
            simp only [Act.put, List.setIfInBounds_toArray, List.set_cons_zero, List.set_cons_succ]
            refine take_lawH 5 (some 66) (undef) rfl rfl (by kernel_rfl) (by kernel_rfl) (by kernel_rfl) (fun _ _ _ h => h) (Or.inr ⟨by rfl, rfl⟩) hS ?_
            simp only [Act.put, List.setIfInBounds_toArray, List.set_cons_zero, List.set_cons_succ]
            refine take_lawH 6 (some 67) (undef) rfl rfl (by kernel_rfl) (by kernel_rfl) (by kernel_rfl) (fun _ _ _ h => h) (Or.inr ⟨by rfl, rfl⟩) hS ?_
            simp only [Act.put, List.setIfInBounds_toArray, List.set_cons_zero, List.set_cons_succ]
            refine take_lawH 7 (some 68) (undef) rfl rfl (by kernel_rfl) (by kernel_rfl) (by kernel_rfl) (fun _ _ _ h => h) (Or.inr ⟨by rfl, rfl⟩) hS ?_
            simp only [Act.put, List.setIfInBounds_toArray, List.set_cons_zero, List.set_cons_succ]
            refine take_lawH 8 (some 69) (undef) rfl rfl (by kernel_rfl) (by kernel_rfl) (by kernel_rfl) (fun _ _ _ h => h) (Or.inr ⟨by rfl, rfl⟩) hS ?_
            simp only [Act.put, List.setIfInBounds_toArray, List.set_cons_zero, List.set_cons_succ]
            refine take_lawH 9 (some 70) (undef) rfl rfl (by kernel_rfl) (by kernel_rfl) (by kernel_rfl) (fun _ _ _ h => h) (Or.inr ⟨by rfl, rfl⟩) hS ?_
            simp only [Act.put, List.setIfInBounds_toArray, List.set_cons_zero, List.set_cons_succ]
            refine take_lawH 10 (some 71) (.bool true) rfl rfl (by kernel_rfl) (by kernel_rfl) (by kernel_rfl) (fun _ _ _ h => h) (Or.inl ⟨by rfl, fun w' hw' => by rfl⟩) hS ?_
            simp only [Act.put, List.setIfInBounds_toArray, List.set_cons_zero, List.set_cons_succ]
            refine wpAnyH_done (by kernel_rfl) ?_ _
            have BZ : Hid (Below wr.heap.size wr y1) := BB.out.trans (hS.mono BB.out.size)
            clear hS
            go_wp2
            go_ret3
            exact ⟨.inr ⟨NK.out, rfl⟩, BW.out.trans ((BR.out.trans (BZ.out.mono BR.out.size)).mono BW.out.size)⟩
        · have ek : k = N := by omega
          subst ek
          have HO : Hid (Own wc.heap.size wr u11 (parts F k)) := hO
          have KH : Hid (Khd S ls) := HX.out.2 ⟨HJ.out, DD.out.2.2.1⟩
          have PL : Hid (624 ≤ (parts F k).length) := (by
            have e : (parts F k).length = k * S := parts_len (n := k) (fun i hi => by rw [EF.out, List.length_take, (HJ.out i hi).1]; omega) k (Nat.le_refl _)
            show _ ≤ _
            rw [e, EM.out]; exact HM.out)
          have YO : Hid (Byt wr u11 (parts F k)) := HO.out.byt (parts_all k fun i hi => by
            obtain ⟨z, -, hz⟩ := HA.out i (by omega)
            rw [EF.out]
            exact allB_take hz.all S)
          clear hO
          go_wp2
          refine wp_region_held_drew (S := fun w' => Below wr.heap.size wr w') (by kernel_rfl) (Below.refl _ _).drew (fun hS => ?_)
          obtain ⟨y1, hx0⟩ : ∃ x, x = wr.drew := ⟨_, rfl⟩
          rw [← hx0] at hS  ⊢
          clear hx0
          refine take_lawH 0 (some 77) (.int .u64 G) rfl rfl (by kernel_rfl) (by kernel_rfl) (by kernel_rfl) (fun _ _ _ h => h) (Or.inl ⟨by rfl, fun w' hw' => by rfl⟩) hS ?_
          simp only [Act.put, List.setIfInBounds_toArray, List.set_cons_zero, List.set_cons_succ]
          refine take_lawH 1 (some 78) (u11) rfl rfl (by kernel_rfl) (by kernel_rfl) (by kernel_rfl) (fun _ _ _ h => h) (Or.inl ⟨by rfl, fun w' hw' => by rfl⟩) hS ?_
          simp only [Act.put, List.setIfInBounds_toArray, List.set_cons_zero, List.set_cons_succ]
          refine take_lawH 2 (some 79) (slm u11 0 624) rfl rfl (by kernel_rfl) (by kernel_rfl) (by kernel_rfl) (fun _ _ _ h => h) (Or.inl ⟨by rfl, fun w' hw' => by exact exec_hm (.tmp 78) (.const (.int .i64 624)) (.const (.int .i64 624)) rfl u11 (parts F k) _ YO.out 624 rfl rfl rfl PL.out _⟩) hS ?_
          simp only [Act.put, List.setIfInBounds_toArray, List.set_cons_zero, List.set_cons_succ]
          refine take_lawH 3 (some 4) (.int .u64 G) rfl rfl (by kernel_rfl) (by kernel_rfl) (by kernel_rfl) (fun _ _ _ h => h) (Or.inl ⟨by rfl, fun w' hw' => by rfl⟩) hS ?_
          simp only [Act.put, List.setIfInBounds_toArray, List.set_cons_zero, List.set_cons_succ]
          refine take_lawH 4 (some 5) (slm u11 0 624) rfl rfl (by kernel_rfl) (by kernel_rfl) (by kernel_rfl) (fun _ _ _ h => h) (Or.inl ⟨by rfl, fun w' hw' => by rfl⟩) hS ?_
          simp only [Act.put, List.setIfInBounds_toArray, List.set_cons_zero, List.set_cons_succ]
          refine take_lawH 5 (some 6) (.bool true) rfl rfl (by kernel_rfl) (by kernel_rfl) (by kernel_rfl) (fun _ _ _ h => h) (Or.inl ⟨by rfl, fun w' hw' => by rfl⟩) hS ?_
          simp only [Act.put, List.setIfInBounds_toArray, List.set_cons_zero, List.set_cons_succ]
          refine wpAnyH_done (by kernel_rfl) ?_ _
          have BZ : Hid (Below wr.heap.size wr _) := hS
          clear hS
          go_wp2
          go_ret3
          have yb := slm_byt (YO.out.below BZ.out) 0 624 (by omega) PL.out
          rw [show sub (parts F k) 0 624 = krec S ls by rw [HKr.out]; rfl] at yb
          obtain ⟨ro, rc, e9⟩ := byt_form (n := 624) yb (by rw [HKr.out, List.length_take]; have := PL.out; omega)
          rw [e9] at yb ⊢
          rw [← HG.out KH.out]
          exact ⟨.inl ⟨KH.out, ro, rc, rfl, yb⟩, BW.out.trans ((BR.out.trans (BZ.out.mono BR.out.size)).mono BW.out.size)⟩
/-- Hold, of a right geometry -/
theorem hold_any (g0 g1 g3 g4 g5 : Int) (S : Nat) (v : Value) (ls : List (List Int)) (w : World) (hr : ge.Rt [g0, g1, (S : Int), g3, g4, g5]) (hT : Tab w) (hp : Pgs w v ls) :
    Calls Tryd.prog 14 #[.agg (ints .i64 [g0, g1, (S : Int), g3, g4, g5]), v] w fun x w' => HoldIs S ls x w' ∧ Below w.heap.size w w' := by
  have ⟨s1, s2⟩ := rt_sec hr
  have hn := nc_le s1 s2
  obtain ⟨ao, cap, rfl, h1, h2, h3⟩ := hp.at
  by_cases hl : ls.length < nc S
  · exact (hold_few g0 g1 g3 g4 g5 S ao ls.length cap w hr hl).mono fun x w' ⟨e, hB⟩ => ⟨.inr ⟨khd_few hl, e⟩, hB⟩
  · obtain ⟨b, off, rfl, hall⟩ := h3 (by omega)
    obtain ⟨u, hc, hu⟩ := hall (nc S - 1) (by omega)
    obtain ⟨D, hD⟩ : ∃ D : Bool, D = true ↔ Dn S (ls.getD (nc S - 1) []) := by
      by_cases q : Dn S (ls.getD (nc S - 1) [])
      · exact ⟨true, ⟨fun _ => q, fun _ => rfl⟩⟩
      · exact ⟨false, ⟨fun z => absurd z Bool.false_ne_true, fun z => absurd z q⟩⟩
    exact hold_in g0 g1 g3 g4 g5 S b off ls.length cap ls w u D hr hT (by omega) h1 hc hu hall rfl hD
end Go.Proofs.YtahfcpdekjdceaaDoor.ck

/- What arguments that are lists of lists of bytes hold. No claim of its own. -/
namespace Go.Proofs.YtahfcpdekjdceaaDoor.ck
open Go.ChangeShapes Go.WideShapes Go.ChangeAt Go.RowKit
set_option maxRecDepth 20000

theorem bytes_u8 : Tryd.prog.bytesOf 5 = 1 := by kernel_rfl
theorem cells_bytesT : Tryd.prog.cellsOf 24 = 1 := by kernel_rfl
theorem weightsAll_mem {H : Type} {P : Program} {e : TypeId} {n : Nat} : ∀ {l : List (DataW H)} {d : DataW H}, d ∈ l → n ∈ d.weights P e → n ∈ DataW.weightsAll P e l
  | _ :: _, _, h, hn => by
    simp only [DataW.weightsAll, List.mem_append]
    rcases List.mem_cons.1 h with rfl | h
    · exact Or.inl hn
    · exact Or.inr (weightsAll_mem h hn)
/-- one cell that is read as bytes, and how many they may be -/
theorem byt_cellK {H : Type} {enc : TypeId × Value → H} {W : World} {fuel : Nat} {v : Value} {x : DataW H × List MemPlace} (hf : DataW.trod enc Tryd.prog W 0 (fun _ => true) true fuel 24 [v] = some x) :
    ∃ xs, Byt W v xs ∧ ((∀ n ∈ x.1.weights Tryd.prog 24, n ≤ reachBytes) → xs.length ≤ 140737488355328) := by
  rcases open_ints Tryd.underlying24 Tryd.underlying5 cells_u8 hf with ⟨hcs, hx⟩ | ⟨a, len, cap, zs, hcs, _, hl, hm, hz, hx, hcell, hwz⟩
  · simp at hcs
    subst hcs
    exact ⟨[], Byt.nil W, fun _ => by simp⟩
  · simp at hcs
    subst hcs
    simp at hz
    have hlen : (zs.take len).length = len := by simp; omega
    have hgb : ∀ t, t < len → gb (zs.take len) t = zs.getD t 0 := fun t ht => by simp [gb, List.getD, ht]
    refine ⟨zs.take len, ⟨some a, cap, by rw [hlen], by omega, by simpa [maxLen] using hm, allB_mem fun x hx => bounds_u8 (hwz x (List.mem_of_mem_take hx)), (by intro h; cases h), fun hp => ?_⟩, fun hw => ?_⟩
    · obtain ⟨b, off, rfl, hc⟩ := ints_at hcell (by omega)
      refine ⟨b, off, rfl, fun t ht => ?_⟩
      rw [hgb t (by omega)]
      exact hc t (by omega)
    · have := hw cap (by
        rw [hx]
        simp only [DataW.weights, Tryd.underlying24, bytes_u8]
        have : ((lits .u8 (zs.take len) : List (DataW H)).length + (lits .u8 (zs.drop len) : List (DataW H)).length) * 1 = cap := by
          simp [lits]; omega
        rw [this]
        exact List.mem_cons_self)
      unfold reachBytes at this
      omega
/-- one cell that is read as a list of lists of bytes -/
theorem pgs_cell {H : Type} {enc : TypeId × Value → H} {W : World} {fuel : Nat} {v : Value} {x : DataW H × List MemPlace} (hf : DataW.trod enc Tryd.prog W 0 (fun _ => true) true fuel 26 [v] = some x) :
    ∃ ls, Pgs W v ls ∧ ((∀ n ∈ x.1.weights Tryd.prog 26, n ≤ reachBytes) → ∀ i, i < ls.length → (ls.getD i []).length ≤ 140737488355328) := by
  rcases Go.Deep.open_slice Tryd.underlying26 hf with ⟨hcs, hx⟩ | ⟨a, len, cap, m, n, D, Pl, hcs, _, hl, hm, hmm, hx, hr⟩
  · simp at hcs
    subst hcs
    exact ⟨[], Pgs.nil W, fun _ i hi => by simp at hi⟩
  · simp at hcs
    subst hcs
    simp at hmm
    subst hmm
    have hd : x.1 = _ := congrArg Prod.fst hx
    have each : ∀ i, i < len → ∃ q : Value × List Int, W.cell? (a.add i) = some q.1 ∧ Byt W q.1 q.2 ∧ ((∀ n ∈ x.1.weights Tryd.prog 26, n ≤ reachBytes) → q.2.length ≤ 140737488355328) := by
      intro i hi
      obtain ⟨cs', h1, h2⟩ := hr i (by omega)
      rw [cells_bytesT] at h1
      obtain ⟨_, hlen, hcell⟩ := World.cells?_some h1
      match cs', hlen with
      | [v0], _ =>
        have e0 := hcell 0 (by omega)
        rw [Go.Deep.add_add] at e0
        obtain ⟨zs, hz, hzb⟩ := byt_cellK h2
        refine ⟨(v0, zs), by simpa using e0, hz, fun hw => hzb fun w' hw' => hw w' ?_⟩
        rw [hd]
        simp only [DataW.weights, Tryd.underlying26]
        exact List.mem_cons_of_mem _ (List.mem_append_left _ (weightsAll_mem (List.mem_map.2 ⟨i, List.mem_range.2 hi, rfl⟩) hw'))
    obtain ⟨q, hq⟩ := Go.Deep.choose_lt each
    have hlen : ((List.range len).map fun i => (q i).1).length = len := by simp
    have hlen2 : ((List.range len).map fun i => (q i).2).length = len := by simp
    have hg1 : ∀ t, t < len → ((List.range len).map fun i => (q i).1).getD t undef = (q t).1 := fun t ht => by simp [List.getD, ht]
    have hg2 : ∀ t, t < len → ((List.range len).map fun i => (q i).2).getD t [] = (q t).2 := fun t ht => by simp [List.getD, ht]
    refine ⟨(List.range len).map fun i => (q i).2, ⟨(List.range len).map fun i => (q i).1, ⟨some a, m, by rw [hlen], by omega, by simpa [maxLen] using hm, (by intro e; cases e), fun hp => ?_⟩, by rw [hlen, hlen2], fun i hi => ?_⟩, fun hw i hi => ?_⟩
    · rw [hlen] at hp ⊢
      obtain ⟨b, off, spot⟩ := a
      have hspot : spot = none := by simpa [Addr.add] using World.cell?_spot (hq 0 hp).1
      subst hspot
      refine ⟨b, off, rfl, fun t ht => ?_⟩
      rw [hg1 t ht]
      have := (hq t ht).1
      rwa [Addr.add_mid] at this
    · rw [hlen2] at hi
      rw [hg1 i hi, hg2 i hi]
      exact (hq i hi).2.1
    · rw [hlen2] at hi
      rw [hg2 i hi]
      exact (hq i hi).2.2 hw
/-- an argument that is a list of lists of bytes -/
theorem pgs_open {H : Type} {enc : TypeId × Value → H} {W : World} {base : Nat} {v : Value} {d : DataW H} {ps : List MemPlace}
    (ok : Value.okWide Tryd.prog W .any base 26 v) (h : DataW.Trod enc Tryd.prog W 0 (fun _ => true) true 26 v d ps) (hw : ∀ n ∈ d.weights Tryd.prog 26, n ≤ reachBytes) : ∃ ls, Pgs W v ls ∧ ∀ i, i < ls.length → (ls.getD i []).length ≤ 140737488355328 := by
  obtain ⟨a0, len, cap, rfl⟩ := okWide_slice Tryd.underlying26 ok
  obtain ⟨fuel, hf⟩ := h
  obtain ⟨ls, h1, h2⟩ := pgs_cell hf
  exact ⟨ls, h1, h2 hw⟩

theorem cells_bytessT : Tryd.prog.cellsOf 26 = 1 := by kernel_rfl
/-- a row of rows of slices of bytes -/
def Bks (w : World) (v : Value) (bs : List (List (List Int))) : Prop := ∃ vs, Vals w v vs ∧ vs.length = bs.length ∧ ∀ i, i < bs.length → Pgs w (vs.getD i undef) (bs.getD i [])
theorem Bks.below {w w' : World} {v : Value} {bs : List (List (List Int))} (h : Bks w v bs) (hb : Below w.heap.size w w') : Bks w' v bs := by
  obtain ⟨vs, h1, h2, h3⟩ := h
  exact ⟨vs, h1.below hb, h2, fun i hi => (h3 i hi).below hb⟩
theorem Bks.nil (w : World) : Bks w (.slice none 0 0) [] := ⟨[], Vals.nil w, rfl, fun i hi => by simp at hi⟩

/-- an argument that is a list of lists of lists of bytes -/
theorem bks_open {H : Type} {enc : TypeId × Value → H} {W : World} {base : Nat} {v : Value} {d : DataW H} {ps : List MemPlace}
    (ok : Value.okWide Tryd.prog W .any base 42 v) (h : DataW.Trod enc Tryd.prog W 0 (fun _ => true) true 42 v d ps) (hw : ∀ n ∈ d.weights Tryd.prog 42, n ≤ reachBytes) : ∃ bs, Bks W v bs ∧ ∀ j, j < bs.length → ∀ i, i < (bs.getD j []).length → ((bs.getD j []).getD i []).length ≤ 140737488355328 := by
  obtain ⟨a0, len0, cap0, rfl⟩ := okWide_slice Tryd.underlying42 ok
  obtain ⟨fuel, hf⟩ := h
  rcases Go.Deep.open_slice Tryd.underlying42 hf with ⟨hcs, hx⟩ | ⟨a, len, cap, m, n, D, Pl, hcs, _, hl, hm, hmm, hx, hr⟩
  · simp [Value.cells] at hcs
    obtain ⟨rfl, rfl, rfl⟩ := hcs
    exact ⟨[], Bks.nil W, fun j hj => by simp at hj⟩
  · simp [Value.cells] at hcs
    obtain ⟨rfl, rfl, rfl⟩ := hcs
    simp at hmm
    subst hmm
    have hd : d = _ := (Prod.mk.inj hx).1
    have each : ∀ i, i < len0 → ∃ q : Value × List (List Int), W.cell? (a.add i) = some q.1 ∧ Pgs W q.1 q.2 ∧ ∀ t, t < q.2.length → (q.2.getD t []).length ≤ 140737488355328 := by
      intro i hi
      obtain ⟨cs', h1, h2⟩ := hr i (by omega)
      rw [cells_bytessT] at h1
      obtain ⟨_, hlen, hcell⟩ := World.cells?_some h1
      match cs', hlen with
      | [v0], _ =>
        have e0 := hcell 0 (by omega)
        rw [Go.Deep.add_add] at e0
        obtain ⟨ls, hz, hzb⟩ := pgs_cell h2
        refine ⟨(v0, ls), by simpa using e0, hz, hzb fun w' hw' => hw w' ?_⟩
        rw [hd]
        simp only [DataW.weights, Tryd.underlying42]
        exact List.mem_cons_of_mem _ (List.mem_append_left _ (weightsAll_mem (List.mem_map.2 ⟨i, List.mem_range.2 hi, rfl⟩) hw'))
    obtain ⟨q, hq⟩ := Go.Deep.choose_lt each
    have hlen : ((List.range len0).map fun i => (q i).1).length = len0 := by simp
    have hlen2 : ((List.range len0).map fun i => (q i).2).length = len0 := by simp
    have hg1 : ∀ t, t < len0 → ((List.range len0).map fun i => (q i).1).getD t undef = (q t).1 := fun t ht => by simp [List.getD, ht]
    have hg2 : ∀ t, t < len0 → ((List.range len0).map fun i => (q i).2).getD t [] = (q t).2 := fun t ht => by simp [List.getD, ht]
    refine ⟨(List.range len0).map fun i => (q i).2, ⟨(List.range len0).map fun i => (q i).1, ⟨some a, m, by rw [hlen], by omega, by simpa [maxLen] using hm, (by intro e; cases e), fun hp => ?_⟩, by rw [hlen, hlen2], fun i hi => ?_⟩, fun j hj => ?_⟩
    · rw [hlen] at hp ⊢
      obtain ⟨b, off, spot⟩ := a
      have hspot : spot = none := by simpa [Addr.add] using World.cell?_spot (hq 0 hp).1
      subst hspot
      refine ⟨b, off, rfl, fun t ht => ?_⟩
      rw [hg1 t ht]
      have := (hq t ht).1
      rwa [Addr.add_mid] at this
    · rw [hlen2] at hi
      rw [hg1 i hi, hg2 i hi]
      exact (hq i hi).2.1
    · rw [hlen2] at hj
      rw [hg2 j hj]
      exact (hq j hj).2.2

end Go.Proofs.YtahfcpdekjdceaaDoor.ck

/- The current one of some blocks, as lists. No claim of its own. -/
namespace Go.Proofs.YtahfcpdekjdceaaDoor.ck
open Go.RowKit Go.Proofs.YtahfcpdekjdceaaDoor.fa Go.Proofs.YtahfcpdekjdceaaDoor.he
set_option maxRecDepth 20000

/-- the current one of the first k blocks: its place, generation and record; or that there is none -/
def Kc (S : Nat) (bs : List (List (List Int))) (k : Nat) (at' gen : Int) (rec : List Int) : Prop :=
  (at' = -1 ∧ gen = 0 ∧ rec = [] ∧ ∀ j, j < k → ¬ Khd S (bs.getD j [])) ∨
  (∃ i : Nat, i < k ∧ at' = (i : Int) ∧ Khd S (bs.getD i []) ∧ gen = kgen S (bs.getD i []) ∧ rec = krec S (bs.getD i []) ∧
    (∀ j, j < k → Khd S (bs.getD j []) → kgen S (bs.getD j []) ≤ gen) ∧ ∀ j, j < i → Khd S (bs.getD j []) → kgen S (bs.getD j []) < gen)
theorem kc_zero (S : Nat) (bs : List (List (List Int))) : Kc S bs 0 (-1) 0 [] := .inl ⟨rfl, rfl, rfl, fun _ hj => absurd hj (Nat.not_lt_zero _)⟩
/-- a block that holds none changes nothing -/
theorem kc_none {S : Nat} {bs : List (List (List Int))} {k : Nat} {at' gen : Int} {rec : List Int} (h : Kc S bs k at' gen rec) (hn : ¬ Khd S (bs.getD k [])) : Kc S bs (k + 1) at' gen rec := by
  rcases h with ⟨h1, h2, h3, h4⟩ | ⟨i, h1, h2, h3, h4, h5, h6, h7⟩
  · refine .inl ⟨h1, h2, h3, fun j hj => ?_⟩
    by_cases e : j = k
    · rw [e]; exact hn
    · exact h4 j (by omega)
  · refine .inr ⟨i, by omega, h2, h3, h4, h5, fun j hj hh => ?_, h7⟩
    by_cases e : j = k
    · rw [e] at hh; exact absurd hh hn
    · exact h6 j (by omega) hh
/-- the first that holds one -/
theorem kc_first {S : Nat} {bs : List (List (List Int))} {k : Nat} {at' gen : Int} {rec : List Int} (h : Kc S bs k at' gen rec) (ha : at' < 0) (hy : Khd S (bs.getD k [])) : Kc S bs (k + 1) (k : Int) (kgen S (bs.getD k [])) (krec S (bs.getD k [])) := by
  rcases h with ⟨-, -, -, h4⟩ | ⟨i, h1, h2, -⟩
  · refine .inr ⟨k, by omega, rfl, hy, rfl, rfl, fun j hj hh => ?_, fun j hj hh => absurd hh (h4 j hj)⟩
    by_cases e : j = k
    · rw [e]; exact Int.le_refl _
    · exact absurd hh (h4 j (by omega))
  · omega
/-- one of a greater generation -/
theorem kc_more {S : Nat} {bs : List (List (List Int))} {k : Nat} {at' gen : Int} {rec : List Int} (h : Kc S bs k at' gen rec) (ha : ¬ at' < 0) (hy : Khd S (bs.getD k [])) (hg : kgen S (bs.getD k []) > gen) : Kc S bs (k + 1) (k : Int) (kgen S (bs.getD k [])) (krec S (bs.getD k [])) := by
  rcases h with ⟨h1, -⟩ | ⟨i, h1, h2, h3, h4, h5, h6, h7⟩
  · omega
  · refine .inr ⟨k, by omega, rfl, hy, rfl, rfl, fun j hj hh => ?_, fun j hj hh => ?_⟩
    · by_cases e : j = k
      · rw [e]; exact Int.le_refl _
      · have := h6 j (by omega) hh
        omega
    · have := h6 j hj hh
      omega
/-- one that is not of a greater one -/
theorem kc_less {S : Nat} {bs : List (List (List Int))} {k : Nat} {at' gen : Int} {rec : List Int} (h : Kc S bs k at' gen rec) (ha : ¬ at' < 0) (hg : ¬ kgen S (bs.getD k []) > gen) : Kc S bs (k + 1) at' gen rec := by
  rcases h with ⟨h1, -⟩ | ⟨i, h1, h2, h3, h4, h5, h6, h7⟩
  · omega
  · refine .inr ⟨i, by omega, h2, h3, h4, h5, fun j hj hh => ?_, h7⟩
    by_cases e : j = k
    · rw [e]; omega
    · exact h6 j (by omega) hh
/-- there is just one -/
theorem kc_only {S : Nat} {bs : List (List (List Int))} {k : Nat} {a a' g g' : Int} {r r' : List Int} (h : Kc S bs k a g r) (h' : Kc S bs k a' g' r') : a = a' ∧ g = g' ∧ r = r' := by
  rcases h with ⟨h1, h2, h3, h4⟩ | ⟨i, h1, h2, h3, h4, h5, h6, h7⟩ <;> rcases h' with ⟨q1, q2, q3, q4⟩ | ⟨j, q1, q2, q3, q4, q5, q6, q7⟩
  · exact ⟨by omega, by omega, by rw [h3, q3]⟩
  · exact absurd q3 (h4 j q1)
  · exact absurd h3 (q4 i h1)
  · have e : i = j := by
      refine Nat.le_antisymm (Nat.le_of_not_lt fun hlt => ?_) (Nat.le_of_not_lt fun hlt => ?_)
      · have a1 := h7 j hlt q3
        have a2 := q6 i h1 h3
        omega
      · have a1 := q7 i hlt h3
        have a2 := h6 j q1 q3
        omega
    subst e
    exact ⟨by omega, by omega, by rw [h5, q5]⟩
/-- those among the first k blocks that hold a record of the generation or of a greater one -/
def Alone (S : Nat) (bs : List (List (List Int))) (gen : Int) (k : Nat) (al : List (List (List Int))) : Prop :=
  (∀ t, t < al.length → ∃ j, j < k ∧ al.getD t [] = bs.getD j [] ∧ Khd S (bs.getD j []) ∧ kgen S (bs.getD j []) ≥ gen) ∧
  (∀ j, j < k → Khd S (bs.getD j []) → kgen S (bs.getD j []) ≥ gen → (∀ i, i < j → Khd S (bs.getD i []) → kgen S (bs.getD i []) < gen) → 0 < al.length ∧ al.getD 0 [] = bs.getD j []) ∧
  (al = [] → ∀ j, j < k → Khd S (bs.getD j []) → kgen S (bs.getD j []) < gen)
theorem alone_zero (S : Nat) (bs : List (List (List Int))) (gen : Int) : Alone S bs gen 0 [] :=
  ⟨fun _ ht => absurd ht (Nat.not_lt_zero _), fun _ hj => absurd hj (Nat.not_lt_zero _), fun _ _ hj => absurd hj (Nat.not_lt_zero _)⟩
theorem getD_snoc (al : List (List (List Int))) (x : List (List Int)) (t : Nat) : (al ++ [x]).getD t [] = if t < al.length then al.getD t [] else if t = al.length then x else [] := by
  simp only [List.getD]
  by_cases h : t < al.length
  · rw [if_pos h, List.getElem?_append_left h]
  · rw [if_neg h, List.getElem?_append_right (by omega)]
    by_cases e : t = al.length
    · rw [if_pos e, e, Nat.sub_self]; rfl
    · rw [if_neg e, List.getElem?_eq_none (by simp; omega)]; rfl
/-- one more that holds one -/
theorem alone_yes {S : Nat} {bs al : List (List (List Int))} {gen : Int} {k : Nat} (h : Alone S bs gen k al) (hy : Khd S (bs.getD k [])) (hg : kgen S (bs.getD k []) ≥ gen) : Alone S bs gen (k + 1) (al ++ [bs.getD k []]) := by
  obtain ⟨a1, a2, a3⟩ := h
  refine ⟨fun t ht => ?_, fun j hj hh hg' hf => ?_, fun e => ?_⟩
  · rw [getD_snoc]
    by_cases q : t < al.length
    · rw [if_pos q]
      obtain ⟨j, b1, b2, b3, b4⟩ := a1 t q
      exact ⟨j, by omega, b2, b3, b4⟩
    · have : t = al.length := by simp at ht; omega
      rw [if_neg q, if_pos this]
      exact ⟨k, by omega, rfl, hy, hg⟩
  · refine ⟨by simp, ?_⟩
    rw [getD_snoc]
    by_cases e : j = k
    · subst e
      have : al = [] := by
        refine List.eq_nil_of_length_eq_zero (Nat.eq_zero_of_not_pos fun hp => ?_)
        obtain ⟨i, b1, -, b3, b4⟩ := a1 0 hp
        have := hf i b1 b3
        omega
      subst this
      rfl
    · obtain ⟨b1, b2⟩ := a2 j (by omega) hh hg' hf
      rw [if_pos b1]
      exact b2
  · simp at e
/-- one more that does not -/
theorem alone_no {S : Nat} {bs al : List (List (List Int))} {gen : Int} {k : Nat} (h : Alone S bs gen k al) (hn : ¬ (Khd S (bs.getD k []) ∧ kgen S (bs.getD k []) ≥ gen)) : Alone S bs gen (k + 1) al := by
  obtain ⟨a1, a2, a3⟩ := h
  refine ⟨fun t ht => ?_, fun j hj hh hg' hf => ?_, fun e j hj hh => ?_⟩
  · obtain ⟨j, b1, b2, b3, b4⟩ := a1 t ht
    exact ⟨j, by omega, b2, b3, b4⟩
  · by_cases e : j = k
    · subst e
      exact absurd ⟨hh, hg'⟩ hn
    · exact a2 j (by omega) hh hg' hf
  · by_cases q : j = k
    · subst q
      refine Int.not_le.1 fun z => hn ⟨hh, z⟩
    · exact a3 e j (by omega) hh
/-- the current one is it among these alone, too -/
theorem kc_alone {S : Nat} {bs al : List (List (List Int))} {at' gen : Int} {rec : List Int} (h : Kc S bs bs.length at' gen rec) (ha : ¬ at' < 0) (hA : Alone S bs gen bs.length al) : Kc S al al.length 0 gen rec := by
  rcases h with ⟨h1, -⟩ | ⟨i, h1, h2, h3, h4, h5, h6, h7⟩
  · omega
  · obtain ⟨b1, b2⟩ := hA.2.1 i h1 h3 (by omega) h7
    refine .inr ⟨0, b1, rfl, by rw [b2]; exact h3, by rw [b2]; exact h4, by rw [b2]; exact h5, fun t ht hh => ?_, fun _ hj => absurd hj (Nat.not_lt_zero _)⟩
    obtain ⟨j, c1, c2, c3, -⟩ := hA.1 t ht
    rw [c2]
    exact h6 j c1 c3
end Go.Proofs.YtahfcpdekjdceaaDoor.ck

/- What chunk's Current answers. No claim of its own. -/
namespace Go.Proofs.YtahfcpdekjdceaaDoor.ck
open Go.RowKit Go.Proofs.YtahfcpdekjdceaaDoor.fa Go.Proofs.YtahfcpdekjdceaaDoor.he Go.Proofs.YtahfcpdekjdceaaDoor.pa
set_option maxRecDepth 20000

theorem Bks.at {w : World} {v : Value} {bs : List (List (List Int))} (h : Bks w v bs) : ∃ ao cap, v = .slice ao bs.length cap ∧ bs.length ≤ cap ∧ cap ≤ 9223372036854775807 ∧ (0 < bs.length → ∃ b off, ao = some ⟨b, off, none⟩ ∧ ∀ i, i < bs.length → ∃ u, w.cell? ⟨b, off + i, none⟩ = some u ∧ Pgs w u (bs.getD i [])) := by
  obtain ⟨vs, ⟨ao, cap, rfl, h1, h2, h3, h4⟩, h5, h6⟩ := h
  rw [h5] at h1 h4 ⊢
  refine ⟨ao, cap, rfl, h1, h2, fun hp => ?_⟩
  obtain ⟨b, off, rfl, hc⟩ := h4 hp
  exact ⟨b, off, rfl, fun i hi => ⟨_, hc i hi, h6 i hi⟩⟩
/-- what Current answers -/
def CurIs (S : Nat) (bs : List (List (List Int))) (x : Ending) (w' : World) : Prop :=
  ∃ (at' gen : Int) (rec : List Int) (ro : Option Addr) (rn rc : Nat), x = .returned (.tuple #[.int .i64 at', .int .u64 gen, .slice ro rn rc]) ∧ Byt w' (.slice ro rn rc) rec ∧ Kc S bs bs.length at' gen rec
theorem kc_place {S : Nat} {bs : List (List (List Int))} {k : Nat} {at' gen : Int} {rec : List Int} (h : Kc S bs k at' gen rec) : at' = -1 ∨ 0 ≤ at' := by
  rcases h with ⟨h1, -⟩ | ⟨i, -, h2, -⟩
  · exact .inl h1
  · exact .inr (by omega)

set_option maxHeartbeats 4000000 in
theorem current_any (g0 g1 g3 g4 g5 : Int) (S : Nat) (v : Value) (bs : List (List (List Int))) (w : World) (hr : ge.Rt [g0, g1, (S : Int), g3, g4, g5]) (hT : Tab w) (hp : Bks w v bs) :
    Calls Tryd.prog 16 #[.agg (ints .i64 [g0, g1, (S : Int), g3, g4, g5]), v] w fun x w' => CurIs S bs x w' ∧ Below w.heap.size w w' := by
  obtain ⟨ao, cap, rfl, h1, h2, h3⟩ := hp.at
  have HR : Hid (ge.Rt [g0, g1, (S : Int), g3, g4, g5] ∧ Tab w) := ⟨hr, hT⟩
  have HA : Hid (0 < bs.length → ∃ b off, ao = some ⟨b, off, none⟩ ∧ ∀ i, i < bs.length → ∃ u, w.cell? ⟨b, off + i, none⟩ = some u ∧ Pgs w u (bs.getD i [])) := h3
  have hm : bs.length ≤ 9223372036854775807 := by omega
  clear hr hT hp h1 h2 h3
  obtain ⟨n, en⟩ : ∃ n, bs.length = n := ⟨_, rfl⟩
  have EN : Hid (bs.length = n) := en
  rw [en] at HA hm ⊢
  clear en
  have t0 : (0 : Nat) = 0 := rfl
  go_enter Tryd.func16, Tryd.ntmps16
  go_wp2_with (first
    | (have q0 := t0; refine box_lawC _ [.int .i64 g0, .int .i64 g1, .int .i64 (S : Int), .int .i64 g3, .int .i64 g4, .int .i64 g5] rfl ?_; intro w1 X9 B9 l9; have HB0 : Hid (Vr w1 w.heap.size [.int .i64 g0, .int .i64 g1, .int .i64 (S : Int), .int .i64 g3, .int .i64 g4, .int .i64 g5]) := X9; have BB : Hid (Below w.heap.size w w1) := B9; have hb0_0 := HB0.out.cell 0 _ rfl; have hb0_1 := HB0.out.cell 1 _ rfl; have hb0_2 := HB0.out.cell 2 _ rfl; have hb0_3 := HB0.out.cell 3 _ rfl; have hb0_4 := HB0.out.cell 4 _ rfl; have hb0_5 := HB0.out.cell 5 _ rfl; clear X9 B9 l9; clear t0; have t1 : (1 : Nat) = 1 := rfl))
  have BW : Hid (Below w.heap.size w w1) := BB.out
  go_loopw [17, 7, 8, 9] (fun i a g r wr => ∃ (k : Nat) (at' gen : Int) (rec : List Int) (ro : Option Addr) (rn rc : Nat), k ≤ n ∧ i = .int .i64 (k : Int) ∧ a = .int .i64 at' ∧ g = .int .u64 gen ∧ r = .slice ro rn rc ∧ Byt wr (.slice ro rn rc) rec ∧ Kc S bs k at' gen rec ∧ Below w1.heap.size w1 wr) (fun i _ _ _ _ => n - (intOf i).toNat)
  case atStart => exact ⟨0, _, _, _, _, _, _, Nat.zero_le _, rfl, rfl, rfl, rfl, Byt.nil _, kc_zero S bs, Below.refl _ _⟩
  case round =>
    obtain ⟨k, at', gen, rec, ro, rn, rc, hk, rfl, rfl, rfl, rfl, hY, hK, hB⟩ := hrel
    have BR : Hid (Below w1.heap.size w1 wr) := hB
    have HK : Hid (Kc S bs k at' gen rec) := hK
    have HY : Hid (Byt wr (.slice ro rn rc) rec) := hY
    have HB0 : Hid (Vr wr w.heap.size [.int .i64 g0, .int .i64 g1, .int .i64 (S : Int), .int .i64 g3, .int .i64 g4, .int .i64 g5]) := HB0.out.below hB (range_lt HB0.out.1 (Nat.succ_pos _))
    have hpl := kc_place hK
    clear hY hK hB BB hb0_0 hb0_1 hb0_2 hb0_3 hb0_4 hb0_5
    by_cases hlt : k < n
    · have lk : (k : Int) < (n : Int) := by omega
      have lk2 : IntKind.i64.wrap ((k : Int) + 1) = (k : Int) + 1 := by rw [IntKind.wrap_i64]; omega
      obtain ⟨b, off, rfl, hall⟩ := HA.out (by omega)
      obtain ⟨z, hz, hzp⟩ := hall k hlt
      have BA : Below w.heap.size w wr := BW.out.trans (BR.out.mono BW.out.size)
      have HZ : Hid (Pgs wr z (bs.getD k [])) := hzp.below BA
      have hz1 : wr.cell? ⟨b, off + k, none⟩ = some z := by rw [BA.cell (World.block_lt_of_cell? _ _ hz)]; exact hz
      have HT : Hid (Tab wr) := HR.out.2.below BA
      have hb0_0 := HB0.out.cell 0 _ rfl
      have hb0_1 := HB0.out.cell 1 _ rfl
      have hb0_2 := HB0.out.cell 2 _ rfl
      have hb0_3 := HB0.out.cell 3 _ rfl
      have hb0_4 := HB0.out.cell 4 _ rfl
      have hb0_5 := HB0.out.cell 5 _ rfl
      clear hall hz hzp BA
      by_cases hy : Khd S (bs.getD k [])
      · have hy' : Hid (Khd S (bs.getD k [])) := hy
        have SO : Hid (∀ w0, w0 = wr → Calls Tryd.prog 14 #[.agg (ints .i64 [g0, g1, (S : Int), g3, g4, g5]), z] w0 fun x w' => ∃ ro rc, x = .returned (.tuple #[.int .u64 (kgen S (bs.getD k [])), .slice ro 624 rc, .bool true]) ∧ Byt w' (.slice ro 624 rc) (krec S (bs.getD k [])) ∧ Below w0.heap.size w0 w') := fun w0 e => by
          subst e
          refine (hold_any g0 g1 g3 g4 g5 S z _ w0 HR.out.1 HT.out HZ.out).mono ?_
          rintro x w' ⟨⟨h1, ro, rc, h2, h4⟩ | ⟨h1, -⟩, h3⟩
          · exact ⟨ro, rc, h2, h4, h3⟩
          · exact absurd hy h1
        by_cases ha : at' = -1
        · subst ha
          have KN : Hid (Kc S bs (k + 1) (k : Int) (kgen S (bs.getD k [])) (krec S (bs.getD k []))) := kc_first HK.out (by omega) hy
          have hg : (0 : Nat) = 0 := rfl
          generalize kgen S (bs.getD k []) = G2 at SO KN
          generalize krec S (bs.getD k []) = R2 at SO KN
          clear hy hy' hpl hg
          have t0 : (0 : Nat) = 0 := rfl
          go_wp2_with (first
            | (have q0 := t0; go_at_call 14; refine (SO.out wr rfl).mono ?_; rintro e9 w41 ⟨ro2, rc2, rfl, y9, B9⟩; have HB0 : Hid (Vr w41 w.heap.size [.int .i64 g0, .int .i64 g1, .int .i64 (S : Int), .int .i64 g3, .int .i64 g4, .int .i64 g5]) := HB0.out.below B9 (range_lt HB0.out.1 (Nat.succ_pos _)); have HY : Hid (Byt w41 (.slice ro rn rc) rec) := HY.out.below B9; have HN : Hid (Byt w41 (.slice ro2 624 rc2) R2) := y9; have BB : Hid (Below wr.heap.size wr w41) := B9; clear hb0_0 hb0_1 hb0_2 hb0_3 hb0_4 hb0_5; have hb0_0 := HB0.out.cell 0 _ rfl; have hb0_1 := HB0.out.cell 1 _ rfl; have hb0_2 := HB0.out.cell 2 _ rfl; have hb0_3 := HB0.out.cell 3 _ rfl; have hb0_4 := HB0.out.cell 4 _ rfl; have hb0_5 := HB0.out.cell 5 _ rfl; clear B9 y9; clear t0; have t1 : (1 : Nat) = 1 := rfl))
          go_roundw
          case rel => exact ⟨k + 1, _, _, _, _, _, _, by omega, by go_num, rfl, rfl, rfl, HN.out, KN.out, BR.out.trans (BB.out.mono BR.out.size)⟩
          case measure => simp [intOf]; omega
        · have na : (at' == -1) = false := beq_eq_false_iff_ne.2 ha
          by_cases hg : kgen S (bs.getD k []) > gen
          · have KN : Hid (Kc S bs (k + 1) (k : Int) (kgen S (bs.getD k [])) (krec S (bs.getD k []))) := kc_more HK.out (by omega) hy hg
            generalize kgen S (bs.getD k []) = G2 at SO KN hg
            generalize krec S (bs.getD k []) = R2 at SO KN
            clear hy hy' hpl
            have t0 : (0 : Nat) = 0 := rfl
            go_wp2_with (first
              | (have q0 := t0; go_at_call 14; refine (SO.out wr rfl).mono ?_; rintro e9 w41 ⟨ro2, rc2, rfl, y9, B9⟩; have HB0 : Hid (Vr w41 w.heap.size [.int .i64 g0, .int .i64 g1, .int .i64 (S : Int), .int .i64 g3, .int .i64 g4, .int .i64 g5]) := HB0.out.below B9 (range_lt HB0.out.1 (Nat.succ_pos _)); have HY : Hid (Byt w41 (.slice ro rn rc) rec) := HY.out.below B9; have HN : Hid (Byt w41 (.slice ro2 624 rc2) R2) := y9; have BB : Hid (Below wr.heap.size wr w41) := B9; clear hb0_0 hb0_1 hb0_2 hb0_3 hb0_4 hb0_5; have hb0_0 := HB0.out.cell 0 _ rfl; have hb0_1 := HB0.out.cell 1 _ rfl; have hb0_2 := HB0.out.cell 2 _ rfl; have hb0_3 := HB0.out.cell 3 _ rfl; have hb0_4 := HB0.out.cell 4 _ rfl; have hb0_5 := HB0.out.cell 5 _ rfl; clear B9 y9; clear t0; have t1 : (1 : Nat) = 1 := rfl))
            go_roundw
            case rel => exact ⟨k + 1, _, _, _, _, _, _, by omega, by go_num, rfl, rfl, rfl, HN.out, KN.out, BR.out.trans (BB.out.mono BR.out.size)⟩
            case measure => simp [intOf]; omega
          · have KN : Hid (Kc S bs (k + 1) at' gen rec) := kc_less HK.out (by omega) hg
            generalize kgen S (bs.getD k []) = G2 at SO hg
            generalize krec S (bs.getD k []) = R2 at SO
            clear hy hy' hpl
            have t0 : (0 : Nat) = 0 := rfl
            go_wp2_with (first
              | (have q0 := t0; go_at_call 14; refine (SO.out wr rfl).mono ?_; rintro e9 w41 ⟨ro2, rc2, rfl, y9, B9⟩; have HB0 : Hid (Vr w41 w.heap.size [.int .i64 g0, .int .i64 g1, .int .i64 (S : Int), .int .i64 g3, .int .i64 g4, .int .i64 g5]) := HB0.out.below B9 (range_lt HB0.out.1 (Nat.succ_pos _)); have HY : Hid (Byt w41 (.slice ro rn rc) rec) := HY.out.below B9; have HN : Hid (Byt w41 (.slice ro2 624 rc2) R2) := y9; have BB : Hid (Below wr.heap.size wr w41) := B9; clear hb0_0 hb0_1 hb0_2 hb0_3 hb0_4 hb0_5; have hb0_0 := HB0.out.cell 0 _ rfl; have hb0_1 := HB0.out.cell 1 _ rfl; have hb0_2 := HB0.out.cell 2 _ rfl; have hb0_3 := HB0.out.cell 3 _ rfl; have hb0_4 := HB0.out.cell 4 _ rfl; have hb0_5 := HB0.out.cell 5 _ rfl; clear B9 y9; clear t0; have t1 : (1 : Nat) = 1 := rfl))
            go_roundw
            case rel => exact ⟨k + 1, _, _, _, _, _, _, by omega, by go_num, rfl, rfl, rfl, HY.out, KN.out, BR.out.trans (BB.out.mono BR.out.size)⟩
            case measure => simp [intOf]; omega
      · have SO : Hid (∀ w0, w0 = wr → Calls Tryd.prog 14 #[.agg (ints .i64 [g0, g1, (S : Int), g3, g4, g5]), z] w0 fun x w' => x = .returned (.tuple #[.int .u64 0, .slice none 0 0, .bool false]) ∧ Below w0.heap.size w0 w') := fun w0 e => by
          subst e
          refine (hold_any g0 g1 g3 g4 g5 S z _ w0 HR.out.1 HT.out HZ.out).mono ?_
          rintro x w' ⟨⟨h1, -⟩ | ⟨-, h2⟩, h3⟩
          · exact absurd h1 hy
          · exact ⟨h2, h3⟩
        have hy : Hid (¬ Khd S (bs.getD k [])) := hy
        clear hpl
        have t0 : (0 : Nat) = 0 := rfl
        go_wp2_with (first
          | (have q0 := t0; go_at_call 14; refine (SO.out wr rfl).mono ?_; rintro e9 w41 ⟨rfl, B9⟩; have HB0 : Hid (Vr w41 w.heap.size [.int .i64 g0, .int .i64 g1, .int .i64 (S : Int), .int .i64 g3, .int .i64 g4, .int .i64 g5]) := HB0.out.below B9 (range_lt HB0.out.1 (Nat.succ_pos _)); have HY : Hid (Byt w41 (.slice ro rn rc) rec) := HY.out.below B9; have BB : Hid (Below wr.heap.size wr w41) := B9; clear hb0_0 hb0_1 hb0_2 hb0_3 hb0_4 hb0_5; have hb0_0 := HB0.out.cell 0 _ rfl; have hb0_1 := HB0.out.cell 1 _ rfl; have hb0_2 := HB0.out.cell 2 _ rfl; have hb0_3 := HB0.out.cell 3 _ rfl; have hb0_4 := HB0.out.cell 4 _ rfl; have hb0_5 := HB0.out.cell 5 _ rfl; clear B9; clear t0; have t1 : (1 : Nat) = 1 := rfl))
        go_roundw
        case rel => exact ⟨k + 1, _, _, _, _, _, _, by omega, by go_num, rfl, rfl, rfl, HY.out, kc_none HK.out hy.out, BR.out.trans (BB.out.mono BR.out.size)⟩
        case measure => simp [intOf]; omega
    · have ek : k = n := by omega
      subst ek
      go_wp2
      go_ret3
      exact ⟨⟨at', gen, rec, ro, rn, rc, rfl, HY.out, by rw [EN.out]; exact HK.out⟩, BW.out.trans (BR.out.mono BW.out.size)⟩
end Go.Proofs.YtahfcpdekjdceaaDoor.ck

