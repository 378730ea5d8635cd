/- Parts of the proof: what KeyboxGone reaches. No claim of its own. -/
import Derived.WalkKit
import Derived.Deep.QuietTactic
import Derived.Laws.AppendOwnNone
import Derived.Deep.RegionHeld3
import Derived.Deep.DeepCutAuto
import Derived.Deep.WholeRow
import Derived.Deep.MidRow
import Derived.Laws.StructEq
import Derived.Lib.AppendZeros
import Derived.Lib.SliceRun
import Derived.WalkSmall
import Derived.ProofKit
import Derived.OpenShut
import Derived.BigQuiet
import Derived.Deep.DeepHandedRow
import Derived.Lib.LaidTab
import Derived.Deep.Matrix
import Derived.Deep.Slices
import Derived.Test.YtakibiigcdgohaaGreatDoorD00
import Derived.Test.YtakibiigcdgohaaGreatDoorD01
import Derived.Test.YtakibiigcdgohaaGreatDoorD02
import Derived.Test.YtakibiigcdgohaaGreatDoorD03
import Derived.Test.YtakibiigcdgohaaGreatDoorD04
import Derived.Test.YtakibiigcdgohaaGreatDoorD05
import Derived.Test.YtakibiigcdgohaaGreatDoorD09
import Derived.Test.YtakibiigcdgohaaGreatDoorD10
import Derived.Test.YtakibiigcdgohaaGreatDoorD11
import Derived.Test.YtakibiigcdgohaaGreatDoorD12
import Derived.Test.YtakibiigcdgohaaGreatDoorD13
import Derived.Test.YtakibiigcdgohaaGreatDoorD14
import Derived.Test.YtakibiigcdgohaaGreatDoorD15
import Derived.Test.YtakibiigcdgohaaGreatDoorD16
import Derived.Test.YtakibiigcdgohaaGreatDoorD17
import Derived.Test.YtakibiigcdgohaaGreatDoorD18
import Derived.Test.YtakibiigcdgohaaGreatDoorD19
import Derived.Test.YtakibiigcdgohaaGreatDoorD20
set_option maxHeartbeats 8000000
namespace Go.Proofs.YtakibiigcdgohaaGreatDoor.ck
open Go.RowKit Go.Proofs.YtakibiigcdgohaaGreatDoor.fa Go.Proofs.YtakibiigcdgohaaGreatDoor.he Go.Proofs.YtakibiigcdgohaaGreatDoor.pa
set_option maxRecDepth 20000
theorem hold_few (g0 g1 g3 g4 g5 : Int) (S : Nat) (ao : Option Addr) (n cap : Nat) (w : World) (hr : ge.Rt [g0, g1, (S : Int), g3, g4, g5]) (hl : n < nc S) :
    Calls Tryz.prog 62 #[.agg (ints .i64 [g0, g1, (S : Int), g3, g4, g5]), .slice ao n cap] w fun x w' => x = .returned (.tuple #[.int .u64 0, .slice none 0 0, .bool false]) ∧ Below w.heap.size w w' := by
  have SC : Hid (∀ w0, Calls Tryz.prog 79 #[.agg (ints .i64 [g0, g1, (S : Int), g3, g4, g5])] w0 fun x w' => x = .returned (.int .i64 (nc S : Int)) ∧ Below w0.heap.size w0 w') := fun w0 => chunks_nc hr w0
  have n0 : ((nc S : Int) == 0) = false := beq_eq_false_iff_ne.2 (by omega)
  have n1 : (n : Int) < (nc S : Int) := by omega
  generalize (nc S : Int) = N at SC n0 n1
  clear hr hl
  have t0 := tR
  go_enter Tryz.func62, Tryz.ntmps62
  go_wp2_with (first
    | (have q1 := t1; go_at_call 79; refine (SC.out w1).mono ?_; rintro e9 w2 ⟨rfl, B9⟩; have HB0 : Hid (Vr w2 w.heap.size [.int .i64 g0, .int .i64 g1, .int .i64 (S : Int), .int .i64 g3, .int .i64 g4, .int .i64 g5]) := HB0.out.below B9 (range_lt HB0.out.1 (Nat.succ_pos _)); have BB : Hid (Below w.heap.size w w2) := BB.out.trans (B9.mono BB.out.size); clear hb0_0 hb0_1 hb0_2 hb0_3 hb0_4 hb0_5; have hb0_0 := HB0.out.cell 0 _ rfl; have hb0_1 := HB0.out.cell 1 _ rfl; have hb0_2 := HB0.out.cell 2 _ rfl; have hb0_3 := HB0.out.cell 3 _ rfl; have hb0_4 := HB0.out.cell 4 _ rfl; have hb0_5 := HB0.out.cell 5 _ rfl; clear B9; clear t1; have t2 := tR)
    | (have q0 := t0; refine box_lawC _ [.int .i64 g0, .int .i64 g1, .int .i64 (S : Int), .int .i64 g3, .int .i64 g4, .int .i64 g5] rfl ?_; intro w1 X9 B9 l9; have HB0 : Hid (Vr w1 w.heap.size [.int .i64 g0, .int .i64 g1, .int .i64 (S : Int), .int .i64 g3, .int .i64 g4, .int .i64 g5]) := X9; have BB : Hid (Below w.heap.size w w1) := B9; have hb0_0 := HB0.out.cell 0 _ rfl; have hb0_1 := HB0.out.cell 1 _ rfl; have hb0_2 := HB0.out.cell 2 _ rfl; have hb0_3 := HB0.out.cell 3 _ rfl; have hb0_4 := HB0.out.cell 4 _ rfl; have hb0_5 := HB0.out.cell 5 _ rfl; clear X9 B9 l9; clear t0; have t1 := tR))
  go_ret3
  exact ⟨rfl, BB.out⟩
theorem hold_in (g0 g1 g3 g4 g5 : Int) (S : Nat) (b off n cap : Nat) (ls : List (List Int)) (w : World) (u : Value) (D : Bool) (hr : ge.Rt [g0, g1, (S : Int), g3, g4, g5]) (hT : Tab w) (hn' : nc S ≤ n) (hcap : n ≤ cap) (hc : w.cell? ⟨b, off + (nc S - 1), none⟩ = some u) (hu : Byt w u (ls.getD (nc S - 1) [])) (hall : ∀ i, i < n → ∃ z, w.cell? ⟨b, off + i, none⟩ = some z ∧ Byt w z (ls.getD i [])) (hlen : n = ls.length) (hD : D = true ↔ Dn S (ls.getD (nc S - 1) [])) :
    Calls Tryz.prog 62 #[.agg (ints .i64 [g0, g1, (S : Int), g3, g4, g5]), .slice (some ⟨b, off, none⟩) n cap] w fun x w' => HoldIs S ls x w' ∧ Below w.heap.size w w' := by
  have ⟨s1, s2⟩ := rt_sec hr
  have hn := nc_le s1 s2
  have SC : Hid (∀ w0, Calls Tryz.prog 79 #[.agg (ints .i64 [g0, g1, (S : Int), g3, g4, g5])] w0 fun x w' => x = .returned (.int .i64 (nc S : Int)) ∧ Below w0.heap.size w0 w') := fun w0 => chunks_nc hr w0
  have SD : Hid (∀ w0, Below w.heap.size w w0 → Calls Tryz.prog 80 #[.agg (ints .i64 [g0, g1, (S : Int), g3, g4, g5]), u, .int .i64 4] w0 fun x w' => (∃ pg, x = .returned (.tuple #[.agg pg.toArray, .bool D]) ∧ Pg9 pg (if D = true then glast S ls else 0)) ∧ Below w0.heap.size w0 w') := fun w0 q => done_all g0 g1 g3 g4 g5 S u _ w0 hr (hu.below q) (hT.below q) D hD
  have SH : Hid (∀ {k : Nat} w0, Calls Tryz.prog 82 #[.agg (ints .i64 [g0, g1, (S : Int), g3, g4, g5]), .int .i64 (k : Int), .int .u64 (glast S ls)] w0 fun x w' => x = .returned (.agg (hv 4 (k : Int) 0 (nc S : Int) (glast S ls) 0).toArray) ∧ Below w0.heap.size w0 w') := fun {k} w0 => headof_any g0 g1 g3 g4 g5 S k (glast S ls) w0 hr
  have HC : Hid (∀ w', Below w.heap.size w w' → w'.cell? ⟨b, off + (nc S - 1), none⟩ = some u) := fun w' q => by rw [q.cell (World.block_lt_of_cell? _ _ hc)]; exact hc
  have HA : Hid (∀ i, i < n → ∃ z, (∀ w', Below w.heap.size w w' → w'.cell? ⟨b, off + i, none⟩ = some z) ∧ Byt w z (ls.getD i [])) := fun i hi => by
    obtain ⟨z, h1, h2⟩ := hall i hi
    exact ⟨z, fun w' q => by rw [q.cell (World.block_lt_of_cell? _ _ h1)]; exact h1, h2⟩
  have HD : Hid (D = true ↔ Dn S (ls.getD (nc S - 1) [])) := hD
  have HR : Hid (ge.Rt [g0, g1, (S : Int), g3, g4, g5] ∧ Tab w) := ⟨hr, hT⟩
  have HX : Hid (Khd S ls ↔ (∀ i, i < nc S → Kpg S (glast S ls) i (ls.getD i [])) ∧ Kcm S (ls.getD (nc S - 1) [])) := (by rw [Hid, khd_last hn.1]; exact ⟨fun h => h.2, fun h => ⟨by omega, h⟩⟩)
  have HG : Hid (Khd S ls → kgen S ls = glast S ls) := fun h => (kgen_last hn.1 h).symm
  have HKr : Hid (krec S ls = (parts (fun j => (ls.getD j []).take S) (nc S)).take 624) := rfl
  have HM : Hid (624 ≤ nc S * S) := hn.2.2.1
  have hM : (nc S : Int) * (S : Int) = ((nc S * S : Nat) : Int) := (Int.natCast_mul _ _).symm
  have N1 : Hid (IntKind.i64.wrap ((nc S : Int) - 1) = ((nc S - 1 : Nat) : Int)) := (by show _ = _; rw [IntKind.wrap_i64]; omega)
  have NN : Hid (nc S - 1 < n) := (by show _ < _; omega)
  have NC : Hid (nc S ≤ cap) := (by show _ ≤ _; omega)
  have n0 : ((nc S : Int) == 0) = false := beq_eq_false_iff_ne.2 (by omega)
  have n2 : ¬ ((n : Int) < (nc S : Int)) := by omega
  have n20 : nc S ≤ 20 := hn.2.1
  have ML : Hid (nc S * S ≤ 1099511627776) := (by show _ ≤ _; omega)
  have m1 : (624 : Int) ≤ ((nc S * S : Nat) : Int) := by omega
  have m2 : ((nc S * S : Nat) : Int) ≤ 10000 := by omega
  have nn : nc S ≤ n := hn'
  have s4 : S ≤ 4096 := s2
  obtain ⟨M, eM⟩ : ∃ M, nc S * S = M := ⟨_, rfl⟩
  rw [eM] at HM hM ML m1 m2
  have EM : Hid (nc S * S = M) := eM
  obtain ⟨N, eN⟩ : ∃ N, nc S = N := ⟨_, rfl⟩
  rw [eN] at SC SH HC HD HX HKr hM N1 NN NC n0 n2 n20 nn EM
  obtain ⟨F, eF⟩ : ∃ F : Nat → List Int, F = fun j => (ls.getD j []).take S := ⟨_, rfl⟩
  rw [← eF] at HKr
  have EF : Hid (∀ j, F j = (ls.getD j []).take S) := fun j => by rw [eF]
  have HDG : Hid (D = true → (if D = true then glast S ls else 0) = glast S ls) := fun h => if_pos h
  have EK : Hid (nc S = N) := eN
  clear hr hT hu hc hall hD hn hn' hcap s1 s2 eM eN eF
  clear hlen
  obtain ⟨G, eG⟩ : ∃ G, (if D = true then glast S ls else 0) = G := ⟨_, rfl⟩
  rw [eG] at SD HDG
  clear eG
  have t0 := tR
  go_enter Tryz.func62, Tryz.ntmps62
  go_wp2_with (first
    | (have q1 := t1; go_at_call 79; refine (SC.out w1).mono ?_; rintro e9 w2 ⟨rfl, B9⟩; have HB0 : Hid (Vr w2 w.heap.size [.int .i64 g0, .int .i64 g1, .int .i64 (S : Int), .int .i64 g3, .int .i64 g4, .int .i64 g5]) := HB0.out.below B9 (range_lt HB0.out.1 (Nat.succ_pos _)); have BB : Hid (Below w.heap.size w w2) := BB.out.trans (B9.mono BB.out.size); clear hb0_0 hb0_1 hb0_2 hb0_3 hb0_4 hb0_5; have hb0_0 := HB0.out.cell 0 _ rfl; have hb0_1 := HB0.out.cell 1 _ rfl; have hb0_2 := HB0.out.cell 2 _ rfl; have hb0_3 := HB0.out.cell 3 _ rfl; have hb0_4 := HB0.out.cell 4 _ rfl; have hb0_5 := HB0.out.cell 5 _ rfl; clear B9; clear t1; have t2 := tR)
    | (have q0 := t0; refine box_lawC _ [.int .i64 g0, .int .i64 g1, .int .i64 (S : Int), .int .i64 g3, .int .i64 g4, .int .i64 g5] rfl ?_; intro w1 X9 B9 l9; have HB0 : Hid (Vr w1 w.heap.size [.int .i64 g0, .int .i64 g1, .int .i64 (S : Int), .int .i64 g3, .int .i64 g4, .int .i64 g5]) := X9; have BB : Hid (Below w.heap.size w w1) := B9; have hb0_0 := HB0.out.cell 0 _ rfl; have hb0_1 := HB0.out.cell 1 _ rfl; have hb0_2 := HB0.out.cell 2 _ rfl; have hb0_3 := HB0.out.cell 3 _ rfl; have hb0_4 := HB0.out.cell 4 _ rfl; have hb0_5 := HB0.out.cell 5 _ rfl; clear X9 B9 l9; clear t0; have t1 := tR))
  go_cut [8, 9] (fun r8 r9 wc => ∃ gv : Nat, r8 = .pointer (some ⟨gv, 0, none⟩) ∧ r9 = .bool D ∧ wc.cell? ⟨gv, 4, none⟩ = some (.int .u64 G) ∧ Below w2.heap.size w2 wc)
  case first =>
    refine wp_region_held_drew (S := fun w' => Below w2.heap.size w2 w') (by kernel_rfl) (Below.refl _ _).drew (fun hS => ?_)
    obtain ⟨x1, hx0⟩ : ∃ x, x = w2.drew := ⟨_, rfl⟩
    rw [← hx0] at hS  ⊢
    clear hx0
    refine tkH 0 (some 27) (.agg ([.int .i64 g0, .int .i64 g1, .int .i64 (S : Int), .int .i64 g3, .int .i64 g4, .int .i64 g5] : List Value).toArray) rfl rfl (Or.inl ⟨by rfl, fun w' hw' => by exact exec_loadN 23 (.tmp 2) rfl _ rfl _ _ (load_cells rowy_geo (HB0.out.below hw' (range_lt HB0.out.1 (Nat.succ_pos _))).1)⟩) hS ?_
    simp only [Act.put, zE1, zE2, zE3]
    refine tkH 1 (some 28) (.slice (some ⟨b, off, none⟩) n cap) rfl rfl (Or.inl ⟨by rfl, fun w' hw' => by rfl⟩) hS ?_
    simp only [Act.put, zE1, zE2, zE3]
    refine tkH 2 (some 29) (.int .i64 (N : Int)) rfl rfl (Or.inl ⟨by rfl, fun w' hw' => by rfl⟩) hS ?_
    simp only [Act.put, zE1, zE2, zE3]
    refine tkH 3 (some 30) (.int .i64 ((N - 1 : Nat) : Int)) rfl rfl (Or.inl ⟨by rfl, fun w' hw' => by exact exec_sub (.tmp 29) (.const (.int .i64 1)) rfl (N : Int) 1 _ rfl rfl N1.out⟩) hS ?_
    simp only [Act.put, zE1, zE2, zE3]
    refine tkH 4 (some 31) (.pointer (some ⟨b, off + (N - 1), none⟩)) rfl rfl (Or.inl ⟨by rfl, fun w' hw' => by exact exec_idxR (.tmp 28) (.tmp 30) rfl b off n cap (N - 1) rfl rfl NN.out _⟩) hS ?_
    simp only [Act.put, zE1, zE2, zE3]
    refine tkH 5 (some 32) (u) rfl rfl (Or.inl ⟨by rfl, fun w' hw' => by exact exec_loadN 35 (.tmp 31) rfl _ rfl _ _ (load_one one_bytes (HC.out _ (BB.out.trans (hw'.mono BB.out.size))))⟩) hS ?_
    simp only [Act.put, zE1, zE2, zE3]
    refine wpAnyH_ready (rs := [6, 10]) (by kernel_rfl) (by simp) ?_
    refine AllReadyH.cons rfl (fun K hK => ?_) (AllReadyH.cons rfl (fun K hK => ?_) AllReadyH.nil)
    · refine step_callW _ (by rfl) (some 33) rfl 80 #[.tmp 27, .tmp 32, .const (.int .i64 4)] #[23, 35, 3] rfl (fun q w' => by rfl) #[.agg ([.int .i64 g0, .int .i64 g1, .int .i64 (S : Int), .int .i64 g3, .int .i64 g4, .int .i64 g5] : List Value).toArray, u, .int .i64 4] (by simp only [List.map_toArray, List.map_cons, List.map_nil]; rfl) (fun z w' => (∃ pg, z = .tuple #[.agg pg.toArray, .bool D] ∧ Pg9 pg G) ∧ Below x1.heap.size x1 w') ?_ ?_
      · exact (SD.out x1 (BB.out.trans (hS.mono BB.out.size))).mono fun e w' ⟨⟨pg, h1, h2⟩, h3⟩ => ⟨_, h1, ⟨pg, rfl, h2⟩, h3⟩
      rintro _ x2 ⟨⟨pg, rfl, p9⟩, hb⟩
      have PG : Hid (Pg9 pg G) := p9
      clear p9
      have hS : Below w2.heap.size w2 x2 := hS.trans (hb.mono hS.size)
      clear hb
      refine hK.out _ _ hS (fun _ => ?_)
      simp only [Act.put, zE1, zE2, zE3]
      clear hK K
      refine tkH 7 (some 26) (.tuple #[.agg pg.toArray, .bool D]) rfl rfl (Or.inl ⟨by rfl, fun w' hw' => by rfl⟩) hS ?_
      simp only [Act.put, zE1, zE2, zE3]
      refine tkH 8 (some 34) (.agg pg.toArray) rfl rfl (Or.inl ⟨by rfl, fun w' hw' => by rfl⟩) hS ?_
      simp only [Act.put, zE1, zE2, zE3]
      refine tkH 9 (some 35) (.bool D) rfl rfl (Or.inl ⟨by rfl, fun w' hw' => by rfl⟩) hS ?_
      simp only [Act.put, zE1, zE2, zE3]
      refine wpAnyH_ready (rs := [10]) (by kernel_rfl) (by simp) ?_
      refine AllReadyH.cons rfl (fun K hK => ?_) AllReadyH.nil
      refine step_newC _ rfl (some 8) rfl 152 rfl Z9 zero_page ?_
      intro x3 v9 hb l9
      have HV : Hid (Vr x3 x2.heap.size Z9) := v9
      have LV : Hid (w2.heap.size ≤ x2.heap.size) := hS.size
      have hS : Below w2.heap.size w2 x3 := hS.trans (hb.mono hS.size)
      clear v9 hb l9
      obtain ⟨gv, hg9⟩ : ∃ g, g = x2.heap.size := ⟨_, rfl⟩
      rw [← hg9] at HV LV ⊢
      clear hg9
      refine hK.out _ _ hS (fun _ => ?_)
      simp only [Act.put, zE1, zE2, zE3]
      clear hK K
      refine wpAnyH_ready (rs := [11]) (by kernel_rfl) (by simp) ?_
      refine AllReadyH.cons rfl (fun K hK => ?_) AllReadyH.nil
      refine step_storeC _ rfl none rfl (.tmp 8) (.tmp 34) 152 rfl gv Z9 pg rfl rfl HV.out (by rw [PG.out.1]; rfl) (by rw [PG.out.1]; exact rowy_page.2) PG.out.2.1 ?_
      intro x4 v9 B9
      have CV : Hid (x4.cell? ⟨gv, 4, none⟩ = some (.int .u64 G)) := v9.cell 4 _ PG.out.2.2
      have hS : Below w2.heap.size w2 x4 := hS.trans (B9.mono LV.out)
      clear v9 B9
      refine hK.out _ _ hS (fun _ => ?_)
      simp only [Act.put]
      clear hK K
      refine tkH 12 (some 9) (.bool D) rfl rfl (Or.inl ⟨by rfl, fun w' hw' => by rfl⟩) hS ?_
      simp only [Act.put, zE1, zE2, zE3]
      refine wpAnyH_done (by kernel_rfl) ?_ _
      go_wp2_with fail
      go_meet
      exact ⟨gv, rfl, rfl, CV.out, hS⟩
    · refine step_newC _ rfl (some 8) rfl 152 rfl Z9 zero_page ?_
      intro x5 v9 hb l9
      have HV : Hid (Vr x5 x1.heap.size Z9) := v9
      have LV : Hid (w2.heap.size ≤ x1.heap.size) := hS.size
      have hS : Below w2.heap.size w2 x5 := hS.trans (hb.mono hS.size)
      clear v9 hb l9
      obtain ⟨gv, hg9⟩ : ∃ g, g = x1.heap.size := ⟨_, rfl⟩
      rw [← hg9] at HV LV ⊢
      clear hg9
      refine hK.out _ _ hS (fun _ => ?_)
      simp only [Act.put, zE1, zE2, zE3]
      clear hK K
      refine wpAnyH_ready (rs := [6]) (by kernel_rfl) (by simp) ?_
      refine AllReadyH.cons rfl (fun K hK => ?_) AllReadyH.nil
      refine step_callW _ (by rfl) (some 33) rfl 80 #[.tmp 27, .tmp 32, .const (.int .i64 4)] #[23, 35, 3] rfl (fun q w' => by rfl) #[.agg ([.int .i64 g0, .int .i64 g1, .int .i64 (S : Int), .int .i64 g3, .int .i64 g4, .int .i64 g5] : List Value).toArray, u, .int .i64 4] (by simp only [List.map_toArray, List.map_cons, List.map_nil]; rfl) (fun z w' => (∃ pg, z = .tuple #[.agg pg.toArray, .bool D] ∧ Pg9 pg G) ∧ Below x5.heap.size x5 w') ?_ ?_
      · exact (SD.out x5 (BB.out.trans (hS.mono BB.out.size))).mono fun e w' ⟨⟨pg, h1, h2⟩, h3⟩ => ⟨_, h1, ⟨pg, rfl, h2⟩, h3⟩
      rintro _ x6 ⟨⟨pg, rfl, p9⟩, hb⟩
      have PG : Hid (Pg9 pg G) := p9
      have HV : Hid (Vr x6 gv Z9) := HV.out.below hb (range_lt HV.out.1 (Nat.succ_pos _))
      clear p9
      have hS : Below w2.heap.size w2 x6 := hS.trans (hb.mono hS.size)
      clear hb
      refine hK.out _ _ hS (fun _ => ?_)
      simp only [Act.put, zE1, zE2, zE3]
      clear hK K
      refine tkH 7 (some 26) (.tuple #[.agg pg.toArray, .bool D]) rfl rfl (Or.inl ⟨by rfl, fun w' hw' => by rfl⟩) hS ?_
      simp only [Act.put, zE1, zE2, zE3]
      refine tkH 8 (some 34) (.agg pg.toArray) rfl rfl (Or.inl ⟨by rfl, fun w' hw' => by rfl⟩) hS ?_
      simp only [Act.put, zE1, zE2, zE3]
      refine tkH 9 (some 35) (.bool D) rfl rfl (Or.inl ⟨by rfl, fun w' hw' => by rfl⟩) hS ?_
      simp only [Act.put, zE1, zE2, zE3]
      refine wpAnyH_ready (rs := [11]) (by kernel_rfl) (by simp) ?_
      refine AllReadyH.cons rfl (fun K hK => ?_) AllReadyH.nil
      refine step_storeC _ rfl none rfl (.tmp 8) (.tmp 34) 152 rfl gv Z9 pg rfl rfl HV.out (by rw [PG.out.1]; rfl) (by rw [PG.out.1]; exact rowy_page.2) PG.out.2.1 ?_
      intro x7 v9 B9
      have CV : Hid (x7.cell? ⟨gv, 4, none⟩ = some (.int .u64 G)) := v9.cell 4 _ PG.out.2.2
      have hS : Below w2.heap.size w2 x7 := hS.trans (B9.mono LV.out)
      clear v9 B9
      refine hK.out _ _ hS (fun _ => ?_)
      simp only [Act.put]
      clear hK K
      refine tkH 12 (some 9) (.bool D) rfl rfl (Or.inl ⟨by rfl, fun w' hw' => by rfl⟩) hS ?_
      simp only [Act.put, zE1, zE2, zE3]
      refine wpAnyH_done (by kernel_rfl) ?_ _
      go_wp2_with fail
      go_meet
      exact ⟨gv, rfl, rfl, CV.out, hS⟩
  case rest =>
    obtain ⟨gv, rfl, rfl, x1, x2⟩ := hcut
    have BW : Hid (Below w.heap.size w wc) := BB.out.trans (x2.mono BB.out.size)
    clear hb0_0 hb0_1 hb0_2 hb0_3 hb0_4 hb0_5
    cases hd : D with
    | false =>
      subst hd
      have BW2 := BW
      clear HB0 x2
      go_wp2
      go_ret3
      refine ⟨.inr ⟨fun h => ?_, rfl⟩, BW.out⟩
      have z := HX.out.1 h
      have k := z.1 (N - 1) (by have := NN.out; have := HM.out; have e := EM.out; cases N with | zero => simp at e; omega | succ m => omega)
      exact Bool.false_ne_true (HD.out.2 ⟨k.1, k.2.1, z.2, k.2.2.1⟩)
    | true =>
      subst hd
      have eG := HDG.out rfl
      subst eG
      replace x1 : wc.cell? ⟨gv, 4, none⟩ = some (.int .u64 (glast S ls)) := x1
      have DD : Hid (Dn S (ls.getD (N - 1) [])) := HD.out.1 rfl
      obtain ⟨G, eG⟩ : ∃ G, glast S ls = G := ⟨_, rfl⟩
      have EG : Hid (glast S ls = G) := eG
      rw [eG] at SH HX HG x1
      clear eG HD HDG SD
      have BB : Hid (Below w.heap.size w wc) := BW.out
      have HB0 : Hid (Vr wc w.heap.size [.int .i64 g0, .int .i64 g1, .int .i64 (S : Int), .int .i64 g3, .int .i64 g4, .int .i64 g5]) := HB0.out.below x2 (range_lt HB0.out.1 (Nat.succ_pos _))
      have hb0_0 := HB0.out.cell 0 _ rfl
      have hb0_1 := HB0.out.cell 1 _ rfl
      have hb0_2 := HB0.out.cell 2 _ rfl
      have hb0_3 := HB0.out.cell 3 _ rfl
      have hb0_4 := HB0.out.cell 4 _ rfl
      have hb0_5 := HB0.out.cell 5 _ rfl
      clear x2
      have t0 := tR
      go_wp2_with (first
        | (have q1 := t1; refine cut_toR _ rfl (.tmp 46) (.tmp 47) rfl b off n cap N rfl rfl NC.out ?_; clear t1; have t2 := tR)
        | (have q0 := t0; at_make; have HBm := HB0; have BBm := BB; refine room_law _ rfl _ _ rfl wc.heap.size (Nat.le_refl _) M rfl rfl ML.out ?_; intro w61 o9 B9 l9; have HB0 : Hid (Vr w61 w.heap.size [.int .i64 g0, .int .i64 g1, .int .i64 (S : Int), .int .i64 g3, .int .i64 g4, .int .i64 g5]) := HB0.out.below B9 (range_lt HB0.out.1 (Nat.succ_pos _)); have HO : Hid (Own wc.heap.size w61 (.slice (some ⟨wc.heap.size, 0, none⟩) 0 M) []) := o9; have BM : Hid (Below wc.heap.size wc w61) := B9; have BB : Hid (Below w.heap.size w w61) := BB.out.trans (B9.mono BB.out.size); clear hb0_0 hb0_1 hb0_2 hb0_3 hb0_4 hb0_5; have hb0_0 := HB0.out.cell 0 _ rfl; have hb0_1 := HB0.out.cell 1 _ rfl; have hb0_2 := HB0.out.cell 2 _ rfl; have hb0_3 := HB0.out.cell 3 _ rfl; have hb0_4 := HB0.out.cell 4 _ rfl; have hb0_5 := HB0.out.cell 5 _ rfl; clear HB0 BB; have HB0 := HBm; have BB := BBm; clear HBm BBm; clear B9 o9 l9; clear t0; have t1 := tR))
      clear hb0_0 hb0_1 hb0_2 hb0_3 hb0_4 hb0_5 x1
      go_loopw [50, 11] (fun i r wr => ∃ k : Nat, k ≤ N ∧ i = .int .i64 (k : Int) ∧ Own wc.heap.size wr r (parts F k) ∧ (∀ j, j < k → Kpg S G j (ls.getD j [])) ∧ Below wc.heap.size wc wr) (fun i _ _ => N - (intOf i).toNat)
      case atStart => exact ⟨0, Nat.zero_le _, rfl, HO.out, fun j hj => absurd hj (Nat.not_lt_zero _), BM.out⟩
      case round =>
        obtain ⟨k, hk, rfl, hO, hJ, hB⟩ := hrel
        have BR : Hid (Below wc.heap.size wc wr) := hB
        have HJ : Hid (∀ j, j < k → Kpg S G j (ls.getD j [])) := hJ
        have HB0 : Hid (Vr wr w.heap.size [.int .i64 g0, .int .i64 g1, .int .i64 (S : Int), .int .i64 g3, .int .i64 g4, .int .i64 g5]) := HB0.out.below hB (range_lt HB0.out.1 (Nat.succ_pos _))
        clear hJ hB HO BM BB
        by_cases hlt : k < N
        · have lk : (k : Int) < (N : Int) := by omega
          have HO : Hid (Own wc.heap.size wr u11 (parts F k)) := hO
          obtain ⟨z, hz, hy⟩ := HA.out k (by omega)
          have hz1 : wr.cell? ⟨b, off + k, none⟩ = some z := hz _ (BW.out.trans (BR.out.mono BW.out.size))
          have HY : Hid (Byt wr z (ls.getD k [])) := (hy.below BW.out).below BR.out
          have HT : Hid (Tab wr) := (HR.out.2.below BW.out).below BR.out
          have PL : Hid ((parts F k).length + (F k).length ≤ 140737488355328) := (by
            have e : (parts F k).length = k * S := parts_len (n := k) (fun i hi => by rw [EF.out, List.length_take, (HJ.out i hi).1]; omega) k (Nat.le_refl _)
            have := mul_small (k := k) (S := S) (by omega) s4
            have : (F k).length ≤ S := by rw [EF.out, List.length_take]; omega
            show _ ≤ _
            omega)
          clear hO hz hy
          have hb0_0 := HB0.out.cell 0 _ rfl
          have hb0_1 := HB0.out.cell 1 _ rfl
          have hb0_2 := HB0.out.cell 2 _ rfl
          have hb0_3 := HB0.out.cell 3 _ rfl
          have hb0_4 := HB0.out.cell 4 _ rfl
          have hb0_5 := HB0.out.cell 5 _ rfl
          by_cases hf : (ls.getD k []).length = S + 88 ∧ Tl ((ls.getD k []).drop S)
          · have SB : Hid (∀ w0, w0 = wr → Calls Tryz.prog 81 #[.agg (ints .i64 [g0, g1, (S : Int), g3, g4, g5]), z] w0 fun x w' => ∃ po pc uo uc, x = .returned (.tuple #[.agg (pg9 (qk ((ls.getD k []).drop S)) (qn ((ls.getD k []).drop S)) (he.qc ((ls.getD k []).drop S)) (ql ((ls.getD k []).drop S)) (qe ((ls.getD k []).drop S)) (qt ((ls.getD k []).drop S)) (.slice po S pc) (.slice uo 32 uc) (decide (((ls.getD k []).drop S).drop 80 = List.replicate 8 0))).toArray, .int .i64 0]) ∧ Byt w' (.slice po S pc) ((ls.getD k []).take S) ∧ Byt w' (.slice uo 32 uc) (sub ((ls.getD k []).drop S) 48 80) ∧ Below w0.heap.size w0 w') := fun w0 e => by
              subst e
              exact read_page g0 g1 g3 g4 g5 S z _ w0 HY.out HR.out.1 hf.1 HT.out hf.2
            rw [← EF.out k] at SB
            by_cases hh : qk ((ls.getD k []).drop S) = 4 ∧ qn ((ls.getD k []).drop S) = (k : Int) ∧ he.qc ((ls.getD k []).drop S) = 0 ∧ ql ((ls.getD k []).drop S) = (N : Int) ∧ qe ((ls.getD k []).drop S) = G ∧ qt ((ls.getD k []).drop S) = 0
            · have HQ : Hid ((!decide (qk ((ls.getD k []).drop S) = 4 ∧ qn ((ls.getD k []).drop S) = (k : Int) ∧ he.qc ((ls.getD k []).drop S) = 0 ∧ ql ((ls.getD k []).drop S) = (N : Int) ∧ qe ((ls.getD k []).drop S) = G ∧ qt ((ls.getD k []).drop S) = 0)) = false) := (by show _ = _; rw [decide_eq_true hh]; rfl)
              have KK : Hid (Kpg S G k (ls.getD k [])) := ⟨hf.1, hf.2, hh.1, hh.2.1, hh.2.2.1, by rw [EK.out]; exact hh.2.2.2.1, hh.2.2.2.2.1, hh.2.2.2.2.2⟩
              generalize qk ((ls.getD k []).drop S) = qk9 at SB HQ
              generalize qn ((ls.getD k []).drop S) = qn9 at SB HQ
              generalize he.qc ((ls.getD k []).drop S) = qc9 at SB HQ
              generalize ql ((ls.getD k []).drop S) = ql9 at SB HQ
              generalize qe ((ls.getD k []).drop S) = qe9 at SB HQ
              generalize qt ((ls.getD k []).drop S) = qt9 at SB HQ
              generalize decide (((ls.getD k []).drop S).drop 80 = List.replicate 8 0) = Dk at SB
              clear hf hh
              have t0 := tR
              go_wp2_with (first
                | (have q2 := t2; (with_reducible refine at_store ?_); refine store_lawC _ (pg9 qk9 qn9 qc9 ql9 qe9 qt9 (.slice po S pc) (.slice uo 32 uc) Dk) w41.heap.size 0 rfl rfl HN.out.2 rowy_page.2 (pg9_one _ _ _ _ _ _ _ _ _ _ _ _ _) ?_; intro w43 E9 R9 T9 B9; have B9 : Below w41.heap.size w41 w43 := BA.out.trans B9; have HB0 : Hid (Vr w43 w.heap.size [.int .i64 g0, .int .i64 g1, .int .i64 (S : Int), .int .i64 g3, .int .i64 g4, .int .i64 g5]) := HB0.out.below B9 (range_lt HB0.out.1 (Nat.succ_pos _)); have HO : Hid (Own wc.heap.size w43 u11 (parts F k)) := own_low HO.out B9; have HP : Hid (Byt w43 (.slice po S pc) (F k)) := HP.out.below B9; have HV : Hid (Vr w43 w41.heap.size (pg9 qk9 qn9 qc9 ql9 qe9 qt9 (.slice po S pc) (.slice uo 32 uc) Dk)) := ⟨R9, T9⟩; have BB : Hid (Below wr.heap.size wr w43) := BB.out.trans (B9.mono BB.out.size); clear hb0_0 hb0_1 hb0_2 hb0_3 hb0_4 hb0_5; have hb0_0 := HB0.out.cell 0 _ rfl; have hb0_1 := HB0.out.cell 1 _ rfl; have hb0_2 := HB0.out.cell 2 _ rfl; have hb0_3 := HB0.out.cell 3 _ rfl; have hb0_4 := HB0.out.cell 4 _ rfl; have hb0_5 := HB0.out.cell 5 _ rfl; clear E9 R9 T9 B9 HN BA; clear t2; have t3 := tR)
                | (have q1 := t1; (with_reducible refine at_alloc ?_); refine new_lawC _ Z9 zero_page ?_; intro w42 X9 B9 l9; have HN : Hid (Vr w42 w41.heap.size Z9) := X9; have BA : Hid (Below w41.heap.size w41 w42) := B9; clear X9 B9 l9; clear t1; have t2 := tR)
                | (have q0 := t0; go_at_call 81; refine (SB.out wr rfl).mono ?_; rintro e9 w41 ⟨po, pc, uo, uc, rfl, y8, y9, B9⟩; have HB0 : Hid (Vr w41 w.heap.size [.int .i64 g0, .int .i64 g1, .int .i64 (S : Int), .int .i64 g3, .int .i64 g4, .int .i64 g5]) := HB0.out.below B9 (range_lt HB0.out.1 (Nat.succ_pos _)); have HO : Hid (Own wc.heap.size w41 u11 (parts F k)) := own_low HO.out B9; have HP : Hid (Byt w41 (.slice po S pc) (F k)) := y8; have BB : Hid (Below wr.heap.size wr w41) := B9; clear hb0_0 hb0_1 hb0_2 hb0_3 hb0_4 hb0_5; have hb0_0 := HB0.out.cell 0 _ rfl; have hb0_1 := HB0.out.cell 1 _ rfl; have hb0_2 := HB0.out.cell 2 _ rfl; have hb0_3 := HB0.out.cell 3 _ rfl; have hb0_4 := HB0.out.cell 4 _ rfl; have hb0_5 := HB0.out.cell 5 _ rfl; clear B9 y8 y9; clear t0; have t1 := tR))
              refine wp_region_held_drew (S := fun w' => Below w43.heap.size w43 w') (by kernel_rfl) (Below.refl _ _).drew (fun hS => ?_)
              obtain ⟨y1, hx0⟩ : ∃ x, x = w43.drew := ⟨_, rfl⟩
              rw [← hx0] at hS  ⊢
              clear hx0
              refine tkH 0 (some 61) (.int .i64 0) rfl rfl (Or.inl ⟨by rfl, fun w' hw' => by rfl⟩) hS ?_
              simp only [Act.put, zE1, zE2, zE3]
              refine tkH 1 (some 62) (.bool false) rfl rfl (Or.inl ⟨by rfl, fun w' hw' => by exact exec_neq0 (.tmp 61) rfl 0 rfl rfl false rfl _⟩) hS ?_
              simp only [Act.put, zE1, zE2, zE3]
              refine tkH 2 (some 63) (.bool false) rfl rfl (Or.inl ⟨by rfl, fun w' hw' => by rfl⟩) hS ?_
              simp only [Act.put, zE1, zE2, zE3]
              refine tkH 3 (some 64) (.pointer (some ⟨w41.heap.size, 0, none⟩)) rfl rfl (Or.inl ⟨by rfl, fun w' hw' => by go_simp⟩) hS ?_
              simp only [Act.put, zE1, zE2, zE3]
              refine tkH 4 (some 65) (.agg (hv qk9 qn9 qc9 ql9 qe9 qt9).toArray) rfl rfl (Or.inl ⟨by rfl, fun w' hw' => by exact exec_loadN 119 (.tmp 64) rfl _ rfl _ _ (load_cells rowy_head (range_head (HV.out.below hw' (range_lt HV.out.1 (Nat.succ_pos _))).1))⟩) hS ?_
              simp only [Act.put, zE1, zE2, zE3]
              refine tkH 5 (some 66) (.agg ([.int .i64 g0, .int .i64 g1, .int .i64 (S : Int), .int .i64 g3, .int .i64 g4, .int .i64 g5] : List Value).toArray) rfl rfl (Or.inl ⟨by rfl, fun w' hw' => by exact exec_loadN 23 (.tmp 2) rfl _ rfl _ _ (load_cells rowy_geo (HB0.out.below hw' (range_lt HB0.out.1 (Nat.succ_pos _))).1)⟩) hS ?_
              simp only [Act.put, zE1, zE2, zE3]
              refine tkH 6 (some 67) (.int .i64 (k : Int)) rfl rfl (Or.inl ⟨by rfl, fun w' hw' => by rfl⟩) hS ?_
              simp only [Act.put, zE1, zE2, zE3]
              refine tkH 7 (some 68) (.int .u64 G) rfl rfl (Or.inl ⟨by rfl, fun w' hw' => by rfl⟩) hS ?_
              simp only [Act.put, zE1, zE2, zE3]
              refine wpAnyH_ready (rs := [8]) (by kernel_rfl) (by simp) ?_
              refine AllReadyH.cons rfl (fun K hK => ?_) AllReadyH.nil
              refine step_callW _ (by rfl) (some 69) rfl 82 #[.tmp 66, .tmp 67, .tmp 68] #[23, 3, 41] rfl (fun q w' => by rfl) #[.agg ([.int .i64 g0, .int .i64 g1, .int .i64 (S : Int), .int .i64 g3, .int .i64 g4, .int .i64 g5] : List Value).toArray, .int .i64 (k : Int), .int .u64 G] (by simp only [List.map_toArray, List.map_cons, List.map_nil]; rfl) (fun u w' => u = .agg (hv 4 (k : Int) 0 (N : Int) G 0).toArray ∧ Below y1.heap.size y1 w') ?_ ?_
              · exact (SH.out y1).mono fun e w' ⟨h1, h2⟩ => ⟨_, h1, rfl, h2⟩
              rintro _ y2 ⟨rfl, hb⟩
              have hS : Below w43.heap.size w43 y2 := hS.trans (hb.mono hS.size)
              clear hb
              refine hK.out _ _ hS (fun _ => ?_)
              simp only [Act.put, zE1, zE2, zE3]
              clear hK K
              refine tkH 9 (some 70) (.bool false) rfl rfl (Or.inl ⟨by rfl, fun w' hw' => by exact exec_neqH (.tmp 65) (.tmp 69) rfl qk9 qn9 qc9 ql9 qe9 qt9 4 (k : Int) 0 (N : Int) G 0 rfl rfl false HQ.out _⟩) hS ?_
              simp only [Act.put, zE1, zE2, zE3]
              refine tkH 10 (some 71) (.bool false) rfl rfl (Or.inl ⟨by rfl, fun w' hw' => by rfl⟩) hS ?_
              simp only [Act.put, zE1, zE2, zE3]
              refine wpAnyH_done (by kernel_rfl) ?_ _
              (try clear hb0_0 hb0_1 hb0_2 hb0_3 hb0_4 hb0_5)
              have HO : Hid (Own wc.heap.size y2 u11 (parts F k)) := own_low HO.out hS
              have HP : Hid (Byt y2 (.slice po S pc) (F k)) := HP.out.below hS
              have HV : Hid (Vr y2 w41.heap.size (pg9 qk9 qn9 qc9 ql9 qe9 qt9 (.slice po S pc) (.slice uo 32 uc) Dk)) := HV.out.below hS (range_lt HV.out.1 (Nat.succ_pos _))
              have hv_6 := HV.out.cell 6 _ rfl
              have BZ : Hid (Below wr.heap.size wr y2) := BB.out.trans (hS.mono BB.out.size)
              clear hS BB
              have BB := BZ
              have t80 := tR
              go_wp2_with (first
                | (have q80 := t80; at_builtin; refine pushs_law _ rfl (.tmp 72) (.tmp 74) rfl wc.heap.size (Nat.le_trans BR.out.size BB.out.size) u11 (.slice po S pc) (parts F k) (F k) rfl rfl HO.out HP.out PL.out ?_; intro v3 wz o3 B3; have O3 : Hid (Own wc.heap.size wz v3 (parts F k ++ F k)) := o3; have B4 : Hid (Below wc.heap.size wc wz) := (BR.out.trans (BB.out.mono BR.out.size)).trans B3; clear o3 B3 t80))
              go_roundw
              case rel => exact ⟨k + 1, by omega, by go_num, O3.out, fun j hj => by
                  by_cases e : j = k
                  · rw [e]; exact KK.out
                  · exact HJ.out j (by omega), B4.out⟩
              case measure => simp [intOf]; omega
            · have HQ : Hid ((!decide (qk ((ls.getD k []).drop S) = 4 ∧ qn ((ls.getD k []).drop S) = (k : Int) ∧ he.qc ((ls.getD k []).drop S) = 0 ∧ ql ((ls.getD k []).drop S) = (N : Int) ∧ qe ((ls.getD k []).drop S) = G ∧ qt ((ls.getD k []).drop S) = 0)) = true) := (by show _ = _; rw [decide_eq_false hh]; rfl)
              have NK : Hid (¬ Khd S ls) := fun h => (by
                have q := (HX.out.1 h).1 k hlt
                exact hh ⟨q.2.2.1, q.2.2.2.1, q.2.2.2.2.1, by rw [← EK.out]; exact q.2.2.2.2.2.1, q.2.2.2.2.2.2.1, q.2.2.2.2.2.2.2⟩)
              generalize qk ((ls.getD k []).drop S) = qk9 at SB HQ
              generalize qn ((ls.getD k []).drop S) = qn9 at SB HQ
              generalize he.qc ((ls.getD k []).drop S) = qc9 at SB HQ
              generalize ql ((ls.getD k []).drop S) = ql9 at SB HQ
              generalize qe ((ls.getD k []).drop S) = qe9 at SB HQ
              generalize qt ((ls.getD k []).drop S) = qt9 at SB HQ
              generalize decide (((ls.getD k []).drop S).drop 80 = List.replicate 8 0) = Dk at SB
              clear hf hh
              have t0 := tR
              go_wp2_with (first
                | (have q2 := t2; (with_reducible refine at_store ?_); refine store_lawC _ (pg9 qk9 qn9 qc9 ql9 qe9 qt9 (.slice po S pc) (.slice uo 32 uc) Dk) w41.heap.size 0 rfl rfl HN.out.2 rowy_page.2 (pg9_one _ _ _ _ _ _ _ _ _ _ _ _ _) ?_; intro w43 E9 R9 T9 B9; have B9 : Below w41.heap.size w41 w43 := BA.out.trans B9; have HB0 : Hid (Vr w43 w.heap.size [.int .i64 g0, .int .i64 g1, .int .i64 (S : Int), .int .i64 g3, .int .i64 g4, .int .i64 g5]) := HB0.out.below B9 (range_lt HB0.out.1 (Nat.succ_pos _)); have HO : Hid (Own wc.heap.size w43 u11 (parts F k)) := own_low HO.out B9; have HP : Hid (Byt w43 (.slice po S pc) (F k)) := HP.out.below B9; have HV : Hid (Vr w43 w41.heap.size (pg9 qk9 qn9 qc9 ql9 qe9 qt9 (.slice po S pc) (.slice uo 32 uc) Dk)) := ⟨R9, T9⟩; have BB : Hid (Below wr.heap.size wr w43) := BB.out.trans (B9.mono BB.out.size); clear hb0_0 hb0_1 hb0_2 hb0_3 hb0_4 hb0_5; have hb0_0 := HB0.out.cell 0 _ rfl; have hb0_1 := HB0.out.cell 1 _ rfl; have hb0_2 := HB0.out.cell 2 _ rfl; have hb0_3 := HB0.out.cell 3 _ rfl; have hb0_4 := HB0.out.cell 4 _ rfl; have hb0_5 := HB0.out.cell 5 _ rfl; clear E9 R9 T9 B9 HN BA; clear t2; have t3 := tR)
                | (have q1 := t1; (with_reducible refine at_alloc ?_); refine new_lawC _ Z9 zero_page ?_; intro w42 X9 B9 l9; have HN : Hid (Vr w42 w41.heap.size Z9) := X9; have BA : Hid (Below w41.heap.size w41 w42) := B9; clear X9 B9 l9; clear t1; have t2 := tR)
                | (have q0 := t0; go_at_call 81; refine (SB.out wr rfl).mono ?_; rintro e9 w41 ⟨po, pc, uo, uc, rfl, y8, y9, B9⟩; have HB0 : Hid (Vr w41 w.heap.size [.int .i64 g0, .int .i64 g1, .int .i64 (S : Int), .int .i64 g3, .int .i64 g4, .int .i64 g5]) := HB0.out.below B9 (range_lt HB0.out.1 (Nat.succ_pos _)); have HO : Hid (Own wc.heap.size w41 u11 (parts F k)) := own_low HO.out B9; have HP : Hid (Byt w41 (.slice po S pc) (F k)) := y8; have BB : Hid (Below wr.heap.size wr w41) := B9; clear hb0_0 hb0_1 hb0_2 hb0_3 hb0_4 hb0_5; have hb0_0 := HB0.out.cell 0 _ rfl; have hb0_1 := HB0.out.cell 1 _ rfl; have hb0_2 := HB0.out.cell 2 _ rfl; have hb0_3 := HB0.out.cell 3 _ rfl; have hb0_4 := HB0.out.cell 4 _ rfl; have hb0_5 := HB0.out.cell 5 _ rfl; clear B9 y8 y9; clear t0; have t1 := tR))
              refine wp_region_held_drew (S := fun w' => Below w43.heap.size w43 w') (by kernel_rfl) (Below.refl _ _).drew (fun hS => ?_)
              obtain ⟨y1, hx0⟩ : ∃ x, x = w43.drew := ⟨_, rfl⟩
              rw [← hx0] at hS  ⊢
              clear hx0
              refine tkH 0 (some 61) (.int .i64 0) rfl rfl (Or.inl ⟨by rfl, fun w' hw' => by rfl⟩) hS ?_
              simp only [Act.put, zE1, zE2, zE3]
              refine tkH 1 (some 62) (.bool false) rfl rfl (Or.inl ⟨by rfl, fun w' hw' => by exact exec_neq0 (.tmp 61) rfl 0 rfl rfl false rfl _⟩) hS ?_
              simp only [Act.put, zE1, zE2, zE3]
              refine tkH 2 (some 63) (.bool false) rfl rfl (Or.inl ⟨by rfl, fun w' hw' => by rfl⟩) hS ?_
              simp only [Act.put, zE1, zE2, zE3]
              refine tkH 3 (some 64) (.pointer (some ⟨w41.heap.size, 0, none⟩)) rfl rfl (Or.inl ⟨by rfl, fun w' hw' => by go_simp⟩) hS ?_
              simp only [Act.put, zE1, zE2, zE3]
              refine tkH 4 (some 65) (.agg (hv qk9 qn9 qc9 ql9 qe9 qt9).toArray) rfl rfl (Or.inl ⟨by rfl, fun w' hw' => by exact exec_loadN 119 (.tmp 64) rfl _ rfl _ _ (load_cells rowy_head (range_head (HV.out.below hw' (range_lt HV.out.1 (Nat.succ_pos _))).1))⟩) hS ?_
              simp only [Act.put, zE1, zE2, zE3]
              refine tkH 5 (some 66) (.agg ([.int .i64 g0, .int .i64 g1, .int .i64 (S : Int), .int .i64 g3, .int .i64 g4, .int .i64 g5] : List Value).toArray) rfl rfl (Or.inl ⟨by rfl, fun w' hw' => by exact exec_loadN 23 (.tmp 2) rfl _ rfl _ _ (load_cells rowy_geo (HB0.out.below hw' (range_lt HB0.out.1 (Nat.succ_pos _))).1)⟩) hS ?_
              simp only [Act.put, zE1, zE2, zE3]
              refine tkH 6 (some 67) (.int .i64 (k : Int)) rfl rfl (Or.inl ⟨by rfl, fun w' hw' => by rfl⟩) hS ?_
              simp only [Act.put, zE1, zE2, zE3]
              refine tkH 7 (some 68) (.int .u64 G) rfl rfl (Or.inl ⟨by rfl, fun w' hw' => by rfl⟩) hS ?_
              simp only [Act.put, zE1, zE2, zE3]
              refine wpAnyH_ready (rs := [8]) (by kernel_rfl) (by simp) ?_
              refine AllReadyH.cons rfl (fun K hK => ?_) AllReadyH.nil
              refine step_callW _ (by rfl) (some 69) rfl 82 #[.tmp 66, .tmp 67, .tmp 68] #[23, 3, 41] rfl (fun q w' => by rfl) #[.agg ([.int .i64 g0, .int .i64 g1, .int .i64 (S : Int), .int .i64 g3, .int .i64 g4, .int .i64 g5] : List Value).toArray, .int .i64 (k : Int), .int .u64 G] (by simp only [List.map_toArray, List.map_cons, List.map_nil]; rfl) (fun u w' => u = .agg (hv 4 (k : Int) 0 (N : Int) G 0).toArray ∧ Below y1.heap.size y1 w') ?_ ?_
              · exact (SH.out y1).mono fun e w' ⟨h1, h2⟩ => ⟨_, h1, rfl, h2⟩
              rintro _ y2 ⟨rfl, hb⟩
              have hS : Below w43.heap.size w43 y2 := hS.trans (hb.mono hS.size)
              clear hb
              refine hK.out _ _ hS (fun _ => ?_)
              simp only [Act.put, zE1, zE2, zE3]
              clear hK K
              refine tkH 9 (some 70) (.bool true) rfl rfl (Or.inl ⟨by rfl, fun w' hw' => by exact exec_neqH (.tmp 65) (.tmp 69) rfl qk9 qn9 qc9 ql9 qe9 qt9 4 (k : Int) 0 (N : Int) G 0 rfl rfl true HQ.out _⟩) hS ?_
              simp only [Act.put, zE1, zE2, zE3]
              refine tkH 10 (some 71) (.bool true) rfl rfl (Or.inl ⟨by rfl, fun w' hw' => by rfl⟩) hS ?_
              simp only [Act.put, zE1, zE2, zE3]
              refine wpAnyH_done (by kernel_rfl) ?_ _
              have BZ : Hid (Below wr.heap.size wr y2) := BB.out.trans (hS.mono BB.out.size)
              clear hS
              go_wp2
              go_ret3
              exact ⟨.inr ⟨NK.out, rfl⟩, BW.out.trans ((BR.out.trans (BZ.out.mono BR.out.size)).mono BW.out.size)⟩
          · have SB : Hid (∀ w0, w0 = wr → Calls Tryz.prog 81 #[.agg (ints .i64 [g0, g1, (S : Int), g3, g4, g5]), z] w0 fun x w' => ∃ E, x = .returned (.tuple #[.agg Z9.toArray, .int .i64 E]) ∧ E ≠ 0 ∧ Below w0.heap.size w0 w') := fun w0 e => by
              subst e
              exact read_bad g0 g1 g3 g4 g5 S z _ w0 HR.out.1 HY.out HT.out hf
            have NK : Hid (¬ Khd S ls) := fun h => hf ⟨((HX.out.1 h).1 k hlt).1, ((HX.out.1 h).1 k hlt).2.1⟩
            clear hf
            have t0 := tR
            go_wp2_with (first
              | (have q2 := t2; (with_reducible refine at_store ?_); refine store_lawC _ Z9 w41.heap.size 0 rfl rfl HN.out.2 rowy_page.2 (pg9_one _ _ _ _ _ _ _ _ _ _ _ _ _) ?_; intro w43 E9 R9 T9 B9; have B9 : Below w41.heap.size w41 w43 := BA.out.trans B9; have HB0 : Hid (Vr w43 w.heap.size [.int .i64 g0, .int .i64 g1, .int .i64 (S : Int), .int .i64 g3, .int .i64 g4, .int .i64 g5]) := HB0.out.below B9 (range_lt HB0.out.1 (Nat.succ_pos _)); have HO : Hid (Own wc.heap.size w43 u11 (parts F k)) := own_low HO.out B9; have HV : Hid (Vr w43 w41.heap.size Z9) := ⟨R9, T9⟩; have BB : Hid (Below wr.heap.size wr w43) := BB.out.trans (B9.mono BB.out.size); clear hb0_0 hb0_1 hb0_2 hb0_3 hb0_4 hb0_5; have hb0_0 := HB0.out.cell 0 _ rfl; have hb0_1 := HB0.out.cell 1 _ rfl; have hb0_2 := HB0.out.cell 2 _ rfl; have hb0_3 := HB0.out.cell 3 _ rfl; have hb0_4 := HB0.out.cell 4 _ rfl; have hb0_5 := HB0.out.cell 5 _ rfl; clear E9 R9 T9 B9 HN BA; clear t2; have t3 := tR)
              | (have q1 := t1; (with_reducible refine at_alloc ?_); refine new_lawC _ Z9 zero_page ?_; intro w42 X9 B9 l9; have HN : Hid (Vr w42 w41.heap.size Z9) := X9; have BA : Hid (Below w41.heap.size w41 w42) := B9; clear X9 B9 l9; clear t1; have t2 := tR)
              | (have q0 := t0; go_at_call 81; refine (SB.out wr rfl).mono ?_; rintro e9 w41 ⟨E, rfl, ez, B9⟩; have HB0 : Hid (Vr w41 w.heap.size [.int .i64 g0, .int .i64 g1, .int .i64 (S : Int), .int .i64 g3, .int .i64 g4, .int .i64 g5]) := HB0.out.below B9 (range_lt HB0.out.1 (Nat.succ_pos _)); have HO : Hid (Own wc.heap.size w41 u11 (parts F k)) := own_low HO.out B9; have EZ : Hid ((E != 0) = true) := bne_iff_ne.2 ez; have BB : Hid (Below wr.heap.size wr w41) := B9; clear hb0_0 hb0_1 hb0_2 hb0_3 hb0_4 hb0_5; have hb0_0 := HB0.out.cell 0 _ rfl; have hb0_1 := HB0.out.cell 1 _ rfl; have hb0_2 := HB0.out.cell 2 _ rfl; have hb0_3 := HB0.out.cell 3 _ rfl; have hb0_4 := HB0.out.cell 4 _ rfl; have hb0_5 := HB0.out.cell 5 _ rfl; clear B9 ez; clear t0; have t1 := tR))
            refine wp_region_held_drew (S := fun w' => Below w43.heap.size w43 w') (by kernel_rfl) (Below.refl _ _).drew (fun hS => ?_)
            obtain ⟨y1, hx0⟩ : ∃ x, x = w43.drew := ⟨_, rfl⟩
            rw [← hx0] at hS  ⊢
            clear hx0
            refine tkH 0 (some 61) (.int .i64 E) rfl rfl (Or.inl ⟨by rfl, fun w' hw' => by rfl⟩) hS ?_
            simp only [Act.put, zE1, zE2, zE3]
            refine tkH 1 (some 62) (.bool true) rfl rfl (Or.inl ⟨by rfl, fun w' hw' => by exact exec_neq0 (.tmp 61) rfl E rfl rfl true EZ.out _⟩) hS ?_
            simp only [Act.put, zE1, zE2, zE3]
            refine tkH 2 (some 63) (.bool true) rfl rfl (Or.inl ⟨by rfl, fun w' hw' => by rfl⟩) hS ?_
            simp only [Act.put, zE1, zE2, zE3]
            refine tkH 3 (some 64) (undef) rfl rfl (Or.inr ⟨by rfl, rfl⟩) hS ?_
            simp only [Act.put, zE1, zE2, zE3]
            refine tkH 4 (some 65) (undef) rfl rfl (Or.inr ⟨by rfl, rfl⟩) hS ?_
            simp only [Act.put, zE1, zE2, zE3]
            refine tkH 5 (some 66) (undef) rfl rfl (Or.inr ⟨by rfl, rfl⟩) hS ?_
            simp only [Act.put, zE1, zE2, zE3]
            refine tkH 6 (some 67) (undef) rfl rfl (Or.inr ⟨by rfl, rfl⟩) hS ?_
            simp only [Act.put, zE1, zE2, zE3]
            refine tkH 7 (some 68) (undef) rfl rfl (Or.inr ⟨by rfl, rfl⟩) hS ?_
            simp only [Act.put, zE1, zE2, zE3]
            refine tkH 8 (some 69) (undef) rfl rfl (Or.inr ⟨by rfl, rfl⟩) hS ?_
            simp only [Act.put, zE1, zE2, zE3]
            refine tkH 9 (some 70) (undef) rfl rfl (Or.inr ⟨by rfl, rfl⟩) hS ?_
            simp only [Act.put, zE1, zE2, zE3]
            refine tkH 10 (some 71) (.bool true) rfl rfl (Or.inl ⟨by rfl, fun w' hw' => by rfl⟩) hS ?_
            simp only [Act.put, zE1, zE2, zE3]
            refine wpAnyH_done (by kernel_rfl) ?_ _
            have BZ : Hid (Below wr.heap.size wr y1) := BB.out.trans (hS.mono BB.out.size)
            clear hS
            go_wp2
            go_ret3
            exact ⟨.inr ⟨NK.out, rfl⟩, BW.out.trans ((BR.out.trans (BZ.out.mono BR.out.size)).mono BW.out.size)⟩
        · have ek : k = N := by omega
          subst ek
          have HO : Hid (Own wc.heap.size wr u11 (parts F k)) := hO
          have KH : Hid (Khd S ls) := HX.out.2 ⟨HJ.out, DD.out.2.2.1⟩
          have PL : Hid (624 ≤ (parts F k).length) := (by
            have e : (parts F k).length = k * S := parts_len (n := k) (fun i hi => by rw [EF.out, List.length_take, (HJ.out i hi).1]; omega) k (Nat.le_refl _)
            show _ ≤ _
            rw [e, EM.out]; exact HM.out)
          have YO : Hid (Byt wr u11 (parts F k)) := HO.out.byt (parts_all k fun i hi => by
            obtain ⟨z, -, hz⟩ := HA.out i (by omega)
            rw [EF.out]
            exact allB_take hz.all S)
          clear hO
          go_wp2
          refine wp_region_held_drew (S := fun w' => Below wr.heap.size wr w') (by kernel_rfl) (Below.refl _ _).drew (fun hS => ?_)
          obtain ⟨y1, hx0⟩ : ∃ x, x = wr.drew := ⟨_, rfl⟩
          rw [← hx0] at hS  ⊢
          clear hx0
          refine tkH 0 (some 77) (.int .u64 G) rfl rfl (Or.inl ⟨by rfl, fun w' hw' => by rfl⟩) hS ?_
          simp only [Act.put, zE1, zE2, zE3]
          refine tkH 1 (some 78) (u11) rfl rfl (Or.inl ⟨by rfl, fun w' hw' => by rfl⟩) hS ?_
          simp only [Act.put, zE1, zE2, zE3]
          refine tkH 2 (some 79) (slm u11 0 624) rfl rfl (Or.inl ⟨by rfl, fun w' hw' => by exact exec_hm (.tmp 78) (.const (.int .i64 624)) (.const (.int .i64 624)) rfl u11 (parts F k) _ YO.out 624 rfl rfl rfl PL.out _⟩) hS ?_
          simp only [Act.put, zE1, zE2, zE3]
          refine tkH 3 (some 4) (.int .u64 G) rfl rfl (Or.inl ⟨by rfl, fun w' hw' => by rfl⟩) hS ?_
          simp only [Act.put, zE1, zE2, zE3]
          refine tkH 4 (some 5) (slm u11 0 624) rfl rfl (Or.inl ⟨by rfl, fun w' hw' => by rfl⟩) hS ?_
          simp only [Act.put, zE1, zE2, zE3]
          refine tkH 5 (some 6) (.bool true) rfl rfl (Or.inl ⟨by rfl, fun w' hw' => by rfl⟩) hS ?_
          simp only [Act.put, zE1, zE2, zE3]
          refine wpAnyH_done (by kernel_rfl) ?_ _
          have BZ : Hid (Below wr.heap.size wr _) := hS
          clear hS
          go_wp2
          go_ret3
          have yb := slm_byt (YO.out.below BZ.out) 0 624 (by omega) PL.out
          rw [show sub (parts F k) 0 624 = krec S ls by rw [HKr.out]; rfl] at yb
          obtain ⟨ro, rc, e9⟩ := byt_form (n := 624) yb (by rw [HKr.out, List.length_take]; have := PL.out; omega)
          rw [e9] at yb ⊢
          rw [← HG.out KH.out]
          exact ⟨.inl ⟨KH.out, ro, rc, rfl, yb⟩, BW.out.trans ((BR.out.trans (BZ.out.mono BR.out.size)).mono BW.out.size)⟩
theorem hold_any (g0 g1 g3 g4 g5 : Int) (S : Nat) (v : Value) (ls : List (List Int)) (w : World) (hr : ge.Rt [g0, g1, (S : Int), g3, g4, g5]) (hT : Tab w) (hp : Pgs w v ls) :
    Calls Tryz.prog 62 #[.agg (ints .i64 [g0, g1, (S : Int), g3, g4, g5]), v] w fun x w' => HoldIs S ls x w' ∧ Below w.heap.size w w' := by
  have ⟨s1, s2⟩ := rt_sec hr
  have hn := nc_le s1 s2
  obtain ⟨ao, cap, rfl, h1, h2, h3⟩ := hp.at
  by_cases hl : ls.length < nc S
  · exact (hold_few g0 g1 g3 g4 g5 S ao ls.length cap w hr hl).mono fun x w' ⟨e, hB⟩ => ⟨.inr ⟨khd_few hl, e⟩, hB⟩
  · obtain ⟨b, off, rfl, hall⟩ := h3 (by omega)
    obtain ⟨u, hc, hu⟩ := hall (nc S - 1) (by omega)
    obtain ⟨D, hD⟩ : ∃ D : Bool, D = true ↔ Dn S (ls.getD (nc S - 1) []) := by
      by_cases q : Dn S (ls.getD (nc S - 1) [])
      · exact ⟨true, ⟨fun _ => q, fun _ => rfl⟩⟩
      · exact ⟨false, ⟨fun z => absurd z Bool.false_ne_true, fun z => absurd z q⟩⟩
    exact hold_in g0 g1 g3 g4 g5 S b off ls.length cap ls w u D hr hT (by omega) h1 hc hu hall rfl hD
end Go.Proofs.YtakibiigcdgohaaGreatDoor.ck
namespace Go.Proofs.YtakibiigcdgohaaGreatDoor.ck
open Go.RowKit Go.Proofs.YtakibiigcdgohaaGreatDoor.fa Go.Proofs.YtakibiigcdgohaaGreatDoor.he Go.Proofs.YtakibiigcdgohaaGreatDoor.pa
set_option maxRecDepth 20000
theorem Bks.at {w : World} {v : Value} {bs : List (List (List Int))} (h : Bks w v bs) : ∃ ao cap, v = .slice ao bs.length cap ∧ bs.length ≤ cap ∧ cap ≤ 9223372036854775807 ∧ (0 < bs.length → ∃ b off, ao = some ⟨b, off, none⟩ ∧ ∀ i, i < bs.length → ∃ u, w.cell? ⟨b, off + i, none⟩ = some u ∧ Pgs w u (bs.getD i [])) := by
  obtain ⟨vs, ⟨ao, cap, rfl, h1, h2, h3, h4⟩, h5, h6⟩ := h
  rw [h5] at h1 h4 ⊢
  refine ⟨ao, cap, rfl, h1, h2, fun hp => ?_⟩
  obtain ⟨b, off, rfl, hc⟩ := h4 hp
  exact ⟨b, off, rfl, fun i hi => ⟨_, hc i hi, h6 i hi⟩⟩
def CurIs (S : Nat) (bs : List (List (List Int))) (x : Ending) (w' : World) : Prop :=
  ∃ (at' gen : Int) (rec : List Int) (ro : Option Addr) (rn rc : Nat), x = .returned (.tuple #[.int .i64 at', .int .u64 gen, .slice ro rn rc]) ∧ Byt w' (.slice ro rn rc) rec ∧ Kc S bs bs.length at' gen rec
theorem kc_place {S : Nat} {bs : List (List (List Int))} {k : Nat} {at' gen : Int} {rec : List Int} (h : Kc S bs k at' gen rec) : at' = -1 ∨ 0 ≤ at' := by
  rcases h with ⟨h1, -⟩ | ⟨i, -, h2, -⟩
  · exact .inl h1
  · exact .inr (by omega)
theorem current_any (g0 g1 g3 g4 g5 : Int) (S : Nat) (v : Value) (bs : List (List (List Int))) (w : World) (hr : ge.Rt [g0, g1, (S : Int), g3, g4, g5]) (hT : Tab w) (hp : Bks w v bs) :
    Calls Tryz.prog 39 #[.agg (ints .i64 [g0, g1, (S : Int), g3, g4, g5]), v] w fun x w' => CurIs S bs x w' ∧ Below w.heap.size w w' := by
  obtain ⟨ao, cap, rfl, h1, h2, h3⟩ := hp.at
  have HR : Hid (ge.Rt [g0, g1, (S : Int), g3, g4, g5] ∧ Tab w) := ⟨hr, hT⟩
  have HA : Hid (0 < bs.length → ∃ b off, ao = some ⟨b, off, none⟩ ∧ ∀ i, i < bs.length → ∃ u, w.cell? ⟨b, off + i, none⟩ = some u ∧ Pgs w u (bs.getD i [])) := h3
  have hm : bs.length ≤ 9223372036854775807 := by omega
  clear hr hT hp h1 h2 h3
  obtain ⟨n, en⟩ : ∃ n, bs.length = n := ⟨_, rfl⟩
  have EN : Hid (bs.length = n) := en
  rw [en] at HA hm ⊢
  clear en
  have t0 := tR
  go_enter Tryz.func39, Tryz.ntmps39
  go_wp2_with (first
    | (have q0 := t0; refine box_lawC _ [.int .i64 g0, .int .i64 g1, .int .i64 (S : Int), .int .i64 g3, .int .i64 g4, .int .i64 g5] rfl ?_; intro w1 X9 B9 l9; have HB0 : Hid (Vr w1 w.heap.size [.int .i64 g0, .int .i64 g1, .int .i64 (S : Int), .int .i64 g3, .int .i64 g4, .int .i64 g5]) := X9; have BB : Hid (Below w.heap.size w w1) := B9; have hb0_0 := HB0.out.cell 0 _ rfl; have hb0_1 := HB0.out.cell 1 _ rfl; have hb0_2 := HB0.out.cell 2 _ rfl; have hb0_3 := HB0.out.cell 3 _ rfl; have hb0_4 := HB0.out.cell 4 _ rfl; have hb0_5 := HB0.out.cell 5 _ rfl; clear X9 B9 l9; clear t0; have t1 := tR))
  have BW : Hid (Below w.heap.size w w1) := BB.out
  go_loopw [17, 7, 8, 9] (fun i a g r wr => ∃ (k : Nat) (at' gen : Int) (rec : List Int) (ro : Option Addr) (rn rc : Nat), k ≤ n ∧ i = .int .i64 (k : Int) ∧ a = .int .i64 at' ∧ g = .int .u64 gen ∧ r = .slice ro rn rc ∧ Byt wr (.slice ro rn rc) rec ∧ Kc S bs k at' gen rec ∧ Below w1.heap.size w1 wr) (fun i _ _ _ _ => n - (intOf i).toNat)
  case atStart => exact ⟨0, _, _, _, _, _, _, Nat.zero_le _, rfl, rfl, rfl, rfl, Byt.nil _, kc_zero S bs, Below.refl _ _⟩
  case round =>
    obtain ⟨k, at', gen, rec, ro, rn, rc, hk, rfl, rfl, rfl, rfl, hY, hK, hB⟩ := hrel
    have BR : Hid (Below w1.heap.size w1 wr) := hB
    have HK : Hid (Kc S bs k at' gen rec) := hK
    have HY : Hid (Byt wr (.slice ro rn rc) rec) := hY
    have HB0 : Hid (Vr wr w.heap.size [.int .i64 g0, .int .i64 g1, .int .i64 (S : Int), .int .i64 g3, .int .i64 g4, .int .i64 g5]) := HB0.out.below hB (range_lt HB0.out.1 (Nat.succ_pos _))
    have hpl := kc_place hK
    clear hY hK hB BB hb0_0 hb0_1 hb0_2 hb0_3 hb0_4 hb0_5
    by_cases hlt : k < n
    · have lk : (k : Int) < (n : Int) := by omega
      have lk2 : IntKind.i64.wrap ((k : Int) + 1) = (k : Int) + 1 := by rw [IntKind.wrap_i64]; omega
      obtain ⟨b, off, rfl, hall⟩ := HA.out (by omega)
      obtain ⟨z, hz, hzp⟩ := hall k hlt
      have BA : Below w.heap.size w wr := BW.out.trans (BR.out.mono BW.out.size)
      have HZ : Hid (Pgs wr z (bs.getD k [])) := hzp.below BA
      have hz1 : wr.cell? ⟨b, off + k, none⟩ = some z := by rw [BA.cell (World.block_lt_of_cell? _ _ hz)]; exact hz
      have HT : Hid (Tab wr) := HR.out.2.below BA
      have hb0_0 := HB0.out.cell 0 _ rfl
      have hb0_1 := HB0.out.cell 1 _ rfl
      have hb0_2 := HB0.out.cell 2 _ rfl
      have hb0_3 := HB0.out.cell 3 _ rfl
      have hb0_4 := HB0.out.cell 4 _ rfl
      have hb0_5 := HB0.out.cell 5 _ rfl
      clear hall hz hzp BA
      by_cases hy : Khd S (bs.getD k [])
      · have hy' : Hid (Khd S (bs.getD k [])) := hy
        have SO : Hid (∀ w0, w0 = wr → Calls Tryz.prog 62 #[.agg (ints .i64 [g0, g1, (S : Int), g3, g4, g5]), z] w0 fun x w' => ∃ ro rc, x = .returned (.tuple #[.int .u64 (kgen S (bs.getD k [])), .slice ro 624 rc, .bool true]) ∧ Byt w' (.slice ro 624 rc) (krec S (bs.getD k [])) ∧ Below w0.heap.size w0 w') := fun w0 e => by
          subst e
          refine (hold_any g0 g1 g3 g4 g5 S z _ w0 HR.out.1 HT.out HZ.out).mono ?_
          rintro x w' ⟨⟨h1, ro, rc, h2, h4⟩ | ⟨h1, -⟩, h3⟩
          · exact ⟨ro, rc, h2, h4, h3⟩
          · exact absurd hy h1
        by_cases ha : at' = -1
        · subst ha
          have KN : Hid (Kc S bs (k + 1) (k : Int) (kgen S (bs.getD k [])) (krec S (bs.getD k []))) := kc_first HK.out (by omega) hy
          have hg : (0 : Nat) = 0 := rfl
          generalize kgen S (bs.getD k []) = G2 at SO KN
          generalize krec S (bs.getD k []) = R2 at SO KN
          clear hy hy' hpl hg
          have t0 := tR
          go_wp2_with (first
            | (have q0 := t0; go_at_call 62; refine (SO.out wr rfl).mono ?_; rintro e9 w41 ⟨ro2, rc2, rfl, y9, B9⟩; have HB0 : Hid (Vr w41 w.heap.size [.int .i64 g0, .int .i64 g1, .int .i64 (S : Int), .int .i64 g3, .int .i64 g4, .int .i64 g5]) := HB0.out.below B9 (range_lt HB0.out.1 (Nat.succ_pos _)); have HY : Hid (Byt w41 (.slice ro rn rc) rec) := HY.out.below B9; have HN : Hid (Byt w41 (.slice ro2 624 rc2) R2) := y9; have BB : Hid (Below wr.heap.size wr w41) := B9; clear hb0_0 hb0_1 hb0_2 hb0_3 hb0_4 hb0_5; have hb0_0 := HB0.out.cell 0 _ rfl; have hb0_1 := HB0.out.cell 1 _ rfl; have hb0_2 := HB0.out.cell 2 _ rfl; have hb0_3 := HB0.out.cell 3 _ rfl; have hb0_4 := HB0.out.cell 4 _ rfl; have hb0_5 := HB0.out.cell 5 _ rfl; clear B9 y9; clear t0; have t1 := tR))
          go_roundw
          case rel => exact ⟨k + 1, _, _, _, _, _, _, by omega, by go_num, rfl, rfl, rfl, HN.out, KN.out, BR.out.trans (BB.out.mono BR.out.size)⟩
          case measure => simp [intOf]; omega
        · have na : (at' == -1) = false := beq_eq_false_iff_ne.2 ha
          by_cases hg : kgen S (bs.getD k []) > gen
          · have KN : Hid (Kc S bs (k + 1) (k : Int) (kgen S (bs.getD k [])) (krec S (bs.getD k []))) := kc_more HK.out (by omega) hy hg
            generalize kgen S (bs.getD k []) = G2 at SO KN hg
            generalize krec S (bs.getD k []) = R2 at SO KN
            clear hy hy' hpl
            have t0 := tR
            go_wp2_with (first
              | (have q0 := t0; go_at_call 62; refine (SO.out wr rfl).mono ?_; rintro e9 w41 ⟨ro2, rc2, rfl, y9, B9⟩; have HB0 : Hid (Vr w41 w.heap.size [.int .i64 g0, .int .i64 g1, .int .i64 (S : Int), .int .i64 g3, .int .i64 g4, .int .i64 g5]) := HB0.out.below B9 (range_lt HB0.out.1 (Nat.succ_pos _)); have HY : Hid (Byt w41 (.slice ro rn rc) rec) := HY.out.below B9; have HN : Hid (Byt w41 (.slice ro2 624 rc2) R2) := y9; have BB : Hid (Below wr.heap.size wr w41) := B9; clear hb0_0 hb0_1 hb0_2 hb0_3 hb0_4 hb0_5; have hb0_0 := HB0.out.cell 0 _ rfl; have hb0_1 := HB0.out.cell 1 _ rfl; have hb0_2 := HB0.out.cell 2 _ rfl; have hb0_3 := HB0.out.cell 3 _ rfl; have hb0_4 := HB0.out.cell 4 _ rfl; have hb0_5 := HB0.out.cell 5 _ rfl; clear B9 y9; clear t0; have t1 := tR))
            go_roundw
            case rel => exact ⟨k + 1, _, _, _, _, _, _, by omega, by go_num, rfl, rfl, rfl, HN.out, KN.out, BR.out.trans (BB.out.mono BR.out.size)⟩
            case measure => simp [intOf]; omega
          · have KN : Hid (Kc S bs (k + 1) at' gen rec) := kc_less HK.out (by omega) hg
            generalize kgen S (bs.getD k []) = G2 at SO hg
            generalize krec S (bs.getD k []) = R2 at SO
            clear hy hy' hpl
            have t0 := tR
            go_wp2_with (first
              | (have q0 := t0; go_at_call 62; refine (SO.out wr rfl).mono ?_; rintro e9 w41 ⟨ro2, rc2, rfl, y9, B9⟩; have HB0 : Hid (Vr w41 w.heap.size [.int .i64 g0, .int .i64 g1, .int .i64 (S : Int), .int .i64 g3, .int .i64 g4, .int .i64 g5]) := HB0.out.below B9 (range_lt HB0.out.1 (Nat.succ_pos _)); have HY : Hid (Byt w41 (.slice ro rn rc) rec) := HY.out.below B9; have HN : Hid (Byt w41 (.slice ro2 624 rc2) R2) := y9; have BB : Hid (Below wr.heap.size wr w41) := B9; clear hb0_0 hb0_1 hb0_2 hb0_3 hb0_4 hb0_5; have hb0_0 := HB0.out.cell 0 _ rfl; have hb0_1 := HB0.out.cell 1 _ rfl; have hb0_2 := HB0.out.cell 2 _ rfl; have hb0_3 := HB0.out.cell 3 _ rfl; have hb0_4 := HB0.out.cell 4 _ rfl; have hb0_5 := HB0.out.cell 5 _ rfl; clear B9 y9; clear t0; have t1 := tR))
            go_roundw
            case rel => exact ⟨k + 1, _, _, _, _, _, _, by omega, by go_num, rfl, rfl, rfl, HY.out, KN.out, BR.out.trans (BB.out.mono BR.out.size)⟩
            case measure => simp [intOf]; omega
      · have SO : Hid (∀ w0, w0 = wr → Calls Tryz.prog 62 #[.agg (ints .i64 [g0, g1, (S : Int), g3, g4, g5]), z] w0 fun x w' => x = .returned (.tuple #[.int .u64 0, .slice none 0 0, .bool false]) ∧ Below w0.heap.size w0 w') := fun w0 e => by
          subst e
          refine (hold_any g0 g1 g3 g4 g5 S z _ w0 HR.out.1 HT.out HZ.out).mono ?_
          rintro x w' ⟨⟨h1, -⟩ | ⟨-, h2⟩, h3⟩
          · exact absurd h1 hy
          · exact ⟨h2, h3⟩
        have hy : Hid (¬ Khd S (bs.getD k [])) := hy
        clear hpl
        have t0 := tR
        go_wp2_with (first
          | (have q0 := t0; go_at_call 62; refine (SO.out wr rfl).mono ?_; rintro e9 w41 ⟨rfl, B9⟩; have HB0 : Hid (Vr w41 w.heap.size [.int .i64 g0, .int .i64 g1, .int .i64 (S : Int), .int .i64 g3, .int .i64 g4, .int .i64 g5]) := HB0.out.below B9 (range_lt HB0.out.1 (Nat.succ_pos _)); have HY : Hid (Byt w41 (.slice ro rn rc) rec) := HY.out.below B9; have BB : Hid (Below wr.heap.size wr w41) := B9; clear hb0_0 hb0_1 hb0_2 hb0_3 hb0_4 hb0_5; have hb0_0 := HB0.out.cell 0 _ rfl; have hb0_1 := HB0.out.cell 1 _ rfl; have hb0_2 := HB0.out.cell 2 _ rfl; have hb0_3 := HB0.out.cell 3 _ rfl; have hb0_4 := HB0.out.cell 4 _ rfl; have hb0_5 := HB0.out.cell 5 _ rfl; clear B9; clear t0; have t1 := tR))
        go_roundw
        case rel => exact ⟨k + 1, _, _, _, _, _, _, by omega, by go_num, rfl, rfl, rfl, HY.out, kc_none HK.out hy.out, BR.out.trans (BB.out.mono BR.out.size)⟩
        case measure => simp [intOf]; omega
    · have ek : k = n := by omega
      subst ek
      go_wp2
      go_ret3
      exact ⟨⟨at', gen, rec, ro, rn, rc, rfl, HY.out, by rw [EN.out]; exact HK.out⟩, BW.out.trans (BR.out.mono BW.out.size)⟩
end Go.Proofs.YtakibiigcdgohaaGreatDoor.ck
