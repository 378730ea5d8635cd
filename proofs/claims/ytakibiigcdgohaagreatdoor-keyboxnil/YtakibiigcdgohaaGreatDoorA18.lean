/- Parts of the proof: what KeyboxNil reaches. No claim of its own. -/
import Derived.Laws.AppendOwnNone
import Derived.Lib.AppendZeros
import Derived.Lib.SliceRun
import Derived.Deep.RegionHeld3
import Derived.Deep.DeepCutAuto
import Derived.Laws.StructEq
import Derived.WalkKit
import Derived.WalkSmall
import Derived.ProofKit
import Derived.OpenShut
import Derived.BigQuiet
import Derived.Deep.QuietTactic
import Derived.Deep.WholeRow
import Derived.Deep.MidRow
import Derived.Deep.DeepHandedRow
import Derived.Lib.LaidTab
import Derived.Deep.Matrix
import Derived.Test.YtakibiigcdgohaaGreatDoorA00
import Derived.Test.YtakibiigcdgohaaGreatDoorA01
import Derived.Test.YtakibiigcdgohaaGreatDoorA02
import Derived.Test.YtakibiigcdgohaaGreatDoorA03
import Derived.Test.YtakibiigcdgohaaGreatDoorA04
import Derived.Test.YtakibiigcdgohaaGreatDoorA05
import Derived.Test.YtakibiigcdgohaaGreatDoorA09
import Derived.Test.YtakibiigcdgohaaGreatDoorA10
import Derived.Test.YtakibiigcdgohaaGreatDoorA11
import Derived.Test.YtakibiigcdgohaaGreatDoorA12
import Derived.Test.YtakibiigcdgohaaGreatDoorA13
import Derived.Test.YtakibiigcdgohaaGreatDoorA14
import Derived.Test.YtakibiigcdgohaaGreatDoorA15
import Derived.Test.YtakibiigcdgohaaGreatDoorA16
import Derived.Test.YtakibiigcdgohaaGreatDoorA17
namespace Go.Proofs.YtakibiigcdgohaaGreatDoor.ck
open Go.RowKit Go.Proofs.YtakibiigcdgohaaGreatDoor.fa Go.Proofs.YtakibiigcdgohaaGreatDoor.he Go.Proofs.YtakibiigcdgohaaGreatDoor.pa
set_option maxRecDepth 20000
def secs (S : Nat) (xs : List Int) : List (List Int) := (List.range (nc S)).map (sec S xs)
theorem secs_len (S : Nat) (xs : List Int) : (secs S xs).length = nc S := by simp [secs]
theorem secs_at (S : Nat) (xs : List Int) (i : Nat) (h : i < nc S) : (secs S xs).getD i [] = sec S xs i := by simp [secs, List.getD, h]
set_option maxHeartbeats 4000000 in
theorem sectors_any (g0 g1 g3 g4 g5 : Int) (S : Nat) (v : Value) (xs : List Int) (w : World) (hb : Byt w v xs) (hl : xs.length = 624) (hr : ge.Rt [g0, g1, (S : Int), g3, g4, g5]) :
    Calls Tryz.prog 89 #[.agg (ints .i64 [g0, g1, (S : Int), g3, g4, g5]), v] w fun x w' => ∃ r, x = .returned r ∧ Pgs w' r (secs S xs) ∧ Below w.heap.size w w' := by
  have ⟨s1, s2⟩ := rt_sec hr
  have hn := nc_le s1 s2
  have SC : Hid (∀ w0, Calls Tryz.prog 79 #[.agg (ints .i64 [g0, g1, (S : Int), g3, g4, g5])] w0 fun x w' => x = .returned (.int .i64 (nc S : Int)) ∧ Below w0.heap.size w0 w') := fun w0 => chunks_nc hr w0
  have SF : Hid (∀ w0, Calls Tryz.prog 114 #[.int .u8 255, .int .i64 (((nc S * S : Nat) : Int) - 624)] w0 fun e w' => ∃ v, e = .returned v ∧ Byt w' v (List.replicate (nc S * S - 624) 255) ∧ Below w0.heap.size w0 w') := fun w0 => by
    have z := fill_any 255 (((nc S * S : Nat) : Int) - 624) w0 (by omega)
    rw [show clamp (((nc S * S : Nat) : Int) - 624) 65536 = nc S * S - 624 by unfold clamp; omega] at z
    exact z
  have SX : Hid (∀ w1 c fv, Byt w1 fv (List.replicate (nc S * S - 624) 255) → Vr w1 c [v, fv] → Below w.heap.size w w1 → Calls Tryz.prog 113 #[.slice (some ⟨c, 0, none⟩) 2 2] w1 fun e w' => ∃ r, e = .returned r ∧ Own w1.heap.size w' r (pd S xs) ∧ Below w1.heap.size w1 w') := fun w1 c fv hf hV hB => by
    have e : cats [xs, List.replicate (nc S * S - 624) 255] 2 = pd S xs := by simp [cats, pd]
    have z := concat_any c 2 (fun k => ([v, fv] : List Value).getD k undef) [xs, List.replicate (nc S * S - 624) 255] w1 rfl (by omega) (fun k hk => by
      match k, hk with
      | 0, _ => exact hb.below hB
      | 1, _ => exact hf) (fun k hk => by
      have hk : k < 2 := hk
      match k, hk with
      | 0, _ => show xs.length ≤ 10000; omega
      | 1, _ => show (List.replicate (nc S * S - 624) (255 : Int)).length ≤ 10000; rw [List.length_replicate]; omega) (by rw [e, pd_len s1 s2 hl]; omega) (fun k hk => by
      match k, hk with
      | 0, _ => exact hV.cell 0 _ rfl
      | 1, _ => exact hV.cell 1 _ rfl)
    rwa [e] at z
  have XL : Hid ((pd S xs).length = nc S * S) := pd_len s1 s2 hl
  have XA : Hid (AllB (pd S xs)) := pd_all hb.all
  have XS : Hid (∀ i, i < nc S → sub (pd S xs) (i * S) (i * S + S) = (secs S xs).getD i []) := fun i hi => by rw [secs_at S xs i hi]; rfl
  have SE : Hid (∀ i, i < nc S → i * S + S ≤ nc S * S) := fun i hi => sec_end hi
  have SL : Hid ((secs S xs).length = nc S) := secs_len S xs
  obtain ⟨ao, cap, rfl⟩ := byt_form hb hl
  generalize secs S xs = ss at XS SL ⊢
  generalize pd S xs = X at SX XL XA XS
  generalize List.replicate (nc S * S - 624) (255 : Int) = F at SF SX
  have hM : (nc S : Int) * (S : Int) = ((nc S * S : Nat) : Int) := (Int.natCast_mul _ _).symm
  generalize nc S * S = M at SF XL SE hM hn
  generalize nc S = N at SC XS SE SL hM hn
  have NL : Hid (N ≤ 1000000) := (by show N ≤ 1000000; omega)
  have SP : Hid (0 < S) := (by show 0 < S; omega)
  have m1 : (624 : Int) ≤ (M : Int) := by omega
  have m2 : (M : Int) ≤ 10000 := by omega
  have n20 : N ≤ 20 := hn.2.1
  have s4 : S ≤ 4096 := s2
  clear hr hb hl hn s1 s2
  have t0 : (0 : Nat) = 0 := rfl
  go_enter Tryz.func89, Tryz.ntmps89
  go_wp2_with (first
    | (have q5 := t5; at_make; have HXm := HX; have HB0m := HB0; have BW := BB; refine make_lawR _ rfl _ _ rfl _ N rfl rfl rfl NL.out ?_; intro w6 v9 n9 B9; have HB0 : Hid (Vr w6 w.heap.size [.int .i64 g0, .int .i64 g1, .int .i64 (S : Int), .int .i64 g3, .int .i64 g4, .int .i64 g5]) := HB0.out.below B9 (range_lt HB0.out.1 (Nat.succ_pos _)); have HF : Hid (Byt w6 fv F) := HF.out.below B9; have HT : Hid (Vr w6 w3.heap.size [.slice ao 624 cap, fv]) := HT.out.below B9 (range_lt HT.out.1 (Nat.succ_pos _)); have HX : Hid (Byt w6 r X) := HX.out.below B9; have HR : Hid (Vr w6 w5.heap.size (rowk (fun j => slm r (j * S) (j * S + S)) N 0)) := (by show Vr _ _ _; rw [rowk_zero]; exact v9); have NB : Hid (NoB w6 w5.heap.size) := n9; have BL : Hid (Below w5.heap.size w5 w6) := B9; have BB : Hid (Below w.heap.size w w6) := BB.out.trans (B9.mono BB.out.size); clear hb0_0 hb0_1 hb0_2 hb0_3 hb0_4 hb0_5; have hb0_0 := HB0.out.cell 0 _ rfl; have hb0_1 := HB0.out.cell 1 _ rfl; have hb0_2 := HB0.out.cell 2 _ rfl; have hb0_3 := HB0.out.cell 3 _ rfl; have hb0_4 := HB0.out.cell 4 _ rfl; have hb0_5 := HB0.out.cell 5 _ rfl; clear HX HB0; have HX := HXm; have HB0 := HB0m; clear HXm HB0m; clear B9 v9 n9; clear t5; have t6 : (1 : Nat) = 1 := rfl)
    | (have q4 := t4; go_at_call 113; refine (SX.out w4 _ fv HF.out HT.out BB.out).mono ?_; rintro e9 w5 ⟨r, rfl, o9, B9⟩; have HB0 : Hid (Vr w5 w.heap.size [.int .i64 g0, .int .i64 g1, .int .i64 (S : Int), .int .i64 g3, .int .i64 g4, .int .i64 g5]) := HB0.out.below B9 (range_lt HB0.out.1 (Nat.succ_pos _)); have HF : Hid (Byt w5 fv F) := HF.out.below B9; have HT : Hid (Vr w5 w3.heap.size [.slice ao 624 cap, fv]) := HT.out.below B9 (range_lt HT.out.1 (Nat.succ_pos _)); have HX : Hid (Byt w5 r X) := o9.byt XA.out; have BB : Hid (Below w.heap.size w w5) := BB.out.trans (B9.mono BB.out.size); clear hb0_0 hb0_1 hb0_2 hb0_3 hb0_4 hb0_5; have hb0_0 := HB0.out.cell 0 _ rfl; have hb0_1 := HB0.out.cell 1 _ rfl; have hb0_2 := HB0.out.cell 2 _ rfl; have hb0_3 := HB0.out.cell 3 _ rfl; have hb0_4 := HB0.out.cell 4 _ rfl; have hb0_5 := HB0.out.cell 5 _ rfl; clear B9 o9; clear t4; have t5 : (1 : Nat) = 1 := rfl)
    | (have q3 := t3; refine two_lawK _ rfl (.tmp 13) (.tmp 21) rfl (.slice ao 624 cap) fv ⟨_, _, _, rfl⟩ (sle_byt HF.out) rfl rfl ?_; intro w4 v9 B9; have HB0 : Hid (Vr w4 w.heap.size [.int .i64 g0, .int .i64 g1, .int .i64 (S : Int), .int .i64 g3, .int .i64 g4, .int .i64 g5]) := HB0.out.below B9 (range_lt HB0.out.1 (Nat.succ_pos _)); have HF : Hid (Byt w4 fv F) := HF.out.below B9; have HT : Hid (Vr w4 w3.heap.size [.slice ao 624 cap, fv]) := v9; have BB : Hid (Below w.heap.size w w4) := BB.out.trans (B9.mono BB.out.size); clear hb0_0 hb0_1 hb0_2 hb0_3 hb0_4 hb0_5; have hb0_0 := HB0.out.cell 0 _ rfl; have hb0_1 := HB0.out.cell 1 _ rfl; have hb0_2 := HB0.out.cell 2 _ rfl; have hb0_3 := HB0.out.cell 3 _ rfl; have hb0_4 := HB0.out.cell 4 _ rfl; have hb0_5 := HB0.out.cell 5 _ rfl; clear B9 v9; clear t3; have t4 : (1 : Nat) = 1 := rfl)
    | (have q2 := t2; go_at_call 114; refine (SF.out w2).mono ?_; rintro e9 w3 ⟨fv, rfl, y9, B9⟩; have HB0 : Hid (Vr w3 w.heap.size [.int .i64 g0, .int .i64 g1, .int .i64 (S : Int), .int .i64 g3, .int .i64 g4, .int .i64 g5]) := HB0.out.below B9 (range_lt HB0.out.1 (Nat.succ_pos _)); have HF : Hid (Byt w3 fv F) := y9; have BB : Hid (Below w.heap.size w w3) := BB.out.trans (B9.mono BB.out.size); clear hb0_0 hb0_1 hb0_2 hb0_3 hb0_4 hb0_5; have hb0_0 := HB0.out.cell 0 _ rfl; have hb0_1 := HB0.out.cell 1 _ rfl; have hb0_2 := HB0.out.cell 2 _ rfl; have hb0_3 := HB0.out.cell 3 _ rfl; have hb0_4 := HB0.out.cell 4 _ rfl; have hb0_5 := HB0.out.cell 5 _ rfl; clear B9 y9; clear t2; have t3 : (1 : Nat) = 1 := rfl)
    | (have q1 := t1; go_at_call 79; refine (SC.out w1).mono ?_; rintro e9 w2 ⟨rfl, B9⟩; have HB0 : Hid (Vr w2 w.heap.size [.int .i64 g0, .int .i64 g1, .int .i64 (S : Int), .int .i64 g3, .int .i64 g4, .int .i64 g5]) := HB0.out.below B9 (range_lt HB0.out.1 (Nat.succ_pos _)); have BB : Hid (Below w.heap.size w w2) := BB.out.trans (B9.mono BB.out.size); clear hb0_0 hb0_1 hb0_2 hb0_3 hb0_4 hb0_5; have hb0_0 := HB0.out.cell 0 _ rfl; have hb0_1 := HB0.out.cell 1 _ rfl; have hb0_2 := HB0.out.cell 2 _ rfl; have hb0_3 := HB0.out.cell 3 _ rfl; have hb0_4 := HB0.out.cell 4 _ rfl; have hb0_5 := HB0.out.cell 5 _ rfl; clear B9; clear t1; have t2 : (1 : Nat) = 1 := rfl)
    | (have q0 := t0; refine box_lawC _ [.int .i64 g0, .int .i64 g1, .int .i64 (S : Int), .int .i64 g3, .int .i64 g4, .int .i64 g5] rfl ?_; intro w1 X9 B9 l9; have HB0 : Hid (Vr w1 w.heap.size [.int .i64 g0, .int .i64 g1, .int .i64 (S : Int), .int .i64 g3, .int .i64 g4, .int .i64 g5]) := X9; have BB : Hid (Below w.heap.size w w1) := B9; have hb0_0 := HB0.out.cell 0 _ rfl; have hb0_1 := HB0.out.cell 1 _ rfl; have hb0_2 := HB0.out.cell 2 _ rfl; have hb0_3 := HB0.out.cell 3 _ rfl; have hb0_4 := HB0.out.cell 4 _ rfl; have hb0_5 := HB0.out.cell 5 _ rfl; clear X9 B9 l9; clear t0; have t1 : (1 : Nat) = 1 := rfl))
  have BZ : Hid (Below w.heap.size w w5) := BW.out
  go_loopw [28] (fun i wr => ∃ k : Nat, k ≤ N ∧ i = .int .i64 (k : Int) ∧ Vr wr w5.heap.size (rowk (fun j => slm r (j * S) (j * S + S)) N k) ∧ NoB wr w5.heap.size ∧ Below w5.heap.size w5 wr) (fun i _ => N - (intOf i).toNat)
  case atStart => exact ⟨0, Nat.zero_le _, rfl, HR.out, NB.out, BL.out⟩
  case round =>
    obtain ⟨k, hk, rfl, hV, hN, hB⟩ := hrel
    have HV : Hid (Vr wr w5.heap.size (rowk (fun j => slm r (j * S) (j * S + S)) N k)) := hV
    have HN : Hid (NoB wr w5.heap.size) := hN
    have BB : Hid (Below w5.heap.size w5 wr) := hB
    clear hV hN hB HR NB BL
    by_cases hlt : k < N
    · have lk : (k : Int) < (N : Int) := by omega
      obtain ⟨p0, e0⟩ : ∃ z : Nat, z = k * S := ⟨_, rfl⟩
      obtain ⟨p1, e1⟩ : ∃ z : Nat, z = k * S + S := ⟨_, rfl⟩
      have e2 : (k + 1) * S = p1 := by rw [e1, Nat.succ_mul]
      have m0 : Hid (IntKind.i64.wrap ((k : Int) * (S : Int)) = (p0 : Int)) := (by show _ = _; rw [e0]; exact wrap_mul (by omega) s4)
      have m1' : Hid (IntKind.i64.wrap ((k : Int) + 1) = (k : Int) + 1) := wrap_small ⟨by omega, by omega⟩
      have m2' : Hid (IntKind.i64.wrap (((k : Int) + 1) * (S : Int)) = (p1 : Int)) := (by show _ = _; rw [← e2]; have z := wrap_mul (k := k + 1) (S := S) (by omega) s4; rw [show ((k + 1 : Nat) : Int) = (k : Int) + 1 by omega] at z; exact z)
      have pl : Hid (p0 ≤ p1 ∧ p1 ≤ X.length) := ⟨by omega, by rw [XL.out, e1]; exact SE.out k hlt⟩
      have pe : Hid (slm r p0 p1 = slm r (k * S) (k * S + S)) := (by rw [e0, e1]; exact rfl)
      clear e0 e1 e2
      go_wp2
      have HV : Hid (Vr wr.drew w5.heap.size (rowk (fun j => slm r (j * S) (j * S + S)) N k)) := HV.out.drewN 1
      have HN : Hid (NoB wr.drew w5.heap.size) := HN.out
      refine wp_region_held_drew (S := fun w' => Below w5.heap.size w5 w') (by kernel_rfl) BB.out.drew (fun hS => ?_)
      obtain ⟨x1, hx0⟩ : ∃ x, x = wr.drew := ⟨_, rfl⟩
      rw [← hx0] at hS HV HN ⊢
      clear hx0
      refine take_lawH 0 (some 31) (.int .i64 (k : Int)) rfl rfl (by kernel_rfl) (by kernel_rfl) (by kernel_rfl) (fun _ _ _ h => h) (Or.inl ⟨by rfl, fun w' hw' => by rfl⟩) hS ?_
      simp only [Act.put, List.setIfInBounds_toArray, List.set_cons_zero, List.set_cons_succ]
      refine take_lawH 1 (some 32) (.pointer (some ⟨w.heap.size, 2, none⟩)) rfl rfl (by kernel_rfl) (by kernel_rfl) (by kernel_rfl) (fun _ _ _ h => h) (Or.inl ⟨by rfl, fun w' hw' => by go_simp⟩) hS ?_
      simp only [Act.put, List.setIfInBounds_toArray, List.set_cons_zero, List.set_cons_succ]
      refine take_lawH 2 (some 33) (.int .i64 (S : Int)) rfl rfl (by kernel_rfl) (by kernel_rfl) (by kernel_rfl) (fun _ _ _ h => h) (Or.inl ⟨by rfl, fun w' hw' => by exact exec_loadN 3 (.tmp 32) rfl _ rfl _ _ (ld_int ((HB0.out.below hw' (range_lt HB0.out.1 (Nat.succ_pos _))).cell 2 _ rfl))⟩) hS ?_
      simp only [Act.put, List.setIfInBounds_toArray, List.set_cons_zero, List.set_cons_succ]
      refine take_lawH 3 (some 34) (.int .i64 (p0 : Int)) rfl rfl (by kernel_rfl) (by kernel_rfl) (by kernel_rfl) (fun _ _ _ h => h) (Or.inl ⟨by rfl, fun w' hw' => by exact exec_mul (.tmp 31) (.tmp 33) rfl (k : Int) (S : Int) _ rfl rfl m0.out⟩) hS ?_
      simp only [Act.put, List.setIfInBounds_toArray, List.set_cons_zero, List.set_cons_succ]
      refine take_lawH 4 (some 35) (.int .i64 (k : Int)) rfl rfl (by kernel_rfl) (by kernel_rfl) (by kernel_rfl) (fun _ _ _ h => h) (Or.inl ⟨by rfl, fun w' hw' => by rfl⟩) hS ?_
      simp only [Act.put, List.setIfInBounds_toArray, List.set_cons_zero, List.set_cons_succ]
      refine take_lawH 5 (some 36) (.int .i64 ((k : Int) + 1)) rfl rfl (by kernel_rfl) (by kernel_rfl) (by kernel_rfl) (fun _ _ _ h => h) (Or.inl ⟨by rfl, fun w' hw' => by exact exec_add (.tmp 35) (.const (.int .i64 1)) rfl (k : Int) 1 _ rfl rfl m1'.out⟩) hS ?_
      simp only [Act.put, List.setIfInBounds_toArray, List.set_cons_zero, List.set_cons_succ]
      refine take_lawH 6 (some 37) (.pointer (some ⟨w.heap.size, 2, none⟩)) rfl rfl (by kernel_rfl) (by kernel_rfl) (by kernel_rfl) (fun _ _ _ h => h) (Or.inl ⟨by rfl, fun w' hw' => by go_simp⟩) hS ?_
      simp only [Act.put, List.setIfInBounds_toArray, List.set_cons_zero, List.set_cons_succ]
      refine take_lawH 7 (some 38) (.int .i64 (S : Int)) rfl rfl (by kernel_rfl) (by kernel_rfl) (by kernel_rfl) (fun _ _ _ h => h) (Or.inl ⟨by rfl, fun w' hw' => by exact exec_loadN 3 (.tmp 37) rfl _ rfl _ _ (ld_int ((HB0.out.below hw' (range_lt HB0.out.1 (Nat.succ_pos _))).cell 2 _ rfl))⟩) hS ?_
      simp only [Act.put, List.setIfInBounds_toArray, List.set_cons_zero, List.set_cons_succ]
      refine take_lawH 8 (some 39) (.int .i64 (p1 : Int)) rfl rfl (by kernel_rfl) (by kernel_rfl) (by kernel_rfl) (fun _ _ _ h => h) (Or.inl ⟨by rfl, fun w' hw' => by exact exec_mul (.tmp 36) (.tmp 38) rfl ((k : Int) + 1) (S : Int) _ rfl rfl m2'.out⟩) hS ?_
      simp only [Act.put, List.setIfInBounds_toArray, List.set_cons_zero, List.set_cons_succ]
      refine take_lawH 9 (some 9) (.int .i64 (p0 : Int)) rfl rfl (by kernel_rfl) (by kernel_rfl) (by kernel_rfl) (fun _ _ _ h => h) (Or.inl ⟨by rfl, fun w' hw' => by rfl⟩) hS ?_
      simp only [Act.put, List.setIfInBounds_toArray, List.set_cons_zero, List.set_cons_succ]
      refine take_lawH 10 (some 10) (.int .i64 (p1 : Int)) rfl rfl (by kernel_rfl) (by kernel_rfl) (by kernel_rfl) (fun _ _ _ h => h) (Or.inl ⟨by rfl, fun w' hw' => by rfl⟩) hS ?_
      simp only [Act.put, List.setIfInBounds_toArray, List.set_cons_zero, List.set_cons_succ]
      refine wpAnyH_done (by kernel_rfl) ?_ _
      have t50 : (1 : Nat) = 1 := rfl
      go_wp2_with (first
        | (have q51 := t51; (with_reducible refine at_store ?_); refine set_lawK _ (rowk (fun j => slm r (j * S) (j * S + S)) N k) w5.heap.size k (slm r p0 p1) rfl rfl HV.out HN.out (by rw [rowk_len]; exact hlt) (by obtain ⟨ao, n, c, e⟩ := slm_sle HX.out p0 p1; rw [e]; rfl) (by obtain ⟨ao, n, c, e⟩ := slm_sle HX.out p0 p1; rw [e]; rfl) (by obtain ⟨ao, n, c, e⟩ := slm_sle HX.out p0 p1; rw [e]; intro y z; cases z) one_bytes.2 ?_; intro wz v9 n9 B9 k9; have HV2 : Hid (Vr wz w5.heap.size (rowk (fun j => slm r (j * S) (j * S + S)) N (k + 1))) := (by have z := v9; rw [pe.out] at z; rw [← rowk_set]; exact z); have HN2 : Hid (NoB wz w5.heap.size) := n9; have BZ : Hid (Below w5.heap.size w5 wz) := hS.trans B9; clear v9 n9 B9 k9 hS; clear t51; have t52 : (1 : Nat) = 1 := rfl)
        | (have q50 := t50; refine cut_max _ rfl (.tmp 42) (.tmp 43) (.tmp 44) (.tmp 45) rfl r X p0 p1 rfl rfl rfl rfl pl.out.1 pl.out.2 (HX.out.below hS) ?_; clear t50; have t51 : (1 : Nat) = 1 := rfl))
      go_roundw
      case rel => exact ⟨k + 1, by omega, by go_num, HV2.out, HN2.out, BZ.out⟩
      case measure => simp [intOf]; omega
    · have ek : k = N := by omega
      subst ek
      go_wp2
      go_ret
      have hx := HX.out.below BB.out
      refine ⟨_, rfl, ?_, BZ.out.trans (BB.out.mono BZ.out.size)⟩
      have z := pgs_of (ls := ss) HV.out (by rw [rowk_len, SL.out]) (by rw [SL.out]; exact NL.out) (fun i hi => by
        rw [SL.out] at hi
        rw [← XS.out i hi, show (rowk (fun j => slm r (j * S) (j * S + S)) k k).getD i undef = slm r (i * S) (i * S + S) by rw [List.getD_eq_getElem?_getD, rowk_at _ _ _ i hi hi]; rfl]
        exact slm_byt hx _ _ (by have := SP.out; omega) (by rw [XL.out]; exact SE.out i hi))
      rw [SL.out] at z
      exact z
end Go.Proofs.YtakibiigcdgohaaGreatDoor.ck
namespace Go.Proofs.YtakibiigcdgohaaGreatDoor.ck
open Go.RowKit Go.Proofs.YtakibiigcdgohaaGreatDoor.fa Go.Proofs.YtakibiigcdgohaaGreatDoor.he Go.Proofs.YtakibiigcdgohaaGreatDoor.pa
set_option maxRecDepth 20000
theorem rowy_geo : Rowy 23 6 := ⟨⟨_, Tryz.underlying23, rfl⟩, by kernel_rfl⟩
def fl (F : Nat → List Int) (n : Nat) : List (List Int) := (List.range n).map F
theorem fl_len (F : Nat → List Int) (n : Nat) : (fl F n).length = n := by simp [fl]
theorem fl_at (F : Nat → List Int) (n i : Nat) (h : i < n) : (fl F n).getD i [] = F i := by simp [fl, List.getD, h]
theorem own_apart {w : World} {B B' n n' k k' : Nat} {v v' : Value} {e e' : TypeId} {xs ys : List Value} (h : w.ownsRow B e k v n xs) (h' : w.ownsRow B' e' k' v' n' ys) (hne : e ≠ e') : v.ownBlock = none ∨ v.ownBlock ≠ v'.ownBlock := by
  rcases h.2 with ⟨rfl, -⟩ | ⟨g, cap, cur, rfl, -, hg, -⟩
  · exact Or.inl rfl
  · right
    intro e1
    rcases h'.2 with ⟨rfl, -⟩ | ⟨g', cap', cur', rfl, -, hg', -⟩
    · cases e1
    · have : g = g' := by injection e1
      subst this
      rw [hg] at hg'
      injection hg' with hg'
      injection hg' with _ h2
      exact absurd h2 hne
theorem own_grown {w w' : World} {B B' : Nat} {u v : Value} {x : List Int} {us : List Value} (h : Own B w u x) (ho : OwnR B' w v us) (hg : w.grownBy w' v.ownBlock) : Own B w' u x :=
  World.ownsRow.kept h hg (own_apart h ho (by decide))
def Pgk (B : Nat) (w : World) (v : Value) (F : Nat → List Int) (k : Nat) : Prop := ∃ vs, OwnR B w v vs ∧ vs.length = k ∧ ∀ i, i < k → Own B w (vs.getD i undef) (F i)
theorem Pgk.nil (B : Nat) (w : World) (F : Nat → List Int) : Pgk B w (.slice none 0 0) F 0 := ⟨[], ownr_nil B w, rfl, fun _ hi => absurd hi (Nat.not_lt_zero _)⟩
theorem Pgk.empty {B : Nat} {w : World} {v : Value} (h : OwnR B w v []) (F : Nat → List Int) : Pgk B w v F 0 := ⟨[], h, rfl, fun _ hi => absurd hi (Nat.not_lt_zero _)⟩
theorem Pgk.below {B : Nat} {w w' : World} {v : Value} {F : Nat → List Int} {k : Nat} (h : Pgk B w v F k) (hb : Below w.heap.size w w') : Pgk B w' v F k := by
  obtain ⟨vs, h1, h2, h3⟩ := h
  exact ⟨vs, h1.below hb, h2, fun i hi => own_low (h3 i hi) hb⟩
theorem Pgk.less {B B' : Nat} {w : World} {v : Value} {F : Nat → List Int} {k : Nat} (h : Pgk B w v F k) (hB : B' ≤ B) : Pgk B' w v F k := by
  obtain ⟨vs, h1, h2, h3⟩ := h
  exact ⟨vs, h1.less hB, h2, fun i hi => own_less (h3 i hi) hB⟩
theorem Pgk.pgs {B : Nat} {w : World} {v : Value} {F : Nat → List Int} {k : Nat} (h : Pgk B w v F k) (ha : ∀ i, i < k → AllB (F i)) : Pgs w v (fl F k) := by
  obtain ⟨vs, h1, h2, h3⟩ := h
  refine ⟨vs, h1.vals, by rw [h2, fl_len], fun i hi => ?_⟩
  rw [fl_len] at hi
  rw [fl_at F k i hi]
  exact (h3 i hi).byt (ha i hi)
theorem Pgk.form {B : Nat} {w : World} {v : Value} {F : Nat → List Int} {k : Nat} (h : Pgk B w v F k) : ∃ ao cap, v = .slice ao k cap := by
  obtain ⟨vs, h1, h2, -⟩ := h
  obtain ⟨ao, cap, e, -⟩ := h1.vals
  rw [h2] at e
  exact ⟨ao, cap, e⟩
section
variable {ops : Array Oper} {rest : List Oper} {o : Oper} {a : Act} {Q : Exit → Act → World → Prop} {K : Act → World → Prop} {E : Prop}
theorem step_pushP (w : World) (hw : Region.wanted o (yielded ops a.tmps) = true) (d : Option Tmp) (hd : o.dst = d) (s x : Operand) (hop : o.op = .call { callee := .builtin .append, args := #[s, x], argTypes := #[68, 68] })
    (B B' : Nat) (hB : B ≤ w.heap.size) (v vy u : Value) (F : Nat → List Int) (k : Nat) (hs : a.eval s = v) (hx : a.eval x = vy) (hP : Pgk B w v F k) (hy : OwnR B' w vy [u]) (hu : Own B w u (F k)) (hSl : Sle u) (hk : k ≤ 1000)
    (hK : ∀ v' w', Pgk B w' v' F (k + 1) → Below B w w' → (∀ B'' z xs, Own B'' w z xs → Own B'' w' z xs) → K (a.put d v') w') : if Region.wanted o (yielded ops a.tmps) = true then Oper.wp Tryz.prog o a w K Q else E := by
  obtain ⟨vs, h1, h2, h3⟩ := hP
  refine step_pushsR w hw d hd s x hop B hB v vy vs [u] hs hx h1 hy.vals (fun z hz => by simp at hz; subst hz; exact hSl) (by omega) (by simp) fun v' w' o' b' g' => ?_
  have keep : ∀ B'' z xs, Own B'' w z xs → Own B'' w' z xs := fun B'' z xs h => own_grown h h1 g'
  refine hK v' w' ⟨vs ++ [u], o', by simp [h2], fun i hi => ?_⟩ b' keep
  by_cases e : i = k
  · subst e
    rw [List.getD_eq_getElem?_getD, List.getElem?_append_right (by omega), h2, Nat.sub_self]
    exact keep _ _ _ hu
  · rw [List.getD_eq_getElem?_getD, List.getElem?_append_left (by omega), ← List.getD_eq_getElem?_getD]
    exact keep _ _ _ (h3 i (by omega))
theorem push_lawP (w : World) (hg : o.guard = none) (s x : Operand) (hop : o.op = .call { callee := .builtin .append, args := #[s, x], argTypes := #[68, 68] })
    (B B' : Nat) (hB : B ≤ w.heap.size) (v vy u : Value) (F : Nat → List Int) (k : Nat) (hs : a.eval s = v) (hx : a.eval x = vy) (hP : Pgk B w v F k) (hy : OwnR B' w vy [u]) (hu : Own B w u (F k)) (hSl : Sle u) (hk : k ≤ 1000)
    (hK : ∀ v' w', Pgk B w' v' F (k + 1) → Below B w w' → (∀ B'' z xs, Own B'' w z xs → Own B'' w' z xs) → wpList Tryz.prog ops Q rest (a.put o.dst v') w') : wpList Tryz.prog ops Q (o :: rest) a w := by
  refine wpList_step fun K hK' => ?_
  exact step_pushP w (by simp [Region.wanted, hg]) o.dst rfl s x hop B B' hB v vy u F k hs hx hP hy hu hSl hk fun v' w' h1 h2 h3 => hK' _ _ (hK v' w' h1 h2 h3)
end
theorem own_sle {B : Nat} {w : World} {v : Value} {xs : List Int} (h : Own B w v xs) : Sle v := by
  rcases h.2 with ⟨rfl, -⟩ | ⟨g, cap, cur, rfl, -⟩
  · exact ⟨_, _, _, rfl⟩
  · exact ⟨_, _, _, rfl⟩
def P255 (S : Nat) (xs : List Int) (gen : Int) (i : Nat) : List Int := pgk S xs gen (List.replicate 8 255) i
theorem pgk_all {S i : Nat} {xs : List Int} {gen : Int} {mk : List Int} (h1 : 32 ≤ S) (h2 : S ≤ 4096) (hi : i < nc S) (ha : AllB xs) (hm : AllB mk) : AllB (pgk S xs gen mk i) := by
  unfold pgk kend
  exact allB_app (sec_all ha i) (pa.hend_all (rh_k h1 h2 hi) (allB_replicate 255 _ (by omega)) hm)
theorem p255_all {S i : Nat} {xs : List Int} {gen : Int} (h1 : 32 ≤ S) (h2 : S ≤ 4096) (hi : i < nc S) (ha : AllB xs) : AllB (P255 S xs gen i) := pgk_all h1 h2 hi ha (allB_replicate 255 _ (by omega))
theorem make_p255 {S i : Nat} {xs : List Int} {gen : Int} (h1 : 32 ≤ S) (h2 : S ≤ 4096) (hl : xs.length = 624) (hi : i < nc S) : plo S (sec S xs i) ++ hend (hb 4 (i : Int) 0 (nc S : Int) gen 0) (tgo []) (List.replicate 8 255) = P255 S xs gen i := by
  have e := sec_len h1 h2 hl hi
  unfold plo P255 pgk kend
  rw [if_neg (by omega)]
  rfl
end Go.Proofs.YtakibiigcdgohaaGreatDoor.ck
namespace Go.Proofs.YtakibiigcdgohaaGreatDoor.ck
open Go.RowKit Go.Proofs.YtakibiigcdgohaaGreatDoor.fa Go.Proofs.YtakibiigcdgohaaGreatDoor.he Go.Proofs.YtakibiigcdgohaaGreatDoor.pa
set_option maxRecDepth 20000
set_option maxHeartbeats 4000000 in
theorem pages_len (g0 g1 g3 g4 g5 : Int) (S : Nat) (v : Value) (xs : List Int) (gen : Int) (w : World) (hr : ge.Rt [g0, g1, (S : Int), g3, g4, g5]) (hb : Byt w v xs) (hl : xs.length ≠ 624) :
    Calls Tryz.prog 67 #[.agg (ints .i64 [g0, g1, (S : Int), g3, g4, g5]), v, .int .u64 gen] w fun x w' => x = .returned (.tuple #[.slice none 0 0, .int .i64 2]) ∧ Below w.heap.size w w' := by
  have SK : Hid (∀ w0, Calls Tryz.prog 33 #[.agg (ints .i64 [g0, g1, (S : Int), g3, g4, g5])] w0 fun x w' => x = .returned (.int .i64 0) ∧ Below w0.heap.size w0 w') := ge.check_yes [g0, g1, (S : Int), g3, g4, g5] rfl hr
  obtain ⟨ao, cap, rfl⟩ := byt_form hb rfl
  have n1 : ((xs.length : Int) != 624) = true := bne_iff_ne.2 (by omega)
  generalize xs.length = n at n1 ⊢
  clear hr hl hb
  have t0 : (0 : Nat) = 0 := rfl
  go_enter Tryz.func67, Tryz.ntmps67
  go_wp2_with (first
    | (have q1 := t1; go_at_call 33; refine (SK.out w1).mono ?_; rintro e9 w2 ⟨rfl, B9⟩; have HB0 : Hid (Vr w2 w.heap.size [.int .i64 g0, .int .i64 g1, .int .i64 (S : Int), .int .i64 g3, .int .i64 g4, .int .i64 g5]) := HB0.out.below B9 (range_lt HB0.out.1 (Nat.succ_pos _)); have BB : Hid (Below w.heap.size w w2) := BB.out.trans (B9.mono BB.out.size); clear hb0_0 hb0_1 hb0_2 hb0_3 hb0_4 hb0_5; have hb0_0 := HB0.out.cell 0 _ rfl; have hb0_1 := HB0.out.cell 1 _ rfl; have hb0_2 := HB0.out.cell 2 _ rfl; have hb0_3 := HB0.out.cell 3 _ rfl; have hb0_4 := HB0.out.cell 4 _ rfl; have hb0_5 := HB0.out.cell 5 _ rfl; clear B9; clear t1; have t2 : (1 : Nat) = 1 := rfl)
    | (have q0 := t0; refine box_lawC _ [.int .i64 g0, .int .i64 g1, .int .i64 (S : Int), .int .i64 g3, .int .i64 g4, .int .i64 g5] rfl ?_; intro w1 X9 B9 l9; have HB0 : Hid (Vr w1 w.heap.size [.int .i64 g0, .int .i64 g1, .int .i64 (S : Int), .int .i64 g3, .int .i64 g4, .int .i64 g5]) := X9; have BB : Hid (Below w.heap.size w w1) := B9; have hb0_0 := HB0.out.cell 0 _ rfl; have hb0_1 := HB0.out.cell 1 _ rfl; have hb0_2 := HB0.out.cell 2 _ rfl; have hb0_3 := HB0.out.cell 3 _ rfl; have hb0_4 := HB0.out.cell 4 _ rfl; have hb0_5 := HB0.out.cell 5 _ rfl; clear X9 B9 l9; clear t0; have t1 : (1 : Nat) = 1 := rfl))
  go_ret2
  exact ⟨rfl, BB.out⟩
set_option maxHeartbeats 4000000 in
theorem pages_yes (g0 g1 g3 g4 g5 : Int) (S : Nat) (v : Value) (xs : List Int) (gen : Int) (w : World) (hr : ge.Rt [g0, g1, (S : Int), g3, g4, g5]) (hb : Byt w v xs) (hl : xs.length = 624) (hg : 0 ≤ gen ∧ gen ≤ 18446744073709551615) (hT : Tab w) :
    Calls Tryz.prog 67 #[.agg (ints .i64 [g0, g1, (S : Int), g3, g4, g5]), v, .int .u64 gen] w fun x w' => ∃ r, x = .returned (.tuple #[r, .int .i64 0]) ∧ Pgk w.heap.size w' r (P255 S xs gen) (nc S) ∧ Below w.heap.size w w' := by
  have ⟨s1, s2⟩ := rt_sec hr
  have hn := nc_le s1 s2
  have SK : Hid (∀ w0, Calls Tryz.prog 33 #[.agg (ints .i64 [g0, g1, (S : Int), g3, g4, g5])] w0 fun x w' => x = .returned (.int .i64 0) ∧ Below w0.heap.size w0 w') := ge.check_yes [g0, g1, (S : Int), g3, g4, g5] rfl hr
  have SS : Hid (∀ w0, Below w.heap.size w w0 → Calls Tryz.prog 89 #[.agg (ints .i64 [g0, g1, (S : Int), g3, g4, g5]), v] w0 fun x w' => ∃ ro rc, x = .returned (.slice ro (nc S) rc) ∧ Pgs w' (.slice ro (nc S) rc) (secs S xs) ∧ Below w0.heap.size w0 w') := fun w0 q => (sectors_any g0 g1 g3 g4 g5 S v xs w0 (hb.below q) hl hr).mono fun _ _ ⟨r, e, hp, hB⟩ => by
    obtain ⟨ao, cap, rfl, -⟩ := hp.at
    rw [secs_len] at e hp
    exact ⟨ao, cap, e, hp, hB⟩
  have SH : Hid (∀ {k : Nat} w0, Calls Tryz.prog 82 #[.agg (ints .i64 [g0, g1, (S : Int), g3, g4, g5]), .int .i64 (k : Int), .int .u64 gen] w0 fun x w' => x = .returned (.agg (hv 4 (k : Int) 0 (nc S : Int) gen 0).toArray) ∧ Below w0.heap.size w0 w') := fun {k} w0 => headof_any g0 g1 g3 g4 g5 S k gen w0 hr
  have SM : Hid (∀ {k : Nat} w0 u, k < nc S → Below w.heap.size w w0 → Byt w0 u (sec S xs k) → Calls Tryz.prog 90 #[.agg (ints .i64 [g0, g1, (S : Int), g3, g4, g5]), .agg (hv 4 (k : Int) 0 (nc S : Int) gen 0).toArray, u, .slice none 0 0] w0 fun x w' => ∃ v, x = .returned (.tuple #[v, .int .i64 0]) ∧ Own w0.heap.size w' v (P255 S xs gen k) ∧ Below w0.heap.size w0 w') := fun {k} w0 u hk q hu => by
    have z := make_yes g0 g1 g3 g4 g5 S 4 k 0 (nc S) gen 0 u (.slice none 0 0) (sec S xs k) [] w0 hu (Byt.nil w0) ⟨⟨by omega, by omega⟩, hg, by omega, by omega⟩ (hT.below q) hr (.inr (sec_len s1 s2 hl hk)) (rh_k s1 s2 hk) (.inl rfl)
    rwa [make_p255 s1 s2 hl hk] at z
  have LS : Hid ((secs S xs).length = nc S ∧ ∀ i, i < nc S → (secs S xs).getD i [] = sec S xs i) := ⟨secs_len S xs, fun i hi => secs_at S xs i hi⟩
  have ⟨ao, cap, ev⟩ := byt_form hb hl
  subst ev
  generalize P255 S xs gen = F at SM ⊢
  generalize secs S xs = ss at SS LS
  generalize sec S xs = sq at SM LS
  generalize nc S = N at SS SH SM LS hn ⊢
  have n1 : 1 ≤ N := hn.1
  have n20 : N ≤ 20 := hn.2.1
  clear hr hb hl hn hT hg s1 s2
  have t0 : (0 : Nat) = 0 := rfl
  go_enter Tryz.func67, Tryz.ntmps67
  go_wp2_with (first
    | (have q2 := t2; go_at_call 89; refine (SS.out w2 BB.out).mono ?_; rintro e9 w3 ⟨so9, sc9, rfl, y9, B9⟩; have HB0 : Hid (Vr w3 w.heap.size [.int .i64 g0, .int .i64 g1, .int .i64 (S : Int), .int .i64 g3, .int .i64 g4, .int .i64 g5]) := HB0.out.below B9 (range_lt HB0.out.1 (Nat.succ_pos _)); have HP : Hid (Pgs w3 (.slice so9 N sc9) ss) := y9; have BB : Hid (Below w.heap.size w w3) := BB.out.trans (B9.mono BB.out.size); clear hb0_0 hb0_1 hb0_2 hb0_3 hb0_4 hb0_5; have hb0_0 := HB0.out.cell 0 _ rfl; have hb0_1 := HB0.out.cell 1 _ rfl; have hb0_2 := HB0.out.cell 2 _ rfl; have hb0_3 := HB0.out.cell 3 _ rfl; have hb0_4 := HB0.out.cell 4 _ rfl; have hb0_5 := HB0.out.cell 5 _ rfl; clear B9 y9; clear t2; have t3 : (1 : Nat) = 1 := rfl)
    | (have q1 := t1; go_at_call 33; refine (SK.out w1).mono ?_; rintro e9 w2 ⟨rfl, B9⟩; have HB0 : Hid (Vr w2 w.heap.size [.int .i64 g0, .int .i64 g1, .int .i64 (S : Int), .int .i64 g3, .int .i64 g4, .int .i64 g5]) := HB0.out.below B9 (range_lt HB0.out.1 (Nat.succ_pos _)); have BB : Hid (Below w.heap.size w w2) := BB.out.trans (B9.mono BB.out.size); clear hb0_0 hb0_1 hb0_2 hb0_3 hb0_4 hb0_5; have hb0_0 := HB0.out.cell 0 _ rfl; have hb0_1 := HB0.out.cell 1 _ rfl; have hb0_2 := HB0.out.cell 2 _ rfl; have hb0_3 := HB0.out.cell 3 _ rfl; have hb0_4 := HB0.out.cell 4 _ rfl; have hb0_5 := HB0.out.cell 5 _ rfl; clear B9; clear t1; have t2 : (1 : Nat) = 1 := rfl)
    | (have q0 := t0; refine box_lawC _ [.int .i64 g0, .int .i64 g1, .int .i64 (S : Int), .int .i64 g3, .int .i64 g4, .int .i64 g5] rfl ?_; intro w1 X9 B9 l9; have HB0 : Hid (Vr w1 w.heap.size [.int .i64 g0, .int .i64 g1, .int .i64 (S : Int), .int .i64 g3, .int .i64 g4, .int .i64 g5]) := X9; have BB : Hid (Below w.heap.size w w1) := B9; have hb0_0 := HB0.out.cell 0 _ rfl; have hb0_1 := HB0.out.cell 1 _ rfl; have hb0_2 := HB0.out.cell 2 _ rfl; have hb0_3 := HB0.out.cell 3 _ rfl; have hb0_4 := HB0.out.cell 4 _ rfl; have hb0_5 := HB0.out.cell 5 _ rfl; clear X9 B9 l9; clear t0; have t1 : (1 : Nat) = 1 := rfl))
  have BY : Hid (Below w.heap.size w w3) := BB.out
  go_loopw [25, 8] (fun i r wr => ∃ k : Nat, k ≤ N ∧ i = .int .i64 (k : Int) ∧ Pgk w3.heap.size wr r F k ∧ Below w3.heap.size w3 wr) (fun i _ _ => N - (intOf i).toNat)
  case atStart => exact ⟨0, Nat.zero_le _, rfl, Pgk.nil _ _ _, Below.refl _ _⟩
  case round =>
    obtain ⟨k, hk, rfl, hR, hB⟩ := hrel
    have BB : Hid (Below w3.heap.size w3 wr) := hB
    clear hB
    by_cases hlt : k < N
    · have lk : (k : Int) < (N : Int) := by omega
      have HR : Hid (Pgk w3.heap.size wr u8 F k) := hR
      obtain ⟨ao', cap', e9, -, -, h9⟩ := HP.out.at
      rw [LS.out.1] at e9 h9
      cases e9
      obtain ⟨b, off, rfl, hc⟩ := h9 (by omega)
      obtain ⟨u, hu1, hu2⟩ := hc k hlt
      rw [LS.out.2 k hlt] at hu2
      have HU : Hid (Byt w3 u (sq k)) := hu2
      have hu1 : wr.cell? ⟨b, off + k, none⟩ = some u := by rw [BB.out.cell (World.block_lt_of_cell? _ _ hu1)]; exact hu1
      clear hR hc h9 hu2
      go_wp2
      have HR : Hid (Pgk w3.heap.size wr.drew u8 F k) := HR.out.below (Below.refl _ _).drew
      refine wp_region_held_drew (S := fun w' => Below w3.heap.size w3 w') (by kernel_rfl) BB.out.drew (fun hS => ?_)
      obtain ⟨x1, hx0⟩ : ∃ x, x = wr.drew := ⟨_, rfl⟩
      rw [← hx0] at hS HR ⊢
      clear hx0
      refine take_lawH 0 (some 31) (.agg ([.int .i64 g0, .int .i64 g1, .int .i64 (S : Int), .int .i64 g3, .int .i64 g4, .int .i64 g5] : List Value).toArray) rfl rfl (by kernel_rfl) (by kernel_rfl) (by kernel_rfl) (fun _ _ _ h => h) (Or.inl ⟨by rfl, fun w' hw' => by exact exec_loadN 23 (.tmp 3) rfl _ rfl _ _ (load_cells rowy_geo (HB0.out.below hw' (range_lt HB0.out.1 (Nat.succ_pos _))).1)⟩) hS ?_
      simp only [Act.put, List.setIfInBounds_toArray, List.set_cons_zero, List.set_cons_succ]
      refine take_lawH 1 (some 32) (.agg ([.int .i64 g0, .int .i64 g1, .int .i64 (S : Int), .int .i64 g3, .int .i64 g4, .int .i64 g5] : List Value).toArray) rfl rfl (by kernel_rfl) (by kernel_rfl) (by kernel_rfl) (fun _ _ _ h => h) (Or.inl ⟨by rfl, fun w' hw' => by exact exec_loadN 23 (.tmp 3) rfl _ rfl _ _ (load_cells rowy_geo (HB0.out.below hw' (range_lt HB0.out.1 (Nat.succ_pos _))).1)⟩) hS ?_
      simp only [Act.put, List.setIfInBounds_toArray, List.set_cons_zero, List.set_cons_succ]
      refine take_lawH 2 (some 33) (.int .i64 (k : Int)) rfl rfl (by kernel_rfl) (by kernel_rfl) (by kernel_rfl) (fun _ _ _ h => h) (Or.inl ⟨by rfl, fun w' hw' => by rfl⟩) hS ?_
      simp only [Act.put, List.setIfInBounds_toArray, List.set_cons_zero, List.set_cons_succ]
      refine take_lawH 3 (some 34) (.int .u64 gen) rfl rfl (by kernel_rfl) (by kernel_rfl) (by kernel_rfl) (fun _ _ _ h => h) (Or.inl ⟨by rfl, fun w' hw' => by rfl⟩) hS ?_
      simp only [Act.put, List.setIfInBounds_toArray, List.set_cons_zero, List.set_cons_succ]
      refine take_lawH 5 (some 36) (u) rfl rfl (by kernel_rfl) (by kernel_rfl) (by kernel_rfl) (fun _ _ _ h => h) (Or.inl ⟨by rfl, fun w' hw' => by rfl⟩) hS ?_
      simp only [Act.put, List.setIfInBounds_toArray, List.set_cons_zero, List.set_cons_succ]
      refine wpAnyH_ready (rs := [4]) (by kernel_rfl) (by simp) ?_
      refine AllReadyH.cons rfl (fun K hK => ?_) AllReadyH.nil
      refine step_callW _ (by rfl) (some 35) rfl 82 #[.tmp 32, .tmp 33, .tmp 34] #[23, 3, 41] rfl (fun q w' => by rfl) #[.agg ([.int .i64 g0, .int .i64 g1, .int .i64 (S : Int), .int .i64 g3, .int .i64 g4, .int .i64 g5] : List Value).toArray, .int .i64 (k : Int), .int .u64 gen] (by simp only [List.map_toArray, List.map_cons, List.map_nil]; rfl) (fun u w' => u = .agg (hv 4 (k : Int) 0 (N : Int) gen 0).toArray ∧ Below x1.heap.size x1 w') ?_ ?_
      · exact (SH.out x1).mono fun e w' ⟨h1, h2⟩ => ⟨_, h1, rfl, h2⟩
      rintro _ x2 ⟨rfl, hb⟩
      have HR : Hid (Pgk w3.heap.size x2 u8 F k) := HR.out.below hb
      have hS : Below w3.heap.size w3 x2 := hS.trans (hb.mono hS.size)
      clear hb
      refine hK.out _ _ hS (fun _ => ?_)
      simp only [Act.put, List.setIfInBounds_toArray, List.set_cons_zero, List.set_cons_succ]
      clear hK K
      refine wpAnyH_ready (rs := [6]) (by kernel_rfl) (by simp) ?_
      refine AllReadyH.cons rfl (fun K hK => ?_) AllReadyH.nil
      refine step_callW _ (by rfl) (some 37) rfl 90 #[.tmp 31, .tmp 35, .tmp 36, .const (.slice none 0 0)] #[23, 119, 35, 35] rfl (fun q w' => by rfl) #[.agg ([.int .i64 g0, .int .i64 g1, .int .i64 (S : Int), .int .i64 g3, .int .i64 g4, .int .i64 g5] : List Value).toArray, .agg (hv 4 (k : Int) 0 (N : Int) gen 0).toArray, u, .slice none 0 0] (by simp only [List.map_toArray, List.map_cons, List.map_nil]; rfl) (fun u w' => (∃ v, u = .tuple #[v, .int .i64 0] ∧ Own x2.heap.size w' v (F k)) ∧ Below x2.heap.size x2 w') ?_ ?_
      · exact (SM.out x2 u hlt (BY.out.trans (hS.mono BY.out.size)) (HU.out.below hS)).mono fun e w' ⟨v, h1, h2, h3⟩ => ⟨_, h1, ⟨v, rfl, h2⟩, h3⟩
      rintro _ x3 ⟨⟨pv, rfl, o9⟩, hb⟩
      have HR : Hid (Pgk w3.heap.size x3 u8 F k) := HR.out.below hb
      have HO : Hid (Own w3.heap.size x3 pv (F k)) := own_less o9 hS.size
      clear o9
      have hS : Below w3.heap.size w3 x3 := hS.trans (hb.mono hS.size)
      clear hb
      refine hK.out _ _ hS (fun _ => ?_)
      simp only [Act.put, List.setIfInBounds_toArray, List.set_cons_zero, List.set_cons_succ]
      clear hK K
      refine take_lawH 7 (some 30) (.tuple #[pv, .int .i64 0]) rfl rfl (by kernel_rfl) (by kernel_rfl) (by kernel_rfl) (fun _ _ _ h => h) (Or.inl ⟨by rfl, fun w' hw' => by rfl⟩) hS ?_
      simp only [Act.put, List.setIfInBounds_toArray, List.set_cons_zero, List.set_cons_succ]
      refine take_lawH 8 (some 38) (pv) rfl rfl (by kernel_rfl) (by kernel_rfl) (by kernel_rfl) (fun _ _ _ h => h) (Or.inl ⟨by rfl, fun w' hw' => by rfl⟩) hS ?_
      simp only [Act.put, List.setIfInBounds_toArray, List.set_cons_zero, List.set_cons_succ]
      refine take_lawH 9 (some 39) (.int .i64 0) rfl rfl (by kernel_rfl) (by kernel_rfl) (by kernel_rfl) (fun _ _ _ h => h) (Or.inl ⟨by rfl, fun w' hw' => by rfl⟩) hS ?_
      simp only [Act.put, List.setIfInBounds_toArray, List.set_cons_zero, List.set_cons_succ]
      refine take_lawH 10 (some 11) (pv) rfl rfl (by kernel_rfl) (by kernel_rfl) (by kernel_rfl) (fun _ _ _ h => h) (Or.inl ⟨by rfl, fun w' hw' => by rfl⟩) hS ?_
      simp only [Act.put, List.setIfInBounds_toArray, List.set_cons_zero, List.set_cons_succ]
      refine take_lawH 11 (some 12) (.int .i64 0) rfl rfl (by kernel_rfl) (by kernel_rfl) (by kernel_rfl) (fun _ _ _ h => h) (Or.inl ⟨by rfl, fun w' hw' => by rfl⟩) hS ?_
      simp only [Act.put, List.setIfInBounds_toArray, List.set_cons_zero, List.set_cons_succ]
      refine wpAnyH_done (by kernel_rfl) ?_ _
      have t50 : (1 : Nat) = 1 := rfl
      go_wp2_with (first
        | (have q51 := t51; at_builtin; refine push_lawP _ rfl (.tmp 40) (.tmp 42) rfl w3.heap.size x3.heap.size hS.out.size u8 _ pv F k rfl rfl HR.out O8.out HO.out (own_sle HO.out) (by omega) ?_; intro v3 wz o9 B9 k9; have HZ : Hid (Pgk w3.heap.size wz v3 F (k + 1)) := o9; have BZ : Hid (Below w3.heap.size w3 wz) := hS.out.trans B9; clear o9 B9 k9 t51 hS)
        | (have q50 := t50; refine one_lawR _ rfl (.tmp 41) rfl pv (own_sle HO.out) rfl ?_; intro wy o8 B8; have O8 : Hid (OwnR x3.heap.size wy (.slice (some ⟨x3.heap.size, 0, none⟩) 1 1) [pv]) := o8; have HR : Hid (Pgk w3.heap.size wy u8 F k) := HR.out.below B8; have HO : Hid (Own w3.heap.size wy pv (F k)) := own_low HO.out B8; have hS : Hid (Below w3.heap.size w3 wy) := hS.trans (B8.mono hS.size); clear o8 B8 t50; have t51 : (1 : Nat) = 1 := rfl))
      go_roundw
      case rel => exact ⟨k + 1, by omega, by go_num, HZ.out, BZ.out⟩
      case measure => simp [intOf]; omega
    · have ek : k = N := by omega
      subst ek
      have HR : Hid (Pgk w3.heap.size wr u8 F k) := hR
      clear hR
      go_wp2
      go_ret2
      exact ⟨_, rfl, HR.out.less BY.out.size, BY.out.trans (BB.out.mono BY.out.size)⟩
end Go.Proofs.YtakibiigcdgohaaGreatDoor.ck
