/- A record's pages, the last one committed, hold it, of its generation; not committed, they hold none; nor do they without one of them: in any right geometry of sectors of 700 bytes at most, of any generation. Of other geometries: the program answers. No condition. -/
import Derived.Test.YtahfcpdekjdceaaDoorCards
import Derived.Test.YtahfcpdekjdceaaDoorTie
import Derived.Test.YtahfcpdekjdceaaDoorPackJ
import Derived.Test.YtahfcpdekjdceaaDoorPackL
import Derived.Test.YtahfcpdekjdceaaDoorXKBk
import Derived.Test.YtahfcpdekjdceaaDoorPackM
namespace Go.Proofs.YtahfcpdekjdceaaDoor.chunkBack
open Go.ChangeShapes Go.WideShapes Go.ChangeAt Go.RowKit Go.Proofs.YtahfcpdekjdceaaDoor.ck Go.Proofs.YtahfcpdekjdceaaDoor.pa Go.Proofs.YtahfcpdekjdceaaDoor.he Go.Proofs.YtahfcpdekjdceaaDoor.fa
set_option maxRecDepth 20000

set_option maxHeartbeats 4000000 in
theorem walk_geo (g0 g1 g2 g3 g4 g5 : Int) (gen cut : Int) (w : World) (hT : Tab w) (hr : ¬ ge.Rt [g0, g1, g2, g3, g4, g5]) :
    Calls Tryd.prog 6 #[.agg (ints .i64 [g0, g1, g2, g3, g4, g5]), .int .u64 gen, .int .u8 cut] w fun x w' => x = .returned (.bool true) ∧ Below w.heap.size w w' := by
  have SW : Hid (∀ w0, Below w.heap.size w w0 → Calls Tryd.prog 9 #[] w0 fun x w' => x = .returned (.bool true) ∧ Below w0.heap.size w0 w') := fun w0 q => ck.awake_any w0 (hT.below q)
  have SG : Hid (∀ w0, Calls Tryd.prog 8 #[.agg (ints .i64 [g0, g1, g2, g3, g4, g5])] w0 fun x w' => x = .returned (.bool false) ∧ Below w0.heap.size w0 w') := ge.right_no [g0, g1, g2, g3, g4, g5] rfl hr
  clear hT hr
  have t0 : (0 : Nat) = 0 := rfl
  go_enter Tryd.func6, Tryd.ntmps6
  go_wp2_with (first
    | (have q2 := t2; go_at_call 9; refine (SW.out w2 BB.out).mono ?_; rintro e9 w3 ⟨rfl, B9⟩; have HB0 : Hid (Vr w3 w.heap.size [.int .i64 g0, .int .i64 g1, .int .i64 g2, .int .i64 g3, .int .i64 g4, .int .i64 g5]) := HB0.out.below B9 (range_lt HB0.out.1 (Nat.succ_pos _)); have BB : Hid (Below w.heap.size w w3) := BB.out.trans (B9.mono BB.out.size); clear hb0_0 hb0_1 hb0_2 hb0_3 hb0_4 hb0_5; have hb0_0 := HB0.out.cell 0 _ rfl; have hb0_1 := HB0.out.cell 1 _ rfl; have hb0_2 := HB0.out.cell 2 _ rfl; have hb0_3 := HB0.out.cell 3 _ rfl; have hb0_4 := HB0.out.cell 4 _ rfl; have hb0_5 := HB0.out.cell 5 _ rfl; clear B9; clear t2; have t3 : (1 : Nat) = 1 := rfl)
    | (have q1 := t1; go_at_call 8; refine (SG.out w1).mono ?_; rintro e9 w2 ⟨rfl, B9⟩; have HB0 : Hid (Vr w2 w.heap.size [.int .i64 g0, .int .i64 g1, .int .i64 g2, .int .i64 g3, .int .i64 g4, .int .i64 g5]) := HB0.out.below B9 (range_lt HB0.out.1 (Nat.succ_pos _)); have BB : Hid (Below w.heap.size w w2) := BB.out.trans (B9.mono BB.out.size); clear hb0_0 hb0_1 hb0_2 hb0_3 hb0_4 hb0_5; have hb0_0 := HB0.out.cell 0 _ rfl; have hb0_1 := HB0.out.cell 1 _ rfl; have hb0_2 := HB0.out.cell 2 _ rfl; have hb0_3 := HB0.out.cell 3 _ rfl; have hb0_4 := HB0.out.cell 4 _ rfl; have hb0_5 := HB0.out.cell 5 _ rfl; clear B9; clear t1; have t2 : (1 : Nat) = 1 := rfl)
    | (have q0 := t0; refine box_lawC _ [.int .i64 g0, .int .i64 g1, .int .i64 g2, .int .i64 g3, .int .i64 g4, .int .i64 g5] rfl ?_; intro w1 X9 B9 l9; have HB0 : Hid (Vr w1 w.heap.size [.int .i64 g0, .int .i64 g1, .int .i64 g2, .int .i64 g3, .int .i64 g4, .int .i64 g5]) := X9; have BB : Hid (Below w.heap.size w w1) := B9; have hb0_0 := HB0.out.cell 0 _ rfl; have hb0_1 := HB0.out.cell 1 _ rfl; have hb0_2 := HB0.out.cell 2 _ rfl; have hb0_3 := HB0.out.cell 3 _ rfl; have hb0_4 := HB0.out.cell 4 _ rfl; have hb0_5 := HB0.out.cell 5 _ rfl; clear X9 B9 l9; clear t0; have t1 : (1 : Nat) = 1 := rfl))
  go_ret
  exact ⟨rfl, BB.out⟩

set_option maxHeartbeats 4000000 in
theorem walk_far (g0 g1 g3 g4 g5 : Int) (S : Nat) (gen cut : Int) (w : World) (hT : Tab w) (hr : ge.Rt [g0, g1, (S : Int), g3, g4, g5]) (hs : ¬ (S : Int) ≤ 700) :
    Calls Tryd.prog 6 #[.agg (ints .i64 [g0, g1, (S : Int), g3, g4, g5]), .int .u64 gen, .int .u8 cut] w fun x w' => x = .returned (.bool true) ∧ Below w.heap.size w w' := by
  have SW : Hid (∀ w0, Below w.heap.size w w0 → Calls Tryd.prog 9 #[] w0 fun x w' => x = .returned (.bool true) ∧ Below w0.heap.size w0 w') := fun w0 q => ck.awake_any w0 (hT.below q)
  have SG : Hid (∀ w0, Calls Tryd.prog 8 #[.agg (ints .i64 [g0, g1, (S : Int), g3, g4, g5])] w0 fun x w' => x = .returned (.bool true) ∧ Below w0.heap.size w0 w') := ge.right_yes [g0, g1, (S : Int), g3, g4, g5] rfl hr
  have SL : Hid (∀ w0, Calls Tryd.prog 10 #[.agg (ints .i64 [g0, g1, (S : Int), g3, g4, g5])] w0 fun x w' => x = .returned (.bool false) ∧ Below w0.heap.size w0 w') := fun w0 => light_no g0 g1 (S : Int) g3 g4 g5 w0 hs
  clear hT hr hs
  have t0 : (0 : Nat) = 0 := rfl
  go_enter Tryd.func6, Tryd.ntmps6
  go_wp2_with (first
    | (have q3 := t3; go_at_call 9; refine (SW.out w3 BB.out).mono ?_; rintro e9 w4 ⟨rfl, B9⟩; have HB0 : Hid (Vr w4 w.heap.size [.int .i64 g0, .int .i64 g1, .int .i64 (S : Int), .int .i64 g3, .int .i64 g4, .int .i64 g5]) := HB0.out.below B9 (range_lt HB0.out.1 (Nat.succ_pos _)); have BB : Hid (Below w.heap.size w w4) := BB.out.trans (B9.mono BB.out.size); clear hb0_0 hb0_1 hb0_2 hb0_3 hb0_4 hb0_5; have hb0_0 := HB0.out.cell 0 _ rfl; have hb0_1 := HB0.out.cell 1 _ rfl; have hb0_2 := HB0.out.cell 2 _ rfl; have hb0_3 := HB0.out.cell 3 _ rfl; have hb0_4 := HB0.out.cell 4 _ rfl; have hb0_5 := HB0.out.cell 5 _ rfl; clear B9; clear t3; have t4 : (1 : Nat) = 1 := rfl)
    | (have q2 := t2; go_at_call 10; refine (SL.out w2).mono ?_; rintro e9 w3 ⟨rfl, B9⟩; have HB0 : Hid (Vr w3 w.heap.size [.int .i64 g0, .int .i64 g1, .int .i64 (S : Int), .int .i64 g3, .int .i64 g4, .int .i64 g5]) := HB0.out.below B9 (range_lt HB0.out.1 (Nat.succ_pos _)); have BB : Hid (Below w.heap.size w w3) := BB.out.trans (B9.mono BB.out.size); clear hb0_0 hb0_1 hb0_2 hb0_3 hb0_4 hb0_5; have hb0_0 := HB0.out.cell 0 _ rfl; have hb0_1 := HB0.out.cell 1 _ rfl; have hb0_2 := HB0.out.cell 2 _ rfl; have hb0_3 := HB0.out.cell 3 _ rfl; have hb0_4 := HB0.out.cell 4 _ rfl; have hb0_5 := HB0.out.cell 5 _ rfl; clear B9; clear t2; have t3 : (1 : Nat) = 1 := rfl)
    | (have q1 := t1; go_at_call 8; refine (SG.out w1).mono ?_; rintro e9 w2 ⟨rfl, B9⟩; have HB0 : Hid (Vr w2 w.heap.size [.int .i64 g0, .int .i64 g1, .int .i64 (S : Int), .int .i64 g3, .int .i64 g4, .int .i64 g5]) := HB0.out.below B9 (range_lt HB0.out.1 (Nat.succ_pos _)); have BB : Hid (Below w.heap.size w w2) := BB.out.trans (B9.mono BB.out.size); clear hb0_0 hb0_1 hb0_2 hb0_3 hb0_4 hb0_5; have hb0_0 := HB0.out.cell 0 _ rfl; have hb0_1 := HB0.out.cell 1 _ rfl; have hb0_2 := HB0.out.cell 2 _ rfl; have hb0_3 := HB0.out.cell 3 _ rfl; have hb0_4 := HB0.out.cell 4 _ rfl; have hb0_5 := HB0.out.cell 5 _ rfl; clear B9; clear t1; have t2 : (1 : Nat) = 1 := rfl)
    | (have q0 := t0; refine box_lawC _ [.int .i64 g0, .int .i64 g1, .int .i64 (S : Int), .int .i64 g3, .int .i64 g4, .int .i64 g5] rfl ?_; intro w1 X9 B9 l9; have HB0 : Hid (Vr w1 w.heap.size [.int .i64 g0, .int .i64 g1, .int .i64 (S : Int), .int .i64 g3, .int .i64 g4, .int .i64 g5]) := X9; have BB : Hid (Below w.heap.size w w1) := B9; have hb0_0 := HB0.out.cell 0 _ rfl; have hb0_1 := HB0.out.cell 1 _ rfl; have hb0_2 := HB0.out.cell 2 _ rfl; have hb0_3 := HB0.out.cell 3 _ rfl; have hb0_4 := HB0.out.cell 4 _ rfl; have hb0_5 := HB0.out.cell 5 _ rfl; clear X9 B9 l9; clear t0; have t1 : (1 : Nat) = 1 := rfl))
  go_ret
  exact ⟨rfl, BB.out⟩

set_option maxHeartbeats 8000000 in
theorem walk_near (g0 g1 g3 g4 g5 : Int) (S : Nat) (gen cut : Int) (w : World) (hT : Tab w) (hr : ge.Rt [g0, g1, (S : Int), g3, g4, g5]) (hs : (S : Int) ≤ 700) (hg : 0 ≤ gen ∧ gen ≤ 18446744073709551615) (hc : 0 ≤ cut ∧ cut ≤ 255) :
    Calls Tryd.prog 6 #[.agg (ints .i64 [g0, g1, (S : Int), g3, g4, g5]), .int .u64 gen, .int .u8 cut] w fun x w' => x = .returned (.bool true) ∧ Below w.heap.size w w' := by
  have ⟨s1, s2⟩ := rt_sec hr
  have hn := nc_le s1 s2
  have SW : Hid (∀ w0, Below w.heap.size w w0 → Calls Tryd.prog 9 #[] w0 fun x w' => x = .returned (.bool true) ∧ Below w0.heap.size w0 w') := fun w0 q => ck.awake_any w0 (hT.below q)
  have SG : Hid (∀ w0, Calls Tryd.prog 8 #[.agg (ints .i64 [g0, g1, (S : Int), g3, g4, g5])] w0 fun x w' => x = .returned (.bool true) ∧ Below w0.heap.size w0 w') := ge.right_yes [g0, g1, (S : Int), g3, g4, g5] rfl hr
  have SL : Hid (∀ w0, Calls Tryd.prog 10 #[.agg (ints .i64 [g0, g1, (S : Int), g3, g4, g5])] w0 fun x w' => x = .returned (.bool true) ∧ Below w0.heap.size w0 w') := fun w0 => light_yes g0 g1 (S : Int) g3 g4 g5 w0 hs
  have HR : Hid (ge.Rt [g0, g1, (S : Int), g3, g4, g5] ∧ Tab w ∧ (0 ≤ gen ∧ gen ≤ 18446744073709551615) ∧ (32 ≤ S ∧ S ≤ 4096)) := ⟨hr, hT, hg, s1, s2⟩
  obtain ⟨N, eN⟩ : ∃ N, nc S = N := ⟨_, rfl⟩
  have EN : Hid (nc S = N) := eN
  obtain ⟨M, eM⟩ : ∃ M, N = M + 1 := ⟨N - 1, by omega⟩
  have EM : Hid (N = M + 1) := eM
  have hNM : (N : Int) - 1 = (M : Int) := by omega
  have n1 : ((N : Int) == 0) = false := beq_eq_false_iff_ne.2 (by omega)
  have n2 : (N : Int) ≠ 0 := by omega
  have m20 : M ≤ 20 := by omega
  have n20 : N ≤ 20 := by omega
  obtain ⟨J, eK⟩ : ∃ J : Nat, (J : Int) = cut % (N : Int) := ⟨(cut % (N : Int)).toNat, by have := Int.emod_nonneg cut n2; omega⟩
  have kN : J < N := by have := Int.emod_lt_of_pos cut (show (0 : Int) < (N : Int) by omega); omega
  have k1 : cut % (N : Int) = (J : Int) := eK.symm
  have k2 : cut.tmod (N : Int) = (J : Int) := by rw [Int.tmod_eq_emod_of_nonneg hc.1]; exact k1
  have c0 : 0 ≤ cut := hc.1
  have c1 : cut ≤ 255 := hc.2
  have g0' : 0 ≤ gen := hg.1
  have hS8 : (S : Int) ≤ 4096 := by omega
  clear hT hr hs hg hc s1 s2 hn eN eM eK
  have t0 : (0 : Nat) = 0 := rfl
  go_enter Tryd.func6, Tryd.ntmps6
  go_wp2_with (first
    | (have q2 := t2; go_at_call 10; refine (SL.out w2).mono ?_; rintro e9 w3 ⟨rfl, B9⟩; have HB0 : Hid (Vr w3 w.heap.size [.int .i64 g0, .int .i64 g1, .int .i64 (S : Int), .int .i64 g3, .int .i64 g4, .int .i64 g5]) := HB0.out.below B9 (range_lt HB0.out.1 (Nat.succ_pos _)); have BB : Hid (Below w.heap.size w w3) := BB.out.trans (B9.mono BB.out.size); clear hb0_0 hb0_1 hb0_2 hb0_3 hb0_4 hb0_5; have hb0_0 := HB0.out.cell 0 _ rfl; have hb0_1 := HB0.out.cell 1 _ rfl; have hb0_2 := HB0.out.cell 2 _ rfl; have hb0_3 := HB0.out.cell 3 _ rfl; have hb0_4 := HB0.out.cell 4 _ rfl; have hb0_5 := HB0.out.cell 5 _ rfl; clear B9; clear t2; have t3 : (1 : Nat) = 1 := rfl)
    | (have q1 := t1; go_at_call 8; refine (SG.out w1).mono ?_; rintro e9 w2 ⟨rfl, B9⟩; have HB0 : Hid (Vr w2 w.heap.size [.int .i64 g0, .int .i64 g1, .int .i64 (S : Int), .int .i64 g3, .int .i64 g4, .int .i64 g5]) := HB0.out.below B9 (range_lt HB0.out.1 (Nat.succ_pos _)); have BB : Hid (Below w.heap.size w w2) := BB.out.trans (B9.mono BB.out.size); clear hb0_0 hb0_1 hb0_2 hb0_3 hb0_4 hb0_5; have hb0_0 := HB0.out.cell 0 _ rfl; have hb0_1 := HB0.out.cell 1 _ rfl; have hb0_2 := HB0.out.cell 2 _ rfl; have hb0_3 := HB0.out.cell 3 _ rfl; have hb0_4 := HB0.out.cell 4 _ rfl; have hb0_5 := HB0.out.cell 5 _ rfl; clear B9; clear t1; have t2 : (1 : Nat) = 1 := rfl)
    | (have q0 := t0; refine box_lawC _ [.int .i64 g0, .int .i64 g1, .int .i64 (S : Int), .int .i64 g3, .int .i64 g4, .int .i64 g5] rfl ?_; intro w1 X9 B9 l9; have HB0 : Hid (Vr w1 w.heap.size [.int .i64 g0, .int .i64 g1, .int .i64 (S : Int), .int .i64 g3, .int .i64 g4, .int .i64 g5]) := X9; have BB : Hid (Below w.heap.size w w1) := B9; have hb0_0 := HB0.out.cell 0 _ rfl; have hb0_1 := HB0.out.cell 1 _ rfl; have hb0_2 := HB0.out.cell 2 _ rfl; have hb0_3 := HB0.out.cell 3 _ rfl; have hb0_4 := HB0.out.cell 4 _ rfl; have hb0_5 := HB0.out.cell 5 _ rfl; clear X9 B9 l9; clear t0; have t1 : (1 : Nat) = 1 := rfl))
  have BW : Hid (Below w.heap.size w w3) := BB.out
  clear BB hb0_0 hb0_1 hb0_2 hb0_3 hb0_4 hb0_5
  go_loopw [8, 7] (fun i r wr => ∃ (k : Nat) (xs : List Int), k ≤ 624 ∧ i = .int .i64 (k : Int) ∧ xs.length = k ∧ AllB xs ∧ Own w3.heap.size wr r xs ∧ Below w3.heap.size w3 wr) (fun i _ _ => 624 - (intOf i).toNat)
  case atStart => exact ⟨0, [], Nat.zero_le _, rfl, rfl, allB_mem fun x hx => (by cases hx), Own.empty _ (Nat.le_refl _), (Below.refl _ _).alloc (Nat.le_refl _) _⟩
  case round =>
    obtain ⟨k, xs, hk, rfl, hL, hA, hO, hB⟩ := hrel
    have BR : Hid (Below w3.heap.size w3 wr) := hB
    have BA : Hid (Below w.heap.size w wr) := BW.out.trans (hB.mono BW.out.size)
    have HB0 : Hid (Vr wr w.heap.size [.int .i64 g0, .int .i64 g1, .int .i64 (S : Int), .int .i64 g3, .int .i64 g4, .int .i64 g5]) := HB0.out.below hB (range_lt HB0.out.1 (Nat.succ_pos _))
    clear hB
    by_cases hlt : k < 624
    · have lk : (k : Int) < 624 := by omega
      have HO : Hid (Own w3.heap.size wr u7 xs) := hO
      have HX : Hid (AllB xs ∧ xs.length = k) := ⟨hA, hL⟩
      clear hO hA hL
      go_wp2_with (at_builtin; refine push_law _ rfl (.tmp 36) (.tmp 44) rfl w3.heap.size BR.out.size u7 xs _ rfl rfl HO.out (by have := HX.out.2; omega) ?_; intro v3 wz o9 B9; have BZ : Hid (Below w3.heap.size w3 wz) := BR.out.trans B9; clear B9)
      go_roundw
      case rel => exact ⟨k + 1, _, by omega, by go_num, by rw [List.length_append, HX.out.2]; rfl, allB_app HX.out.1 (allB_mem fun y hy => by simp only [List.mem_singleton] at hy; subst hy; omega), o9, BZ.out⟩
      case measure => simp [intOf]; omega
    · have hb0_0 := HB0.out.cell 0 _ rfl
      have hb0_1 := HB0.out.cell 1 _ rfl
      have hb0_2 := HB0.out.cell 2 _ rfl
      have hb0_3 := HB0.out.cell 3 _ rfl
      have hb0_4 := HB0.out.cell 4 _ rfl
      have hb0_5 := HB0.out.cell 5 _ rfl
      have lk : ¬ ((k : Int) < 624) := by omega
      have ek : k = 624 := by omega
      subst ek
      have ⟨r1, r2, r3, r4, r5⟩ := HR.out
      have XA : Hid (AllB xs) := hA
      have HO : Hid (Own w3.heap.size wr u7 xs) := hO
      have xl : xs.length = 624 := hL
      have fa2 : ∀ i, i < N → AllB (P255 S xs gen i) := fun i hi => p255_all r4 r5 (by rw [EN.out]; exact hi) hA
      have FA : Hid (∀ i, i < N → AllB (P255 S xs gen i)) := fa2
      have MN : Hid (M < N) := (by show M < N; have := EM.out; omega)
      have N0 : Hid (0 < N) := (by show 0 < N; have := EM.out; omega)
      have SP : Hid (∀ w0, w0 = wr → Calls Tryd.prog 7 #[.agg (ints .i64 [g0, g1, (S : Int), g3, g4, g5]), u7, .int .u64 gen] w0 fun x w' => ∃ g cap vs zo zc, x = .returned (.tuple #[.slice (some ⟨g, 0, none⟩) N cap, .int .i64 0]) ∧ PgB wr.heap.size w' g cap N vs (P255 S xs gen) ∧ vs.getD M undef = .slice zo (S + 88) zc ∧ (N ≤ cap ∧ cap ≤ 9223372036854775807) ∧ w.heap.size < g ∧ Below w0.heap.size w0 w') := fun w0 q => by
        subst q
        refine (pages_yes g0 g1 g3 g4 g5 S u7 xs gen w0 r1 (hO.byt hA) xl r3 (r2.below BA.out)).mono ?_
        rintro x w' ⟨r, e, ⟨vs, p1, p2, p3⟩, hB⟩
        rw [EN.out] at p2 p3
        obtain ⟨g, cap, rfl, q1, q2, -⟩ := ownr_vr p1 (by rw [p2]; exact N0.out)
        rw [p2] at e p1
        obtain ⟨zo, zc, ez⟩ := byt_form (n := S + 88) ((p3 M MN.out).byt (fa2 M MN.out)) (pgk_len r4 r5 xl (by rw [EN.out]; exact MN.out) (by simp))
        obtain ⟨ao, c2, ev, v1, v2, -⟩ := p1.vals
        cases ev
        exact ⟨g, cap, vs, zo, zc, e, ⟨p1, p2, p3⟩, ez, ⟨by rw [← p2]; exact v1, v2⟩, Nat.lt_of_lt_of_le (range_lt HB0.out.1 (Nat.succ_pos _)) q1, hB⟩
      have SH1 : Hid (∀ w0 g cap vs, Below w.heap.size w w0 → PgB wr.heap.size w0 g cap N vs (P255 S xs gen) → Calls Tryd.prog 14 #[.agg (ints .i64 [g0, g1, (S : Int), g3, g4, g5]), .slice (some ⟨g, 0, none⟩) N cap] w0 fun x w' => x = .returned (.tuple #[.int .u64 0, .slice none 0 0, .bool false]) ∧ Below w0.heap.size w0 w') := fun w0 g cap vs q hP => by
        refine (hold_any g0 g1 g3 g4 g5 S _ _ w0 r1 (r2.below q) (hP.pgs fa2)).mono ?_
        rintro x w' ⟨⟨h1, -⟩ | ⟨-, h2⟩, h3⟩
        · rw [← EN.out, ← kps_p255] at h1
          exact absurd h1 (kps_not r4 r5 xl)
        · exact ⟨h2, h3⟩
      have SC : Hid (∀ w0, Calls Tryd.prog 19 #[.agg (ints .i64 [g0, g1, (S : Int), g3, g4, g5])] w0 fun x w' => ∃ v, x = .returned v ∧ Byt w' v (he.mark (S + 88)) ∧ Below w0.heap.size w0 w') := fun w0 => rcommit_any g0 g1 g3 g4 g5 S w0 r5
      have hM : M < nc S := by rw [EN.out]; exact MN.out
      have SA : Hid (∀ w0 u mv, Byt w0 u (P255 S xs gen M) → Byt w0 mv (he.mark (S + 88)) → Calls Tryd.prog 18 #[u, mv] w0 fun x w' => ∃ v, x = .returned v ∧ Own w0.heap.size w' v (pgk S xs gen (List.replicate 8 0) M) ∧ Below w0.heap.size w0 w') := fun w0 u mv h1 h2 => by
        have hlen : (P255 S xs gen M).length = S + 88 := pgk_len r4 r5 xl hM (by simp)
        have z := rand_own u mv _ _ w0 h1 h2 (by rw [hlen, mark_len _ (by omega)]) (by rw [hlen]; omega)
        rwa [pgk_and r4 r5 xl hM hA] at z
      have PA : Hid (AllB (pgk S xs gen (List.replicate 8 0) M)) := pgk_all r4 r5 hM hA (allB_replicate 0 _ (by omega))
      have kq : fl (fun i => if i = M then pgk S xs gen (List.replicate 8 0) M else P255 S xs gen i) N = kps S xs gen (List.replicate 8 0) := by
        unfold fl kps
        rw [EN.out]
        refine List.map_congr_left fun i _ => ?_
        by_cases e : i = M
        · subst e
          rw [if_pos rfl, if_pos (by have := EM.out; omega)]
        · rw [if_neg e, if_neg (by have := EM.out; omega)]
          rfl
      have SH2 : Hid (∀ w0 g cap cs, Below w.heap.size w w0 → (N ≤ cap ∧ cap ≤ 9223372036854775807) → PgV w0 g N cs (fun i => if i = M then pgk S xs gen (List.replicate 8 0) M else P255 S xs gen i) → Calls Tryd.prog 14 #[.agg (ints .i64 [g0, g1, (S : Int), g3, g4, g5]), .slice (some ⟨g, 0, none⟩) N cap] w0 fun x w' => ∃ ro rc, x = .returned (.tuple #[.int .u64 gen, .slice ro 624 rc, .bool true]) ∧ Byt w' (.slice ro 624 rc) xs ∧ Below w0.heap.size w0 w') := fun w0 g cap cs q hc hP => by
        have kh := kps_hold (xs := xs) r4 r5 xl r3
        refine (hold_any g0 g1 g3 g4 g5 S _ _ w0 r1 (r2.below q) (hP.pgs hc.1 hc.2)).mono ?_
        rintro x w' ⟨⟨-, ro, rc, h2, h4⟩ | ⟨h1, -⟩, h3⟩
        · rw [kq, kh.2.1] at h2
          rw [kq, kh.2.2] at h4
          exact ⟨ro, rc, h2, h4, h3⟩
        · rw [kq] at h1
          exact absurd kh.1 h1
      have SH3 : Hid (∀ w0 ao cap, Calls Tryd.prog 14 #[.agg (ints .i64 [g0, g1, (S : Int), g3, g4, g5]), .slice ao M cap] w0 fun x w' => x = .returned (.tuple #[.int .u64 0, .slice none 0 0, .bool false]) ∧ Below w0.heap.size w0 w') := fun w0 ao cap => hold_few g0 g1 g3 g4 g5 S ao M cap w0 r1 hM
      generalize he.mark (S + 88) = MK at SC SA
      generalize pgk S xs gen (List.replicate 8 0) M = PC at SA PA SH2
      generalize P255 S xs gen = F at SP SH1 SA FA SH2
      obtain ⟨T, eT⟩ : ∃ q, S + 88 = q := ⟨_, rfl⟩
      rw [eT] at SP
      have S88 : Hid (IntKind.i64.wrap ((S : Int) + 88) = (T : Int)) := (by show _ = _; rw [ck.wrap_small ⟨by omega, by omega⟩]; omega)
      have TT : Hid (((T : Int) != (T : Int)) = false) := (by show _ = _; simp)
      have K1 : Hid (IntKind.i64.wrap ((J : Int) + 1) = ((J + 1 : Nat) : Int)) := (by show _ = _; rw [ck.wrap_small ⟨by omega, by omega⟩]; omega)
      have KN1 : Hid (J + 1 ≤ N) := (by show _ ≤ _; omega)
      clear hA hO hL xl fa2 r1 r2 r3 r4 r5 hM kq eT lk hk
      have t0 : (0 : Nat) = 0 := rfl
      go_wp2_with (first
        | (have q1 := t1; go_at_call 14; refine (SH1.out w41 g cap vs (BA.out.trans (BB.out.mono BA.out.size)) PB.out).mono ?_; rintro e9 w42 ⟨rfl, B9⟩; have HB0 : Hid (Vr w42 w.heap.size [.int .i64 g0, .int .i64 g1, .int .i64 (S : Int), .int .i64 g3, .int .i64 g4, .int .i64 g5]) := HB0.out.below B9 (range_lt HB0.out.1 (Nat.succ_pos _)); have HO : Hid (Own w3.heap.size w42 u7 xs) := own_low HO.out B9; have PB : Hid (PgB wr.heap.size w42 g cap N vs F) := PB.out.below B9; have BB : Hid (Below wr.heap.size wr w42) := BB.out.trans (B9.mono BB.out.size); clear hb0_0 hb0_1 hb0_2 hb0_3 hb0_4 hb0_5; have hb0_0 := HB0.out.cell 0 _ rfl; have hb0_1 := HB0.out.cell 1 _ rfl; have hb0_2 := HB0.out.cell 2 _ rfl; have hb0_3 := HB0.out.cell 3 _ rfl; have hb0_4 := HB0.out.cell 4 _ rfl; have hb0_5 := HB0.out.cell 5 _ rfl; clear B9; clear t1; have t2 : (1 : Nat) = 1 := rfl)
        | (have q0 := t0; go_at_call 7; refine (SP.out wr rfl).mono ?_; rintro e9 w41 ⟨g, cap, vs, zo, zc, rfl, p9, e9, c9, d9, B9⟩; have HB0 : Hid (Vr w41 w.heap.size [.int .i64 g0, .int .i64 g1, .int .i64 (S : Int), .int .i64 g3, .int .i64 g4, .int .i64 g5]) := HB0.out.below B9 (range_lt HB0.out.1 (Nat.succ_pos _)); have HO : Hid (Own w3.heap.size w41 u7 xs) := own_low HO.out B9; have PB : Hid (PgB wr.heap.size w41 g cap N vs F) := p9; have EZ : Hid (vs.getD M undef = .slice zo T zc) := e9; have CP : Hid (N ≤ cap ∧ cap ≤ 9223372036854775807) := c9; have LG : Hid (w.heap.size < g) := d9; have BB : Hid (Below wr.heap.size wr w41) := B9; clear hb0_0 hb0_1 hb0_2 hb0_3 hb0_4 hb0_5; have hb0_0 := HB0.out.cell 0 _ rfl; have hb0_1 := HB0.out.cell 1 _ rfl; have hb0_2 := HB0.out.cell 2 _ rfl; have hb0_3 := HB0.out.cell 3 _ rfl; have hb0_4 := HB0.out.cell 4 _ rfl; have hb0_5 := HB0.out.cell 5 _ rfl; clear B9 p9 e9 c9 d9; clear t0; have t1 : (1 : Nat) = 1 := rfl))
      have KC : Hid (J ≤ cap) := (by show _ ≤ _; have := CP.out.1; omega)
      have CZ : Hid (∀ w', Below w42.heap.size w42 w' → w'.cell? ⟨g, 0 + M, none⟩ = some (.slice zo T zc)) := fun w' q => (by have z := (PB.out.vr (by have := MN.out; omega)).1.cell M _ (show vs[M]? = some (.slice zo T zc) by have e := EZ.out; rw [List.getD_eq_getElem?_getD] at e; have l := PB.out.2.1; have := MN.out; rw [List.getElem?_eq_getElem (by omega)] at e ⊢; exact congrArg some e); rw [Nat.zero_add]; rw [q.cell (World.block_lt_of_cell? _ _ z)]; exact z)
      clear hb0_0 hb0_1 hb0_2 hb0_3 hb0_4 hb0_5
      refine wp_region_held_drew (S := fun w' => Below w42.heap.size w42 w') (by kernel_rfl) (Below.refl _ _).drew (fun hS => ?_)
      obtain ⟨x1, hx0⟩ : ∃ x, x = w42.drew := ⟨_, rfl⟩
      rw [← hx0] at hS  ⊢
      clear hx0
      refine take_lawH 0 (some 70) (.slice (some ⟨g, 0, none⟩) N cap) rfl rfl (by kernel_rfl) (by kernel_rfl) (by kernel_rfl) (fun _ _ _ h => h) (Or.inl ⟨by rfl, fun w' hw' => by rfl⟩) hS ?_
      simp only [Act.put, List.setIfInBounds_toArray, List.set_cons_zero, List.set_cons_succ]
      refine take_lawH 1 (some 71) (.int .i64 (M : Int)) rfl rfl (by kernel_rfl) (by kernel_rfl) (by kernel_rfl) (fun _ _ _ h => h) (Or.inl ⟨by rfl, fun w' hw' => by rfl⟩) hS ?_
      simp only [Act.put, List.setIfInBounds_toArray, List.set_cons_zero, List.set_cons_succ]
      refine take_lawH 2 (some 72) (.pointer (some ⟨g, 0 + M, none⟩)) rfl rfl (by kernel_rfl) (by kernel_rfl) (by kernel_rfl) (fun _ _ _ h => h) (Or.inl ⟨by rfl, fun w' hw' => by exact exec_idxR (.tmp 70) (.tmp 71) rfl g 0 N cap M rfl rfl MN.out _⟩) hS ?_
      simp only [Act.put, List.setIfInBounds_toArray, List.set_cons_zero, List.set_cons_succ]
      refine take_lawH 3 (some 73) (.slice zo T zc) rfl rfl (by kernel_rfl) (by kernel_rfl) (by kernel_rfl) (fun _ _ _ h => h) (Or.inl ⟨by rfl, fun w' hw' => by exact exec_loadN 24 (.tmp 72) rfl _ rfl _ _ (load_one one_bytes (CZ.out _ hw'))⟩) hS ?_
      simp only [Act.put, List.setIfInBounds_toArray, List.set_cons_zero, List.set_cons_succ]
      refine take_lawH 4 (some 74) (.int .i64 (T : Int)) rfl rfl (by kernel_rfl) (by kernel_rfl) (by kernel_rfl) (fun _ _ _ h => h) (Or.inl ⟨by rfl, fun w' hw' => by exact exec_lenK (.tmp 73) rfl zo T zc rfl _⟩) hS ?_
      simp only [Act.put, List.setIfInBounds_toArray, List.set_cons_zero, List.set_cons_succ]
      refine take_lawH 5 (some 75) (.pointer (some ⟨w.heap.size, 2, none⟩)) rfl rfl (by kernel_rfl) (by kernel_rfl) (by kernel_rfl) (fun _ _ _ h => h) (Or.inl ⟨by rfl, fun w' hw' => by go_simp⟩) hS ?_
      simp only [Act.put, List.setIfInBounds_toArray, List.set_cons_zero, List.set_cons_succ]
      refine take_lawH 6 (some 76) (.int .i64 (S : Int)) rfl rfl (by kernel_rfl) (by kernel_rfl) (by kernel_rfl) (fun _ _ _ h => h) (Or.inl ⟨by rfl, fun w' hw' => by exact exec_loadN 3 (.tmp 75) rfl _ rfl _ _ (ld_int ((HB0.out.below hw' (range_lt HB0.out.1 (Nat.succ_pos _))).cell 2 _ rfl))⟩) hS ?_
      simp only [Act.put, List.setIfInBounds_toArray, List.set_cons_zero, List.set_cons_succ]
      refine take_lawH 7 (some 77) (.int .i64 (T : Int)) rfl rfl (by kernel_rfl) (by kernel_rfl) (by kernel_rfl) (fun _ _ _ h => h) (Or.inl ⟨by rfl, fun w' hw' => by exact exec_add (.tmp 76) (.const (.int .i64 88)) rfl (S : Int) 88 _ rfl rfl S88.out⟩) hS ?_
      simp only [Act.put, List.setIfInBounds_toArray, List.set_cons_zero, List.set_cons_succ]
      refine take_lawH 8 (some 78) (.bool false) rfl rfl (by kernel_rfl) (by kernel_rfl) (by kernel_rfl) (fun _ _ _ h => h) (Or.inl ⟨by rfl, fun w' hw' => by exact exec_neqK (.tmp 74) (.tmp 77) rfl (T : Int) (T : Int) rfl rfl false TT.out _⟩) hS ?_
      simp only [Act.put, List.setIfInBounds_toArray, List.set_cons_zero, List.set_cons_succ]
      refine wpAnyH_done (by kernel_rfl) ?_ _
      have HB0 : Hid (Vr x1 w.heap.size [.int .i64 g0, .int .i64 g1, .int .i64 (S : Int), .int .i64 g3, .int .i64 g4, .int .i64 g5]) := HB0.out.below hS (range_lt HB0.out.1 (Nat.succ_pos _))
      have HO : Hid (Own w3.heap.size x1 u7 xs) := own_low HO.out hS
      have PB : Hid (PgB wr.heap.size x1 g cap N vs F) := PB.out.below hS
      have BB : Hid (Below wr.heap.size wr x1) := BB.out.trans (hS.mono BB.out.size)
      clear hS CZ
      go_wp2
      have HO : Hid (Own w3.heap.size x1.drew u7 xs) := own_low HO.out (Below.refl _ _).drew
      have PB : Hid (PgB wr.heap.size x1.drew g cap N vs F) := PB.out.below (Below.refl _ _).drew
      have BB : Hid (Below wr.heap.size wr x1.drew) := BB.out.drew
      have HB0 : Hid (Vr x1.drew w.heap.size [.int .i64 g0, .int .i64 g1, .int .i64 (S : Int), .int .i64 g3, .int .i64 g4, .int .i64 g5]) := HB0.out.drewN 1
      refine wp_region_held_drew (S := fun w' => w'.rangeAt w.heap.size 0 [.int .i64 g0, .int .i64 g1, .int .i64 (S : Int), .int .i64 g3, .int .i64 g4, .int .i64 g5]) (by kernel_rfl) (HB0.out.drewN 1).1 (fun hS => ?_)
      obtain ⟨y1, hx0⟩ : ∃ x, x = x1.drew := ⟨_, rfl⟩
      rw [← hx0] at hS HO PB BB HB0 ⊢
      clear hx0
      refine take_lawH 0 (some 79) (.slice (some ⟨g, 0, none⟩) N cap) rfl rfl (by kernel_rfl) (by kernel_rfl) (by kernel_rfl) (fun _ _ _ h => h) (Or.inl ⟨by rfl, fun w' hw' => by rfl⟩) hS ?_
      simp only [Act.put, List.setIfInBounds_toArray, List.set_cons_zero, List.set_cons_succ]
      refine take_lawH 1 (some 80) (.int .i64 (M : Int)) rfl rfl (by kernel_rfl) (by kernel_rfl) (by kernel_rfl) (fun _ _ _ h => h) (Or.inl ⟨by rfl, fun w' hw' => by rfl⟩) hS ?_
      simp only [Act.put, List.setIfInBounds_toArray, List.set_cons_zero, List.set_cons_succ]
      refine take_lawH 2 (some 81) (.slice (some ⟨g, 0, none⟩) N cap) rfl rfl (by kernel_rfl) (by kernel_rfl) (by kernel_rfl) (fun _ _ _ h => h) (Or.inl ⟨by rfl, fun w' hw' => by rfl⟩) hS ?_
      simp only [Act.put, List.setIfInBounds_toArray, List.set_cons_zero, List.set_cons_succ]
      refine take_lawH 3 (some 82) (.int .i64 (M : Int)) rfl rfl (by kernel_rfl) (by kernel_rfl) (by kernel_rfl) (fun _ _ _ h => h) (Or.inl ⟨by rfl, fun w' hw' => by rfl⟩) hS ?_
      simp only [Act.put, List.setIfInBounds_toArray, List.set_cons_zero, List.set_cons_succ]
      refine take_lawH 4 (some 83) (.pointer (some ⟨g, 0 + M, none⟩)) rfl rfl (by kernel_rfl) (by kernel_rfl) (by kernel_rfl) (fun _ _ _ h => h) (Or.inl ⟨by rfl, fun w' hw' => by exact exec_idxR (.tmp 81) (.tmp 82) rfl g 0 N cap M rfl rfl MN.out _⟩) hS ?_
      simp only [Act.put, List.setIfInBounds_toArray, List.set_cons_zero, List.set_cons_succ]
      refine take_lawH 6 (some 85) (.agg ([.int .i64 g0, .int .i64 g1, .int .i64 (S : Int), .int .i64 g3, .int .i64 g4, .int .i64 g5] : List Value).toArray) rfl rfl (by kernel_rfl) (by kernel_rfl) (by kernel_rfl) (fun _ _ _ h => h) (Or.inl ⟨by rfl, fun w' hw' => by exact exec_loadN 23 (.tmp 3) rfl _ rfl _ _ (load_cells rowy_geo hw')⟩) hS ?_
      simp only [Act.put, List.setIfInBounds_toArray, List.set_cons_zero, List.set_cons_succ]
      refine wpAnyH_ready (rs := [5, 7]) (by kernel_rfl) (by simp) ?_
      refine AllReadyH.cons rfl (fun K hK => ?_) (AllReadyH.cons rfl (fun K hK => ?_) AllReadyH.nil)
      · have CZ : Hid (∀ w', Below y1.heap.size y1 w' → w'.cell? ⟨g, 0 + M, none⟩ = some (.slice zo T zc)) := fun w' q => (by have z := (PB.out.vr (by have := MN.out; omega)).1.cell M _ (show vs[M]? = some (.slice zo T zc) by have e := EZ.out; rw [List.getD_eq_getElem?_getD] at e; have l := PB.out.2.1; have := MN.out; rw [List.getElem?_eq_getElem (by omega)] at e ⊢; exact congrArg some e); rw [Nat.zero_add]; rw [q.cell (World.block_lt_of_cell? _ _ z)]; exact z)
        refine step_loadK _ rfl (some 84) rfl 24 one_bytes (.tmp 83) rfl g (0 + M) (.slice zo T zc) rfl (CZ.out _ (Below.refl _ _)) ?_
        clear CZ
        refine hK.out _ _ hS (fun _ => ?_)
        simp only [Act.put, List.setIfInBounds_toArray, List.set_cons_zero, List.set_cons_succ]
        clear hK K
        refine wpAnyH_ready (rs := [7]) (by kernel_rfl) (by simp) ?_
        refine AllReadyH.cons rfl (fun K hK => ?_) AllReadyH.nil
        refine step_callW _ (by rfl) (some 86) rfl 19 #[.tmp 85] #[23] rfl (fun q w' => by rfl) #[.agg ([.int .i64 g0, .int .i64 g1, .int .i64 (S : Int), .int .i64 g3, .int .i64 g4, .int .i64 g5] : List Value).toArray] (by simp only [List.map_toArray, List.map_cons, List.map_nil]; rfl) (fun u w' => Byt w' u MK ∧ Below y1.heap.size y1 w') ?_ ?_
        · exact (SC.out y1).mono fun e w' ⟨v, h1, h2, h3⟩ => ⟨_, h1, h2, h3⟩
        rintro mv y2 ⟨y9, hb⟩
        have HM : Hid (Byt y2 mv MK) := y9
        clear y9
        have HO : Hid (Own w3.heap.size y2 u7 xs) := own_low HO.out hb
        have PB : Hid (PgB wr.heap.size y2 g cap N vs F) := PB.out.below hb
        have BB : Hid (Below wr.heap.size wr y2) := BB.out.trans (hb.mono BB.out.size)
        have HB0 : Hid (Vr y2 w.heap.size [.int .i64 g0, .int .i64 g1, .int .i64 (S : Int), .int .i64 g3, .int .i64 g4, .int .i64 g5]) := HB0.out.below hb (range_lt HB0.out.1 (Nat.succ_pos _))
        have hS : y2.rangeAt w.heap.size 0 [.int .i64 g0, .int .i64 g1, .int .i64 (S : Int), .int .i64 g3, .int .i64 g4, .int .i64 g5] := HB0.out.1
        clear hb
        refine hK.out _ _ hS (fun _ => ?_)
        simp only [Act.put, List.setIfInBounds_toArray, List.set_cons_zero, List.set_cons_succ]
        clear hK K
        refine wpAnyH_ready (rs := [8]) (by kernel_rfl) (by simp) ?_
        refine AllReadyH.cons rfl (fun K hK => ?_) AllReadyH.nil
        refine step_callW _ (by rfl) (some 87) rfl 18 #[.tmp 84, .tmp 86] #[24, 24] rfl (fun q w' => by rfl) #[.slice zo T zc, mv] (by simp only [List.map_toArray, List.map_cons, List.map_nil]; rfl) (fun u w' => Own y2.heap.size w' u PC ∧ Below y2.heap.size y2 w') ?_ ?_
        · exact (SA.out y2 _ mv (by have z := (PB.out.2.2 M MN.out).byt (FA.out M MN.out); rw [EZ.out] at z; exact z) HM.out).mono fun e w' ⟨v, h1, h2, h3⟩ => ⟨_, h1, h2, h3⟩
        rintro av y3 ⟨o9, hb⟩
        have HA : Hid (Own y2.heap.size y3 av PC) := o9
        clear o9
        have HO : Hid (Own w3.heap.size y3 u7 xs) := own_low HO.out hb
        have PB : Hid (PgB wr.heap.size y3 g cap N vs F) := PB.out.below hb
        have BB : Hid (Below wr.heap.size wr y3) := BB.out.trans (hb.mono BB.out.size)
        have HB0 : Hid (Vr y3 w.heap.size [.int .i64 g0, .int .i64 g1, .int .i64 (S : Int), .int .i64 g3, .int .i64 g4, .int .i64 g5]) := HB0.out.below hb (range_lt HB0.out.1 (Nat.succ_pos _))
        have hS : y3.rangeAt w.heap.size 0 [.int .i64 g0, .int .i64 g1, .int .i64 (S : Int), .int .i64 g3, .int .i64 g4, .int .i64 g5] := HB0.out.1
        clear hb
        refine hK.out _ _ hS (fun _ => ?_)
        simp only [Act.put, List.setIfInBounds_toArray, List.set_cons_zero, List.set_cons_succ]
        clear hK K
        refine take_lawH 9 (some 88) (.pointer (some ⟨g, 0 + M, none⟩)) rfl rfl (by kernel_rfl) (by kernel_rfl) (by kernel_rfl) (fun _ _ _ h => h) (Or.inl ⟨by rfl, fun w' hw' => by exact exec_idxR (.tmp 79) (.tmp 80) rfl g 0 N cap M rfl rfl MN.out _⟩) hS ?_
        simp only [Act.put, List.setIfInBounds_toArray, List.set_cons_zero, List.set_cons_succ]
        refine wpAnyH_ready (rs := [10]) (by kernel_rfl) (by simp) ?_
        refine AllReadyH.cons rfl (fun K hK => ?_) AllReadyH.nil
        have hvr := PB.out.vr (by have := MN.out; omega)
        obtain ⟨ao, an, ac, ea⟩ := own_sle HA.out
        refine step_setR _ rfl none rfl (.tmp 88) (.tmp 87) 24 rfl vs g (0 + M) av rfl rfl hvr.1 (by rw [PB.out.2.1, Nat.zero_add]; exact MN.out) (by rw [ea]; rfl) (by rw [ea]; rfl) one_bytes.2 ?_
        rw [Nat.zero_add]
        obtain ⟨y4, en⟩ : ∃ q, q = y3.setCell ⟨g, M, none⟩ av := ⟨_, rfl⟩
        have PV : Hid (PgV y4 g N (vs.set M av) (fun i => if i = M then PC else F i)) := (by rw [en]; exact pgb_set PB.out (by have := MN.out; omega) FA.out MN.out HA.out PA.out)
        have HO : Hid (Own w3.heap.size y4 u7 xs) := (by rw [en]; exact own_row_set HO.out PB.out.1 rfl)
        have HB0 : Hid (Vr y4 w.heap.size [.int .i64 g0, .int .i64 g1, .int .i64 (S : Int), .int .i64 g3, .int .i64 g4, .int .i64 g5]) := (by rw [en]; exact HB0.out.other av (Nat.ne_of_lt LG.out))
        have BA2 : Hid (Below w.heap.size w y4) := (by rw [en]; exact (BA.out.trans (BB.out.mono BA.out.size)).setCell (p := ⟨g, M, none⟩) (Nat.le_of_lt LG.out) _)
        rw [← en]
        have hS : y4.rangeAt w.heap.size 0 [.int .i64 g0, .int .i64 g1, .int .i64 (S : Int), .int .i64 g3, .int .i64 g4, .int .i64 g5] := HB0.out.1
        have VS : Hid (∀ u ∈ vs.set M av, ck.Sle u) := pgb_sle PB.out (own_sle HA.out)
        clear en hvr ea
        refine hK.out _ _ hS (fun _ => ?_)
        simp only [Act.put]
        clear hK K
        refine wpAnyH_done (by kernel_rfl) ?_ _
        obtain ⟨ws, ew⟩ : ∃ q, vs.set M av = q := ⟨_, rfl⟩
        obtain ⟨F2, eF⟩ : ∃ q : Nat → List Int, (fun i => if i = M then PC else F i) = q := ⟨_, rfl⟩
        rw [ew] at PV VS
        rw [eF] at PV SH2
        clear ew eF PB HA HM hS EZ BB BA
        have BB := BA2
        clear BA2
        have hb0_0 := HB0.out.cell 0 _ rfl
        have hb0_1 := HB0.out.cell 1 _ rfl
        have hb0_2 := HB0.out.cell 2 _ rfl
        have hb0_3 := HB0.out.cell 3 _ rfl
        have hb0_4 := HB0.out.cell 4 _ rfl
        have hb0_5 := HB0.out.cell 5 _ rfl
        have t60 : (1 : Nat) = 1 := rfl
        go_wp2_with (first
          | (have q60 := t60; go_at_call 14; refine (SH2.out y4 g cap ws BB.out CP.out PV.out).mono ?_; rintro e9 w71 ⟨ro, rc, rfl, y9, B9⟩; have HB0 : Hid (Vr w71 w.heap.size [.int .i64 g0, .int .i64 g1, .int .i64 (S : Int), .int .i64 g3, .int .i64 g4, .int .i64 g5]) := HB0.out.below B9 (range_lt HB0.out.1 (Nat.succ_pos _)); have HO : Hid (Own w3.heap.size w71 u7 xs) := own_low HO.out B9; have PV : Hid (PgV w71 g N ws F2) := PV.out.below N0.out B9; have YX : Hid (Byt w71 (.slice ro 624 rc) xs) := y9; have BB : Hid (Below w.heap.size w w71) := BB.out.trans (B9.mono BB.out.size); clear hb0_0 hb0_1 hb0_2 hb0_3 hb0_4 hb0_5; have hb0_0 := HB0.out.cell 0 _ rfl; have hb0_1 := HB0.out.cell 1 _ rfl; have hb0_2 := HB0.out.cell 2 _ rfl; have hb0_3 := HB0.out.cell 3 _ rfl; have hb0_4 := HB0.out.cell 4 _ rfl; have hb0_5 := HB0.out.cell 5 _ rfl; clear B9 y9; clear t60; have t61 : (1 : Nat) = 1 := rfl))
        refine wp_region_held_drew (S := fun w' => Below w71.heap.size w71 w') (by kernel_rfl) (Below.refl _ _).drew (fun hS => ?_)
        obtain ⟨z1, hx0⟩ : ∃ x, x = w71.drew := ⟨_, rfl⟩
        rw [← hx0] at hS  ⊢
        clear hx0
        refine take_lawH 0 (some 102) (.agg ([.int .i64 g0, .int .i64 g1, .int .i64 (S : Int), .int .i64 g3, .int .i64 g4, .int .i64 g5] : List Value).toArray) rfl rfl (by kernel_rfl) (by kernel_rfl) (by kernel_rfl) (fun _ _ _ h => h) (Or.inl ⟨by rfl, fun w' hw' => by exact exec_loadN 23 (.tmp 3) rfl _ rfl _ _ (load_cells rowy_geo (HB0.out.below hw' (range_lt HB0.out.1 (Nat.succ_pos _))).1)⟩) hS ?_
        simp only [Act.put, List.setIfInBounds_toArray, List.set_cons_zero, List.set_cons_succ]
        refine take_lawH 2 (some 104) (.slice (some ⟨g, 0, none⟩) N cap) rfl rfl (by kernel_rfl) (by kernel_rfl) (by kernel_rfl) (fun _ _ _ h => h) (Or.inl ⟨by rfl, fun w' hw' => by rfl⟩) hS ?_
        simp only [Act.put, List.setIfInBounds_toArray, List.set_cons_zero, List.set_cons_succ]
        refine take_lawH 3 (some 105) (.int .i64 (J : Int)) rfl rfl (by kernel_rfl) (by kernel_rfl) (by kernel_rfl) (fun _ _ _ h => h) (Or.inl ⟨by rfl, fun w' hw' => by rfl⟩) hS ?_
        simp only [Act.put, List.setIfInBounds_toArray, List.set_cons_zero, List.set_cons_succ]
        refine take_lawH 4 (some 106) (.slice (some ⟨g, 0, none⟩) J cap) rfl rfl (by kernel_rfl) (by kernel_rfl) (by kernel_rfl) (fun _ _ _ h => h) (Or.inl ⟨by rfl, fun w' hw' => by exact exec_toR (.tmp 104) (.tmp 105) rfl g 0 N cap J rfl rfl KC.out _⟩) hS ?_
        simp only [Act.put, List.setIfInBounds_toArray, List.set_cons_zero, List.set_cons_succ]
        refine take_lawH 6 (some 108) (.slice (some ⟨g, 0, none⟩) N cap) rfl rfl (by kernel_rfl) (by kernel_rfl) (by kernel_rfl) (fun _ _ _ h => h) (Or.inl ⟨by rfl, fun w' hw' => by rfl⟩) hS ?_
        simp only [Act.put, List.setIfInBounds_toArray, List.set_cons_zero, List.set_cons_succ]
        refine take_lawH 7 (some 109) (.int .i64 (J : Int)) rfl rfl (by kernel_rfl) (by kernel_rfl) (by kernel_rfl) (fun _ _ _ h => h) (Or.inl ⟨by rfl, fun w' hw' => by rfl⟩) hS ?_
        simp only [Act.put, List.setIfInBounds_toArray, List.set_cons_zero, List.set_cons_succ]
        refine take_lawH 8 (some 110) (.int .i64 ((J + 1 : Nat) : Int)) rfl rfl (by kernel_rfl) (by kernel_rfl) (by kernel_rfl) (fun _ _ _ h => h) (Or.inl ⟨by rfl, fun w' hw' => by exact exec_add (.tmp 109) (.const (.int .i64 1)) rfl (J : Int) 1 _ rfl rfl K1.out⟩) hS ?_
        simp only [Act.put, List.setIfInBounds_toArray, List.set_cons_zero, List.set_cons_succ]
        refine take_lawH 9 (some 111) (frm g 0 N cap (J + 1)) rfl rfl (by kernel_rfl) (by kernel_rfl) (by kernel_rfl) (fun _ _ _ h => h) (Or.inl ⟨by rfl, fun w' hw' => by exact exec_fromR (.tmp 108) (.tmp 110) rfl g 0 N cap (J + 1) rfl rfl KN1.out _⟩) hS ?_
        simp only [Act.put, List.setIfInBounds_toArray, List.set_cons_zero, List.set_cons_succ]
        refine wpAnyH_ready (rs := [1]) (by kernel_rfl) (by simp) ?_
        refine AllReadyH.cons rfl (fun K hK => ?_) AllReadyH.nil
        refine step_nilR _ (by rfl) (some 103) rfl rfl ?_
        intro z2 o9 hb
        have OR : Hid (OwnR w71.heap.size z2 (.slice (some ⟨z1.heap.size, 0, none⟩) 0 0) []) := o9.less hS.size
        have hS : Below w71.heap.size w71 z2 := hS.trans (hb.mono hS.size)
        clear o9 hb
        refine hK.out _ _ hS (fun _ => ?_)
        simp only [Act.put, List.setIfInBounds_toArray, List.set_cons_zero, List.set_cons_succ]
        clear hK K
        refine wpAnyH_ready (rs := [5]) (by kernel_rfl) (by simp) ?_
        refine AllReadyH.cons rfl (fun K hK => ?_) AllReadyH.nil
        refine step_pushsR _ (by rfl) (some 107) rfl (.tmp 103) (.tmp 106) rfl w71.heap.size hS.size _ _ [] ((ws.drop 0).take J) rfl rfl OR.out (vals_vr (PV.out.below N0.out hS).1 0 J (by rw [PV.out.2.1, Nat.zero_add]; exact Nat.le_of_lt kN) KC.out CP.out.2) (fun u hu => VS.out u (List.mem_of_mem_drop (List.mem_of_mem_take hu))) (show (0 : Nat) ≤ 1000000 by decide) (by simp; omega) ?_
        intro r1 z3 o9 hb _
        have OR : Hid (OwnR w71.heap.size z3 r1 ((ws.drop 0).take J)) := (by rw [List.nil_append] at o9; exact o9)
        have hS : Below w71.heap.size w71 z3 := hS.trans hb
        clear o9 hb
        refine hK.out _ _ hS (fun _ => ?_)
        simp only [Act.put, List.setIfInBounds_toArray, List.set_cons_zero, List.set_cons_succ]
        clear hK K
        refine wpAnyH_ready (rs := [10]) (by kernel_rfl) (by simp) ?_
        refine AllReadyH.cons rfl (fun K hK => ?_) AllReadyH.nil
        refine step_pushsR _ (by rfl) (some 112) rfl (.tmp 107) (.tmp 111) rfl w71.heap.size hS.size _ _ ((ws.drop 0).take J) (ws.drop (J + 1)) rfl rfl OR.out (vals_frm (PV.out.below N0.out hS).1 PV.out.2.1 KN1.out CP.out.1 CP.out.2) (fun u hu => VS.out u (List.mem_of_mem_drop hu)) (by simp; omega) (by simp; have := PV.out.2.1; omega) ?_
        intro r2 z4 o9 hb _
        obtain ⟨qo, qc, e9, -⟩ := o9.vals
        rw [show ((ws.drop 0).take J ++ ws.drop (J + 1)).length = M by simp; have := PV.out.2.1; have := EM.out; omega] at e9
        subst e9
        have hS : Below w71.heap.size w71 z4 := hS.trans hb
        clear o9 hb
        refine hK.out _ _ hS (fun _ => ?_)
        simp only [Act.put, List.setIfInBounds_toArray, List.set_cons_zero, List.set_cons_succ]
        clear hK K
        refine wpAnyH_ready (rs := [11]) (by kernel_rfl) (by simp) ?_
        refine AllReadyH.cons rfl (fun K hK => ?_) AllReadyH.nil
        refine step_callW _ (by rfl) (some 113) rfl 14 #[.tmp 102, .tmp 112] #[23, 26] rfl (fun q w' => by rfl) #[.agg ([.int .i64 g0, .int .i64 g1, .int .i64 (S : Int), .int .i64 g3, .int .i64 g4, .int .i64 g5] : List Value).toArray, .slice qo M qc] (by simp only [List.map_toArray, List.map_cons, List.map_nil]; rfl) (fun z9 w' => z9 = .tuple #[.int .u64 0, .slice none 0 0, .bool false] ∧ Below z4.heap.size z4 w') ?_ ?_
        · exact (SH3.out z4 qo qc).mono fun e w' ⟨h1, h2⟩ => ⟨_, h1, rfl, h2⟩
        rintro _ z5 ⟨rfl, hb⟩
        have hS : Below w71.heap.size w71 z5 := hS.trans (hb.mono hS.size)
        clear hb
        refine hK.out _ _ hS (fun _ => ?_)
        simp only [Act.put, List.setIfInBounds_toArray, List.set_cons_zero, List.set_cons_succ]
        clear hK K
        refine take_lawH 12 (some 101) (.tuple #[.int .u64 0, .slice none 0 0, .bool false]) rfl rfl (by kernel_rfl) (by kernel_rfl) (by kernel_rfl) (fun _ _ _ h => h) (Or.inl ⟨by rfl, fun w' hw' => by rfl⟩) hS ?_
        simp only [Act.put, List.setIfInBounds_toArray, List.set_cons_zero, List.set_cons_succ]
        refine take_lawH 13 (some 114) (.int .u64 0) rfl rfl (by kernel_rfl) (by kernel_rfl) (by kernel_rfl) (fun _ _ _ h => h) (Or.inl ⟨by rfl, fun w' hw' => by rfl⟩) hS ?_
        simp only [Act.put, List.setIfInBounds_toArray, List.set_cons_zero, List.set_cons_succ]
        refine take_lawH 14 (some 115) (.slice none 0 0) rfl rfl (by kernel_rfl) (by kernel_rfl) (by kernel_rfl) (fun _ _ _ h => h) (Or.inl ⟨by rfl, fun w' hw' => by rfl⟩) hS ?_
        simp only [Act.put, List.setIfInBounds_toArray, List.set_cons_zero, List.set_cons_succ]
        refine take_lawH 15 (some 116) (.bool false) rfl rfl (by kernel_rfl) (by kernel_rfl) (by kernel_rfl) (fun _ _ _ h => h) (Or.inl ⟨by rfl, fun w' hw' => by rfl⟩) hS ?_
        simp only [Act.put, List.setIfInBounds_toArray, List.set_cons_zero, List.set_cons_succ]
        refine take_lawH 16 (some 19) (.int .u64 0) rfl rfl (by kernel_rfl) (by kernel_rfl) (by kernel_rfl) (fun _ _ _ h => h) (Or.inl ⟨by rfl, fun w' hw' => by rfl⟩) hS ?_
        simp only [Act.put, List.setIfInBounds_toArray, List.set_cons_zero, List.set_cons_succ]
        refine take_lawH 17 (some 20) (.slice none 0 0) rfl rfl (by kernel_rfl) (by kernel_rfl) (by kernel_rfl) (fun _ _ _ h => h) (Or.inl ⟨by rfl, fun w' hw' => by rfl⟩) hS ?_
        simp only [Act.put, List.setIfInBounds_toArray, List.set_cons_zero, List.set_cons_succ]
        refine take_lawH 18 (some 21) (.bool false) rfl rfl (by kernel_rfl) (by kernel_rfl) (by kernel_rfl) (fun _ _ _ h => h) (Or.inl ⟨by rfl, fun w' hw' => by rfl⟩) hS ?_
        simp only [Act.put, List.setIfInBounds_toArray, List.set_cons_zero, List.set_cons_succ]
        refine wpAnyH_done (by kernel_rfl) ?_ _
        have HO : Hid (Own w3.heap.size z5 u7 xs) := own_low HO.out hS
        have YX : Hid (Byt z5 (.slice ro 624 rc) xs) := YX.out.below hS
        have BB : Hid (Below w.heap.size w z5) := BB.out.trans (hS.mono BB.out.size)
        clear hS hb0_0 hb0_1 hb0_2 hb0_3 hb0_4 hb0_5
        have t90 : (1 : Nat) = 1 := rfl
        go_wp2_with (first
          | (have q91 := t91; go_at_call 9; refine (SW.out w96 BB.out).mono ?_; rintro e9 w97 ⟨rfl, B9⟩; have HO : Hid (Own w3.heap.size w97 u7 xs) := own_low HO.out B9; have YX : Hid (Byt w97 (.slice ro 624 rc) xs) := YX.out.below B9; have BB : Hid (Below w.heap.size w w97) := BB.out.trans (B9.mono BB.out.size); clear B9; clear t91; have t92 : (1 : Nat) = 1 := rfl)
          | (have q90 := t90; go_at_call 12; refine (he.same_yes z5 _ _ xs YX.out (HO.out.byt XA.out)).mono ?_; rintro e9 w96 ⟨rfl, B9⟩; have HO : Hid (Own w3.heap.size w96 u7 xs) := own_low HO.out B9; have YX : Hid (Byt w96 (.slice ro 624 rc) xs) := YX.out.below B9; have BB : Hid (Below w.heap.size w w96) := BB.out.trans (B9.mono BB.out.size); clear B9; clear t90; have t91 : (1 : Nat) = 1 := rfl))
        go_ret
        exact ⟨rfl, BB.out⟩
      · refine step_callW _ (by rfl) (some 86) rfl 19 #[.tmp 85] #[23] rfl (fun q w' => by rfl) #[.agg ([.int .i64 g0, .int .i64 g1, .int .i64 (S : Int), .int .i64 g3, .int .i64 g4, .int .i64 g5] : List Value).toArray] (by simp only [List.map_toArray, List.map_cons, List.map_nil]; rfl) (fun u w' => Byt w' u MK ∧ Below y1.heap.size y1 w') ?_ ?_
        · exact (SC.out y1).mono fun e w' ⟨v, h1, h2, h3⟩ => ⟨_, h1, h2, h3⟩
        rintro mv y5 ⟨y9, hb⟩
        have HM : Hid (Byt y5 mv MK) := y9
        clear y9
        have HO : Hid (Own w3.heap.size y5 u7 xs) := own_low HO.out hb
        have PB : Hid (PgB wr.heap.size y5 g cap N vs F) := PB.out.below hb
        have BB : Hid (Below wr.heap.size wr y5) := BB.out.trans (hb.mono BB.out.size)
        have HB0 : Hid (Vr y5 w.heap.size [.int .i64 g0, .int .i64 g1, .int .i64 (S : Int), .int .i64 g3, .int .i64 g4, .int .i64 g5]) := HB0.out.below hb (range_lt HB0.out.1 (Nat.succ_pos _))
        have hS : y5.rangeAt w.heap.size 0 [.int .i64 g0, .int .i64 g1, .int .i64 (S : Int), .int .i64 g3, .int .i64 g4, .int .i64 g5] := HB0.out.1
        clear hb
        refine hK.out _ _ hS (fun _ => ?_)
        simp only [Act.put, List.setIfInBounds_toArray, List.set_cons_zero, List.set_cons_succ]
        clear hK K
        refine wpAnyH_ready (rs := [5]) (by kernel_rfl) (by simp) ?_
        refine AllReadyH.cons rfl (fun K hK => ?_) AllReadyH.nil
        have CZ : Hid (∀ w', Below y5.heap.size y5 w' → w'.cell? ⟨g, 0 + M, none⟩ = some (.slice zo T zc)) := fun w' q => (by have z := (PB.out.vr (by have := MN.out; omega)).1.cell M _ (show vs[M]? = some (.slice zo T zc) by have e := EZ.out; rw [List.getD_eq_getElem?_getD] at e; have l := PB.out.2.1; have := MN.out; rw [List.getElem?_eq_getElem (by omega)] at e ⊢; exact congrArg some e); rw [Nat.zero_add]; rw [q.cell (World.block_lt_of_cell? _ _ z)]; exact z)
        refine step_loadK _ rfl (some 84) rfl 24 one_bytes (.tmp 83) rfl g (0 + M) (.slice zo T zc) rfl (CZ.out _ (Below.refl _ _)) ?_
        clear CZ
        refine hK.out _ _ hS (fun _ => ?_)
        simp only [Act.put, List.setIfInBounds_toArray, List.set_cons_zero, List.set_cons_succ]
        clear hK K
        refine wpAnyH_ready (rs := [8]) (by kernel_rfl) (by simp) ?_
        refine AllReadyH.cons rfl (fun K hK => ?_) AllReadyH.nil
        refine step_callW _ (by rfl) (some 87) rfl 18 #[.tmp 84, .tmp 86] #[24, 24] rfl (fun q w' => by rfl) #[.slice zo T zc, mv] (by simp only [List.map_toArray, List.map_cons, List.map_nil]; rfl) (fun u w' => Own y5.heap.size w' u PC ∧ Below y5.heap.size y5 w') ?_ ?_
        · exact (SA.out y5 _ mv (by have z := (PB.out.2.2 M MN.out).byt (FA.out M MN.out); rw [EZ.out] at z; exact z) HM.out).mono fun e w' ⟨v, h1, h2, h3⟩ => ⟨_, h1, h2, h3⟩
        rintro av y6 ⟨o9, hb⟩
        have HA : Hid (Own y5.heap.size y6 av PC) := o9
        clear o9
        have HO : Hid (Own w3.heap.size y6 u7 xs) := own_low HO.out hb
        have PB : Hid (PgB wr.heap.size y6 g cap N vs F) := PB.out.below hb
        have BB : Hid (Below wr.heap.size wr y6) := BB.out.trans (hb.mono BB.out.size)
        have HB0 : Hid (Vr y6 w.heap.size [.int .i64 g0, .int .i64 g1, .int .i64 (S : Int), .int .i64 g3, .int .i64 g4, .int .i64 g5]) := HB0.out.below hb (range_lt HB0.out.1 (Nat.succ_pos _))
        have hS : y6.rangeAt w.heap.size 0 [.int .i64 g0, .int .i64 g1, .int .i64 (S : Int), .int .i64 g3, .int .i64 g4, .int .i64 g5] := HB0.out.1
        clear hb
        refine hK.out _ _ hS (fun _ => ?_)
        simp only [Act.put, List.setIfInBounds_toArray, List.set_cons_zero, List.set_cons_succ]
        clear hK K
        refine take_lawH 9 (some 88) (.pointer (some ⟨g, 0 + M, none⟩)) rfl rfl (by kernel_rfl) (by kernel_rfl) (by kernel_rfl) (fun _ _ _ h => h) (Or.inl ⟨by rfl, fun w' hw' => by exact exec_idxR (.tmp 79) (.tmp 80) rfl g 0 N cap M rfl rfl MN.out _⟩) hS ?_
        simp only [Act.put, List.setIfInBounds_toArray, List.set_cons_zero, List.set_cons_succ]
        refine wpAnyH_ready (rs := [10]) (by kernel_rfl) (by simp) ?_
        refine AllReadyH.cons rfl (fun K hK => ?_) AllReadyH.nil
        have hvr := PB.out.vr (by have := MN.out; omega)
        obtain ⟨ao, an, ac, ea⟩ := own_sle HA.out
        refine step_setR _ rfl none rfl (.tmp 88) (.tmp 87) 24 rfl vs g (0 + M) av rfl rfl hvr.1 (by rw [PB.out.2.1, Nat.zero_add]; exact MN.out) (by rw [ea]; rfl) (by rw [ea]; rfl) one_bytes.2 ?_
        rw [Nat.zero_add]
        obtain ⟨y7, en⟩ : ∃ q, q = y6.setCell ⟨g, M, none⟩ av := ⟨_, rfl⟩
        have PV : Hid (PgV y7 g N (vs.set M av) (fun i => if i = M then PC else F i)) := (by rw [en]; exact pgb_set PB.out (by have := MN.out; omega) FA.out MN.out HA.out PA.out)
        have HO : Hid (Own w3.heap.size y7 u7 xs) := (by rw [en]; exact own_row_set HO.out PB.out.1 rfl)
        have HB0 : Hid (Vr y7 w.heap.size [.int .i64 g0, .int .i64 g1, .int .i64 (S : Int), .int .i64 g3, .int .i64 g4, .int .i64 g5]) := (by rw [en]; exact HB0.out.other av (Nat.ne_of_lt LG.out))
        have BA2 : Hid (Below w.heap.size w y7) := (by rw [en]; exact (BA.out.trans (BB.out.mono BA.out.size)).setCell (p := ⟨g, M, none⟩) (Nat.le_of_lt LG.out) _)
        rw [← en]
        have hS : y7.rangeAt w.heap.size 0 [.int .i64 g0, .int .i64 g1, .int .i64 (S : Int), .int .i64 g3, .int .i64 g4, .int .i64 g5] := HB0.out.1
        have VS : Hid (∀ u ∈ vs.set M av, ck.Sle u) := pgb_sle PB.out (own_sle HA.out)
        clear en hvr ea
        refine hK.out _ _ hS (fun _ => ?_)
        simp only [Act.put]
        clear hK K
        refine wpAnyH_done (by kernel_rfl) ?_ _
        obtain ⟨ws, ew⟩ : ∃ q, vs.set M av = q := ⟨_, rfl⟩
        obtain ⟨F2, eF⟩ : ∃ q : Nat → List Int, (fun i => if i = M then PC else F i) = q := ⟨_, rfl⟩
        rw [ew] at PV VS
        rw [eF] at PV SH2
        clear ew eF PB HA HM hS EZ BB BA
        have BB := BA2
        clear BA2
        have hb0_0 := HB0.out.cell 0 _ rfl
        have hb0_1 := HB0.out.cell 1 _ rfl
        have hb0_2 := HB0.out.cell 2 _ rfl
        have hb0_3 := HB0.out.cell 3 _ rfl
        have hb0_4 := HB0.out.cell 4 _ rfl
        have hb0_5 := HB0.out.cell 5 _ rfl
        have t60 : (1 : Nat) = 1 := rfl
        go_wp2_with (first
          | (have q60 := t60; go_at_call 14; refine (SH2.out y7 g cap ws BB.out CP.out PV.out).mono ?_; rintro e9 w71 ⟨ro, rc, rfl, y9, B9⟩; have HB0 : Hid (Vr w71 w.heap.size [.int .i64 g0, .int .i64 g1, .int .i64 (S : Int), .int .i64 g3, .int .i64 g4, .int .i64 g5]) := HB0.out.below B9 (range_lt HB0.out.1 (Nat.succ_pos _)); have HO : Hid (Own w3.heap.size w71 u7 xs) := own_low HO.out B9; have PV : Hid (PgV w71 g N ws F2) := PV.out.below N0.out B9; have YX : Hid (Byt w71 (.slice ro 624 rc) xs) := y9; have BB : Hid (Below w.heap.size w w71) := BB.out.trans (B9.mono BB.out.size); clear hb0_0 hb0_1 hb0_2 hb0_3 hb0_4 hb0_5; have hb0_0 := HB0.out.cell 0 _ rfl; have hb0_1 := HB0.out.cell 1 _ rfl; have hb0_2 := HB0.out.cell 2 _ rfl; have hb0_3 := HB0.out.cell 3 _ rfl; have hb0_4 := HB0.out.cell 4 _ rfl; have hb0_5 := HB0.out.cell 5 _ rfl; clear B9 y9; clear t60; have t61 : (1 : Nat) = 1 := rfl))
        refine wp_region_held_drew (S := fun w' => Below w71.heap.size w71 w') (by kernel_rfl) (Below.refl _ _).drew (fun hS => ?_)
        obtain ⟨z1, hx0⟩ : ∃ x, x = w71.drew := ⟨_, rfl⟩
        rw [← hx0] at hS  ⊢
        clear hx0
        refine take_lawH 0 (some 102) (.agg ([.int .i64 g0, .int .i64 g1, .int .i64 (S : Int), .int .i64 g3, .int .i64 g4, .int .i64 g5] : List Value).toArray) rfl rfl (by kernel_rfl) (by kernel_rfl) (by kernel_rfl) (fun _ _ _ h => h) (Or.inl ⟨by rfl, fun w' hw' => by exact exec_loadN 23 (.tmp 3) rfl _ rfl _ _ (load_cells rowy_geo (HB0.out.below hw' (range_lt HB0.out.1 (Nat.succ_pos _))).1)⟩) hS ?_
        simp only [Act.put, List.setIfInBounds_toArray, List.set_cons_zero, List.set_cons_succ]
        refine take_lawH 2 (some 104) (.slice (some ⟨g, 0, none⟩) N cap) rfl rfl (by kernel_rfl) (by kernel_rfl) (by kernel_rfl) (fun _ _ _ h => h) (Or.inl ⟨by rfl, fun w' hw' => by rfl⟩) hS ?_
        simp only [Act.put, List.setIfInBounds_toArray, List.set_cons_zero, List.set_cons_succ]
        refine take_lawH 3 (some 105) (.int .i64 (J : Int)) rfl rfl (by kernel_rfl) (by kernel_rfl) (by kernel_rfl) (fun _ _ _ h => h) (Or.inl ⟨by rfl, fun w' hw' => by rfl⟩) hS ?_
        simp only [Act.put, List.setIfInBounds_toArray, List.set_cons_zero, List.set_cons_succ]
        refine take_lawH 4 (some 106) (.slice (some ⟨g, 0, none⟩) J cap) rfl rfl (by kernel_rfl) (by kernel_rfl) (by kernel_rfl) (fun _ _ _ h => h) (Or.inl ⟨by rfl, fun w' hw' => by exact exec_toR (.tmp 104) (.tmp 105) rfl g 0 N cap J rfl rfl KC.out _⟩) hS ?_
        simp only [Act.put, List.setIfInBounds_toArray, List.set_cons_zero, List.set_cons_succ]
        refine take_lawH 6 (some 108) (.slice (some ⟨g, 0, none⟩) N cap) rfl rfl (by kernel_rfl) (by kernel_rfl) (by kernel_rfl) (fun _ _ _ h => h) (Or.inl ⟨by rfl, fun w' hw' => by rfl⟩) hS ?_
        simp only [Act.put, List.setIfInBounds_toArray, List.set_cons_zero, List.set_cons_succ]
        refine take_lawH 7 (some 109) (.int .i64 (J : Int)) rfl rfl (by kernel_rfl) (by kernel_rfl) (by kernel_rfl) (fun _ _ _ h => h) (Or.inl ⟨by rfl, fun w' hw' => by rfl⟩) hS ?_
        simp only [Act.put, List.setIfInBounds_toArray, List.set_cons_zero, List.set_cons_succ]
        refine take_lawH 8 (some 110) (.int .i64 ((J + 1 : Nat) : Int)) rfl rfl (by kernel_rfl) (by kernel_rfl) (by kernel_rfl) (fun _ _ _ h => h) (Or.inl ⟨by rfl, fun w' hw' => by exact exec_add (.tmp 109) (.const (.int .i64 1)) rfl (J : Int) 1 _ rfl rfl K1.out⟩) hS ?_
        simp only [Act.put, List.setIfInBounds_toArray, List.set_cons_zero, List.set_cons_succ]
        refine take_lawH 9 (some 111) (frm g 0 N cap (J + 1)) rfl rfl (by kernel_rfl) (by kernel_rfl) (by kernel_rfl) (fun _ _ _ h => h) (Or.inl ⟨by rfl, fun w' hw' => by exact exec_fromR (.tmp 108) (.tmp 110) rfl g 0 N cap (J + 1) rfl rfl KN1.out _⟩) hS ?_
        simp only [Act.put, List.setIfInBounds_toArray, List.set_cons_zero, List.set_cons_succ]
        refine wpAnyH_ready (rs := [1]) (by kernel_rfl) (by simp) ?_
        refine AllReadyH.cons rfl (fun K hK => ?_) AllReadyH.nil
        refine step_nilR _ (by rfl) (some 103) rfl rfl ?_
        intro z2 o9 hb
        have OR : Hid (OwnR w71.heap.size z2 (.slice (some ⟨z1.heap.size, 0, none⟩) 0 0) []) := o9.less hS.size
        have hS : Below w71.heap.size w71 z2 := hS.trans (hb.mono hS.size)
        clear o9 hb
        refine hK.out _ _ hS (fun _ => ?_)
        simp only [Act.put, List.setIfInBounds_toArray, List.set_cons_zero, List.set_cons_succ]
        clear hK K
        refine wpAnyH_ready (rs := [5]) (by kernel_rfl) (by simp) ?_
        refine AllReadyH.cons rfl (fun K hK => ?_) AllReadyH.nil
        refine step_pushsR _ (by rfl) (some 107) rfl (.tmp 103) (.tmp 106) rfl w71.heap.size hS.size _ _ [] ((ws.drop 0).take J) rfl rfl OR.out (vals_vr (PV.out.below N0.out hS).1 0 J (by rw [PV.out.2.1, Nat.zero_add]; exact Nat.le_of_lt kN) KC.out CP.out.2) (fun u hu => VS.out u (List.mem_of_mem_drop (List.mem_of_mem_take hu))) (show (0 : Nat) ≤ 1000000 by decide) (by simp; omega) ?_
        intro r1 z3 o9 hb _
        have OR : Hid (OwnR w71.heap.size z3 r1 ((ws.drop 0).take J)) := (by rw [List.nil_append] at o9; exact o9)
        have hS : Below w71.heap.size w71 z3 := hS.trans hb
        clear o9 hb
        refine hK.out _ _ hS (fun _ => ?_)
        simp only [Act.put, List.setIfInBounds_toArray, List.set_cons_zero, List.set_cons_succ]
        clear hK K
        refine wpAnyH_ready (rs := [10]) (by kernel_rfl) (by simp) ?_
        refine AllReadyH.cons rfl (fun K hK => ?_) AllReadyH.nil
        refine step_pushsR _ (by rfl) (some 112) rfl (.tmp 107) (.tmp 111) rfl w71.heap.size hS.size _ _ ((ws.drop 0).take J) (ws.drop (J + 1)) rfl rfl OR.out (vals_frm (PV.out.below N0.out hS).1 PV.out.2.1 KN1.out CP.out.1 CP.out.2) (fun u hu => VS.out u (List.mem_of_mem_drop hu)) (by simp; omega) (by simp; have := PV.out.2.1; omega) ?_
        intro r2 z4 o9 hb _
        obtain ⟨qo, qc, e9, -⟩ := o9.vals
        rw [show ((ws.drop 0).take J ++ ws.drop (J + 1)).length = M by simp; have := PV.out.2.1; have := EM.out; omega] at e9
        subst e9
        have hS : Below w71.heap.size w71 z4 := hS.trans hb
        clear o9 hb
        refine hK.out _ _ hS (fun _ => ?_)
        simp only [Act.put, List.setIfInBounds_toArray, List.set_cons_zero, List.set_cons_succ]
        clear hK K
        refine wpAnyH_ready (rs := [11]) (by kernel_rfl) (by simp) ?_
        refine AllReadyH.cons rfl (fun K hK => ?_) AllReadyH.nil
        refine step_callW _ (by rfl) (some 113) rfl 14 #[.tmp 102, .tmp 112] #[23, 26] rfl (fun q w' => by rfl) #[.agg ([.int .i64 g0, .int .i64 g1, .int .i64 (S : Int), .int .i64 g3, .int .i64 g4, .int .i64 g5] : List Value).toArray, .slice qo M qc] (by simp only [List.map_toArray, List.map_cons, List.map_nil]; rfl) (fun z9 w' => z9 = .tuple #[.int .u64 0, .slice none 0 0, .bool false] ∧ Below z4.heap.size z4 w') ?_ ?_
        · exact (SH3.out z4 qo qc).mono fun e w' ⟨h1, h2⟩ => ⟨_, h1, rfl, h2⟩
        rintro _ z5 ⟨rfl, hb⟩
        have hS : Below w71.heap.size w71 z5 := hS.trans (hb.mono hS.size)
        clear hb
        refine hK.out _ _ hS (fun _ => ?_)
        simp only [Act.put, List.setIfInBounds_toArray, List.set_cons_zero, List.set_cons_succ]
        clear hK K
        refine take_lawH 12 (some 101) (.tuple #[.int .u64 0, .slice none 0 0, .bool false]) rfl rfl (by kernel_rfl) (by kernel_rfl) (by kernel_rfl) (fun _ _ _ h => h) (Or.inl ⟨by rfl, fun w' hw' => by rfl⟩) hS ?_
        simp only [Act.put, List.setIfInBounds_toArray, List.set_cons_zero, List.set_cons_succ]
        refine take_lawH 13 (some 114) (.int .u64 0) rfl rfl (by kernel_rfl) (by kernel_rfl) (by kernel_rfl) (fun _ _ _ h => h) (Or.inl ⟨by rfl, fun w' hw' => by rfl⟩) hS ?_
        simp only [Act.put, List.setIfInBounds_toArray, List.set_cons_zero, List.set_cons_succ]
        refine take_lawH 14 (some 115) (.slice none 0 0) rfl rfl (by kernel_rfl) (by kernel_rfl) (by kernel_rfl) (fun _ _ _ h => h) (Or.inl ⟨by rfl, fun w' hw' => by rfl⟩) hS ?_
        simp only [Act.put, List.setIfInBounds_toArray, List.set_cons_zero, List.set_cons_succ]
        refine take_lawH 15 (some 116) (.bool false) rfl rfl (by kernel_rfl) (by kernel_rfl) (by kernel_rfl) (fun _ _ _ h => h) (Or.inl ⟨by rfl, fun w' hw' => by rfl⟩) hS ?_
        simp only [Act.put, List.setIfInBounds_toArray, List.set_cons_zero, List.set_cons_succ]
        refine take_lawH 16 (some 19) (.int .u64 0) rfl rfl (by kernel_rfl) (by kernel_rfl) (by kernel_rfl) (fun _ _ _ h => h) (Or.inl ⟨by rfl, fun w' hw' => by rfl⟩) hS ?_
        simp only [Act.put, List.setIfInBounds_toArray, List.set_cons_zero, List.set_cons_succ]
        refine take_lawH 17 (some 20) (.slice none 0 0) rfl rfl (by kernel_rfl) (by kernel_rfl) (by kernel_rfl) (fun _ _ _ h => h) (Or.inl ⟨by rfl, fun w' hw' => by rfl⟩) hS ?_
        simp only [Act.put, List.setIfInBounds_toArray, List.set_cons_zero, List.set_cons_succ]
        refine take_lawH 18 (some 21) (.bool false) rfl rfl (by kernel_rfl) (by kernel_rfl) (by kernel_rfl) (fun _ _ _ h => h) (Or.inl ⟨by rfl, fun w' hw' => by rfl⟩) hS ?_
        simp only [Act.put, List.setIfInBounds_toArray, List.set_cons_zero, List.set_cons_succ]
        refine wpAnyH_done (by kernel_rfl) ?_ _
        have HO : Hid (Own w3.heap.size z5 u7 xs) := own_low HO.out hS
        have YX : Hid (Byt z5 (.slice ro 624 rc) xs) := YX.out.below hS
        have BB : Hid (Below w.heap.size w z5) := BB.out.trans (hS.mono BB.out.size)
        clear hS hb0_0 hb0_1 hb0_2 hb0_3 hb0_4 hb0_5
        have t90 : (1 : Nat) = 1 := rfl
        go_wp2_with (first
          | (have q91 := t91; go_at_call 9; refine (SW.out w96 BB.out).mono ?_; rintro e9 w97 ⟨rfl, B9⟩; have HO : Hid (Own w3.heap.size w97 u7 xs) := own_low HO.out B9; have YX : Hid (Byt w97 (.slice ro 624 rc) xs) := YX.out.below B9; have BB : Hid (Below w.heap.size w w97) := BB.out.trans (B9.mono BB.out.size); clear B9; clear t91; have t92 : (1 : Nat) = 1 := rfl)
          | (have q90 := t90; go_at_call 12; refine (he.same_yes z5 _ _ xs YX.out (HO.out.byt XA.out)).mono ?_; rintro e9 w96 ⟨rfl, B9⟩; have HO : Hid (Own w3.heap.size w96 u7 xs) := own_low HO.out B9; have YX : Hid (Byt w96 (.slice ro 624 rc) xs) := YX.out.below B9; have BB : Hid (Below w.heap.size w w96) := BB.out.trans (B9.mono BB.out.size); clear B9; clear t90; have t91 : (1 : Nat) = 1 := rfl))
        go_ret
        exact ⟨rfl, BB.out⟩

theorem walk (g : List Int) (gen cut : Int) (w : World) (hl : g.length = 6) (hg : 0 ≤ gen ∧ gen ≤ 18446744073709551615) (hc : 0 ≤ cut ∧ cut ≤ 255) (hT : Tab w) :
    Calls Tryd.prog 6 #[.agg (ints .i64 g), .int .u64 gen, .int .u8 cut] w fun x w' => x = .returned (.bool true) ∧ Below w.heap.size w w' := by
  obtain ⟨g0, g1, g2, g3, g4, g5, rfl⟩ := geo_six g hl
  by_cases hr : ge.Rt [g0, g1, g2, g3, g4, g5]
  · obtain ⟨S, rfl, s1, s2⟩ := sec_of hr
    by_cases hs : (S : Int) ≤ 700
    · exact walk_near g0 g1 g3 g4 g5 S gen cut w hT hr hs hg hc
    · exact walk_far g0 g1 g3 g4 g5 S gen cut w hT hr hs
  · exact walk_geo g0 g1 g2 g3 g4 g5 gen cut w hT hr

theorem params : ∀ t ∈ Tryd.f6.params.toList, Tryd.prog.readableRec t = true ∧ t < Tryd.prog.types.size := by
  rw [Tryd.params6]
  intro t ht
  simp at ht
  rcases ht with rfl | rfl | rfl
  · exact ⟨by kernel_rfl, of_decide_eq_true (by kernel_rfl)⟩
  · exact ⟨by kernel_rfl, of_decide_eq_true (by kernel_rfl)⟩
  · exact ⟨by kernel_rfl, of_decide_eq_true (by kernel_rfl)⟩

theorem contract (H : Type) (enc : TypeId × Value → H) (W : World) (base : Nat) (args : Array Value) (ds gs : List (DataW H)) (before : List MemPlace)
    (hval : ∀ (j : Nat) t v, Tryd.f6.params[j]? = some t → args[j]? = some v → Value.okWide Tryd.prog W .any base t v)
    (hW : DataW.Whole enc Tryd.prog Tryd.f6.params.toList Rows.chunkBackSpec.vars false W args.toList ds gs before) (hL : laidMetH Tryd.prog Rows.chunkBackRow.laid W) :
    Calls Tryd.prog 6 args W fun e W' => ∃ v, e = .returned v ∧ Rows.chunkBackSpec.post enc Tryd.prog Tryd.f6 false true false false W args v W' := by
  have hW' := hW
  obtain ⟨p, q, hA0, hV, rfl, hfz, hnd⟩ := hW
  have hA : DataW.TrodAll enc Tryd.prog W 0 (fun _ => true) true Tryd.f6.params.toList args.toList ds p := hA0
  rw [Tryd.params6] at hA hval
  obtain ⟨v0, v1, v2, d0, d1, d2, p0, p1, p2, rfl, rfl, rfl, h0, h1, h2⟩ := trodAll_three hA
  obtain ⟨rfl, rfl⟩ := trodVars_none hV
  obtain ⟨g0, rfl, n0⟩ := ge.geo_open (hval 0 23 v0 rfl rfl) h0
  obtain ⟨x1, rfl, rfl, rfl, w1⟩ := open_int Tryd.underlying25 (hval 1 25 v1 rfl rfl) h1
  obtain ⟨x2, rfl, rfl, rfl, w2⟩ := open_int Tryd.underlying5 (hval 2 5 v2 rfl rfl) h2
  clear hA0
  refine (walk g0 x1 x2 W n0 (bounds_u64 w1) (bounds_u8 w2) (table hL)).mono fun e W' ⟨he, hg⟩ => ?_
  subst he
  exact ⟨_, rfl, post_law rfl (by kernel_rfl) params rfl rfl rfl hW' hg⟩

theorem laid_met (os : Os) : laidMet Tryd.prog Rows.chunkBackRow.laid (({ World.holding Tryd.prog os ⟨#[], #[], []⟩ with heap := (World.holding Tryd.prog os ⟨#[], #[], []⟩).heap.modify 0 fun | .cells _ t frozen => .cells #[.int .i64 1, .int .i64 1, .int .i64 1, .int .i64 1, .int .i64 4, .int .i64 8, .int .i64 8] t frozen | o => o } : World).forCall (fun _ _ => 0) ⟨#[], #[.agg #[.int .i64 0, .int .i64 0, .int .i64 0, .int .i64 0, .int .i64 0, .int .i64 0], .int .u64 0, .int .u8 0], []⟩).memory :=
  laidMet_of_run' 8 (by kernel_rfl) (by kernel_rfl)
theorem reads (os : Os) {H : Type} (enc : TypeId × Value → H) : ∃ places, DataW.whole enc Tryd.prog (({ World.holding Tryd.prog os ⟨#[], #[], []⟩ with heap := (World.holding Tryd.prog os ⟨#[], #[], []⟩).heap.modify 0 fun | .cells _ t frozen => .cells #[.int .i64 1, .int .i64 1, .int .i64 1, .int .i64 1, .int .i64 4, .int .i64 8, .int .i64 8] t frozen | o => o } : World).forCall (fun _ _ => 0) ⟨#[], #[.agg #[.int .i64 0, .int .i64 0, .int .i64 0, .int .i64 0, .int .i64 0, .int .i64 0], .int .u64 0, .int .u8 0], []⟩).memory Tryd.f6.params.toList Rows.chunkBackSpec.vars false #[Value.agg #[.int .i64 0, .int .i64 0, .int .i64 0, .int .i64 0, .int .i64 0, .int .i64 0], Value.int .u64 0, Value.int .u8 0].toList 8 = some ([.agg [.lit (.int .i64 0), .lit (.int .i64 0), .lit (.int .i64 0), .lit (.int .i64 0), .lit (.int .i64 0), .lit (.int .i64 0)], .lit (.int .u64 0), .lit (.int .u8 0)], [], places) :=
  ⟨[], by kernel_rfl⟩

set_option maxRecDepth 100000 in
theorem lifted (os : Os) (started : os.Started) (H : Type) (enc : TypeId × Value → H) (F : Stop.Interp) :
    ReturnsInHanded {} Tryd.checked os 6 .any ((OpenSpec.ofChange Rows.chunkBackSpec).preRow enc Tryd.prog Tryd.f6 Rows.chunkBackRow.domain false Rows.chunkBackRow.laid) (((OpenSpec.ofChange Rows.chunkBackSpec).at F).post enc Tryd.prog Tryd.f6 false true false false) := by
  obtain ⟨places, hx⟩ := reads os enc
  refine returnsInHanded_of_row (C := Tryd.checked) (s := OpenSpec.ofChange Rows.chunkBackSpec) own started (by kernel_rfl) Tryd.func6
    (witness_row_at (enc := enc) (C := Tryd.checked) false ({ World.holding Tryd.prog os ⟨#[], #[], []⟩ with heap := (World.holding Tryd.prog os ⟨#[], #[], []⟩).heap.modify 0 fun | .cells _ t frozen => .cells #[.int .i64 1, .int .i64 1, .int .i64 1, .int .i64 1, .int .i64 4, .int .i64 8, .int .i64 8] t frozen | o => o } : World) #[.agg #[.int .i64 0, .int .i64 0, .int .i64 0, .int .i64 0, .int .i64 0, .int .i64 0], .int .u64 0, .int .u8 0] rfl (by kernel_rfl) (by kernel_rfl) (by kernel_rfl)
      (OpenSpec.preRow_of_cond 8 hx (by kernel_rfl) (fun k hk => by cases hk) (by kernel_rfl) (laid_met os))) ?_
  intro W base args ds gs before hval hW _ _ _ hL _ _
  exact contract H enc W base args ds gs before hval hW hL

theorem said : Rows.ChunkBackSaid :=
  OpenClaim.holds_of_cond 6 Tryd.f6 rfl rfl rfl rfl rfl rfl rfl ⟨rfl, rfl, rfl, rfl, rfl⟩ rfl rfl rfl rfl rfl (by kernel_rfl) Tryd.func6 (by kernel_rfl)
    (of_decide_eq_true (by kernel_rfl)) (by unfold Func.isWrapper; first | (rw [if_pos (by decide +kernel)]; kernel_rfl) | (rw [if_neg (by decide +kernel)]; exact ⟨rfl, rfl⟩))
    (fun os started H enc _ F => by rw [OpenClaim.pre_eq_preRow]; exact lifted os started H enc F)

theorem plain (f : FuncId) (fn : Func) (hf : Tryd.pinned.checked.prog.funcNamed "nepenthe/nepenthelaw19.ChunkBack" = some f) (hfn : Tryd.pinned.checked.prog.funcs[f]? = some fn) :
    false = Tryd.pinned.checked.prog.looks [] ∧ ∀ (j : Nat) t, fn.params[j]? = some t → Tryd.pinned.checked.prog.wantsStandIn t = false := by
  obtain rfl : f = 6 := Option.some.inj ((show Tryd.prog.funcNamed "nepenthe/nepenthelaw19.ChunkBack" = some 6 by kernel_rfl).symm.trans hf) |>.symm
  obtain rfl : fn = Tryd.f6 := (Option.some.inj (Tryd.func6.symm.trans hfn)).symm
  refine ⟨by kernel_rfl, fun j t ht => ?_⟩
  rw [Tryd.params6] at ht
  have hm := Array.mem_of_getElem? ht
  simp at hm
  rcases hm with rfl | rfl | rfl
  · exact (show Tryd.prog.wantsStandIn 23 = false by kernel_rfl)
  · exact (show Tryd.prog.wantsStandIn 25 = false by kernel_rfl)
  · exact (show Tryd.prog.wantsStandIn 5 = false by kernel_rfl)
end Go.Proofs.YtahfcpdekjdceaaDoor.chunkBack

namespace Go.Proofs.YtahfcpdekjdceaaDoor
theorem chunkBack_card : Rows.ChunkBackCardSaid :=
  Claim7.holds_tied_plain_at .later [] _ _ _ _ chunkBack.said (fun _ h => by cases h) (by kernel_rfl) (fun _ h => by cases h) chunkBack_row_tie rfl ⟨rfl, rfl⟩ (by kernel_rfl) rfl chunkBack.plain (by kernel_rfl)
#print axioms chunkBack_card
end Go.Proofs.YtahfcpdekjdceaaDoor
