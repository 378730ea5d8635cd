/- The current one of any blocks, in any right geometry: its place, its generation and its record; it is it, too, among those of its generation or greater alone: as the document says. Of more than six blocks, or of blocks of many or long pages, and of other geometries: the program answers. No condition. -/
import Derived.Test.YtahfcpdekjdceaaDoorCards
import Derived.Test.YtahfcpdekjdceaaDoorTie
import Derived.Test.YtahfcpdekjdceaaDoorPackL
import Derived.Test.YtahfcpdekjdceaaDoorXKRCr
import Derived.Test.YtahfcpdekjdceaaDoorXKRww
import Derived.Test.YtahfcpdekjdceaaDoorPackM
namespace Go.Proofs.YtahfcpdekjdceaaDoor.chunkCurrents
open Go.ChangeShapes Go.WideShapes Go.ChangeAt Go.RowKit Go.Proofs.YtahfcpdekjdceaaDoor.ck Go.Proofs.YtahfcpdekjdceaaDoor.pa Go.Proofs.YtahfcpdekjdceaaDoor.he Go.Proofs.YtahfcpdekjdceaaDoor.fa
set_option maxRecDepth 20000

theorem kc_some (S : Nat) (bs : List (List (List Int))) (k : Nat) : ∃ at' gen rec, Kc S bs k at' gen rec := by
  induction k with
  | zero => exact ⟨_, _, _, kc_zero S bs⟩
  | succ k ih =>
    obtain ⟨a, g, r, h⟩ := ih
    by_cases hy : Khd S (bs.getD k [])
    · by_cases ha : a < 0
      · exact ⟨_, _, _, kc_first h ha hy⟩
      · by_cases hg : kgen S (bs.getD k []) > g
        · exact ⟨_, _, _, kc_more h ha hy hg⟩
        · exact ⟨_, _, _, kc_less h ha hg⟩
    · exact ⟨_, _, _, kc_none h hy⟩
/-- the first blocks that are of the generation or greater, as values -/
def Aln (S : Nat) (bs : List (List (List Int))) (gen : Int) (k : Nat) (w : World) (B : Nat) (wr : World) (r : Value) : Prop :=
  ∃ vs al, rr.OwnR B wr r vs ∧ vs.length = al.length ∧ al.length ≤ k ∧ (∀ t, t < al.length → Pgs w (vs.getD t undef) (al.getD t [])) ∧ Alone S bs gen k al

set_option maxHeartbeats 4000000 in
theorem walk_many (g0 g1 g2 g3 g4 g5 : Int) (ao : Option Addr) (n cap : Nat) (w : World) (hT : Tab w) (hn : 6 < n) :
    Calls Tryd.prog 5 #[.agg (ints .i64 [g0, g1, g2, g3, g4, g5]), .slice ao n cap] w fun x w' => x = .returned (.bool true) ∧ Below w.heap.size w w' := by
  have SW : Hid (∀ w0, Below w.heap.size w w0 → Calls Tryd.prog 9 #[] w0 fun x w' => x = .returned (.bool true) ∧ Below w0.heap.size w0 w') := fun w0 q => ck.awake_any w0 (hT.below q)
  have n6 : (n : Int) > 6 := by omega
  clear hT hn
  have t0 : (0 : Nat) = 0 := rfl
  go_enter Tryd.func5, Tryd.ntmps5
  go_wp2_with (first
    | (have q1 := t1; go_at_call 9; refine (SW.out w1 BB.out).mono ?_; rintro e9 w2 ⟨rfl, B9⟩; have HB0 : Hid (Vr w2 w.heap.size [.int .i64 g0, .int .i64 g1, .int .i64 g2, .int .i64 g3, .int .i64 g4, .int .i64 g5]) := HB0.out.below B9 (range_lt HB0.out.1 (Nat.succ_pos _)); have BB : Hid (Below w.heap.size w w2) := BB.out.trans (B9.mono BB.out.size); clear hb0_0 hb0_1 hb0_2 hb0_3 hb0_4 hb0_5; have hb0_0 := HB0.out.cell 0 _ rfl; have hb0_1 := HB0.out.cell 1 _ rfl; have hb0_2 := HB0.out.cell 2 _ rfl; have hb0_3 := HB0.out.cell 3 _ rfl; have hb0_4 := HB0.out.cell 4 _ rfl; have hb0_5 := HB0.out.cell 5 _ rfl; clear B9; clear t1; have t2 : (1 : Nat) = 1 := rfl)
    | (have q0 := t0; refine box_lawC _ [.int .i64 g0, .int .i64 g1, .int .i64 g2, .int .i64 g3, .int .i64 g4, .int .i64 g5] rfl ?_; intro w1 X9 B9 l9; have HB0 : Hid (Vr w1 w.heap.size [.int .i64 g0, .int .i64 g1, .int .i64 g2, .int .i64 g3, .int .i64 g4, .int .i64 g5]) := X9; have BB : Hid (Below w.heap.size w w1) := B9; have hb0_0 := HB0.out.cell 0 _ rfl; have hb0_1 := HB0.out.cell 1 _ rfl; have hb0_2 := HB0.out.cell 2 _ rfl; have hb0_3 := HB0.out.cell 3 _ rfl; have hb0_4 := HB0.out.cell 4 _ rfl; have hb0_5 := HB0.out.cell 5 _ rfl; clear X9 B9 l9; clear t0; have t1 : (1 : Nat) = 1 := rfl))
  go_ret
  exact ⟨rfl, BB.out⟩

set_option maxHeartbeats 4000000 in
theorem walk_geo (g0 g1 g2 g3 g4 g5 : Int) (ao : Option Addr) (n cap : Nat) (w : World) (hT : Tab w) (hn : ¬ 6 < n) (hr : ¬ ge.Rt [g0, g1, g2, g3, g4, g5]) :
    Calls Tryd.prog 5 #[.agg (ints .i64 [g0, g1, g2, g3, g4, g5]), .slice ao n cap] w fun x w' => x = .returned (.bool true) ∧ Below w.heap.size w w' := by
  have SW : Hid (∀ w0, Below w.heap.size w w0 → Calls Tryd.prog 9 #[] w0 fun x w' => x = .returned (.bool true) ∧ Below w0.heap.size w0 w') := fun w0 q => ck.awake_any w0 (hT.below q)
  have SG : Hid (∀ w0, Calls Tryd.prog 8 #[.agg (ints .i64 [g0, g1, g2, g3, g4, g5])] w0 fun x w' => x = .returned (.bool false) ∧ Below w0.heap.size w0 w') := ge.right_no [g0, g1, g2, g3, g4, g5] rfl hr
  have n6 : ¬ ((n : Int) > 6) := by omega
  clear hT hn hr
  have t0 : (0 : Nat) = 0 := rfl
  go_enter Tryd.func5, Tryd.ntmps5
  go_wp2_with (first
    | (have q2 := t2; go_at_call 9; refine (SW.out w2 BB.out).mono ?_; rintro e9 w3 ⟨rfl, B9⟩; have HB0 : Hid (Vr w3 w.heap.size [.int .i64 g0, .int .i64 g1, .int .i64 g2, .int .i64 g3, .int .i64 g4, .int .i64 g5]) := HB0.out.below B9 (range_lt HB0.out.1 (Nat.succ_pos _)); have BB : Hid (Below w.heap.size w w3) := BB.out.trans (B9.mono BB.out.size); clear hb0_0 hb0_1 hb0_2 hb0_3 hb0_4 hb0_5; have hb0_0 := HB0.out.cell 0 _ rfl; have hb0_1 := HB0.out.cell 1 _ rfl; have hb0_2 := HB0.out.cell 2 _ rfl; have hb0_3 := HB0.out.cell 3 _ rfl; have hb0_4 := HB0.out.cell 4 _ rfl; have hb0_5 := HB0.out.cell 5 _ rfl; clear B9; clear t2; have t3 : (1 : Nat) = 1 := rfl)
    | (have q1 := t1; go_at_call 8; refine (SG.out w1).mono ?_; rintro e9 w2 ⟨rfl, B9⟩; have HB0 : Hid (Vr w2 w.heap.size [.int .i64 g0, .int .i64 g1, .int .i64 g2, .int .i64 g3, .int .i64 g4, .int .i64 g5]) := HB0.out.below B9 (range_lt HB0.out.1 (Nat.succ_pos _)); have BB : Hid (Below w.heap.size w w2) := BB.out.trans (B9.mono BB.out.size); clear hb0_0 hb0_1 hb0_2 hb0_3 hb0_4 hb0_5; have hb0_0 := HB0.out.cell 0 _ rfl; have hb0_1 := HB0.out.cell 1 _ rfl; have hb0_2 := HB0.out.cell 2 _ rfl; have hb0_3 := HB0.out.cell 3 _ rfl; have hb0_4 := HB0.out.cell 4 _ rfl; have hb0_5 := HB0.out.cell 5 _ rfl; clear B9; clear t1; have t2 : (1 : Nat) = 1 := rfl)
    | (have q0 := t0; refine box_lawC _ [.int .i64 g0, .int .i64 g1, .int .i64 g2, .int .i64 g3, .int .i64 g4, .int .i64 g5] rfl ?_; intro w1 X9 B9 l9; have HB0 : Hid (Vr w1 w.heap.size [.int .i64 g0, .int .i64 g1, .int .i64 g2, .int .i64 g3, .int .i64 g4, .int .i64 g5]) := X9; have BB : Hid (Below w.heap.size w w1) := B9; have hb0_0 := HB0.out.cell 0 _ rfl; have hb0_1 := HB0.out.cell 1 _ rfl; have hb0_2 := HB0.out.cell 2 _ rfl; have hb0_3 := HB0.out.cell 3 _ rfl; have hb0_4 := HB0.out.cell 4 _ rfl; have hb0_5 := HB0.out.cell 5 _ rfl; clear X9 B9 l9; clear t0; have t1 : (1 : Nat) = 1 := rfl))
  go_ret
  exact ⟨rfl, BB.out⟩

set_option maxHeartbeats 8000000 in
theorem walk_neg (g0 g1 g3 g4 g5 : Int) (S : Nat) (ao : Option Addr) (n cap : Nat) (bs : List (List (List Int))) (w : World) (hT : Tab w) (hn : ¬ 6 < n) (hr : ge.Rt [g0, g1, (S : Int), g3, g4, g5]) (hlen : bs.length = n) (hp : Bks w (.slice ao n cap) bs) (h3 : 0 < n → ∃ b off, ao = some ⟨b, off, none⟩ ∧ ∀ i, i < n → ∃ u, w.cell? ⟨b, off + i, none⟩ = some u ∧ Pgs w u (bs.getD i [])) (at' gen : Int) (rec : List Int) (hK : Kc S bs bs.length at' gen rec) (ha : at' < 0) :
    Calls Tryd.prog 5 #[.agg (ints .i64 [g0, g1, (S : Int), g3, g4, g5]), .slice ao n cap] w fun x w' => x = .returned (.bool true) ∧ Below w.heap.size w w' := by
  have SW : Hid (∀ w0, Below w.heap.size w w0 → Calls Tryd.prog 9 #[] w0 fun x w' => x = .returned (.bool true) ∧ Below w0.heap.size w0 w') := fun w0 q => ck.awake_any w0 (hT.below q)
  have SG : Hid (∀ w0, Calls Tryd.prog 8 #[.agg (ints .i64 [g0, g1, (S : Int), g3, g4, g5])] w0 fun x w' => x = .returned (.bool true) ∧ Below w0.heap.size w0 w') := ge.right_yes [g0, g1, (S : Int), g3, g4, g5] rfl hr
  have n6 : ¬ ((n : Int) > 6) := by omega
  have HK : Hid (Kc S bs bs.length at' gen rec) := hK
  have SU : Hid (∀ w0, Below w.heap.size w w0 → Calls Tryd.prog 16 #[.agg (ints .i64 [g0, g1, (S : Int), g3, g4, g5]), .slice ao n cap] w0 fun x w' => ∃ ro rn rc, x = .returned (.tuple #[.int .i64 at', .int .u64 gen, .slice ro rn rc]) ∧ Byt w' (.slice ro rn rc) rec ∧ Below w0.heap.size w0 w') := fun w0 q => (current_any g0 g1 g3 g4 g5 S _ bs w0 hr (hT.below q) (hp.below q)).mono fun x w' ⟨⟨a0, ge, re, ro, rn, rc, e, hy, hk⟩, hB⟩ => by
    obtain ⟨rfl, rfl, rfl⟩ := kc_only hk hK
    exact ⟨ro, rn, rc, e, hy, hB⟩
  have SV : Hid (∀ w0, Below w.heap.size w w0 → Calls Tryd.prog 17 #[.agg (ints .i64 [g0, g1, (S : Int), g3, g4, g5]), .slice ao n cap] w0 fun x w' => ∃ ro rn rc ok, x = .returned (.tuple #[.int .i64 at', .agg (hdl gen (.slice ro rn rc) ok).toArray]) ∧ Byt w' (.slice ro rn rc) rec ∧ Below w0.heap.size w0 w') := fun w0 q => (rcurrent_any g0 g1 g3 g4 g5 S _ bs w0 hr (hp.below q)).mono fun x w' ⟨⟨a0, ge, re, ro, rn, rc, ok, e, hy, hk⟩, hB⟩ => by
    obtain ⟨rfl, rfl, rfl⟩ := kc_only hk hK
    exact ⟨ro, rn, rc, ok, e, hy, hB⟩
  have HR : Hid (ge.Rt [g0, g1, (S : Int), g3, g4, g5] ∧ Tab w) := ⟨hr, hT⟩
  have HA : Hid (0 < n → ∃ b off, ao = some ⟨b, off, none⟩ ∧ ∀ i, i < n → ∃ u, w.cell? ⟨b, off + i, none⟩ = some u ∧ Pgs w u (bs.getD i [])) := h3
  have EN : Hid (bs.length = n) := hlen
  have _ := HK
  have _ := EN
  have _ := HR
  clear hT hr hp h3 hlen hK hn
  have t0 : (0 : Nat) = 0 := rfl
  go_enter Tryd.func5, Tryd.ntmps5
  go_wp2_with (first
    | (have q1 := t1; go_at_call 8; refine (SG.out w1).mono ?_; rintro e9 w2 ⟨rfl, B9⟩; have HB0 : Hid (Vr w2 w.heap.size [.int .i64 g0, .int .i64 g1, .int .i64 (S : Int), .int .i64 g3, .int .i64 g4, .int .i64 g5]) := HB0.out.below B9 (range_lt HB0.out.1 (Nat.succ_pos _)); have BB : Hid (Below w.heap.size w w2) := BB.out.trans (B9.mono BB.out.size); clear hb0_0 hb0_1 hb0_2 hb0_3 hb0_4 hb0_5; have hb0_0 := HB0.out.cell 0 _ rfl; have hb0_1 := HB0.out.cell 1 _ rfl; have hb0_2 := HB0.out.cell 2 _ rfl; have hb0_3 := HB0.out.cell 3 _ rfl; have hb0_4 := HB0.out.cell 4 _ rfl; have hb0_5 := HB0.out.cell 5 _ rfl; clear B9; clear t1; have t2 : (1 : Nat) = 1 := rfl)
    | (have q0 := t0; refine box_lawC _ [.int .i64 g0, .int .i64 g1, .int .i64 (S : Int), .int .i64 g3, .int .i64 g4, .int .i64 g5] rfl ?_; intro w1 X9 B9 l9; have HB0 : Hid (Vr w1 w.heap.size [.int .i64 g0, .int .i64 g1, .int .i64 (S : Int), .int .i64 g3, .int .i64 g4, .int .i64 g5]) := X9; have BB : Hid (Below w.heap.size w w1) := B9; have hb0_0 := HB0.out.cell 0 _ rfl; have hb0_1 := HB0.out.cell 1 _ rfl; have hb0_2 := HB0.out.cell 2 _ rfl; have hb0_3 := HB0.out.cell 3 _ rfl; have hb0_4 := HB0.out.cell 4 _ rfl; have hb0_5 := HB0.out.cell 5 _ rfl; clear X9 B9 l9; clear t0; have t1 : (1 : Nat) = 1 := rfl))
  have BW : Hid (Below w.heap.size w w2) := BB.out
  clear BB hb0_0 hb0_1 hb0_2 hb0_3 hb0_4 hb0_5
  go_loopw [5] (fun i wr => ∃ k : Nat, k ≤ n ∧ i = .int .i64 (k : Int) ∧ Below w2.heap.size w2 wr) (fun i _ => n - (intOf i).toNat)
  case atStart => exact ⟨0, Nat.zero_le _, rfl, Below.refl _ _⟩
  case round =>
    obtain ⟨k, hk, rfl, hB⟩ := hrel
    have BR : Hid (Below w2.heap.size w2 wr) := hB
    have HB0 : Hid (Vr wr w.heap.size [.int .i64 g0, .int .i64 g1, .int .i64 (S : Int), .int .i64 g3, .int .i64 g4, .int .i64 g5]) := HB0.out.below hB (range_lt HB0.out.1 (Nat.succ_pos _))
    have hb0_0 := HB0.out.cell 0 _ rfl
    have hb0_1 := HB0.out.cell 1 _ rfl
    have hb0_2 := HB0.out.cell 2 _ rfl
    have hb0_3 := HB0.out.cell 3 _ rfl
    have hb0_4 := HB0.out.cell 4 _ rfl
    have hb0_5 := HB0.out.cell 5 _ rfl
    clear hB
    by_cases hlt : k < n
    · have lk : (k : Int) < (n : Int) := by omega
      obtain ⟨b, off, rfl, hall⟩ := HA.out (by omega)
      obtain ⟨z, hz, hzp⟩ := hall k hlt
      have hz1 : wr.cell? ⟨b, off + k, none⟩ = some z := (by have q2 := BW.out.trans (BR.out.mono BW.out.size); rw [q2.cell (World.block_lt_of_cell? _ _ hz)]; exact hz)
      by_cases hf : Few (bs.getD k [])
      · have SF : Hid (∀ w0, w0 = wr → Calls Tryd.prog 13 #[z] w0 fun x w' => x = .returned (.bool true) ∧ Below w0.heap.size w0 w') := fun w0 q => by
          subst q
          exact few_any z _ w0 (hzp.below (BW.out.trans (BR.out.mono BW.out.size))) true ⟨fun _ => hf, fun _ => rfl⟩
        clear hf hall hz hzp
        have t0 : (0 : Nat) = 0 := rfl
        go_wp2_with (first
          | (have q0 := t0; go_at_call 13; refine (SF.out wr rfl).mono ?_; rintro e9 w41 ⟨rfl, B9⟩; have HB0 : Hid (Vr w41 w.heap.size [.int .i64 g0, .int .i64 g1, .int .i64 (S : Int), .int .i64 g3, .int .i64 g4, .int .i64 g5]) := HB0.out.below B9 (range_lt HB0.out.1 (Nat.succ_pos _)); have BB : Hid (Below wr.heap.size wr w41) := B9; clear hb0_0 hb0_1 hb0_2 hb0_3 hb0_4 hb0_5; have hb0_0 := HB0.out.cell 0 _ rfl; have hb0_1 := HB0.out.cell 1 _ rfl; have hb0_2 := HB0.out.cell 2 _ rfl; have hb0_3 := HB0.out.cell 3 _ rfl; have hb0_4 := HB0.out.cell 4 _ rfl; have hb0_5 := HB0.out.cell 5 _ rfl; clear B9; clear t0; have t1 : (1 : Nat) = 1 := rfl))
        go_roundw
        case rel => exact ⟨k + 1, by omega, by go_num, BR.out.trans (BB.out.mono BR.out.size)⟩
        case measure => simp [intOf]; omega
      · have SF : Hid (∀ w0, w0 = wr → Calls Tryd.prog 13 #[z] w0 fun x w' => x = .returned (.bool false) ∧ Below w0.heap.size w0 w') := fun w0 q => by
          subst q
          exact few_any z _ w0 (hzp.below (BW.out.trans (BR.out.mono BW.out.size))) false ⟨fun z => absurd z Bool.false_ne_true, fun z => absurd z hf⟩
        clear hf hall hz hzp
        have t0 : (0 : Nat) = 0 := rfl
        go_wp2_with (first
          | (have q1 := t1; go_at_call 9; refine (SW.out w41 (BW.out.trans ((BR.out.trans (BB.out.mono BR.out.size)).mono BW.out.size))).mono ?_; rintro e9 w42 ⟨rfl, B9⟩; have HB0 : Hid (Vr w42 w.heap.size [.int .i64 g0, .int .i64 g1, .int .i64 (S : Int), .int .i64 g3, .int .i64 g4, .int .i64 g5]) := HB0.out.below B9 (range_lt HB0.out.1 (Nat.succ_pos _)); have BB : Hid (Below wr.heap.size wr w42) := BB.out.trans (B9.mono BB.out.size); clear hb0_0 hb0_1 hb0_2 hb0_3 hb0_4 hb0_5; have hb0_0 := HB0.out.cell 0 _ rfl; have hb0_1 := HB0.out.cell 1 _ rfl; have hb0_2 := HB0.out.cell 2 _ rfl; have hb0_3 := HB0.out.cell 3 _ rfl; have hb0_4 := HB0.out.cell 4 _ rfl; have hb0_5 := HB0.out.cell 5 _ rfl; clear B9; clear t1; have t2 : (1 : Nat) = 1 := rfl)
          | (have q0 := t0; go_at_call 13; refine (SF.out wr rfl).mono ?_; rintro e9 w41 ⟨rfl, B9⟩; have HB0 : Hid (Vr w41 w.heap.size [.int .i64 g0, .int .i64 g1, .int .i64 (S : Int), .int .i64 g3, .int .i64 g4, .int .i64 g5]) := HB0.out.below B9 (range_lt HB0.out.1 (Nat.succ_pos _)); have BB : Hid (Below wr.heap.size wr w41) := B9; clear hb0_0 hb0_1 hb0_2 hb0_3 hb0_4 hb0_5; have hb0_0 := HB0.out.cell 0 _ rfl; have hb0_1 := HB0.out.cell 1 _ rfl; have hb0_2 := HB0.out.cell 2 _ rfl; have hb0_3 := HB0.out.cell 3 _ rfl; have hb0_4 := HB0.out.cell 4 _ rfl; have hb0_5 := HB0.out.cell 5 _ rfl; clear B9; clear t0; have t1 : (1 : Nat) = 1 := rfl))
        go_ret
        exact ⟨rfl, BW.out.trans ((BR.out.trans (BB.out.mono BR.out.size)).mono BW.out.size)⟩
    · have lk : ¬ ((k : Int) < (n : Int)) := by omega
      clear hk
      have t0 : (0 : Nat) = 0 := rfl
      go_wp2_with (first
        | (have q5 := t5; go_at_call 9; refine (SW.out w45 (BW.out.trans ((BR.out.trans (BB.out.mono BR.out.size)).mono BW.out.size))).mono ?_; rintro e9 w46 ⟨rfl, B9⟩; have HB0 : Hid (Vr w46 w.heap.size [.int .i64 g0, .int .i64 g1, .int .i64 (S : Int), .int .i64 g3, .int .i64 g4, .int .i64 g5]) := HB0.out.below B9 (range_lt HB0.out.1 (Nat.succ_pos _)); have Y1 : Hid (Byt w46 (.slice ro rn rc) rec) := Y1.out.below B9; have Y2 : Hid (Byt w46 (.slice ro2 rn2 rc2) rec) := Y2.out.below B9; have HV : Hid (Vr w46 w42.heap.size (hdl gen (.slice ro2 rn2 rc2) ok2)) := HV.out.below B9 (range_lt HV.out.1 (Nat.succ_pos _)); have BB : Hid (Below wr.heap.size wr w46) := BB.out.trans (B9.mono BB.out.size); clear hb0_0 hb0_1 hb0_2 hb0_3 hb0_4 hb0_5 hv_0 hv_1 hv_2; have hb0_0 := HB0.out.cell 0 _ rfl; have hb0_1 := HB0.out.cell 1 _ rfl; have hb0_2 := HB0.out.cell 2 _ rfl; have hb0_3 := HB0.out.cell 3 _ rfl; have hb0_4 := HB0.out.cell 4 _ rfl; have hb0_5 := HB0.out.cell 5 _ rfl; have hv_0 := HV.out.cell 0 _ rfl; have hv_1 := HV.out.cell 1 _ rfl; have hv_2 := HV.out.cell 2 _ rfl; clear B9; clear t5; have t6 : (1 : Nat) = 1 := rfl)
        | (have q4 := t4; go_at_call 12; refine (he.same_yes w44 _ _ rec Y1.out Y2.out).mono ?_; rintro e9 w45 ⟨rfl, B9⟩; have HB0 : Hid (Vr w45 w.heap.size [.int .i64 g0, .int .i64 g1, .int .i64 (S : Int), .int .i64 g3, .int .i64 g4, .int .i64 g5]) := HB0.out.below B9 (range_lt HB0.out.1 (Nat.succ_pos _)); have Y1 : Hid (Byt w45 (.slice ro rn rc) rec) := Y1.out.below B9; have Y2 : Hid (Byt w45 (.slice ro2 rn2 rc2) rec) := Y2.out.below B9; have HV : Hid (Vr w45 w42.heap.size (hdl gen (.slice ro2 rn2 rc2) ok2)) := HV.out.below B9 (range_lt HV.out.1 (Nat.succ_pos _)); have BB : Hid (Below wr.heap.size wr w45) := BB.out.trans (B9.mono BB.out.size); clear hb0_0 hb0_1 hb0_2 hb0_3 hb0_4 hb0_5 hv_0 hv_1 hv_2; have hb0_0 := HB0.out.cell 0 _ rfl; have hb0_1 := HB0.out.cell 1 _ rfl; have hb0_2 := HB0.out.cell 2 _ rfl; have hb0_3 := HB0.out.cell 3 _ rfl; have hb0_4 := HB0.out.cell 4 _ rfl; have hb0_5 := HB0.out.cell 5 _ rfl; have hv_0 := HV.out.cell 0 _ rfl; have hv_1 := HV.out.cell 1 _ rfl; have hv_2 := HV.out.cell 2 _ rfl; clear B9; clear t4; have t5 : (1 : Nat) = 1 := rfl)
        | (have q3 := t3; (with_reducible refine at_store ?_); refine store_lawC _ (hdl gen (.slice ro2 rn2 rc2) ok2) w42.heap.size 0 rfl rfl HN.out.2 rowy_held.2 (hdl_one _ _ _ _ _) ?_; intro w44 E9 R9 T9 B9; have B9 : Below w42.heap.size w42 w44 := BA.out.trans B9; have HB0 : Hid (Vr w44 w.heap.size [.int .i64 g0, .int .i64 g1, .int .i64 (S : Int), .int .i64 g3, .int .i64 g4, .int .i64 g5]) := HB0.out.below B9 (range_lt HB0.out.1 (Nat.succ_pos _)); have Y1 : Hid (Byt w44 (.slice ro rn rc) rec) := Y1.out.below B9; have Y2 : Hid (Byt w44 (.slice ro2 rn2 rc2) rec) := Y2.out.below B9; have HV : Hid (Vr w44 w42.heap.size (hdl gen (.slice ro2 rn2 rc2) ok2)) := ⟨R9, T9⟩; have BB : Hid (Below wr.heap.size wr w44) := BB.out.trans (B9.mono BB.out.size); clear hb0_0 hb0_1 hb0_2 hb0_3 hb0_4 hb0_5; have hb0_0 := HB0.out.cell 0 _ rfl; have hb0_1 := HB0.out.cell 1 _ rfl; have hb0_2 := HB0.out.cell 2 _ rfl; have hb0_3 := HB0.out.cell 3 _ rfl; have hb0_4 := HB0.out.cell 4 _ rfl; have hb0_5 := HB0.out.cell 5 _ rfl; have hv_0 := HV.out.cell 0 _ rfl; have hv_1 := HV.out.cell 1 _ rfl; have hv_2 := HV.out.cell 2 _ rfl; clear E9 R9 T9 B9 HN BA; clear t3; have t4 : (1 : Nat) = 1 := rfl)
        | (have q2 := t2; (with_reducible refine at_alloc ?_); refine new_lawC _ Z3 zero_held ?_; intro w43 X9 B9 l9; have HN : Hid (Vr w43 w42.heap.size Z3) := X9; have BA : Hid (Below w42.heap.size w42 w43) := B9; clear X9 B9 l9; clear t2; have t3 : (1 : Nat) = 1 := rfl)
        | (have q1 := t1; go_at_call 17; refine (SV.out w41 (BW.out.trans ((BR.out.trans (BB.out.mono BR.out.size)).mono BW.out.size))).mono ?_; rintro e9 w42 ⟨ro2, rn2, rc2, ok2, rfl, y9, B9⟩; have HB0 : Hid (Vr w42 w.heap.size [.int .i64 g0, .int .i64 g1, .int .i64 (S : Int), .int .i64 g3, .int .i64 g4, .int .i64 g5]) := HB0.out.below B9 (range_lt HB0.out.1 (Nat.succ_pos _)); have Y1 : Hid (Byt w42 (.slice ro rn rc) rec) := Y1.out.below B9; have Y2 : Hid (Byt w42 (.slice ro2 rn2 rc2) rec) := y9; have BB : Hid (Below wr.heap.size wr w42) := BB.out.trans (B9.mono BB.out.size); clear hb0_0 hb0_1 hb0_2 hb0_3 hb0_4 hb0_5; have hb0_0 := HB0.out.cell 0 _ rfl; have hb0_1 := HB0.out.cell 1 _ rfl; have hb0_2 := HB0.out.cell 2 _ rfl; have hb0_3 := HB0.out.cell 3 _ rfl; have hb0_4 := HB0.out.cell 4 _ rfl; have hb0_5 := HB0.out.cell 5 _ rfl; clear B9 y9; clear t1; have t2 : (1 : Nat) = 1 := rfl)
        | (have q0 := t0; go_at_call 16; refine (SU.out wr (BW.out.trans (BR.out.mono BW.out.size))).mono ?_; rintro e9 w41 ⟨ro, rn, rc, rfl, y9, B9⟩; have HB0 : Hid (Vr w41 w.heap.size [.int .i64 g0, .int .i64 g1, .int .i64 (S : Int), .int .i64 g3, .int .i64 g4, .int .i64 g5]) := HB0.out.below B9 (range_lt HB0.out.1 (Nat.succ_pos _)); have Y1 : Hid (Byt w41 (.slice ro rn rc) rec) := y9; have BB : Hid (Below wr.heap.size wr w41) := B9; clear hb0_0 hb0_1 hb0_2 hb0_3 hb0_4 hb0_5; have hb0_0 := HB0.out.cell 0 _ rfl; have hb0_1 := HB0.out.cell 1 _ rfl; have hb0_2 := HB0.out.cell 2 _ rfl; have hb0_3 := HB0.out.cell 3 _ rfl; have hb0_4 := HB0.out.cell 4 _ rfl; have hb0_5 := HB0.out.cell 5 _ rfl; clear B9 y9; clear t0; have t1 : (1 : Nat) = 1 := rfl))
      go_ret
      exact ⟨rfl, (BW.out.trans ((BR.out.trans (BB.out.mono BR.out.size)).mono BW.out.size))⟩

set_option maxHeartbeats 8000000 in
theorem walk_pos (g0 g1 g3 g4 g5 : Int) (S : Nat) (ao : Option Addr) (n cap : Nat) (bs : List (List (List Int))) (w : World) (hT : Tab w) (hn : ¬ 6 < n) (hr : ge.Rt [g0, g1, (S : Int), g3, g4, g5]) (hlen : bs.length = n) (hp : Bks w (.slice ao n cap) bs) (h3 : 0 < n → ∃ b off, ao = some ⟨b, off, none⟩ ∧ ∀ i, i < n → ∃ u, w.cell? ⟨b, off + i, none⟩ = some u ∧ Pgs w u (bs.getD i [])) (at' gen : Int) (rec : List Int) (hK : Kc S bs bs.length at' gen rec) (ha : ¬ at' < 0) :
    Calls Tryd.prog 5 #[.agg (ints .i64 [g0, g1, (S : Int), g3, g4, g5]), .slice ao n cap] w fun x w' => x = .returned (.bool true) ∧ Below w.heap.size w w' := by
  have SW : Hid (∀ w0, Below w.heap.size w w0 → Calls Tryd.prog 9 #[] w0 fun x w' => x = .returned (.bool true) ∧ Below w0.heap.size w0 w') := fun w0 q => ck.awake_any w0 (hT.below q)
  have SG : Hid (∀ w0, Calls Tryd.prog 8 #[.agg (ints .i64 [g0, g1, (S : Int), g3, g4, g5])] w0 fun x w' => x = .returned (.bool true) ∧ Below w0.heap.size w0 w') := ge.right_yes [g0, g1, (S : Int), g3, g4, g5] rfl hr
  have n6 : ¬ ((n : Int) > 6) := by omega
  have HK : Hid (Kc S bs bs.length at' gen rec) := hK
  have SU : Hid (∀ w0, Below w.heap.size w w0 → Calls Tryd.prog 16 #[.agg (ints .i64 [g0, g1, (S : Int), g3, g4, g5]), .slice ao n cap] w0 fun x w' => ∃ ro rn rc, x = .returned (.tuple #[.int .i64 at', .int .u64 gen, .slice ro rn rc]) ∧ Byt w' (.slice ro rn rc) rec ∧ Below w0.heap.size w0 w') := fun w0 q => (current_any g0 g1 g3 g4 g5 S _ bs w0 hr (hT.below q) (hp.below q)).mono fun x w' ⟨⟨a0, ge, re, ro, rn, rc, e, hy, hk⟩, hB⟩ => by
    obtain ⟨rfl, rfl, rfl⟩ := kc_only hk hK
    exact ⟨ro, rn, rc, e, hy, hB⟩
  have SV : Hid (∀ w0, Below w.heap.size w w0 → Calls Tryd.prog 17 #[.agg (ints .i64 [g0, g1, (S : Int), g3, g4, g5]), .slice ao n cap] w0 fun x w' => ∃ ro rn rc ok, x = .returned (.tuple #[.int .i64 at', .agg (hdl gen (.slice ro rn rc) ok).toArray]) ∧ Byt w' (.slice ro rn rc) rec ∧ Below w0.heap.size w0 w') := fun w0 q => (rcurrent_any g0 g1 g3 g4 g5 S _ bs w0 hr (hp.below q)).mono fun x w' ⟨⟨a0, ge, re, ro, rn, rc, ok, e, hy, hk⟩, hB⟩ => by
    obtain ⟨rfl, rfl, rfl⟩ := kc_only hk hK
    exact ⟨ro, rn, rc, ok, e, hy, hB⟩
  have HR : Hid (ge.Rt [g0, g1, (S : Int), g3, g4, g5] ∧ Tab w) := ⟨hr, hT⟩
  have HA : Hid (0 < n → ∃ b off, ao = some ⟨b, off, none⟩ ∧ ∀ i, i < n → ∃ u, w.cell? ⟨b, off + i, none⟩ = some u ∧ Pgs w u (bs.getD i [])) := h3
  have EN : Hid (bs.length = n) := hlen
  clear hT hr hp h3 hlen hK hn
  have t0 : (0 : Nat) = 0 := rfl
  go_enter Tryd.func5, Tryd.ntmps5
  go_wp2_with (first
    | (have q1 := t1; go_at_call 8; refine (SG.out w1).mono ?_; rintro e9 w2 ⟨rfl, B9⟩; have HB0 : Hid (Vr w2 w.heap.size [.int .i64 g0, .int .i64 g1, .int .i64 (S : Int), .int .i64 g3, .int .i64 g4, .int .i64 g5]) := HB0.out.below B9 (range_lt HB0.out.1 (Nat.succ_pos _)); have BB : Hid (Below w.heap.size w w2) := BB.out.trans (B9.mono BB.out.size); clear hb0_0 hb0_1 hb0_2 hb0_3 hb0_4 hb0_5; have hb0_0 := HB0.out.cell 0 _ rfl; have hb0_1 := HB0.out.cell 1 _ rfl; have hb0_2 := HB0.out.cell 2 _ rfl; have hb0_3 := HB0.out.cell 3 _ rfl; have hb0_4 := HB0.out.cell 4 _ rfl; have hb0_5 := HB0.out.cell 5 _ rfl; clear B9; clear t1; have t2 : (1 : Nat) = 1 := rfl)
    | (have q0 := t0; refine box_lawC _ [.int .i64 g0, .int .i64 g1, .int .i64 (S : Int), .int .i64 g3, .int .i64 g4, .int .i64 g5] rfl ?_; intro w1 X9 B9 l9; have HB0 : Hid (Vr w1 w.heap.size [.int .i64 g0, .int .i64 g1, .int .i64 (S : Int), .int .i64 g3, .int .i64 g4, .int .i64 g5]) := X9; have BB : Hid (Below w.heap.size w w1) := B9; have hb0_0 := HB0.out.cell 0 _ rfl; have hb0_1 := HB0.out.cell 1 _ rfl; have hb0_2 := HB0.out.cell 2 _ rfl; have hb0_3 := HB0.out.cell 3 _ rfl; have hb0_4 := HB0.out.cell 4 _ rfl; have hb0_5 := HB0.out.cell 5 _ rfl; clear X9 B9 l9; clear t0; have t1 : (1 : Nat) = 1 := rfl))
  have BW : Hid (Below w.heap.size w w2) := BB.out
  clear BB hb0_0 hb0_1 hb0_2 hb0_3 hb0_4 hb0_5
  go_loopw [5] (fun i wr => ∃ k : Nat, k ≤ n ∧ i = .int .i64 (k : Int) ∧ Below w2.heap.size w2 wr) (fun i _ => n - (intOf i).toNat)
  case atStart => exact ⟨0, Nat.zero_le _, rfl, Below.refl _ _⟩
  case round =>
    obtain ⟨k, hk, rfl, hB⟩ := hrel
    have BR : Hid (Below w2.heap.size w2 wr) := hB
    have HB0 : Hid (Vr wr w.heap.size [.int .i64 g0, .int .i64 g1, .int .i64 (S : Int), .int .i64 g3, .int .i64 g4, .int .i64 g5]) := HB0.out.below hB (range_lt HB0.out.1 (Nat.succ_pos _))
    have hb0_0 := HB0.out.cell 0 _ rfl
    have hb0_1 := HB0.out.cell 1 _ rfl
    have hb0_2 := HB0.out.cell 2 _ rfl
    have hb0_3 := HB0.out.cell 3 _ rfl
    have hb0_4 := HB0.out.cell 4 _ rfl
    have hb0_5 := HB0.out.cell 5 _ rfl
    clear hB
    by_cases hlt : k < n
    · have lk : (k : Int) < (n : Int) := by omega
      obtain ⟨b, off, rfl, hall⟩ := HA.out (by omega)
      obtain ⟨z, hz, hzp⟩ := hall k hlt
      have hz1 : wr.cell? ⟨b, off + k, none⟩ = some z := (by have q2 := BW.out.trans (BR.out.mono BW.out.size); rw [q2.cell (World.block_lt_of_cell? _ _ hz)]; exact hz)
      by_cases hf : Few (bs.getD k [])
      · have SF : Hid (∀ w0, w0 = wr → Calls Tryd.prog 13 #[z] w0 fun x w' => x = .returned (.bool true) ∧ Below w0.heap.size w0 w') := fun w0 q => by
          subst q
          exact few_any z _ w0 (hzp.below (BW.out.trans (BR.out.mono BW.out.size))) true ⟨fun _ => hf, fun _ => rfl⟩
        clear hf hall hz hzp
        have t0 : (0 : Nat) = 0 := rfl
        go_wp2_with (first
          | (have q0 := t0; go_at_call 13; refine (SF.out wr rfl).mono ?_; rintro e9 w41 ⟨rfl, B9⟩; have HB0 : Hid (Vr w41 w.heap.size [.int .i64 g0, .int .i64 g1, .int .i64 (S : Int), .int .i64 g3, .int .i64 g4, .int .i64 g5]) := HB0.out.below B9 (range_lt HB0.out.1 (Nat.succ_pos _)); have BB : Hid (Below wr.heap.size wr w41) := B9; clear hb0_0 hb0_1 hb0_2 hb0_3 hb0_4 hb0_5; have hb0_0 := HB0.out.cell 0 _ rfl; have hb0_1 := HB0.out.cell 1 _ rfl; have hb0_2 := HB0.out.cell 2 _ rfl; have hb0_3 := HB0.out.cell 3 _ rfl; have hb0_4 := HB0.out.cell 4 _ rfl; have hb0_5 := HB0.out.cell 5 _ rfl; clear B9; clear t0; have t1 : (1 : Nat) = 1 := rfl))
        go_roundw
        case rel => exact ⟨k + 1, by omega, by go_num, BR.out.trans (BB.out.mono BR.out.size)⟩
        case measure => simp [intOf]; omega
      · have SF : Hid (∀ w0, w0 = wr → Calls Tryd.prog 13 #[z] w0 fun x w' => x = .returned (.bool false) ∧ Below w0.heap.size w0 w') := fun w0 q => by
          subst q
          exact few_any z _ w0 (hzp.below (BW.out.trans (BR.out.mono BW.out.size))) false ⟨fun z => absurd z Bool.false_ne_true, fun z => absurd z hf⟩
        clear hf hall hz hzp
        have t0 : (0 : Nat) = 0 := rfl
        go_wp2_with (first
          | (have q1 := t1; go_at_call 9; refine (SW.out w41 (BW.out.trans ((BR.out.trans (BB.out.mono BR.out.size)).mono BW.out.size))).mono ?_; rintro e9 w42 ⟨rfl, B9⟩; have HB0 : Hid (Vr w42 w.heap.size [.int .i64 g0, .int .i64 g1, .int .i64 (S : Int), .int .i64 g3, .int .i64 g4, .int .i64 g5]) := HB0.out.below B9 (range_lt HB0.out.1 (Nat.succ_pos _)); have BB : Hid (Below wr.heap.size wr w42) := BB.out.trans (B9.mono BB.out.size); clear hb0_0 hb0_1 hb0_2 hb0_3 hb0_4 hb0_5; have hb0_0 := HB0.out.cell 0 _ rfl; have hb0_1 := HB0.out.cell 1 _ rfl; have hb0_2 := HB0.out.cell 2 _ rfl; have hb0_3 := HB0.out.cell 3 _ rfl; have hb0_4 := HB0.out.cell 4 _ rfl; have hb0_5 := HB0.out.cell 5 _ rfl; clear B9; clear t1; have t2 : (1 : Nat) = 1 := rfl)
          | (have q0 := t0; go_at_call 13; refine (SF.out wr rfl).mono ?_; rintro e9 w41 ⟨rfl, B9⟩; have HB0 : Hid (Vr w41 w.heap.size [.int .i64 g0, .int .i64 g1, .int .i64 (S : Int), .int .i64 g3, .int .i64 g4, .int .i64 g5]) := HB0.out.below B9 (range_lt HB0.out.1 (Nat.succ_pos _)); have BB : Hid (Below wr.heap.size wr w41) := B9; clear hb0_0 hb0_1 hb0_2 hb0_3 hb0_4 hb0_5; have hb0_0 := HB0.out.cell 0 _ rfl; have hb0_1 := HB0.out.cell 1 _ rfl; have hb0_2 := HB0.out.cell 2 _ rfl; have hb0_3 := HB0.out.cell 3 _ rfl; have hb0_4 := HB0.out.cell 4 _ rfl; have hb0_5 := HB0.out.cell 5 _ rfl; clear B9; clear t0; have t1 : (1 : Nat) = 1 := rfl))
        go_ret
        exact ⟨rfl, BW.out.trans ((BR.out.trans (BB.out.mono BR.out.size)).mono BW.out.size)⟩
    · have lk : ¬ ((k : Int) < (n : Int)) := by omega
      clear hk
      have t0 : (0 : Nat) = 0 := rfl
      go_wp2_with (first
        | (have q5 := t5; have HBm := HB0; have HVm := HV; have Y1m := Y1; have BBm := BB; refine rr.nil_lawR _ rfl rfl ?_; intro w46 o9 B9; have HB0 : Hid (Vr w46 w.heap.size [.int .i64 g0, .int .i64 g1, .int .i64 (S : Int), .int .i64 g3, .int .i64 g4, .int .i64 g5]) := HB0.out.below B9 (range_lt HB0.out.1 (Nat.succ_pos _)); have Y1 : Hid (Byt w46 (.slice ro rn rc) rec) := Y1.out.below B9; have Y2 : Hid (Byt w46 (.slice ro2 rn2 rc2) rec) := Y2.out.below B9; have HV : Hid (Vr w46 w42.heap.size (hdl gen (.slice ro2 rn2 rc2) ok2)) := HV.out.below B9 (range_lt HV.out.1 (Nat.succ_pos _)); have HN : Hid (rr.OwnR w45.heap.size w46 (.slice (some ⟨w45.heap.size, 0, none⟩) 0 0) []) := o9; have BO : Hid (Below w45.heap.size w45 w46) := B9; have BB : Hid (Below wr.heap.size wr w46) := BB.out.trans (B9.mono BB.out.size); clear hb0_0 hb0_1 hb0_2 hb0_3 hb0_4 hb0_5 hv_0 hv_1 hv_2; have hb0_0 := HB0.out.cell 0 _ rfl; have hb0_1 := HB0.out.cell 1 _ rfl; have hb0_2 := HB0.out.cell 2 _ rfl; have hb0_3 := HB0.out.cell 3 _ rfl; have hb0_4 := HB0.out.cell 4 _ rfl; have hb0_5 := HB0.out.cell 5 _ rfl; have hv_0 := HV.out.cell 0 _ rfl; have hv_1 := HV.out.cell 1 _ rfl; have hv_2 := HV.out.cell 2 _ rfl; clear HB0 HV Y1 BB; have HB0 := HBm; have HV := HVm; have Y1 := Y1m; have BB := BBm; clear HBm HVm Y1m BBm; clear B9 o9; clear t5; have t6 : (1 : Nat) = 1 := rfl)
        | (have q4 := t4; go_at_call 12; refine (he.same_yes w44 _ _ rec Y1.out Y2.out).mono ?_; rintro e9 w45 ⟨rfl, B9⟩; have HB0 : Hid (Vr w45 w.heap.size [.int .i64 g0, .int .i64 g1, .int .i64 (S : Int), .int .i64 g3, .int .i64 g4, .int .i64 g5]) := HB0.out.below B9 (range_lt HB0.out.1 (Nat.succ_pos _)); have Y1 : Hid (Byt w45 (.slice ro rn rc) rec) := Y1.out.below B9; have Y2 : Hid (Byt w45 (.slice ro2 rn2 rc2) rec) := Y2.out.below B9; have HV : Hid (Vr w45 w42.heap.size (hdl gen (.slice ro2 rn2 rc2) ok2)) := HV.out.below B9 (range_lt HV.out.1 (Nat.succ_pos _)); have BB : Hid (Below wr.heap.size wr w45) := BB.out.trans (B9.mono BB.out.size); clear hb0_0 hb0_1 hb0_2 hb0_3 hb0_4 hb0_5 hv_0 hv_1 hv_2; have hb0_0 := HB0.out.cell 0 _ rfl; have hb0_1 := HB0.out.cell 1 _ rfl; have hb0_2 := HB0.out.cell 2 _ rfl; have hb0_3 := HB0.out.cell 3 _ rfl; have hb0_4 := HB0.out.cell 4 _ rfl; have hb0_5 := HB0.out.cell 5 _ rfl; have hv_0 := HV.out.cell 0 _ rfl; have hv_1 := HV.out.cell 1 _ rfl; have hv_2 := HV.out.cell 2 _ rfl; clear B9; clear t4; have t5 : (1 : Nat) = 1 := rfl)
        | (have q3 := t3; (with_reducible refine at_store ?_); refine store_lawC _ (hdl gen (.slice ro2 rn2 rc2) ok2) w42.heap.size 0 rfl rfl HN.out.2 rowy_held.2 (hdl_one _ _ _ _ _) ?_; intro w44 E9 R9 T9 B9; have B9 : Below w42.heap.size w42 w44 := BA.out.trans B9; have HB0 : Hid (Vr w44 w.heap.size [.int .i64 g0, .int .i64 g1, .int .i64 (S : Int), .int .i64 g3, .int .i64 g4, .int .i64 g5]) := HB0.out.below B9 (range_lt HB0.out.1 (Nat.succ_pos _)); have Y1 : Hid (Byt w44 (.slice ro rn rc) rec) := Y1.out.below B9; have Y2 : Hid (Byt w44 (.slice ro2 rn2 rc2) rec) := Y2.out.below B9; have HV : Hid (Vr w44 w42.heap.size (hdl gen (.slice ro2 rn2 rc2) ok2)) := ⟨R9, T9⟩; have BB : Hid (Below wr.heap.size wr w44) := BB.out.trans (B9.mono BB.out.size); clear hb0_0 hb0_1 hb0_2 hb0_3 hb0_4 hb0_5; have hb0_0 := HB0.out.cell 0 _ rfl; have hb0_1 := HB0.out.cell 1 _ rfl; have hb0_2 := HB0.out.cell 2 _ rfl; have hb0_3 := HB0.out.cell 3 _ rfl; have hb0_4 := HB0.out.cell 4 _ rfl; have hb0_5 := HB0.out.cell 5 _ rfl; have hv_0 := HV.out.cell 0 _ rfl; have hv_1 := HV.out.cell 1 _ rfl; have hv_2 := HV.out.cell 2 _ rfl; clear E9 R9 T9 B9 HN BA; clear t3; have t4 : (1 : Nat) = 1 := rfl)
        | (have q2 := t2; (with_reducible refine at_alloc ?_); refine new_lawC _ Z3 zero_held ?_; intro w43 X9 B9 l9; have HN : Hid (Vr w43 w42.heap.size Z3) := X9; have BA : Hid (Below w42.heap.size w42 w43) := B9; clear X9 B9 l9; clear t2; have t3 : (1 : Nat) = 1 := rfl)
        | (have q1 := t1; go_at_call 17; refine (SV.out w41 (BW.out.trans ((BR.out.trans (BB.out.mono BR.out.size)).mono BW.out.size))).mono ?_; rintro e9 w42 ⟨ro2, rn2, rc2, ok2, rfl, y9, B9⟩; have HB0 : Hid (Vr w42 w.heap.size [.int .i64 g0, .int .i64 g1, .int .i64 (S : Int), .int .i64 g3, .int .i64 g4, .int .i64 g5]) := HB0.out.below B9 (range_lt HB0.out.1 (Nat.succ_pos _)); have Y1 : Hid (Byt w42 (.slice ro rn rc) rec) := Y1.out.below B9; have Y2 : Hid (Byt w42 (.slice ro2 rn2 rc2) rec) := y9; have BB : Hid (Below wr.heap.size wr w42) := BB.out.trans (B9.mono BB.out.size); clear hb0_0 hb0_1 hb0_2 hb0_3 hb0_4 hb0_5; have hb0_0 := HB0.out.cell 0 _ rfl; have hb0_1 := HB0.out.cell 1 _ rfl; have hb0_2 := HB0.out.cell 2 _ rfl; have hb0_3 := HB0.out.cell 3 _ rfl; have hb0_4 := HB0.out.cell 4 _ rfl; have hb0_5 := HB0.out.cell 5 _ rfl; clear B9 y9; clear t1; have t2 : (1 : Nat) = 1 := rfl)
        | (have q0 := t0; go_at_call 16; refine (SU.out wr (BW.out.trans (BR.out.mono BW.out.size))).mono ?_; rintro e9 w41 ⟨ro, rn, rc, rfl, y9, B9⟩; have HB0 : Hid (Vr w41 w.heap.size [.int .i64 g0, .int .i64 g1, .int .i64 (S : Int), .int .i64 g3, .int .i64 g4, .int .i64 g5]) := HB0.out.below B9 (range_lt HB0.out.1 (Nat.succ_pos _)); have Y1 : Hid (Byt w41 (.slice ro rn rc) rec) := y9; have BB : Hid (Below wr.heap.size wr w41) := B9; clear hb0_0 hb0_1 hb0_2 hb0_3 hb0_4 hb0_5; have hb0_0 := HB0.out.cell 0 _ rfl; have hb0_1 := HB0.out.cell 1 _ rfl; have hb0_2 := HB0.out.cell 2 _ rfl; have hb0_3 := HB0.out.cell 3 _ rfl; have hb0_4 := HB0.out.cell 4 _ rfl; have hb0_5 := HB0.out.cell 5 _ rfl; clear B9 y9; clear t0; have t1 : (1 : Nat) = 1 := rfl))
      clear hb0_0 hb0_1 hb0_2 hb0_3 hb0_4 hb0_5 hv_0 hv_1 hv_2 Y2
      have BX : Hid (Below w.heap.size w w45) := (BW.out.trans ((BR.out.trans (BB.out.mono BR.out.size)).mono BW.out.size))
      clear BB BR
      go_loopw [12, 11] (fun i r wr => ∃ k : Nat, k ≤ n ∧ i = .int .i64 (k : Int) ∧ Aln S bs gen k w w45.heap.size wr r ∧ Below w45.heap.size w45 wr) (fun i _ _ => n - (intOf i).toNat)
      case atStart => exact ⟨0, Nat.zero_le _, rfl, ⟨[], [], HN.out, rfl, Nat.le_refl _, fun t ht => absurd ht (Nat.not_lt_zero _), alone_zero S bs gen⟩, BO.out⟩
      case round =>
        obtain ⟨k, hk, rfl, hR, hB⟩ := hrel
        have BR : Hid (Below w45.heap.size w45 wr) := hB
        have BA : Hid (Below w.heap.size w wr) := BX.out.trans (hB.mono BX.out.size)
        have HB0 : Hid (Vr wr w.heap.size [.int .i64 g0, .int .i64 g1, .int .i64 (S : Int), .int .i64 g3, .int .i64 g4, .int .i64 g5]) := HB0.out.below hB (range_lt HB0.out.1 (Nat.succ_pos _))
        have HV : Hid (Vr wr w42.heap.size (hdl gen (.slice ro2 rn2 rc2) ok2)) := HV.out.below hB (range_lt HV.out.1 (Nat.succ_pos _))
        have Y1 : Hid (Byt wr (.slice ro rn rc) rec) := Y1.out.below hB
        clear hB HN BO
        by_cases hlt : k < n
        · have lk : (k : Int) < (n : Int) := by omega
          obtain ⟨b, off, rfl, hall⟩ := HA.out (by omega)
          obtain ⟨z, hz, hzp⟩ := hall k hlt
          obtain ⟨zo, zc, ez, -⟩ := hzp.at
          obtain ⟨zn, en⟩ : ∃ q, (bs.getD k []).length = q := ⟨_, rfl⟩
          rw [en] at ez
          subst ez
          have HR2 : Hid (Aln S bs gen k w w45.heap.size wr u11) := hR
          have HZP : Hid (Pgs w (.slice zo zn zc) (bs.getD k [])) := hzp
          have HZ : Hid (∀ w', Below wr.heap.size wr w' → w'.cell? ⟨b, off + k, none⟩ = some (.slice zo zn zc)) := fun w' q => (by have q2 := BA.out.trans (q.mono BA.out.size); rw [q2.cell (World.block_lt_of_cell? _ _ hz)]; exact hz)
          have KN : Hid (k < n) := hlt
          clear hall hz hzp en hR
          by_cases hy : Khd S (bs.getD k [])
          · have SO : Hid (∀ w0, Below wr.heap.size wr w0 → Calls Tryd.prog 15 #[.agg (ints .i64 [g0, g1, (S : Int), g3, g4, g5]), .slice zo zn zc] w0 fun x w' => ∃ ro3 rn3 rc3, x = .returned (.agg (hdl (kgen S (bs.getD k [])) (.slice ro3 rn3 rc3) true).toArray) ∧ Below w0.heap.size w0 w') := fun w0 q => by
              refine (rhold_any g0 g1 g3 g4 g5 S _ _ w0 HR.out.1 (HZP.out.below (BA.out.trans (q.mono BA.out.size)))).mono ?_
              rintro x w' ⟨⟨h1, ro, rc, h2, h4⟩ | ⟨h1, -⟩, h3⟩
              · exact ⟨ro, 624, rc, h2, h3⟩
              · exact absurd hy h1
            by_cases hg : kgen S (bs.getD k []) ≥ gen
            · have NA : Hid (Khd S (bs.getD k []) ∧ kgen S (bs.getD k []) ≥ gen) := ⟨hy, hg⟩
              have gg : kgen S (bs.getD k []) ≥ gen := hg
              generalize hG2 : kgen S (bs.getD k []) = G2 at SO gg
              clear hG2 hy hg
              go_wp2
              go_cut [13] (fun r13 wc => ∃ (gv : Nat) (ro3 : Option Addr) (rn3 rc3 : Nat), r13 = .pointer (some ⟨gv, 0, none⟩) ∧ Vr wc gv (hdl G2 (.slice ro3 rn3 rc3) true) ∧ Below wr.heap.size wr wc)
              case first =>
                refine wp_region_held_drew (S := fun w' => Below wr.heap.size wr w') (by kernel_rfl) (Below.refl _ _).drew (fun hS => ?_)
                obtain ⟨y1, hx0⟩ : ∃ x, x = wr.drew := ⟨_, rfl⟩
                rw [← hx0] at hS  ⊢
                clear hx0
                refine take_lawH 0 (some 78) (.agg ([.int .i64 g0, .int .i64 g1, .int .i64 (S : Int), .int .i64 g3, .int .i64 g4, .int .i64 g5] : List Value).toArray) rfl rfl (by kernel_rfl) (by kernel_rfl) (by kernel_rfl) (fun _ _ _ h => h) (Or.inl ⟨by rfl, fun w' hw' => by exact exec_loadN 23 (.tmp 2) rfl _ rfl _ _ (load_cells rowy_geo (HB0.out.below hw' (range_lt HB0.out.1 (Nat.succ_pos _))).1)⟩) hS ?_
                simp only [Act.put, List.setIfInBounds_toArray, List.set_cons_zero, List.set_cons_succ]
                refine take_lawH 1 (some 79) (.slice (some ⟨b, off, none⟩) n cap) rfl rfl (by kernel_rfl) (by kernel_rfl) (by kernel_rfl) (fun _ _ _ h => h) (Or.inl ⟨by rfl, fun w' hw' => by rfl⟩) hS ?_
                simp only [Act.put, List.setIfInBounds_toArray, List.set_cons_zero, List.set_cons_succ]
                refine take_lawH 2 (some 80) (.int .i64 (k : Int)) rfl rfl (by kernel_rfl) (by kernel_rfl) (by kernel_rfl) (fun _ _ _ h => h) (Or.inl ⟨by rfl, fun w' hw' => by rfl⟩) hS ?_
                simp only [Act.put, List.setIfInBounds_toArray, List.set_cons_zero, List.set_cons_succ]
                refine take_lawH 3 (some 81) (.pointer (some ⟨b, off + k, none⟩)) rfl rfl (by kernel_rfl) (by kernel_rfl) (by kernel_rfl) (fun _ _ _ h => h) (Or.inl ⟨by rfl, fun w' hw' => by exact exec_idxRR (.tmp 79) (.tmp 80) rfl b off n cap k rfl rfl KN.out _⟩) hS ?_
                simp only [Act.put, List.setIfInBounds_toArray, List.set_cons_zero, List.set_cons_succ]
                refine take_lawH 4 (some 82) (.slice zo zn zc) rfl rfl (by kernel_rfl) (by kernel_rfl) (by kernel_rfl) (fun _ _ _ h => h) (Or.inl ⟨by rfl, fun w' hw' => by exact exec_loadN 26 (.tmp 81) rfl _ rfl _ _ (load_one one_rows (HZ.out _ hw'))⟩) hS ?_
                simp only [Act.put, List.setIfInBounds_toArray, List.set_cons_zero, List.set_cons_succ]
                refine wpAnyH_ready (rs := [5, 6]) (by kernel_rfl) (by simp) ?_
                refine AllReadyH.cons rfl (fun K hK => ?_) (AllReadyH.cons rfl (fun K hK => ?_) AllReadyH.nil)
                · refine step_callW _ (by rfl) (some 83) rfl 15 #[.tmp 78, .tmp 82] #[23, 26] rfl (fun q w' => by rfl) #[.agg ([.int .i64 g0, .int .i64 g1, .int .i64 (S : Int), .int .i64 g3, .int .i64 g4, .int .i64 g5] : List Value).toArray, .slice zo zn zc] (by simp only [List.map_toArray, List.map_cons, List.map_nil]; rfl) (fun u w' => (∃ ro3 rn3 rc3, u = .agg (hdl G2 (.slice ro3 rn3 rc3) true).toArray) ∧ Below y1.heap.size y1 w') ?_ ?_
                  · exact (SO.out y1 hS).mono fun e w' ⟨ro3, rn3, rc3, h1, h3⟩ => ⟨_, h1, ⟨ro3, rn3, rc3, rfl⟩, h3⟩
                  rintro _ y2 ⟨⟨ro3, rn3, rc3, rfl⟩, hb⟩
                  have hS : Below wr.heap.size wr y2 := hS.trans (hb.mono hS.size)
                  clear hb
                  refine hK.out _ _ hS (fun _ => ?_)
                  simp only [Act.put, List.setIfInBounds_toArray, List.set_cons_zero, List.set_cons_succ]
                  clear hK K
                  refine wpAnyH_ready (rs := [6]) (by kernel_rfl) (by simp) ?_
                  refine AllReadyH.cons rfl (fun K hK => ?_) AllReadyH.nil
                  refine step_newC _ rfl (some 13) rfl 39 rfl Z3 zero_held ?_
                  intro y3 v9 hb l9
                  have HW : Hid (Vr y3 y2.heap.size Z3) := v9
                  have LV : Hid (wr.heap.size ≤ y2.heap.size) := hS.size
                  have hS : Below wr.heap.size wr y3 := hS.trans (hb.mono hS.size)
                  clear v9 hb l9
                  obtain ⟨gv, hg9⟩ : ∃ g, g = y2.heap.size := ⟨_, rfl⟩
                  rw [← hg9] at HW LV ⊢
                  clear hg9
                  refine hK.out _ _ hS (fun _ => ?_)
                  simp only [Act.put, List.setIfInBounds_toArray, List.set_cons_zero, List.set_cons_succ]
                  clear hK K
                  refine wpAnyH_ready (rs := [7]) (by kernel_rfl) (by simp) ?_
                  refine AllReadyH.cons rfl (fun K hK => ?_) AllReadyH.nil
                  refine step_storeC _ rfl none rfl (.tmp 13) (.tmp 83) 39 rfl gv Z3 (hdl G2 (.slice ro3 rn3 rc3) true) rfl rfl HW.out rfl rowy_held.2 (hdl_one _ _ _ _ _) ?_
                  intro y4 v9 B9
                  have HW : Hid (Vr y4 gv (hdl G2 (.slice ro3 rn3 rc3) true)) := v9
                  have hS : Below wr.heap.size wr y4 := hS.trans (B9.mono LV.out)
                  clear v9 B9
                  refine hK.out _ _ hS (fun _ => ?_)
                  simp only [Act.put]
                  clear hK K
                  refine wpAnyH_done (by kernel_rfl) ?_ _
                  go_wp2_with fail
                  go_meet
                  exact ⟨gv, ro3, rn3, rc3, rfl, HW.out, hS⟩
                · refine step_newC _ rfl (some 13) rfl 39 rfl Z3 zero_held ?_
                  intro y5 v9 hb l9
                  have HW : Hid (Vr y5 y1.heap.size Z3) := v9
                  have LV : Hid (wr.heap.size ≤ y1.heap.size) := hS.size
                  have hS : Below wr.heap.size wr y5 := hS.trans (hb.mono hS.size)
                  clear v9 hb l9
                  obtain ⟨gv, hg9⟩ : ∃ g, g = y1.heap.size := ⟨_, rfl⟩
                  rw [← hg9] at HW LV ⊢
                  clear hg9
                  refine hK.out _ _ hS (fun _ => ?_)
                  simp only [Act.put, List.setIfInBounds_toArray, List.set_cons_zero, List.set_cons_succ]
                  clear hK K
                  refine wpAnyH_ready (rs := [5]) (by kernel_rfl) (by simp) ?_
                  refine AllReadyH.cons rfl (fun K hK => ?_) AllReadyH.nil
                  refine step_callW _ (by rfl) (some 83) rfl 15 #[.tmp 78, .tmp 82] #[23, 26] rfl (fun q w' => by rfl) #[.agg ([.int .i64 g0, .int .i64 g1, .int .i64 (S : Int), .int .i64 g3, .int .i64 g4, .int .i64 g5] : List Value).toArray, .slice zo zn zc] (by simp only [List.map_toArray, List.map_cons, List.map_nil]; rfl) (fun u w' => (∃ ro3 rn3 rc3, u = .agg (hdl G2 (.slice ro3 rn3 rc3) true).toArray) ∧ Below y5.heap.size y5 w') ?_ ?_
                  · exact (SO.out y5 hS).mono fun e w' ⟨ro3, rn3, rc3, h1, h3⟩ => ⟨_, h1, ⟨ro3, rn3, rc3, rfl⟩, h3⟩
                  rintro _ y6 ⟨⟨ro3, rn3, rc3, rfl⟩, hb⟩
                  have HW : Hid (Vr y6 gv Z3) := HW.out.below hb (range_lt HW.out.1 (Nat.succ_pos _))
                  have hS : Below wr.heap.size wr y6 := hS.trans (hb.mono hS.size)
                  clear hb
                  refine hK.out _ _ hS (fun _ => ?_)
                  simp only [Act.put, List.setIfInBounds_toArray, List.set_cons_zero, List.set_cons_succ]
                  clear hK K
                  refine wpAnyH_ready (rs := [7]) (by kernel_rfl) (by simp) ?_
                  refine AllReadyH.cons rfl (fun K hK => ?_) AllReadyH.nil
                  refine step_storeC _ rfl none rfl (.tmp 13) (.tmp 83) 39 rfl gv Z3 (hdl G2 (.slice ro3 rn3 rc3) true) rfl rfl HW.out rfl rowy_held.2 (hdl_one _ _ _ _ _) ?_
                  intro y7 v9 B9
                  have HW : Hid (Vr y7 gv (hdl G2 (.slice ro3 rn3 rc3) true)) := v9
                  have hS : Below wr.heap.size wr y7 := hS.trans (B9.mono LV.out)
                  clear v9 B9
                  refine hK.out _ _ hS (fun _ => ?_)
                  simp only [Act.put]
                  clear hK K
                  refine wpAnyH_done (by kernel_rfl) ?_ _
                  go_wp2_with fail
                  go_meet
                  exact ⟨gv, ro3, rn3, rc3, rfl, HW.out, hS⟩
              case rest =>
                obtain ⟨gv, ro3, rn3, rc3, rfl, x1, x2⟩ := hcut
                have hw_0 := x1.cell 0 _ rfl
                have hw_2 := x1.cell 2 _ rfl
                have hv_0 := (HV.out.below x2 (range_lt HV.out.1 (Nat.succ_pos _))).cell 0 _ rfl
                have BC : Hid (Below w45.heap.size w45 wc) := BR.out.trans (x2.mono BR.out.size)
                have X2 : Hid (Below wr.heap.size wr wc) := x2
                have hz2 := HZ.out wc x2
                clear x1 x2
                obtain ⟨vs, al, a1, a2, a3, a4, a5⟩ := HR2.out
                have OR : Hid (rr.OwnR w45.heap.size wc u11 vs) := a1.below X2.out
                have VL : Hid (vs.length ≤ 6) := (by show _ ≤ _; omega)
                have NX : Hid ((vs ++ [Value.slice zo zn zc]).length = (al ++ [bs.getD k []]).length ∧ (al ++ [bs.getD k []]).length ≤ k + 1 ∧ (∀ t, t < (al ++ [bs.getD k []]).length → Pgs w ((vs ++ [Value.slice zo zn zc]).getD t undef) ((al ++ [bs.getD k []]).getD t [])) ∧ Alone S bs gen (k + 1) (al ++ [bs.getD k []])) := ⟨by simp [a2], by simp; omega, fun t ht => (by
                  by_cases e : t < al.length
                  · rw [List.getD_eq_getElem?_getD, List.getElem?_append_left (by omega), ← List.getD_eq_getElem?_getD, getD_snoc, if_pos e]
                    exact a4 t e
                  · have e2 : t = al.length := by simp at ht; omega
                    rw [getD_snoc, if_neg e, if_pos e2, List.getD_eq_getElem?_getD, List.getElem?_append_right (by omega), show t - vs.length = 0 by omega]
                    exact HZP.out), alone_yes a5 NA.out.1 NA.out.2⟩
                clear a1 a2 a3 a4 a5
                have t80 : (1 : Nat) = 1 := rfl
                go_wp2_with (first
                  | (have q81 := t81; at_builtin; refine rr.pushs_lawR _ rfl (.tmp 93) (.tmp 98) rfl w45.heap.size BC.out.size u11 _ vs [.slice zo zn zc] rfl rfl OR.out O8.out.vals (fun u hu => by simp at hu; subst hu; exact ⟨_, _, _, rfl⟩) (by have := VL.out; omega) (show (1 : Nat) ≤ 1000000 by decide) ?_; intro v3 we o9 B9; have O9 : Hid (rr.OwnR w45.heap.size we v3 (vs ++ [Value.slice zo zn zc])) := o9; have BE : Hid (Below w45.heap.size w45 we) := BC.out.trans B9; clear o9 B9 t81)
                  | (have q80 := t80; refine rr.one_lawR _ rfl (.tmp 97) rfl (.slice zo zn zc) ⟨_, _, _, rfl⟩ rfl ?_; intro wd o9 B9; have O8 : Hid (rr.OwnR wc.heap.size wd (.slice (some ⟨wc.heap.size, 0, none⟩) 1 1) [.slice zo zn zc]) := o9; have OR : Hid (rr.OwnR w45.heap.size wd u11 vs) := OR.out.below B9; have BC : Hid (Below w45.heap.size w45 wd) := BC.out.trans (B9.mono BC.out.size); clear o9 B9 t80; have t81 : (1 : Nat) = 1 := rfl))
                go_roundw
                case rel => exact ⟨k + 1, by omega, by go_num, ⟨_, _, O9.out, NX.out.1, NX.out.2.1, NX.out.2.2.1, NX.out.2.2.2⟩, BE.out⟩
                case measure => simp [intOf]; omega
            · have NA : Hid (¬ (Khd S (bs.getD k []) ∧ kgen S (bs.getD k []) ≥ gen)) := fun z => hg z.2
              have gg : ¬ (kgen S (bs.getD k []) ≥ gen) := hg
              generalize hG2 : kgen S (bs.getD k []) = G2 at SO gg
              clear hG2 hy hg
              go_wp2
              go_cut [13] (fun r13 wc => ∃ (gv : Nat) (ro3 : Option Addr) (rn3 rc3 : Nat), r13 = .pointer (some ⟨gv, 0, none⟩) ∧ Vr wc gv (hdl G2 (.slice ro3 rn3 rc3) true) ∧ Below wr.heap.size wr wc)
              case first =>
                refine wp_region_held_drew (S := fun w' => Below wr.heap.size wr w') (by kernel_rfl) (Below.refl _ _).drew (fun hS => ?_)
                obtain ⟨y1, hx0⟩ : ∃ x, x = wr.drew := ⟨_, rfl⟩
                rw [← hx0] at hS  ⊢
                clear hx0
                refine take_lawH 0 (some 78) (.agg ([.int .i64 g0, .int .i64 g1, .int .i64 (S : Int), .int .i64 g3, .int .i64 g4, .int .i64 g5] : List Value).toArray) rfl rfl (by kernel_rfl) (by kernel_rfl) (by kernel_rfl) (fun _ _ _ h => h) (Or.inl ⟨by rfl, fun w' hw' => by exact exec_loadN 23 (.tmp 2) rfl _ rfl _ _ (load_cells rowy_geo (HB0.out.below hw' (range_lt HB0.out.1 (Nat.succ_pos _))).1)⟩) hS ?_
                simp only [Act.put, List.setIfInBounds_toArray, List.set_cons_zero, List.set_cons_succ]
                refine take_lawH 1 (some 79) (.slice (some ⟨b, off, none⟩) n cap) rfl rfl (by kernel_rfl) (by kernel_rfl) (by kernel_rfl) (fun _ _ _ h => h) (Or.inl ⟨by rfl, fun w' hw' => by rfl⟩) hS ?_
                simp only [Act.put, List.setIfInBounds_toArray, List.set_cons_zero, List.set_cons_succ]
                refine take_lawH 2 (some 80) (.int .i64 (k : Int)) rfl rfl (by kernel_rfl) (by kernel_rfl) (by kernel_rfl) (fun _ _ _ h => h) (Or.inl ⟨by rfl, fun w' hw' => by rfl⟩) hS ?_
                simp only [Act.put, List.setIfInBounds_toArray, List.set_cons_zero, List.set_cons_succ]
                refine take_lawH 3 (some 81) (.pointer (some ⟨b, off + k, none⟩)) rfl rfl (by kernel_rfl) (by kernel_rfl) (by kernel_rfl) (fun _ _ _ h => h) (Or.inl ⟨by rfl, fun w' hw' => by exact exec_idxRR (.tmp 79) (.tmp 80) rfl b off n cap k rfl rfl KN.out _⟩) hS ?_
                simp only [Act.put, List.setIfInBounds_toArray, List.set_cons_zero, List.set_cons_succ]
                refine take_lawH 4 (some 82) (.slice zo zn zc) rfl rfl (by kernel_rfl) (by kernel_rfl) (by kernel_rfl) (fun _ _ _ h => h) (Or.inl ⟨by rfl, fun w' hw' => by exact exec_loadN 26 (.tmp 81) rfl _ rfl _ _ (load_one one_rows (HZ.out _ hw'))⟩) hS ?_
                simp only [Act.put, List.setIfInBounds_toArray, List.set_cons_zero, List.set_cons_succ]
                refine wpAnyH_ready (rs := [5, 6]) (by kernel_rfl) (by simp) ?_
                refine AllReadyH.cons rfl (fun K hK => ?_) (AllReadyH.cons rfl (fun K hK => ?_) AllReadyH.nil)
                · refine step_callW _ (by rfl) (some 83) rfl 15 #[.tmp 78, .tmp 82] #[23, 26] rfl (fun q w' => by rfl) #[.agg ([.int .i64 g0, .int .i64 g1, .int .i64 (S : Int), .int .i64 g3, .int .i64 g4, .int .i64 g5] : List Value).toArray, .slice zo zn zc] (by simp only [List.map_toArray, List.map_cons, List.map_nil]; rfl) (fun u w' => (∃ ro3 rn3 rc3, u = .agg (hdl G2 (.slice ro3 rn3 rc3) true).toArray) ∧ Below y1.heap.size y1 w') ?_ ?_
                  · exact (SO.out y1 hS).mono fun e w' ⟨ro3, rn3, rc3, h1, h3⟩ => ⟨_, h1, ⟨ro3, rn3, rc3, rfl⟩, h3⟩
                  rintro _ y2 ⟨⟨ro3, rn3, rc3, rfl⟩, hb⟩
                  have hS : Below wr.heap.size wr y2 := hS.trans (hb.mono hS.size)
                  clear hb
                  refine hK.out _ _ hS (fun _ => ?_)
                  simp only [Act.put, List.setIfInBounds_toArray, List.set_cons_zero, List.set_cons_succ]
                  clear hK K
                  refine wpAnyH_ready (rs := [6]) (by kernel_rfl) (by simp) ?_
                  refine AllReadyH.cons rfl (fun K hK => ?_) AllReadyH.nil
                  refine step_newC _ rfl (some 13) rfl 39 rfl Z3 zero_held ?_
                  intro y3 v9 hb l9
                  have HW : Hid (Vr y3 y2.heap.size Z3) := v9
                  have LV : Hid (wr.heap.size ≤ y2.heap.size) := hS.size
                  have hS : Below wr.heap.size wr y3 := hS.trans (hb.mono hS.size)
                  clear v9 hb l9
                  obtain ⟨gv, hg9⟩ : ∃ g, g = y2.heap.size := ⟨_, rfl⟩
                  rw [← hg9] at HW LV ⊢
                  clear hg9
                  refine hK.out _ _ hS (fun _ => ?_)
                  simp only [Act.put, List.setIfInBounds_toArray, List.set_cons_zero, List.set_cons_succ]
                  clear hK K
                  refine wpAnyH_ready (rs := [7]) (by kernel_rfl) (by simp) ?_
                  refine AllReadyH.cons rfl (fun K hK => ?_) AllReadyH.nil
                  refine step_storeC _ rfl none rfl (.tmp 13) (.tmp 83) 39 rfl gv Z3 (hdl G2 (.slice ro3 rn3 rc3) true) rfl rfl HW.out rfl rowy_held.2 (hdl_one _ _ _ _ _) ?_
                  intro y4 v9 B9
                  have HW : Hid (Vr y4 gv (hdl G2 (.slice ro3 rn3 rc3) true)) := v9
                  have hS : Below wr.heap.size wr y4 := hS.trans (B9.mono LV.out)
                  clear v9 B9
                  refine hK.out _ _ hS (fun _ => ?_)
                  simp only [Act.put]
                  clear hK K
                  refine wpAnyH_done (by kernel_rfl) ?_ _
                  go_wp2_with fail
                  go_meet
                  exact ⟨gv, ro3, rn3, rc3, rfl, HW.out, hS⟩
                · refine step_newC _ rfl (some 13) rfl 39 rfl Z3 zero_held ?_
                  intro y5 v9 hb l9
                  have HW : Hid (Vr y5 y1.heap.size Z3) := v9
                  have LV : Hid (wr.heap.size ≤ y1.heap.size) := hS.size
                  have hS : Below wr.heap.size wr y5 := hS.trans (hb.mono hS.size)
                  clear v9 hb l9
                  obtain ⟨gv, hg9⟩ : ∃ g, g = y1.heap.size := ⟨_, rfl⟩
                  rw [← hg9] at HW LV ⊢
                  clear hg9
                  refine hK.out _ _ hS (fun _ => ?_)
                  simp only [Act.put, List.setIfInBounds_toArray, List.set_cons_zero, List.set_cons_succ]
                  clear hK K
                  refine wpAnyH_ready (rs := [5]) (by kernel_rfl) (by simp) ?_
                  refine AllReadyH.cons rfl (fun K hK => ?_) AllReadyH.nil
                  refine step_callW _ (by rfl) (some 83) rfl 15 #[.tmp 78, .tmp 82] #[23, 26] rfl (fun q w' => by rfl) #[.agg ([.int .i64 g0, .int .i64 g1, .int .i64 (S : Int), .int .i64 g3, .int .i64 g4, .int .i64 g5] : List Value).toArray, .slice zo zn zc] (by simp only [List.map_toArray, List.map_cons, List.map_nil]; rfl) (fun u w' => (∃ ro3 rn3 rc3, u = .agg (hdl G2 (.slice ro3 rn3 rc3) true).toArray) ∧ Below y5.heap.size y5 w') ?_ ?_
                  · exact (SO.out y5 hS).mono fun e w' ⟨ro3, rn3, rc3, h1, h3⟩ => ⟨_, h1, ⟨ro3, rn3, rc3, rfl⟩, h3⟩
                  rintro _ y6 ⟨⟨ro3, rn3, rc3, rfl⟩, hb⟩
                  have HW : Hid (Vr y6 gv Z3) := HW.out.below hb (range_lt HW.out.1 (Nat.succ_pos _))
                  have hS : Below wr.heap.size wr y6 := hS.trans (hb.mono hS.size)
                  clear hb
                  refine hK.out _ _ hS (fun _ => ?_)
                  simp only [Act.put, List.setIfInBounds_toArray, List.set_cons_zero, List.set_cons_succ]
                  clear hK K
                  refine wpAnyH_ready (rs := [7]) (by kernel_rfl) (by simp) ?_
                  refine AllReadyH.cons rfl (fun K hK => ?_) AllReadyH.nil
                  refine step_storeC _ rfl none rfl (.tmp 13) (.tmp 83) 39 rfl gv Z3 (hdl G2 (.slice ro3 rn3 rc3) true) rfl rfl HW.out rfl rowy_held.2 (hdl_one _ _ _ _ _) ?_
                  intro y7 v9 B9
                  have HW : Hid (Vr y7 gv (hdl G2 (.slice ro3 rn3 rc3) true)) := v9
                  have hS : Below wr.heap.size wr y7 := hS.trans (B9.mono LV.out)
                  clear v9 B9
                  refine hK.out _ _ hS (fun _ => ?_)
                  simp only [Act.put]
                  clear hK K
                  refine wpAnyH_done (by kernel_rfl) ?_ _
                  go_wp2_with fail
                  go_meet
                  exact ⟨gv, ro3, rn3, rc3, rfl, HW.out, hS⟩
              case rest =>
                obtain ⟨gv, ro3, rn3, rc3, rfl, x1, x2⟩ := hcut
                have hw_0 := x1.cell 0 _ rfl
                have hw_2 := x1.cell 2 _ rfl
                have hv_0 := (HV.out.below x2 (range_lt HV.out.1 (Nat.succ_pos _))).cell 0 _ rfl
                have BC : Hid (Below w45.heap.size w45 wc) := BR.out.trans (x2.mono BR.out.size)
                have X2 : Hid (Below wr.heap.size wr wc) := x2
                have hz2 := HZ.out wc x2
                clear x1 x2
                go_wp2
                go_roundw
                case rel => exact ⟨k + 1, by omega, by go_num, (by obtain ⟨vs, al, a1, a2, a3, a4, a5⟩ := HR2.out; exact ⟨vs, al, a1.below X2.out, a2, by omega, a4, alone_no a5 NA.out⟩), BC.out⟩
                case measure => simp [intOf]; omega
          · obtain ⟨G2, f1⟩ : ∃ q : Int, q = 0 := ⟨_, rfl⟩
            have SO : Hid (∀ w0, Below wr.heap.size wr w0 → Calls Tryd.prog 15 #[.agg (ints .i64 [g0, g1, (S : Int), g3, g4, g5]), .slice zo zn zc] w0 fun x w' => ∃ ro3 rn3 rc3, x = .returned (.agg (hdl G2 (.slice ro3 rn3 rc3) false).toArray) ∧ Below w0.heap.size w0 w') := fun w0 q => by
              refine (rhold_any g0 g1 g3 g4 g5 S _ _ w0 HR.out.1 (HZP.out.below (BA.out.trans (q.mono BA.out.size)))).mono ?_
              rintro x w' ⟨⟨h1, -⟩ | ⟨-, h2⟩, h3⟩
              · exact absurd h1 hy
              · subst f1
                exact ⟨none, 0, 0, h2, h3⟩
            have NA : Hid (¬ (Khd S (bs.getD k []) ∧ kgen S (bs.getD k []) ≥ gen)) := fun z => hy z.1
            clear f1 hy
            go_wp2
            go_cut [13] (fun r13 wc => ∃ (gv : Nat) (ro3 : Option Addr) (rn3 rc3 : Nat), r13 = .pointer (some ⟨gv, 0, none⟩) ∧ Vr wc gv (hdl G2 (.slice ro3 rn3 rc3) false) ∧ Below wr.heap.size wr wc)
            case first =>
              refine wp_region_held_drew (S := fun w' => Below wr.heap.size wr w') (by kernel_rfl) (Below.refl _ _).drew (fun hS => ?_)
              obtain ⟨y1, hx0⟩ : ∃ x, x = wr.drew := ⟨_, rfl⟩
              rw [← hx0] at hS  ⊢
              clear hx0
              refine take_lawH 0 (some 78) (.agg ([.int .i64 g0, .int .i64 g1, .int .i64 (S : Int), .int .i64 g3, .int .i64 g4, .int .i64 g5] : List Value).toArray) rfl rfl (by kernel_rfl) (by kernel_rfl) (by kernel_rfl) (fun _ _ _ h => h) (Or.inl ⟨by rfl, fun w' hw' => by exact exec_loadN 23 (.tmp 2) rfl _ rfl _ _ (load_cells rowy_geo (HB0.out.below hw' (range_lt HB0.out.1 (Nat.succ_pos _))).1)⟩) hS ?_
              simp only [Act.put, List.setIfInBounds_toArray, List.set_cons_zero, List.set_cons_succ]
              refine take_lawH 1 (some 79) (.slice (some ⟨b, off, none⟩) n cap) rfl rfl (by kernel_rfl) (by kernel_rfl) (by kernel_rfl) (fun _ _ _ h => h) (Or.inl ⟨by rfl, fun w' hw' => by rfl⟩) hS ?_
              simp only [Act.put, List.setIfInBounds_toArray, List.set_cons_zero, List.set_cons_succ]
              refine take_lawH 2 (some 80) (.int .i64 (k : Int)) rfl rfl (by kernel_rfl) (by kernel_rfl) (by kernel_rfl) (fun _ _ _ h => h) (Or.inl ⟨by rfl, fun w' hw' => by rfl⟩) hS ?_
              simp only [Act.put, List.setIfInBounds_toArray, List.set_cons_zero, List.set_cons_succ]
              refine take_lawH 3 (some 81) (.pointer (some ⟨b, off + k, none⟩)) rfl rfl (by kernel_rfl) (by kernel_rfl) (by kernel_rfl) (fun _ _ _ h => h) (Or.inl ⟨by rfl, fun w' hw' => by exact exec_idxRR (.tmp 79) (.tmp 80) rfl b off n cap k rfl rfl KN.out _⟩) hS ?_
              simp only [Act.put, List.setIfInBounds_toArray, List.set_cons_zero, List.set_cons_succ]
              refine take_lawH 4 (some 82) (.slice zo zn zc) rfl rfl (by kernel_rfl) (by kernel_rfl) (by kernel_rfl) (fun _ _ _ h => h) (Or.inl ⟨by rfl, fun w' hw' => by exact exec_loadN 26 (.tmp 81) rfl _ rfl _ _ (load_one one_rows (HZ.out _ hw'))⟩) hS ?_
              simp only [Act.put, List.setIfInBounds_toArray, List.set_cons_zero, List.set_cons_succ]
              refine wpAnyH_ready (rs := [5, 6]) (by kernel_rfl) (by simp) ?_
              refine AllReadyH.cons rfl (fun K hK => ?_) (AllReadyH.cons rfl (fun K hK => ?_) AllReadyH.nil)
              · refine step_callW _ (by rfl) (some 83) rfl 15 #[.tmp 78, .tmp 82] #[23, 26] rfl (fun q w' => by rfl) #[.agg ([.int .i64 g0, .int .i64 g1, .int .i64 (S : Int), .int .i64 g3, .int .i64 g4, .int .i64 g5] : List Value).toArray, .slice zo zn zc] (by simp only [List.map_toArray, List.map_cons, List.map_nil]; rfl) (fun u w' => (∃ ro3 rn3 rc3, u = .agg (hdl G2 (.slice ro3 rn3 rc3) false).toArray) ∧ Below y1.heap.size y1 w') ?_ ?_
                · exact (SO.out y1 hS).mono fun e w' ⟨ro3, rn3, rc3, h1, h3⟩ => ⟨_, h1, ⟨ro3, rn3, rc3, rfl⟩, h3⟩
                rintro _ y2 ⟨⟨ro3, rn3, rc3, rfl⟩, hb⟩
                have hS : Below wr.heap.size wr y2 := hS.trans (hb.mono hS.size)
                clear hb
                refine hK.out _ _ hS (fun _ => ?_)
                simp only [Act.put, List.setIfInBounds_toArray, List.set_cons_zero, List.set_cons_succ]
                clear hK K
                refine wpAnyH_ready (rs := [6]) (by kernel_rfl) (by simp) ?_
                refine AllReadyH.cons rfl (fun K hK => ?_) AllReadyH.nil
                refine step_newC _ rfl (some 13) rfl 39 rfl Z3 zero_held ?_
                intro y3 v9 hb l9
                have HW : Hid (Vr y3 y2.heap.size Z3) := v9
                have LV : Hid (wr.heap.size ≤ y2.heap.size) := hS.size
                have hS : Below wr.heap.size wr y3 := hS.trans (hb.mono hS.size)
                clear v9 hb l9
                obtain ⟨gv, hg9⟩ : ∃ g, g = y2.heap.size := ⟨_, rfl⟩
                rw [← hg9] at HW LV ⊢
                clear hg9
                refine hK.out _ _ hS (fun _ => ?_)
                simp only [Act.put, List.setIfInBounds_toArray, List.set_cons_zero, List.set_cons_succ]
                clear hK K
                refine wpAnyH_ready (rs := [7]) (by kernel_rfl) (by simp) ?_
                refine AllReadyH.cons rfl (fun K hK => ?_) AllReadyH.nil
                refine step_storeC _ rfl none rfl (.tmp 13) (.tmp 83) 39 rfl gv Z3 (hdl G2 (.slice ro3 rn3 rc3) false) rfl rfl HW.out rfl rowy_held.2 (hdl_one _ _ _ _ _) ?_
                intro y4 v9 B9
                have HW : Hid (Vr y4 gv (hdl G2 (.slice ro3 rn3 rc3) false)) := v9
                have hS : Below wr.heap.size wr y4 := hS.trans (B9.mono LV.out)
                clear v9 B9
                refine hK.out _ _ hS (fun _ => ?_)
                simp only [Act.put]
                clear hK K
                refine wpAnyH_done (by kernel_rfl) ?_ _
                go_wp2_with fail
                go_meet
                exact ⟨gv, ro3, rn3, rc3, rfl, HW.out, hS⟩
              · refine step_newC _ rfl (some 13) rfl 39 rfl Z3 zero_held ?_
                intro y5 v9 hb l9
                have HW : Hid (Vr y5 y1.heap.size Z3) := v9
                have LV : Hid (wr.heap.size ≤ y1.heap.size) := hS.size
                have hS : Below wr.heap.size wr y5 := hS.trans (hb.mono hS.size)
                clear v9 hb l9
                obtain ⟨gv, hg9⟩ : ∃ g, g = y1.heap.size := ⟨_, rfl⟩
                rw [← hg9] at HW LV ⊢
                clear hg9
                refine hK.out _ _ hS (fun _ => ?_)
                simp only [Act.put, List.setIfInBounds_toArray, List.set_cons_zero, List.set_cons_succ]
                clear hK K
                refine wpAnyH_ready (rs := [5]) (by kernel_rfl) (by simp) ?_
                refine AllReadyH.cons rfl (fun K hK => ?_) AllReadyH.nil
                refine step_callW _ (by rfl) (some 83) rfl 15 #[.tmp 78, .tmp 82] #[23, 26] rfl (fun q w' => by rfl) #[.agg ([.int .i64 g0, .int .i64 g1, .int .i64 (S : Int), .int .i64 g3, .int .i64 g4, .int .i64 g5] : List Value).toArray, .slice zo zn zc] (by simp only [List.map_toArray, List.map_cons, List.map_nil]; rfl) (fun u w' => (∃ ro3 rn3 rc3, u = .agg (hdl G2 (.slice ro3 rn3 rc3) false).toArray) ∧ Below y5.heap.size y5 w') ?_ ?_
                · exact (SO.out y5 hS).mono fun e w' ⟨ro3, rn3, rc3, h1, h3⟩ => ⟨_, h1, ⟨ro3, rn3, rc3, rfl⟩, h3⟩
                rintro _ y6 ⟨⟨ro3, rn3, rc3, rfl⟩, hb⟩
                have HW : Hid (Vr y6 gv Z3) := HW.out.below hb (range_lt HW.out.1 (Nat.succ_pos _))
                have hS : Below wr.heap.size wr y6 := hS.trans (hb.mono hS.size)
                clear hb
                refine hK.out _ _ hS (fun _ => ?_)
                simp only [Act.put, List.setIfInBounds_toArray, List.set_cons_zero, List.set_cons_succ]
                clear hK K
                refine wpAnyH_ready (rs := [7]) (by kernel_rfl) (by simp) ?_
                refine AllReadyH.cons rfl (fun K hK => ?_) AllReadyH.nil
                refine step_storeC _ rfl none rfl (.tmp 13) (.tmp 83) 39 rfl gv Z3 (hdl G2 (.slice ro3 rn3 rc3) false) rfl rfl HW.out rfl rowy_held.2 (hdl_one _ _ _ _ _) ?_
                intro y7 v9 B9
                have HW : Hid (Vr y7 gv (hdl G2 (.slice ro3 rn3 rc3) false)) := v9
                have hS : Below wr.heap.size wr y7 := hS.trans (B9.mono LV.out)
                clear v9 B9
                refine hK.out _ _ hS (fun _ => ?_)
                simp only [Act.put]
                clear hK K
                refine wpAnyH_done (by kernel_rfl) ?_ _
                go_wp2_with fail
                go_meet
                exact ⟨gv, ro3, rn3, rc3, rfl, HW.out, hS⟩
            case rest =>
              obtain ⟨gv, ro3, rn3, rc3, rfl, x1, x2⟩ := hcut
              have hw_0 := x1.cell 0 _ rfl
              have hw_2 := x1.cell 2 _ rfl
              have hv_0 := (HV.out.below x2 (range_lt HV.out.1 (Nat.succ_pos _))).cell 0 _ rfl
              have BC : Hid (Below w45.heap.size w45 wc) := BR.out.trans (x2.mono BR.out.size)
              have X2 : Hid (Below wr.heap.size wr wc) := x2
              have hz2 := HZ.out wc x2
              clear x1 x2
              go_wp2
              go_roundw
              case rel => exact ⟨k + 1, by omega, by go_num, (by obtain ⟨vs, al, a1, a2, a3, a4, a5⟩ := HR2.out; exact ⟨vs, al, a1.below X2.out, a2, by omega, a4, alone_no a5 NA.out⟩), BC.out⟩
              case measure => simp [intOf]; omega
        · have lk : ¬ ((k : Int) < (n : Int)) := by omega
          have ek : k = n := by omega
          obtain ⟨vs, al, a1, a2, a3, a4, a5⟩ := hR
          have SX : Hid (∀ w0, w0 = wr → Calls Tryd.prog 16 #[.agg (ints .i64 [g0, g1, (S : Int), g3, g4, g5]), u11] w0 fun x w' => ∃ ro rn rc, x = .returned (.tuple #[.int .i64 0, .int .u64 gen, .slice ro rn rc]) ∧ Byt w' (.slice ro rn rc) rec ∧ Below w0.heap.size w0 w') := fun w0 q => by
            subst q
            refine (current_any g0 g1 g3 g4 g5 S _ al w0 HR.out.1 (HR.out.2.below BA.out) (rr.bks_own a1 a2 fun t ht => (a4 t ht).below BA.out)).mono ?_
            rintro x w' ⟨⟨a0, ge, re, ro, rn, rc, e, hy, hk⟩, hB⟩
            have z := kc_alone HK.out (by omega) (by rw [EN.out, ← ek]; exact a5)
            obtain ⟨rfl, rfl, rfl⟩ := kc_only hk z
            exact ⟨ro, rn, rc, e, hy, hB⟩
          clear a1 a2 a3 a4 a5 ek
          have hb0_0 := HB0.out.cell 0 _ rfl
          have hb0_1 := HB0.out.cell 1 _ rfl
          have hb0_2 := HB0.out.cell 2 _ rfl
          have hb0_3 := HB0.out.cell 3 _ rfl
          have hb0_4 := HB0.out.cell 4 _ rfl
          have hb0_5 := HB0.out.cell 5 _ rfl
          have t0 : (0 : Nat) = 0 := rfl
          go_wp2_with (first
            | (have q2 := t2; go_at_call 9; refine (SW.out w42 (BA.out.trans (BB.out.mono BA.out.size))).mono ?_; rintro e9 w43 ⟨rfl, B9⟩; have HB0 : Hid (Vr w43 w.heap.size [.int .i64 g0, .int .i64 g1, .int .i64 (S : Int), .int .i64 g3, .int .i64 g4, .int .i64 g5]) := HB0.out.below B9 (range_lt HB0.out.1 (Nat.succ_pos _)); have Y1 : Hid (Byt w43 (.slice ro rn rc) rec) := Y1.out.below B9; have Y4 : Hid (Byt w43 (.slice ro4 rn4 rc4) rec) := Y4.out.below B9; have BB : Hid (Below wr.heap.size wr w43) := BB.out.trans (B9.mono BB.out.size); clear hb0_0 hb0_1 hb0_2 hb0_3 hb0_4 hb0_5; have hb0_0 := HB0.out.cell 0 _ rfl; have hb0_1 := HB0.out.cell 1 _ rfl; have hb0_2 := HB0.out.cell 2 _ rfl; have hb0_3 := HB0.out.cell 3 _ rfl; have hb0_4 := HB0.out.cell 4 _ rfl; have hb0_5 := HB0.out.cell 5 _ rfl; clear B9; clear t2; have t3 : (1 : Nat) = 1 := rfl)
            | (have q1 := t1; go_at_call 12; refine (he.same_yes w41 _ _ rec Y4.out Y1.out).mono ?_; rintro e9 w42 ⟨rfl, B9⟩; have HB0 : Hid (Vr w42 w.heap.size [.int .i64 g0, .int .i64 g1, .int .i64 (S : Int), .int .i64 g3, .int .i64 g4, .int .i64 g5]) := HB0.out.below B9 (range_lt HB0.out.1 (Nat.succ_pos _)); have Y1 : Hid (Byt w42 (.slice ro rn rc) rec) := Y1.out.below B9; have Y4 : Hid (Byt w42 (.slice ro4 rn4 rc4) rec) := Y4.out.below B9; have BB : Hid (Below wr.heap.size wr w42) := BB.out.trans (B9.mono BB.out.size); clear hb0_0 hb0_1 hb0_2 hb0_3 hb0_4 hb0_5; have hb0_0 := HB0.out.cell 0 _ rfl; have hb0_1 := HB0.out.cell 1 _ rfl; have hb0_2 := HB0.out.cell 2 _ rfl; have hb0_3 := HB0.out.cell 3 _ rfl; have hb0_4 := HB0.out.cell 4 _ rfl; have hb0_5 := HB0.out.cell 5 _ rfl; clear B9; clear t1; have t2 : (1 : Nat) = 1 := rfl)
            | (have q0 := t0; go_at_call 16; refine (SX.out wr rfl).mono ?_; rintro e9 w41 ⟨ro4, rn4, rc4, rfl, y9, B9⟩; have HB0 : Hid (Vr w41 w.heap.size [.int .i64 g0, .int .i64 g1, .int .i64 (S : Int), .int .i64 g3, .int .i64 g4, .int .i64 g5]) := HB0.out.below B9 (range_lt HB0.out.1 (Nat.succ_pos _)); have Y1 : Hid (Byt w41 (.slice ro rn rc) rec) := Y1.out.below B9; have Y4 : Hid (Byt w41 (.slice ro4 rn4 rc4) rec) := y9; have BB : Hid (Below wr.heap.size wr w41) := B9; clear hb0_0 hb0_1 hb0_2 hb0_3 hb0_4 hb0_5; have hb0_0 := HB0.out.cell 0 _ rfl; have hb0_1 := HB0.out.cell 1 _ rfl; have hb0_2 := HB0.out.cell 2 _ rfl; have hb0_3 := HB0.out.cell 3 _ rfl; have hb0_4 := HB0.out.cell 4 _ rfl; have hb0_5 := HB0.out.cell 5 _ rfl; clear B9 y9; clear t0; have t1 : (1 : Nat) = 1 := rfl))
          go_ret
          exact ⟨rfl, BA.out.trans (BB.out.mono BA.out.size)⟩

theorem walk (g : List Int) (v : Value) (bs : List (List (List Int))) (w : World) (hl : g.length = 6) (hp : Bks w v bs) (hT : Tab w) :
    Calls Tryd.prog 5 #[.agg (ints .i64 g), v] w fun x w' => x = .returned (.bool true) ∧ Below w.heap.size w w' := by
  obtain ⟨g0, g1, g2, g3, g4, g5, rfl⟩ := geo_six g hl
  obtain ⟨ao, cap, rfl, -, -, h3⟩ := hp.at
  by_cases hn : 6 < bs.length
  · exact walk_many g0 g1 g2 g3 g4 g5 ao bs.length cap w hT hn
  · by_cases hr : ge.Rt [g0, g1, g2, g3, g4, g5]
    · obtain ⟨S, rfl, s1, s2⟩ := sec_of hr
      obtain ⟨at', gen, rec, hK⟩ := kc_some S bs bs.length
      by_cases ha : at' < 0
      · exact walk_neg g0 g1 g3 g4 g5 S ao bs.length cap bs w hT hn hr rfl hp h3 at' gen rec hK ha
      · exact walk_pos g0 g1 g3 g4 g5 S ao bs.length cap bs w hT hn hr rfl hp h3 at' gen rec hK ha
    · exact walk_geo g0 g1 g2 g3 g4 g5 ao bs.length cap w hT hn hr

theorem params : ∀ t ∈ Tryd.f5.params.toList, Tryd.prog.readableRec t = true ∧ t < Tryd.prog.types.size := by
  rw [Tryd.params5]
  intro t ht
  simp at ht
  rcases ht with rfl | rfl
  · exact ⟨by kernel_rfl, of_decide_eq_true (by kernel_rfl)⟩
  · exact ⟨by kernel_rfl, of_decide_eq_true (by kernel_rfl)⟩

theorem contract (H : Type) (enc : TypeId × Value → H) (W : World) (base : Nat) (args : Array Value) (ds gs : List (DataW H)) (before : List MemPlace)
    (hval : ∀ (j : Nat) t v, Tryd.f5.params[j]? = some t → args[j]? = some v → Value.okWide Tryd.prog W .any base t v)
    (hW : DataW.Whole enc Tryd.prog Tryd.f5.params.toList Rows.chunkCurrentsSpec.vars false W args.toList ds gs before) (hL : laidMetH Tryd.prog Rows.chunkCurrentsRow.laid W)
    (hsz : (DataW.weightsEach Tryd.prog (Tryd.f5.params.toList ++ (OpenSpec.ofChange Rows.chunkCurrentsSpec).bare.plain.varTypes Tryd.prog) (ds ++ gs)).all (· ≤ reachBytes) = true) :
    Calls Tryd.prog 5 args W fun e W' => ∃ v, e = .returned v ∧ Rows.chunkCurrentsSpec.post enc Tryd.prog Tryd.f5 false true false false W args v W' := by
  have hW' := hW
  obtain ⟨p, q, hA0, hV, rfl, hfz, hnd⟩ := hW
  have hA : DataW.TrodAll enc Tryd.prog W 0 (fun _ => true) true Tryd.f5.params.toList args.toList ds p := hA0
  rw [Tryd.params5] at hA hval
  obtain ⟨v0, v1, d0, d1, p0, p1, rfl, rfl, rfl, h0, h1⟩ := trodAll_two hA
  obtain ⟨rfl, rfl⟩ := trodVars_none hV
  obtain ⟨g0, rfl, n0⟩ := ge.geo_open (hval 0 23 v0 rfl rfl) h0
  obtain ⟨ls1, b1, _⟩ := ck.bks_open (hval 1 42 v1 rfl rfl) h1 (fun n hn => by have := List.all_eq_true.1 hsz n (DataW.weights_mem_each (j := 1) (t := 42) (d := d1) (by rw [Tryd.params5]; rfl) rfl n hn); simpa using this)
  clear hA0
  refine (walk g0 v1 ls1 W n0 b1 (table hL)).mono fun e W' ⟨he, hg⟩ => ?_
  subst he
  exact ⟨_, rfl, post_law rfl (by kernel_rfl) params rfl rfl rfl hW' hg⟩

theorem laid_met (os : Os) : laidMet Tryd.prog Rows.chunkCurrentsRow.laid (({ World.holding Tryd.prog os ⟨#[], #[], []⟩ with heap := (World.holding Tryd.prog os ⟨#[], #[], []⟩).heap.modify 0 fun | .cells _ t frozen => .cells #[.int .i64 1, .int .i64 1, .int .i64 1, .int .i64 1, .int .i64 4, .int .i64 8, .int .i64 8] t frozen | o => o } : World).forCall (fun _ _ => 0) ⟨#[], #[.agg #[.int .i64 0, .int .i64 0, .int .i64 0, .int .i64 0, .int .i64 0, .int .i64 0], .slice none 0 0], []⟩).memory :=
  laidMet_of_run' 8 (by kernel_rfl) (by kernel_rfl)
theorem reads (os : Os) {H : Type} (enc : TypeId × Value → H) : ∃ places, DataW.whole enc Tryd.prog (({ World.holding Tryd.prog os ⟨#[], #[], []⟩ with heap := (World.holding Tryd.prog os ⟨#[], #[], []⟩).heap.modify 0 fun | .cells _ t frozen => .cells #[.int .i64 1, .int .i64 1, .int .i64 1, .int .i64 1, .int .i64 4, .int .i64 8, .int .i64 8] t frozen | o => o } : World).forCall (fun _ _ => 0) ⟨#[], #[.agg #[.int .i64 0, .int .i64 0, .int .i64 0, .int .i64 0, .int .i64 0, .int .i64 0], .slice none 0 0], []⟩).memory Tryd.f5.params.toList Rows.chunkCurrentsSpec.vars false #[Value.agg #[.int .i64 0, .int .i64 0, .int .i64 0, .int .i64 0, .int .i64 0, .int .i64 0], Value.slice none 0 0].toList 8 = some ([.agg [.lit (.int .i64 0), .lit (.int .i64 0), .lit (.int .i64 0), .lit (.int .i64 0), .lit (.int .i64 0), .lit (.int .i64 0)], .nil], [], places) :=
  ⟨[], by kernel_rfl⟩

set_option maxRecDepth 100000 in
theorem lifted (os : Os) (started : os.Started) (H : Type) (enc : TypeId × Value → H) (F : Stop.Interp) :
    ReturnsInHanded {} Tryd.checked os 5 .any ((OpenSpec.ofChange Rows.chunkCurrentsSpec).preRow enc Tryd.prog Tryd.f5 Rows.chunkCurrentsRow.domain false Rows.chunkCurrentsRow.laid) (((OpenSpec.ofChange Rows.chunkCurrentsSpec).at F).post enc Tryd.prog Tryd.f5 false true false false) := by
  obtain ⟨places, hx⟩ := reads os enc
  refine returnsInHanded_of_row (C := Tryd.checked) (s := OpenSpec.ofChange Rows.chunkCurrentsSpec) own started (by kernel_rfl) Tryd.func5
    (witness_row_at (enc := enc) (C := Tryd.checked) false ({ World.holding Tryd.prog os ⟨#[], #[], []⟩ with heap := (World.holding Tryd.prog os ⟨#[], #[], []⟩).heap.modify 0 fun | .cells _ t frozen => .cells #[.int .i64 1, .int .i64 1, .int .i64 1, .int .i64 1, .int .i64 4, .int .i64 8, .int .i64 8] t frozen | o => o } : World) #[.agg #[.int .i64 0, .int .i64 0, .int .i64 0, .int .i64 0, .int .i64 0, .int .i64 0], .slice none 0 0] rfl (by kernel_rfl) (by kernel_rfl) (by kernel_rfl)
      (OpenSpec.preRow_of_cond 8 hx (by kernel_rfl) (fun k hk => by cases hk) (by kernel_rfl) (laid_met os))) ?_
  intro W base args ds gs before hval hW _ _ hsz hL _ _
  exact contract H enc W base args ds gs before hval hW hL hsz

theorem said : Rows.ChunkCurrentsSaid :=
  OpenClaim.holds_of_cond 5 Tryd.f5 rfl rfl rfl rfl rfl rfl rfl ⟨rfl, rfl, rfl, rfl, rfl⟩ rfl rfl rfl rfl rfl (by kernel_rfl) Tryd.func5 (by kernel_rfl)
    (of_decide_eq_true (by kernel_rfl)) (by unfold Func.isWrapper; first | (rw [if_pos (by decide +kernel)]; kernel_rfl) | (rw [if_neg (by decide +kernel)]; exact ⟨rfl, rfl⟩))
    (fun os started H enc _ F => by rw [OpenClaim.pre_eq_preRow]; exact lifted os started H enc F)

theorem plain (f : FuncId) (fn : Func) (hf : Tryd.pinned.checked.prog.funcNamed "nepenthe/nepenthelaw19.ChunkCurrents" = some f) (hfn : Tryd.pinned.checked.prog.funcs[f]? = some fn) :
    false = Tryd.pinned.checked.prog.looks [] ∧ ∀ (j : Nat) t, fn.params[j]? = some t → Tryd.pinned.checked.prog.wantsStandIn t = false := by
  obtain rfl : f = 5 := Option.some.inj ((show Tryd.prog.funcNamed "nepenthe/nepenthelaw19.ChunkCurrents" = some 5 by kernel_rfl).symm.trans hf) |>.symm
  obtain rfl : fn = Tryd.f5 := (Option.some.inj (Tryd.func5.symm.trans hfn)).symm
  refine ⟨by kernel_rfl, fun j t ht => ?_⟩
  rw [Tryd.params5] at ht
  have hm := Array.mem_of_getElem? ht
  simp at hm
  rcases hm with rfl | rfl
  · exact (show Tryd.prog.wantsStandIn 23 = false by kernel_rfl)
  · exact (show Tryd.prog.wantsStandIn 42 = false by kernel_rfl)
end Go.Proofs.YtahfcpdekjdceaaDoor.chunkCurrents

namespace Go.Proofs.YtahfcpdekjdceaaDoor
theorem chunkCurrents_card : Rows.ChunkCurrentsCardSaid :=
  Claim7.holds_tied_plain_at .later [] _ _ _ _ chunkCurrents.said (fun _ h => by cases h) (by kernel_rfl) (fun _ h => by cases h) chunkCurrents_row_tie rfl ⟨rfl, rfl⟩ (by kernel_rfl) rfl chunkCurrents.plain (by kernel_rfl)
#print axioms chunkCurrents_card
end Go.Proofs.YtahfcpdekjdceaaDoor
