/- Whether any record may be; its bytes under any key, or why there are none: as the document says; they are read as it was, and fit; a copy is the same, and stays when another copy is written; its sizes. Of records with more than 2000 bytes in all: the program answers. No condition. -/
import Derived.Test.YtmbfccclghnaeaaDoorCards
import Derived.Test.YtmbfccclghnaeaaDoorTie
import Derived.Test.YtmbfccclghnaeaaDoorXYCb
import Derived.Test.YtmbfccclghnaeaaDoorXYSiz
import Derived.Test.YtmbfccclghnaeaaDoorXYRBy
import Derived.Test.YtmbfccclghnaeaaDoorPackQ
import Derived.Test.YtmbfccclghnaeaaDoorXYBack
import Derived.Test.YtmbfccclghnaeaaDoorXYOpr
namespace Go.Proofs.YtmbfccclghnaeaaDoor.recordBytes
open Go.Proofs.YtmbfccclghnaeaaDoor.ge (Nums OwnI)
set_option maxRecDepth 20000
open Go.ChangeShapes Go.WideShapes Go.ChangeAt Go.RowKit Go.Proofs.YtmbfccclghnaeaaDoor.re Go.Proofs.YtmbfccclghnaeaaDoor.so Go.Proofs.YtmbfccclghnaeaaDoor.he Go.Proofs.YtmbfccclghnaeaaDoor.fa


set_option maxHeartbeats 4000000 in
theorem walk_heavy (g p b : Int) (a c : Value) (al cl : List Int) (S : Nat → Sc) (kv : Value) (ks : List Int) (w : World) (hR : Rin w g p b a c al cl S) (h1 : al.length ≤ 140737488355328) (h2 : cl.length ≤ 140737488355328) (h3 : ∀ k, k < 4 → (S k).xs.length ≤ 140737488355328) (hk : Byt w kv ks) (hT : Tbl w ∧ Tb2 w) (hl : ¬ lns al cl S 4 ≤ 2000) :
    Calls Tryd.prog 3 #[.agg (rv g p a b c S).toArray, kv] w fun x w' => x = .returned (.bool true) ∧ Below w.heap.size w w' := by
  have SW : Hid (∀ w0, Below w.heap.size w w0 → Calls Tryd.prog 8 #[] w0 fun x w' => x = .returned (.bool true) ∧ Below w0.heap.size w0 w') := fun w0 q => re.awake_any w0 (hT.1.below q hT.1.lt)
  have SL : Hid (∀ w0, Below w.heap.size w w0 → Calls Tryd.prog 7 #[.agg (rv g p a b c S).toArray] w0 fun x w' => x = .returned (.bool false) ∧ Below w0.heap.size w0 w') := fun w0 q => re.light_any g p b a c al cl S w0 (hR.below q) h1 h2 h3 false (decide_eq_false hl)
  obtain ⟨ao, ca, rfl⟩ := form hR.2.1
  obtain ⟨co, cc, rfl⟩ := form hR.2.2.1
  obtain ⟨ko, kc, rfl⟩ := form hk
  clear hR h1 h2 h3 hk hT hl
  have t0 : (0 : Nat) = 0 := rfl
  go_enter Tryd.func3, Tryd.ntmps3
  go_wp2_with (first
    | (have q3 := t3; go_at_call 8; refine (SW.out w2 BB.out).mono ?_; rintro e9 w3 ⟨rfl, B9⟩; have HB0 : Hid (Vr w3 w.heap.size (rv g p (.slice ao al.length ca) b (.slice co cl.length cc) S)) := HB0.out.below B9 (range_lt HB0.out.1 (Nat.succ_pos _)); have BB : Hid (Below w.heap.size w w3) := BB.out.trans (B9.mono BB.out.size); clear B9; clear t3; have t4 : (1 : Nat) = 1 := rfl)
    | (have q2 := t2; go_at_call 7; refine (SL.out w1 BB.out).mono ?_; rintro e9 w2 ⟨rfl, B9⟩; have HB0 : Hid (Vr w2 w.heap.size (rv g p (.slice ao al.length ca) b (.slice co cl.length cc) S)) := HB0.out.below B9 (range_lt HB0.out.1 (Nat.succ_pos _)); have BB : Hid (Below w.heap.size w w2) := BB.out.trans (B9.mono BB.out.size); clear B9; clear t2; have t3 : (1 : Nat) = 1 := rfl)
    | (have q1 := t1; refine load_lawC _ rfl (rv g p (.slice ao al.length ca) b (.slice co cl.length cc) S) w.heap.size 0 rfl HB0.out.1 rowy_record ?_; clear t1; have t2 : (1 : Nat) = 1 := rfl)
    | (have q0 := t0; refine box_lawC _ (rv g p (.slice ao al.length ca) b (.slice co cl.length cc) S) rfl ?_; intro w1 X9 B9 l9; have HB0 : Hid (Vr w1 w.heap.size (rv g p (.slice ao al.length ca) b (.slice co cl.length cc) S)) := X9; have BB : Hid (Below w.heap.size w w1) := B9; clear X9 B9 l9; clear t0; have t1 : (1 : Nat) = 1 := rfl))
  go_ret
  exact ⟨rfl, BB.out⟩

set_option maxHeartbeats 16000000 in
theorem walk_yes (g p b : Int) (a c : Value) (al cl : List Int) (S : Nat → Sc) (kv : Value) (ks : List Int) (w : World) (hR : Rin w g p b a c al cl S) (h1 : al.length ≤ 140737488355328) (h2 : cl.length ≤ 140737488355328) (h3 : ∀ k, k < 4 → (S k).xs.length ≤ 140737488355328) (hk : Byt w kv ks) (hT : Tbl w ∧ Tb2 w) (hl : lns al cl S 4 ≤ 2000) (hr : Rok al cl S) (hn : ks.length = 32) :
    Calls Tryd.prog 3 #[.agg (rv g p a b c S).toArray, kv] w fun x w' => x = .returned (.bool true) ∧ Below w.heap.size w w' := by
  have SW : Hid (∀ w0, Below w.heap.size w w0 → Calls Tryd.prog 8 #[] w0 fun x w' => x = .returned (.bool true) ∧ Below w0.heap.size w0 w') := fun w0 q => re.awake_any w0 (hT.1.below q hT.1.lt)
  have SL : Hid (∀ w0, Below w.heap.size w w0 → Calls Tryd.prog 7 #[.agg (rv g p a b c S).toArray] w0 fun x w' => x = .returned (.bool true) ∧ Below w0.heap.size w0 w') := fun w0 q => re.light_any g p b a c al cl S w0 (hR.below q) h1 h2 h3 true (decide_eq_true hl)
  have RI : Hid (Rin w g p b a c al cl S) := hR
  have LA : Hid (al.length ≤ 2000) := (lns_four al cl S hl).1
  have LS : Hid (∀ k, k < 4 → (S k).xs.length ≤ 2000) := (lns_four al cl S hl).2.2
  have SC : Hid (∀ w0 a c T, Rin w0 g p b a c al cl T → (∀ k, k < 4 → (T k).d = (S k).d) → Calls Tryd.prog 10 #[.agg (rv g p a b c T).toArray] w0 fun x w' => ∃ so sc ko kc T', x = .returned (.agg (rv g p (.slice so al.length sc) b (.slice ko cl.length kc) T').toArray) ∧ Cb w0.heap.size w' (.slice so al.length sc) (.slice ko cl.length kc) al cl T' ∧ (∀ k, k < 4 → (T' k).d = (S k).d) ∧ Below w0.heap.size w0 w') := fun w0 a c T h1 h2 => copy_cb w0 h1 h2 hl
  have SR : Hid (∀ w0, Rin w0 g p b a c al cl S → Calls Tryd.prog 11 #[.agg (rv g p a b c S).toArray] w0 fun x w' => x = .returned (.bool true) ∧ Below w0.heap.size w0 w') := fun w0 q => re.right_any g p b a c al cl S w0 q true ⟨fun _ => rfl, fun _ => hr⟩
  have SG : Hid (∀ w0, Rin w0 g p b a c al cl S → Calls Tryd.prog 12 #[.agg (rv g p a b c S).toArray] w0 fun x w' => x = .returned (.bool true) ∧ Below w0.heap.size w0 w') := fun w0 q => re.rright_any g p b a c al cl S w0 q true ⟨fun _ => rfl, fun _ => hr⟩
  have SZ : Hid (∀ w0, Rin w0 g p b a c al cl S → Calls Tryd.prog 16 #[.agg (rv g p a b c S).toArray] w0 fun x w' => ∃ r, x = .returned r ∧ Nums w' r (szs S 4) ∧ Below w0.heap.size w0 w') := fun w0 q => re.sizes_any g p b a c al cl S w0 q
  have xl := rbs_len (g := g) (p := p) (b := b) (ks := ks) hr
  obtain ⟨b1, b2, b3, b4, b5, b6, b7, b8⟩ := rec_back' (ks := ks) hR.1 (fun k hk => (hR.2.2.2 k hk).1) hr
  have SB : Hid (∀ w0, Below w.heap.size w w0 → Calls Tryd.prog 9 #[.agg (rv g p a b c S).toArray, kv] w0 fun x w' => ∃ bo bc, x = .returned (.tuple #[.slice bo 624 bc, .int .i64 0]) ∧ Byt w' (.slice bo 624 bc) (rbs g p al b cl S ks) ∧ Below w0.heap.size w0 w') := fun w0 q => (re.bytes_yes g p b a c al cl S kv ks w0 (hR.below q) (hk.below q) hr hn (hT.1.below q hT.1.lt)).mono fun _ _ ⟨r, e, y, hb⟩ => by
    obtain ⟨bo, bc, rfl⟩ := byt_form y xl
    exact ⟨bo, bc, e, y, hb⟩
  have SD : Hid (∀ w0 z, Below w.heap.size w w0 → Byt w0 z (rbs g p al b cl S ks) → Calls Tryd.prog 17 #[z] w0 fun x w' => ∃ a c T, x = .returned (.tuple #[.agg (rv g p a b c T).toArray, .int .i64 0]) ∧ Rb w' a c al cl T ∧ (∀ k, k < 4 → (T k).d = (S k).d) ∧ Below w0.heap.size w0 w') := fun w0 z q hz => by
    have r := re.read_all z _ w0 hz xl (hT.1.below q hT.1.lt) (hT.2.below q hT.2.lt) b1.1 b1.2
    rw [b2, b3, b4, b5, b6] at r
    exact r.mono fun _ _ ⟨a, c, T, e, hR, hd, hb⟩ => ⟨a, c, T, e, hR.rb, fun k hk => (hd k hk).trans (b7 k hk), hb⟩
  have SQ : Hid (∀ w0, Below w.heap.size w w0 → Rin w0 g p b a c al cl S → Calls Tryd.prog 19 #[.agg (rv g p a b c S).toArray, kv] w0 fun x w' => ∃ r, x = .returned r ∧ Byt w' r (rbs g p al b cl S ks) ∧ Below w0.heap.size w0 w') := fun w0 q hq => re.rbytes_any g p b a c al cl S kv ks w0 hq (hk.below q) hr hn
  have SF : Hid (∀ w0 z, Below w.heap.size w w0 → Byt w0 z (rbs g p al b cl S ks) → Calls Tryd.prog 20 #[z, kv] w0 fun x w' => x = .returned (.bool true) ∧ Below w0.heap.size w0 w') := fun w0 z q hz => re.fits_any z kv _ ks w0 hz (hk.below q) xl hn true (decide_eq_true b8)
  clear b1 b2 b3 b4 b5 b6 b7 b8 xl
  generalize rbs g p al b cl S ks = XS at SB SD SQ SF
  obtain ⟨ao, ca, rfl⟩ := form hR.2.1
  obtain ⟨co, cc, rfl⟩ := form hR.2.2.1
  obtain ⟨kx, ky, rfl⟩ := byt_form hk hn
  clear hR h1 h2 h3 hk hT hl hr hn
  have t0 : (0 : Nat) = 0 := rfl
  go_enter Tryd.func3, Tryd.ntmps3
  go_wp2_with (first
    | (have q12 := t12; (with_reducible refine at_store ?_); refine store_lawC _ (rv g p (.slice so2 al.length sc2) b (.slice ko2 cl.length kc2) T2) w7.heap.size 0 rfl rfl HD.out.2 rowy_record.2 (rv_one (slc_sl _ _ _) (slc_sl _ _ _) SLT2.out) ?_; intro w9 E9 R9 T9 B9; have K9 : ∀ k, k ≠ w7.heap.size → w9.heap[k]? = w8.heap[k]? := (by rw [E9.out]; exact fun k hk => heap_cells _ _ _ _ k hk); have NB_HC : Hid (NoB w9 w4.heap.size) := NB_HC.out.heap (K9 _ (Nat.ne_of_lt LT_HC_HD.out)); have HC : Hid (Vr w9 w4.heap.size (rv g p (.slice so1 al.length sc1) b (.slice ko1 cl.length kc1) T)) := HC.out.heap (K9 _ (Nat.ne_of_lt LT_HC_HD.out)); have CB : Hid (Cb w3.heap.size w9 (.slice so1 al.length sc1) (.slice ko1 cl.length kc1) al cl T) := cb_nob CB.out NB_HD.out K9; have CD : Hid (Cb w4.heap.size w9 (.slice so2 al.length sc2) (.slice ko2 cl.length kc2) al cl T2) := cb_nob CD.out NB_HD.out K9; have NB_HD : Hid (NoB w9 w7.heap.size) := (by rw [E9.out]; exact NB_HD.out.set HD.out rfl (rv_nob (slc_sl _ _ _) (slc_sl _ _ _) SLT2.out)); have HD : Hid (Vr w9 w7.heap.size (rv g p (.slice so2 al.length sc2) b (.slice ko2 cl.length kc2) T2)) := ⟨R9, T9⟩; have BB : Hid (Below w3.heap.size w3 w9) := BB.out.trans (B9.mono LE_HD.out); clear E9 R9 T9 B9 K9; clear t12; have t13 : (1 : Nat) = 1 := rfl)
    | (have q11 := t11; (with_reducible refine at_alloc ?_); refine new_lawN _ rv0 zero_record rv0_nob ?_; intro w8 X9 N9 B9; have LT_HC_HD : Hid (w4.heap.size < w7.heap.size) := range_lt HC.out.1 (Nat.succ_pos _); have LE_HD : Hid (w3.heap.size ≤ w7.heap.size) := BB.out.size; have CB : Hid (Cb w3.heap.size w8 (.slice so1 al.length sc1) (.slice ko1 cl.length kc1) al cl T) := CB.out.below B9; have NB_HC : Hid (NoB w8 w4.heap.size) := NB_HC.out.heap (B9.block _ (range_lt HC.out.1 (Nat.succ_pos _))); have HC : Hid (Vr w8 w4.heap.size (rv g p (.slice so1 al.length sc1) b (.slice ko1 cl.length kc1) T)) := HC.out.below B9 (range_lt HC.out.1 (Nat.succ_pos _)); have CD : Hid (Cb w4.heap.size w8 (.slice so2 al.length sc2) (.slice ko2 cl.length kc2) al cl T2) := CD.out.below B9; have HD : Hid (Vr w8 w7.heap.size rv0) := X9; have NB_HD : Hid (NoB w8 w7.heap.size) := N9; have BB : Hid (Below w3.heap.size w3 w8) := BB.out.trans (B9.mono BB.out.size); clear X9 N9 B9; clear t11; have t12 : (1 : Nat) = 1 := rfl)
    | (have q10 := t10; go_at_call 10; refine (SC.out w6 _ _ T (rin_cb RI.out CB.out DT.out) DT.out).mono ?_; rintro e9 w7 ⟨so2, sc2, ko2, kc2, T2, rfl, cb8, dt8, B9⟩; have CB : Hid (Cb w3.heap.size w7 (.slice so1 al.length sc1) (.slice ko1 cl.length kc1) al cl T) := CB.out.below B9; have NB_HC : Hid (NoB w7 w4.heap.size) := NB_HC.out.heap (B9.block _ (range_lt HC.out.1 (Nat.succ_pos _))); have HC : Hid (Vr w7 w4.heap.size (rv g p (.slice so1 al.length sc1) b (.slice ko1 cl.length kc1) T)) := HC.out.below B9 (range_lt HC.out.1 (Nat.succ_pos _)); have CD : Hid (Cb w4.heap.size w7 (.slice so2 al.length sc2) (.slice ko2 cl.length kc2) al cl T2) := cb8.mono (Nat.le_of_lt L5.out); have DT2 : Hid (∀ k, k < 4 → (T2 k).d = (S k).d) := dt8; have SLT2 : Hid (∀ k, k < 4 → Slc (T2 k).v) := fun k hk => slc_byt (cb8.2.2 k hk).1; have BB : Hid (Below w3.heap.size w3 w7) := BB.out.trans (B9.mono BB.out.size); clear B9 cb8 dt8; clear t10; have t11 : (1 : Nat) = 1 := rfl)
    | (have q9 := t9; refine load_lawC _ rfl (rv g p (.slice so1 al.length sc1) b (.slice ko1 cl.length kc1) T) w4.heap.size 0 rfl HC.out.1 rowy_record ?_; clear t9; have t10 : (1 : Nat) = 1 := rfl)
    | (have q8 := t8; (with_reducible refine at_store ?_); refine store_lawC _ (rv g p (.slice so1 al.length sc1) b (.slice ko1 cl.length kc1) T) w4.heap.size 0 rfl rfl HC.out.2 rowy_record.2 (rv_one (slc_sl _ _ _) (slc_sl _ _ _) SLT.out) ?_; intro w6 E9 R9 T9 B9; have K9 : ∀ k, k ≠ w4.heap.size → w6.heap[k]? = w5.heap[k]? := (by rw [E9.out]; exact fun k hk => heap_cells _ _ _ _ k hk); have CB : Hid (Cb w3.heap.size w6 (.slice so1 al.length sc1) (.slice ko1 cl.length kc1) al cl T) := cb_nob CB.out NB_HC.out K9; have NB_HC : Hid (NoB w6 w4.heap.size) := (by rw [E9.out]; exact NB_HC.out.set HC.out rfl (rv_nob (slc_sl _ _ _) (slc_sl _ _ _) SLT.out)); have HC : Hid (Vr w6 w4.heap.size (rv g p (.slice so1 al.length sc1) b (.slice ko1 cl.length kc1) T)) := ⟨R9, T9⟩; have BB : Hid (Below w3.heap.size w3 w6) := BB.out.trans (B9.mono LE_HC.out); have L5 : Hid (w4.heap.size < w6.heap.size) := range_lt HC.out.1 (Nat.succ_pos _); clear E9 R9 T9 B9 K9; clear t8; have t9 : (1 : Nat) = 1 := rfl)
    | (have q7 := t7; (with_reducible refine at_alloc ?_); refine new_lawN _ rv0 zero_record rv0_nob ?_; intro w5 X9 N9 B9; have LE_HC : Hid (w3.heap.size ≤ w4.heap.size) := BB.out.size; have CB : Hid (Cb w3.heap.size w5 (.slice so1 al.length sc1) (.slice ko1 cl.length kc1) al cl T) := CB.out.below B9; have HC : Hid (Vr w5 w4.heap.size rv0) := X9; have NB_HC : Hid (NoB w5 w4.heap.size) := N9; have BB : Hid (Below w3.heap.size w3 w5) := BB.out.trans (B9.mono BB.out.size); clear X9 N9 B9; clear t7; have t8 : (1 : Nat) = 1 := rfl)
    | (have q6 := t6; go_at_call 10; refine (SC.out w3 _ _ S (RI.out.below BW.out) (fun _ _ => rfl)).mono ?_; rintro e9 w4 ⟨so1, sc1, ko1, kc1, T, rfl, cb8, dt8, B9⟩; have CB : Hid (Cb w3.heap.size w4 (.slice so1 al.length sc1) (.slice ko1 cl.length kc1) al cl T) := cb8; have DT : Hid (∀ k, k < 4 → (T k).d = (S k).d) := dt8; have SLT : Hid (∀ k, k < 4 → Slc (T k).v) := fun k hk => slc_byt (cb8.2.2 k hk).1; have P1 : Hid (0 < al.length → ∃ b off, so1 = some ⟨b, off, none⟩ ∧ w3.heap.size ≤ b ∧ b < w4.heap.size) := bow_at cb8.1; obtain ⟨to9, tc9, e9t⟩ := form (cb8.2.2 0 (by omega)).1; have E9t : Hid ((T 0).v = .slice to9 (T 0).xs.length tc9) := e9t; have P2 : Hid (0 < (T 0).xs.length → ∃ b off, to9 = some ⟨b, off, none⟩ ∧ w3.heap.size ≤ b ∧ b < w4.heap.size) := bow_at (n := (T 0).xs.length) (cc := tc9) (by rw [← e9t]; exact cb8.2.2 0 (by omega)); have BB : Hid (Below w3.heap.size w3 w4) := B9; clear B9 cb8 dt8 e9t; clear t6; have t7 : (1 : Nat) = 1 := rfl)
    | (have q5 := t5; refine load_lawC _ rfl (rv g p (.slice ao al.length ca) b (.slice co cl.length cc) S) w.heap.size 0 rfl HB0.out.1 rowy_record ?_; clear t5; have t6 : (1 : Nat) = 1 := rfl)
    | (have q4 := t4; go_at_call 9; refine (SB.out w2 BB.out).mono ?_; rintro e9 w3 ⟨bo, bc, rfl, y9, B9⟩; have HB0 : Hid (Vr w3 w.heap.size (rv g p (.slice ao al.length ca) b (.slice co cl.length cc) S)) := HB0.out.below B9 (range_lt HB0.out.1 (Nat.succ_pos _)); have HX : Hid (Byt w3 (.slice bo 624 bc) XS) := y9; have BB : Hid (Below w.heap.size w w3) := BB.out.trans (B9.mono BB.out.size); have BW := BB; clear BB; have L0 : Hid (w.heap.size < w3.heap.size) := range_lt HB0.out.1 (Nat.succ_pos _); clear B9 y9; clear t4; have t5 : (1 : Nat) = 1 := rfl)
    | (have q3 := t3; refine load_lawC _ rfl (rv g p (.slice ao al.length ca) b (.slice co cl.length cc) S) w.heap.size 0 rfl HB0.out.1 rowy_record ?_; clear t3; have t4 : (1 : Nat) = 1 := rfl)
    | (have q2 := t2; go_at_call 7; refine (SL.out w1 BB.out).mono ?_; rintro e9 w2 ⟨rfl, B9⟩; have HB0 : Hid (Vr w2 w.heap.size (rv g p (.slice ao al.length ca) b (.slice co cl.length cc) S)) := HB0.out.below B9 (range_lt HB0.out.1 (Nat.succ_pos _)); have BB : Hid (Below w.heap.size w w2) := BB.out.trans (B9.mono BB.out.size); clear B9; clear t2; have t3 : (1 : Nat) = 1 := rfl)
    | (have q1 := t1; refine load_lawC _ rfl (rv g p (.slice ao al.length ca) b (.slice co cl.length cc) S) w.heap.size 0 rfl HB0.out.1 rowy_record ?_; clear t1; have t2 : (1 : Nat) = 1 := rfl)
    | (have q0 := t0; refine box_lawC _ (rv g p (.slice ao al.length ca) b (.slice co cl.length cc) S) rfl ?_; intro w1 X9 B9 l9; have HB0 : Hid (Vr w1 w.heap.size (rv g p (.slice ao al.length ca) b (.slice co cl.length cc) S)) := X9; have BB : Hid (Below w.heap.size w w1) := B9; clear X9 B9 l9; clear t0; have t1 : (1 : Nat) = 1 := rfl))
  have LT0 : Hid ((T 0).xs.length ≤ 2000) := (by show _ ≤ _; rw [(d_eq (DT.out 0 (by omega))).2.2.2.2]; exact LS.out 0 (by omega))
  go_loopw [9] (fun i wr => ∃ k : Nat, k ≤ al.length ∧ i = .int .i64 k ∧ Wr w3.heap.size w4.heap.size w9 wr) (fun i _ => al.length - (intOf i).toNat)
  case atStart => exact ⟨0, Nat.zero_le _, rfl, Wr.refl _ _ _⟩
  case round =>
    skip
    obtain ⟨k, hk, rfl, hW⟩ := hrel
    have HW : Hid (Wr w3.heap.size w4.heap.size w9 wr) := hW
    have HCw : Hid (Vr wr w4.heap.size (rv g p (.slice so1 al.length sc1) b (.slice ko1 cl.length kc1) T)) := HC.out.heap (hW.2.1 _ (Nat.le_refl _))
    have hcc : wr.cell? ⟨w4.heap.size, 2, none⟩ = some (.slice so1 al.length sc1) := HCw.out.cell 2 _ rfl
    clear hW
    by_cases hlt : k < al.length
    · obtain ⟨b', off, y, hco, hcell, hfr⟩ := HW.out.byte (CB.out.1) k hlt
      obtain ⟨b'', off', hco', hB, hH⟩ := P1.out (by omega)
      rw [hco] at hco' hcc
      obtain ⟨rfl, rfl⟩ : b' = b'' ∧ off = off' := by injection hco' with q; injection q with q1 q2; exact ⟨q1, q2⟩
      clear hco' hco
      have lk : (k : Int) < (al.length : Int) := by omega
      have HBb : Hid (w3.heap.size ≤ b') := hB
      have HHb : Hid (b' < w4.heap.size) := hH
      have HE : Hid (wr.cell? ⟨b', off + k, none⟩ = some (.int .u8 y)) := hcell
      have XL : Hid (al.length ≤ 2000) := LA.out
      have wk : IntKind.i64.wrap ((k : Int) + 1) = (k : Int) + 1 := by have := XL.out; rw [IntKind.wrap_i64]; omega
      clear hB hH
      go_wp2
      go_roundw
      case rel => exact ⟨k + 1, by omega, by go_num, HW.out.set HE.out HBb.out HHb.out _⟩
      case measure => simp [intOf]; omega
    · have hk' : k = al.length := by omega
      subst hk'
      clear HCw
      go_wp2
      clear hcc
      go_loopw [10] (fun i wr => ∃ k : Nat, k ≤ (T 0).xs.length ∧ i = .int .i64 k ∧ Wr w3.heap.size w4.heap.size w9 wr) (fun i _ => (T 0).xs.length - (intOf i).toNat)
      case atStart => exact ⟨0, Nat.zero_le _, rfl, HW.out⟩
      case round =>
        clear HW
        obtain ⟨k, hk, rfl, hW⟩ := hrel
        have HW : Hid (Wr w3.heap.size w4.heap.size w9 wr) := hW
        have HCw : Hid (Vr wr w4.heap.size (rv g p (.slice so1 al.length sc1) b (.slice ko1 cl.length kc1) T)) := HC.out.heap (hW.2.1 _ (Nat.le_refl _))
        have hcc : wr.cell? ⟨w4.heap.size, 9, none⟩ = some (.slice to9 (T 0).xs.length tc9) := (by rw [← E9t.out]; exact HCw.out.cell 9 _ rfl)
        clear hW
        by_cases hlt : k < (T 0).xs.length
        · obtain ⟨b', off, y, hco, hcell, hfr⟩ := HW.out.byte (co := to9) (n := (T 0).xs.length) (cc := tc9) (by rw [← E9t.out]; exact CB.out.2.2 0 (by omega)) k hlt
          obtain ⟨b'', off', hco', hB, hH⟩ := P2.out (by omega)
          rw [hco] at hco' hcc
          obtain ⟨rfl, rfl⟩ : b' = b'' ∧ off = off' := by injection hco' with q; injection q with q1 q2; exact ⟨q1, q2⟩
          clear hco' hco
          have lk : (k : Int) < ((T 0).xs.length : Int) := by omega
          have HBb : Hid (w3.heap.size ≤ b') := hB
          have HHb : Hid (b' < w4.heap.size) := hH
          have HE : Hid (wr.cell? ⟨b', off + k, none⟩ = some (.int .u8 y)) := hcell
          have XL : Hid ((T 0).xs.length ≤ 2000) := LT0.out
          have wk : IntKind.i64.wrap ((k : Int) + 1) = (k : Int) + 1 := by have := XL.out; rw [IntKind.wrap_i64]; omega
          clear hB hH
          go_wp2
          go_roundw
          case rel => exact ⟨k + 1, by omega, by go_num, HW.out.set HE.out HBb.out HHb.out _⟩
          case measure => simp [intOf]; omega
        · have hk' : k = (T 0).xs.length := by omega
          subst hk'
          clear HCw
          go_wp2
          have BB2 : Hid (Below w3.heap.size w3 wr) := BB.out.trans HW.out.1
          have HBr : Hid (Vr wr w.heap.size (rv g p (.slice ao al.length ca) b (.slice co cl.length cc) S)) := HB0.out.below BB2.out L0.out
          have HDr : Hid (Vr wr w7.heap.size (rv g p (.slice so2 al.length sc2) b (.slice ko2 cl.length kc2) T2)) := HD.out.heap (HW.out.2.1 _ (Nat.le_of_lt LT_HC_HD.out))
          have RDb : Hid (Rb wr (.slice so2 al.length sc2) (.slice ko2 cl.length kc2) al cl T2) := ⟨HW.out.bow CD.out.1, HW.out.bow CD.out.2.1, fun k hk => HW.out.bow (CD.out.2.2 k hk)⟩
          have BT : Hid (Below w.heap.size w wr) := BW.out.trans (BB2.out.mono BW.out.size)
          have RIr : Hid (Rin wr g p b (.slice ao al.length ca) (.slice co cl.length cc) al cl S) := RI.out.below BT.out
          have HXr : Hid (Byt wr (.slice bo 624 bc) XS) := HX.out.below BB2.out
          clear HW HC HD NB_HC NB_HD CB CD BB BB2 HB0 P1 P2 E9t hcc HX
          refine wp_region_held_drew (S := fun w' => Below wr.heap.size wr w') (by kernel_rfl) (Below.refl _ _).drew (fun hS => ?_)
          obtain ⟨x1, hx0⟩ : ∃ x, x = wr.drew := ⟨_, rfl⟩
          rw [← hx0] at hS  ⊢
          clear hx0
          refine take_lawH 0 (some 61) (.agg (rv g p (.slice ao al.length ca) b (.slice co cl.length cc) S).toArray) rfl rfl (by kernel_rfl) (by kernel_rfl) (by kernel_rfl) (fun _ _ _ h => h) (Or.inl ⟨by rfl, fun w' hw' => by exact exec_loadN 28 (.tmp 2) rfl _ rfl _ _ (load_cells rowy_record (HBr.out.below hw' (range_lt HBr.out.1 (Nat.succ_pos _))).1)⟩) hS ?_
          simp only [Act.put, List.setIfInBounds_toArray, List.set_cons_zero, List.set_cons_succ]
          refine take_lawH 2 (some 63) (.agg (rv g p (.slice ao al.length ca) b (.slice co cl.length cc) S).toArray) rfl rfl (by kernel_rfl) (by kernel_rfl) (by kernel_rfl) (fun _ _ _ h => h) (Or.inl ⟨by rfl, fun w' hw' => by exact exec_loadN 28 (.tmp 2) rfl _ rfl _ _ (load_cells rowy_record (HBr.out.below hw' (range_lt HBr.out.1 (Nat.succ_pos _))).1)⟩) hS ?_
          simp only [Act.put, List.setIfInBounds_toArray, List.set_cons_zero, List.set_cons_succ]
          refine wpAnyH_ready (rs := [1]) (by kernel_rfl) (by simp) ?_
          refine AllReadyH.cons rfl (fun K hK => ?_) AllReadyH.nil
          refine he.step_callW _ (by rfl) (some 62) rfl 11 #[.tmp 61] #[28] rfl (fun q w' => by rfl) #[.agg (rv g p (.slice ao al.length ca) b (.slice co cl.length cc) S).toArray] (by simp only [List.map_toArray, List.map_cons, List.map_nil]; rfl) (fun z9 w' => z9 = .bool true ∧ Below x1.heap.size x1 w') ?_ ?_
          · exact (SR.out x1 (RIr.out.below hS)).mono fun e w' ⟨h1, h2⟩ => ⟨_, h1, rfl, h2⟩
          rintro _ x2 ⟨rfl, hb⟩
          have hS : Below wr.heap.size wr x2 := hS.trans (hb.mono hS.size)
          clear hb
          refine hK.out _ _ hS (fun _ => ?_)
          simp only [Act.put, List.setIfInBounds_toArray, List.set_cons_zero, List.set_cons_succ]
          clear hK K
          refine wpAnyH_ready (rs := [3]) (by kernel_rfl) (by simp) ?_
          refine AllReadyH.cons rfl (fun K hK => ?_) AllReadyH.nil
          refine he.step_callW _ (by rfl) (some 64) rfl 13 #[.tmp 63] #[28] rfl (fun q w' => by rfl) #[.agg (rv g p (.slice ao al.length ca) b (.slice co cl.length cc) S).toArray] (by simp only [List.map_toArray, List.map_cons, List.map_nil]; rfl) (fun z9 w' => z9 = .agg (rv g p (.slice ao al.length ca) b (.slice co cl.length cc) S).toArray ∧ Below x2.heap.size x2 w') ?_ ?_
          · exact (of_rb g p b _ _ al cl S x2 (RIr.out.below hS).rb).mono fun e w' ⟨h1, h2⟩ => ⟨_, h1, rfl, h2⟩
          rintro _ x3 ⟨rfl, hb⟩
          have hS : Below wr.heap.size wr x3 := hS.trans (hb.mono hS.size)
          clear hb
          refine hK.out _ _ hS (fun _ => ?_)
          simp only [Act.put, List.setIfInBounds_toArray, List.set_cons_zero, List.set_cons_succ]
          clear hK K
          refine wpAnyH_ready (rs := [4]) (by kernel_rfl) (by simp) ?_
          refine AllReadyH.cons rfl (fun K hK => ?_) AllReadyH.nil
          refine he.step_callW _ (by rfl) (some 65) rfl 12 #[.tmp 64] #[39] rfl (fun q w' => by rfl) #[.agg (rv g p (.slice ao al.length ca) b (.slice co cl.length cc) S).toArray] (by simp only [List.map_toArray, List.map_cons, List.map_nil]; rfl) (fun z9 w' => z9 = .bool true ∧ Below x3.heap.size x3 w') ?_ ?_
          · exact (SG.out x3 (RIr.out.below hS)).mono fun e w' ⟨h1, h2⟩ => ⟨_, h1, rfl, h2⟩
          rintro _ x4 ⟨rfl, hb⟩
          have hS : Below wr.heap.size wr x4 := hS.trans (hb.mono hS.size)
          clear hb
          refine hK.out _ _ hS (fun _ => ?_)
          simp only [Act.put, List.setIfInBounds_toArray, List.set_cons_zero, List.set_cons_succ]
          clear hK K
          refine take_lawH 5 (some 66) (.bool false) rfl rfl (by kernel_rfl) (by kernel_rfl) (by kernel_rfl) (fun _ _ _ h => h) (Or.inl ⟨by rfl, fun w' hw' => by rfl⟩) hS ?_
          simp only [Act.put, List.setIfInBounds_toArray, List.set_cons_zero, List.set_cons_succ]
          refine take_lawH 6 (some 67) (.bool false) rfl rfl (by kernel_rfl) (by kernel_rfl) (by kernel_rfl) (fun _ _ _ h => h) (Or.inl ⟨by rfl, fun w' hw' => by rfl⟩) hS ?_
          simp only [Act.put, List.setIfInBounds_toArray, List.set_cons_zero, List.set_cons_succ]
          refine take_lawH 7 (some 68) (.agg (rv g p (.slice so2 al.length sc2) b (.slice ko2 cl.length kc2) T2).toArray) rfl rfl (by kernel_rfl) (by kernel_rfl) (by kernel_rfl) (fun _ _ _ h => h) (Or.inl ⟨by rfl, fun w' hw' => by exact exec_loadN 28 (.tmp 8) rfl _ rfl _ _ (load_cells rowy_record (HDr.out.below hw' (range_lt HDr.out.1 (Nat.succ_pos _))).1)⟩) hS ?_
          simp only [Act.put, List.setIfInBounds_toArray, List.set_cons_zero, List.set_cons_succ]
          refine take_lawH 9 (some 70) (.agg (rv g p (.slice ao al.length ca) b (.slice co cl.length cc) S).toArray) rfl rfl (by kernel_rfl) (by kernel_rfl) (by kernel_rfl) (fun _ _ _ h => h) (Or.inl ⟨by rfl, fun w' hw' => by exact exec_loadN 28 (.tmp 2) rfl _ rfl _ _ (load_cells rowy_record (HBr.out.below hw' (range_lt HBr.out.1 (Nat.succ_pos _))).1)⟩) hS ?_
          simp only [Act.put, List.setIfInBounds_toArray, List.set_cons_zero, List.set_cons_succ]
          refine wpAnyH_ready (rs := [8]) (by kernel_rfl) (by simp) ?_
          refine AllReadyH.cons rfl (fun K hK => ?_) AllReadyH.nil
          refine he.step_callW _ (by rfl) (some 69) rfl 13 #[.tmp 68] #[28] rfl (fun q w' => by rfl) #[.agg (rv g p (.slice so2 al.length sc2) b (.slice ko2 cl.length kc2) T2).toArray] (by simp only [List.map_toArray, List.map_cons, List.map_nil]; rfl) (fun z9 w' => z9 = .agg (rv g p (.slice so2 al.length sc2) b (.slice ko2 cl.length kc2) T2).toArray ∧ Below x4.heap.size x4 w') ?_ ?_
          · exact (of_rb g p b _ _ al cl T2 x4 (RDb.out.below hS)).mono fun e w' ⟨h1, h2⟩ => ⟨_, h1, rfl, h2⟩
          rintro _ x5 ⟨rfl, hb⟩
          have hS : Below wr.heap.size wr x5 := hS.trans (hb.mono hS.size)
          clear hb
          refine hK.out _ _ hS (fun _ => ?_)
          simp only [Act.put, List.setIfInBounds_toArray, List.set_cons_zero, List.set_cons_succ]
          clear hK K
          refine wpAnyH_ready (rs := [10]) (by kernel_rfl) (by simp) ?_
          refine AllReadyH.cons rfl (fun K hK => ?_) AllReadyH.nil
          refine he.step_callW _ (by rfl) (some 71) rfl 13 #[.tmp 70] #[28] rfl (fun q w' => by rfl) #[.agg (rv g p (.slice ao al.length ca) b (.slice co cl.length cc) S).toArray] (by simp only [List.map_toArray, List.map_cons, List.map_nil]; rfl) (fun z9 w' => z9 = .agg (rv g p (.slice ao al.length ca) b (.slice co cl.length cc) S).toArray ∧ Below x5.heap.size x5 w') ?_ ?_
          · exact (of_rb g p b _ _ al cl S x5 (RIr.out.below hS).rb).mono fun e w' ⟨h1, h2⟩ => ⟨_, h1, rfl, h2⟩
          rintro _ x6 ⟨rfl, hb⟩
          have hS : Below wr.heap.size wr x6 := hS.trans (hb.mono hS.size)
          clear hb
          refine hK.out _ _ hS (fun _ => ?_)
          simp only [Act.put, List.setIfInBounds_toArray, List.set_cons_zero, List.set_cons_succ]
          clear hK K
          refine wpAnyH_ready (rs := [11]) (by kernel_rfl) (by simp) ?_
          refine AllReadyH.cons rfl (fun K hK => ?_) AllReadyH.nil
          refine he.step_callW _ (by rfl) (some 72) rfl 14 #[.tmp 69, .tmp 71] #[39, 39] rfl (fun q w' => by rfl) #[.agg (rv g p (.slice so2 al.length sc2) b (.slice ko2 cl.length kc2) T2).toArray, .agg (rv g p (.slice ao al.length ca) b (.slice co cl.length cc) S).toArray] (by simp only [List.map_toArray, List.map_cons, List.map_nil]; rfl) (fun z9 w' => z9 = .bool true ∧ Below x6.heap.size x6 w') ?_ ?_
          · exact (rsame_rb g p b _ _ _ _ al cl T2 S x6 (RDb.out.below hS) (RIr.out.below hS).rb DT2.out).mono fun e w' ⟨h1, h2⟩ => ⟨_, h1, rfl, h2⟩
          rintro _ x7 ⟨rfl, hb⟩
          have hS : Below wr.heap.size wr x7 := hS.trans (hb.mono hS.size)
          clear hb
          refine hK.out _ _ hS (fun _ => ?_)
          simp only [Act.put, List.setIfInBounds_toArray, List.set_cons_zero, List.set_cons_succ]
          clear hK K
          refine take_lawH 12 (some 73) (.bool false) rfl rfl (by kernel_rfl) (by kernel_rfl) (by kernel_rfl) (fun _ _ _ h => h) (Or.inl ⟨by rfl, fun w' hw' => by rfl⟩) hS ?_
          simp only [Act.put, List.setIfInBounds_toArray, List.set_cons_zero, List.set_cons_succ]
          refine take_lawH 13 (some 74) (.bool false) rfl rfl (by kernel_rfl) (by kernel_rfl) (by kernel_rfl) (fun _ _ _ h => h) (Or.inl ⟨by rfl, fun w' hw' => by rfl⟩) hS ?_
          simp only [Act.put, List.setIfInBounds_toArray, List.set_cons_zero, List.set_cons_succ]
          refine wpAnyH_done (by kernel_rfl) ?_ _
          have BX : Hid (Below w.heap.size w x7) := BT.out.trans (hS.mono BT.out.size)
          have LX : Hid (w.heap.size < x7.heap.size) := Nat.lt_of_lt_of_le (range_lt HBr.out.1 (Nat.succ_pos _)) hS.size
          have HBx : Hid (Vr x7 w.heap.size (rv g p (.slice ao al.length ca) b (.slice co cl.length cc) S)) := HBr.out.below hS (range_lt HBr.out.1 (Nat.succ_pos _))
          have HXx : Hid (Byt x7 (.slice bo 624 bc) XS) := HXr.out.below hS
          clear hS HBr HDr RDb RIr BT HXr
          have s0 : (0 : Nat) = 0 := rfl
          go_wp2_with (first
            | (have q := s0; refine nil_lawI _ rfl rfl ?_; intro w70 o7 B7; have O7 : Hid (OwnI x7.heap.size w70 (.slice (some ⟨x7.heap.size, 0, none⟩) 0 0) []) := o7; have B7h : Hid (Below x7.heap.size x7 w70) := B7; clear o7 B7 s0))
          go_loopw [12, 11] (fun i r wr => ∃ k : Nat, k ≤ 4 ∧ i = .int .i64 (k : Int) ∧ OwnI x7.heap.size wr r (szs S k) ∧ Below x7.heap.size x7 wr) (fun i _ _ => 4 - (intOf i).toNat)
          case atStart => exact ⟨0, Nat.zero_le _, rfl, O7.out, B7h.out⟩
          case round =>
            clear O7 B7h
            obtain ⟨k, hk4, rfl, o2, hBl⟩ := hrel
            have B0 : Hid (Below x7.heap.size x7 wr) := hBl
            clear hBl
            by_cases hk : k < 4
            · have ki : (k : Int) < 4 := by omega
              have HBk : Hid (Vr wr w.heap.size (rv g p (.slice ao al.length ca) b (.slice co cl.length cc) S)) := HBx.out.below B0.out LX.out
              have c0 : wr.cell? ⟨w.heap.size, 5 + k * 5, none⟩ = some (.bool (S k).u) := cell_slot HBk.out k hk 0 _ rfl
              have c1 : wr.cell? ⟨w.heap.size, 5 + k * 5 + 1, none⟩ = some (.int .i64 (S k).n) := cell_slot HBk.out k hk 1 _ rfl
              have O2 : Hid (OwnI x7.heap.size wr u11 (szs S k)) := o2
              have TL : Hid ((szs S k).length ≤ 1000000) := Nat.le_trans (szs_len S k) (by omega)
              clear o2 HBk
              by_cases hu : (S k).u = true
              · have s0 : (0 : Nat) = 0 := rfl
                go_wp2_with (first
                  | (have q := s1; at_builtin; refine ge.pushs_lawI _ rfl (.tmp 85) (.tmp 91) rfl x7.heap.size (Nat.le_trans B0.out.size B8.out.size) _ _ (szs S k) [(S k).n] rfl rfl (O2.out.below B8.out) O8.out.nums TL.out (show (1 : Nat) ≤ 1000000 by decide) ?_; intro v3 w90 o3 B3; have O3 : Hid (OwnI x7.heap.size w90 v3 (szs S k ++ [(S k).n])) := o3; have BZ : Hid (Below x7.heap.size x7 w90) := (B0.out.trans (B8.out.mono B0.out.size)).trans B3; clear o3 B3 s1)
                  | (have q := s0; refine one_lawI _ rfl (.tmp 90) rfl (S k).n rfl ?_; intro w80 o8 B9; have O8 : Hid (OwnI wr.heap.size w80 (.slice (some ⟨wr.heap.size, 0, none⟩) 1 1) [(S k).n]) := o8; have B8 : Hid (Below wr.heap.size wr w80) := B9; clear o8 B9 s0; have s1 : (1 : Nat) = 1 := rfl))
                go_roundw
                case rel => exact ⟨k + 1, by omega, by go_num, by rw [szs_yes S k hu]; exact O3.out, BZ.out⟩
                case measure => simp [intOf]; omega
              · have hu : (S k).u = false := by simpa using hu
                go_wp2
                go_roundw
                case rel => exact ⟨k + 1, by omega, by go_num, by rw [szs_no S k hu]; exact O2.out, B0.out⟩
                case measure => simp [intOf]; omega
            · have e4 : k = 4 := by omega
              subst e4
              have O2 : Hid (OwnI x7.heap.size wr u11 (szs S 4)) := o2
              have HBk : Hid (Vr wr w.heap.size (rv g p (.slice ao al.length ca) b (.slice co cl.length cc) S)) := HBx.out.below B0.out LX.out
              have BT : Hid (Below w.heap.size w wr) := BX.out.trans (B0.out.mono BX.out.size)
              have LK : Hid (w.heap.size < wr.heap.size) := range_lt HBk.out.1 (Nat.succ_pos _)
              have HXk : Hid (Byt wr (.slice bo 624 bc) XS) := HXx.out.below B0.out
              clear o2 hk hk4
              have t0 : (0 : Nat) = 0 := rfl
              go_wp2_with (first
                | (have q8 := t8; (with_reducible refine at_store ?_); refine store_lawC _ (rv g p a3 b c3 T3) w205.heap.size 0 rfl rfl HY.out.2 rowy_record.2 RX.out.one ?_; intro w207 E9 R9 T9 B9; have K9 : ∀ k, k ≠ w205.heap.size → w207.heap[k]? = w206.heap[k]? := (by rw [E9.out]; exact fun k hk => heap_cells _ _ _ _ k hk); have RX : Hid (Rb w207 a3 c3 al cl T3) := rb_nob RX.out NB_HY.out K9; have NB_HY : Hid (NoB w207 w205.heap.size) := (by rw [E9.out]; exact NB_HY.out.set HY.out rfl RX.out.nob); have HY : Hid (Vr w207 w205.heap.size (rv g p a3 b c3 T3)) := ⟨R9, T9⟩; have BB : Hid (Below wr.heap.size wr w207) := BB.out.trans (B9.mono LE_HY.out); clear E9 R9 T9 B9 K9; clear t8; have t9 : (1 : Nat) = 1 := rfl)
                | (have q7 := t7; (with_reducible refine at_alloc ?_); refine new_lawN _ rv0 zero_record rv0_nob ?_; intro w206 X9 N9 B9; have LE_HY : Hid (wr.heap.size ≤ w205.heap.size) := BB.out.size; have RX : Hid (Rb w206 a3 c3 al cl T3) := RX.out.below B9; have HY : Hid (Vr w206 w205.heap.size rv0) := X9; have NB_HY : Hid (NoB w206 w205.heap.size) := N9; have BB : Hid (Below wr.heap.size wr w206) := BB.out.trans (B9.mono BB.out.size); clear X9 N9 B9; clear t7; have t8 : (1 : Nat) = 1 := rfl)
                | (have q6 := t6; go_at_call 17; refine (SD.out w204 _ (BT.out.trans (BB.out.mono BT.out.size)) (HXk.out.below BB.out)).mono ?_; rintro e9 w205 ⟨a3, c3, T3, rfl, r8, d8, B9⟩; have RX : Hid (Rb w205 a3 c3 al cl T3) := r8; have DT3 : Hid (∀ k, k < 4 → (T3 k).d = (S k).d) := d8; have BB : Hid (Below wr.heap.size wr w205) := BB.out.trans (B9.mono BB.out.size); clear B9 r8 d8; clear t6; have t7 : (1 : Nat) = 1 := rfl)
                | (have q5 := t5; go_at_call 12; refine (SG.out w203 (RI.out.below (BT.out.trans (BB.out.mono BT.out.size)))).mono ?_; rintro e9 w204 ⟨rfl, B9⟩; have BB : Hid (Below wr.heap.size wr w204) := BB.out.trans (B9.mono BB.out.size); clear B9; clear t5; have t6 : (1 : Nat) = 1 := rfl)
                | (have q4 := t4; go_at_call 13; refine (of_rb g p b _ _ al cl S w202 (RI.out.below (BT.out.trans (BB.out.mono BT.out.size))).rb).mono ?_; rintro e9 w203 ⟨rfl, B9⟩; have BB : Hid (Below wr.heap.size wr w203) := BB.out.trans (B9.mono BB.out.size); clear B9; clear t4; have t5 : (1 : Nat) = 1 := rfl)
                | (have q3 := t3; refine load_lawC _ rfl (rv g p (.slice ao al.length ca) b (.slice co cl.length cc) S) w.heap.size 0 rfl (HBk.out.below BB.out LK.out).1 rowy_record ?_; clear t3; have t4 : (1 : Nat) = 1 := rfl)
                | (have q2 := t2; go_at_call 15; refine (samei_yes w201 _ _ (szs S 4) YN.out (O2.out.nums.below BB.out)).mono ?_; rintro e9 w202 ⟨rfl, B9⟩; have BB : Hid (Below wr.heap.size wr w202) := BB.out.trans (B9.mono BB.out.size); clear B9; clear t2; have t3 : (1 : Nat) = 1 := rfl)
                | (have q1 := t1; go_at_call 16; refine (SZ.out wr (RI.out.below BT.out)).mono ?_; rintro e9 w201 ⟨r9, rfl, y9, B9⟩; have YN : Hid (Nums w201 r9 (szs S 4)) := y9; have BB : Hid (Below wr.heap.size wr w201) := B9; clear B9 y9; clear t1; have t2 : (1 : Nat) = 1 := rfl)
                | (have q0 := t0; refine load_lawC _ rfl (rv g p (.slice ao al.length ca) b (.slice co cl.length cc) S) w.heap.size 0 rfl HBk.out.1 rowy_record ?_; clear t0; have t1 : (1 : Nat) = 1 := rfl))
              have HBz : Hid (Vr w207 w.heap.size (rv g p (.slice ao al.length ca) b (.slice co cl.length cc) S)) := HBk.out.below BB.out LK.out
              refine wp_region_held_drew (S := fun w' => Below w207.heap.size w207 w') (by kernel_rfl) (Below.refl _ _).drew (fun hS => ?_)
              obtain ⟨y1, hx0⟩ : ∃ x, x = w207.drew := ⟨_, rfl⟩
              rw [← hx0] at hS  ⊢
              clear hx0
              refine take_lawH 0 (some 122) (.int .i64 0) rfl rfl (by kernel_rfl) (by kernel_rfl) (by kernel_rfl) (fun _ _ _ h => h) (Or.inl ⟨by rfl, fun w' hw' => by rfl⟩) hS ?_
              simp only [Act.put, List.setIfInBounds_toArray, List.set_cons_zero, List.set_cons_succ]
              refine take_lawH 1 (some 123) (.bool true) rfl rfl (by kernel_rfl) (by kernel_rfl) (by kernel_rfl) (fun _ _ _ h => h) (Or.inl ⟨by rfl, fun w' hw' => by rfl⟩) hS ?_
              simp only [Act.put, List.setIfInBounds_toArray, List.set_cons_zero, List.set_cons_succ]
              refine take_lawH 2 (some 124) (.bool true) rfl rfl (by kernel_rfl) (by kernel_rfl) (by kernel_rfl) (fun _ _ _ h => h) (Or.inl ⟨by rfl, fun w' hw' => by rfl⟩) hS ?_
              simp only [Act.put, List.setIfInBounds_toArray, List.set_cons_zero, List.set_cons_succ]
              refine take_lawH 3 (some 125) (.slice bo 624 bc) rfl rfl (by kernel_rfl) (by kernel_rfl) (by kernel_rfl) (fun _ _ _ h => h) (Or.inl ⟨by rfl, fun w' hw' => by rfl⟩) hS ?_
              simp only [Act.put, List.setIfInBounds_toArray, List.set_cons_zero, List.set_cons_succ]
              refine take_lawH 4 (some 126) (.agg (rv g p (.slice ao al.length ca) b (.slice co cl.length cc) S).toArray) rfl rfl (by kernel_rfl) (by kernel_rfl) (by kernel_rfl) (fun _ _ _ h => h) (Or.inl ⟨by rfl, fun w' hw' => by exact exec_loadN 28 (.tmp 2) rfl _ rfl _ _ (load_cells rowy_record (HBz.out.below hw' (range_lt HBz.out.1 (Nat.succ_pos _))).1)⟩) hS ?_
              simp only [Act.put, List.setIfInBounds_toArray, List.set_cons_zero, List.set_cons_succ]
              refine take_lawH 6 (some 128) (.slice kx 32 ky) rfl rfl (by kernel_rfl) (by kernel_rfl) (by kernel_rfl) (fun _ _ _ h => h) (Or.inl ⟨by rfl, fun w' hw' => by rfl⟩) hS ?_
              simp only [Act.put, List.setIfInBounds_toArray, List.set_cons_zero, List.set_cons_succ]
              refine wpAnyH_ready (rs := [5]) (by kernel_rfl) (by simp) ?_
              refine AllReadyH.cons rfl (fun K hK => ?_) AllReadyH.nil
              refine he.step_callW _ (by rfl) (some 127) rfl 13 #[.tmp 126] #[28] rfl (fun q w' => by rfl) #[.agg (rv g p (.slice ao al.length ca) b (.slice co cl.length cc) S).toArray] (by simp only [List.map_toArray, List.map_cons, List.map_nil]; rfl) (fun z9 w' => z9 = .agg (rv g p (.slice ao al.length ca) b (.slice co cl.length cc) S).toArray ∧ Below y1.heap.size y1 w') ?_ ?_
              · exact (of_rb g p b _ _ al cl S y1 (RI.out.below (BT.out.trans ((BB.out.trans (hS.mono BB.out.size)).mono BT.out.size))).rb).mono fun e w' ⟨h1, h2⟩ => ⟨_, h1, rfl, h2⟩
              rintro _ y2 ⟨rfl, hb⟩
              have hS : Below w207.heap.size w207 y2 := hS.trans (hb.mono hS.size)
              clear hb
              refine hK.out _ _ hS (fun _ => ?_)
              simp only [Act.put, List.setIfInBounds_toArray, List.set_cons_zero, List.set_cons_succ]
              clear hK K
              refine wpAnyH_ready (rs := [7]) (by kernel_rfl) (by simp) ?_
              refine AllReadyH.cons rfl (fun K hK => ?_) AllReadyH.nil
              refine he.step_callW _ (by rfl) (some 129) rfl 19 #[.tmp 127, .tmp 128] #[39, 23] rfl (fun q w' => by rfl) #[.agg (rv g p (.slice ao al.length ca) b (.slice co cl.length cc) S).toArray, .slice kx 32 ky] (by simp only [List.map_toArray, List.map_cons, List.map_nil]; rfl) (fun z9 w' => Byt w' z9 XS ∧ Below y2.heap.size y2 w') ?_ ?_
              · exact (SQ.out y2 (BT.out.trans ((BB.out.trans (hS.mono BB.out.size)).mono BT.out.size)) (RI.out.below (BT.out.trans ((BB.out.trans (hS.mono BB.out.size)).mono BT.out.size)))).mono fun e w' ⟨r, h1, h2, h3⟩ => ⟨_, h1, h2, h3⟩
              rintro r7 y3 ⟨y7, hb⟩
              have YQ : Hid (Byt y3 r7 XS) := y7
              clear y7
              have hS : Below w207.heap.size w207 y3 := hS.trans (hb.mono hS.size)
              clear hb
              refine hK.out _ _ hS (fun _ => ?_)
              simp only [Act.put, List.setIfInBounds_toArray, List.set_cons_zero, List.set_cons_succ]
              clear hK K
              refine wpAnyH_ready (rs := [8]) (by kernel_rfl) (by simp) ?_
              refine AllReadyH.cons rfl (fun K hK => ?_) AllReadyH.nil
              refine he.step_callW _ (by rfl) (some 130) rfl 18 #[.tmp 125, .tmp 129] #[23, 23] rfl (fun q w' => by rfl) #[.slice bo 624 bc, r7] (by simp only [List.map_toArray, List.map_cons, List.map_nil]; rfl) (fun z9 w' => z9 = .bool true ∧ Below y3.heap.size y3 w') ?_ ?_
              · exact (so.same_yes y3 _ _ XS (HXk.out.below (BB.out.trans (hS.mono BB.out.size))) YQ.out).mono fun e w' ⟨h1, h2⟩ => ⟨_, h1, rfl, h2⟩
              rintro _ y4 ⟨rfl, hb⟩
              have hS : Below w207.heap.size w207 y4 := hS.trans (hb.mono hS.size)
              clear hb
              refine hK.out _ _ hS (fun _ => ?_)
              simp only [Act.put, List.setIfInBounds_toArray, List.set_cons_zero, List.set_cons_succ]
              clear hK K
              refine take_lawH 9 (some 131) (.bool true) rfl rfl (by kernel_rfl) (by kernel_rfl) (by kernel_rfl) (fun _ _ _ h => h) (Or.inl ⟨by rfl, fun w' hw' => by rfl⟩) hS ?_
              simp only [Act.put, List.setIfInBounds_toArray, List.set_cons_zero, List.set_cons_succ]
              refine take_lawH 10 (some 132) (.bool true) rfl rfl (by kernel_rfl) (by kernel_rfl) (by kernel_rfl) (fun _ _ _ h => h) (Or.inl ⟨by rfl, fun w' hw' => by rfl⟩) hS ?_
              simp only [Act.put, List.setIfInBounds_toArray, List.set_cons_zero, List.set_cons_succ]
              refine take_lawH 11 (some 133) (.int .i64 0) rfl rfl (by kernel_rfl) (by kernel_rfl) (by kernel_rfl) (fun _ _ _ h => h) (Or.inl ⟨by rfl, fun w' hw' => by rfl⟩) hS ?_
              simp only [Act.put, List.setIfInBounds_toArray, List.set_cons_zero, List.set_cons_succ]
              refine take_lawH 12 (some 134) (.bool true) rfl rfl (by kernel_rfl) (by kernel_rfl) (by kernel_rfl) (fun _ _ _ h => h) (Or.inl ⟨by rfl, fun w' hw' => by rfl⟩) hS ?_
              simp only [Act.put, List.setIfInBounds_toArray, List.set_cons_zero, List.set_cons_succ]
              refine take_lawH 13 (some 135) (.bool true) rfl rfl (by kernel_rfl) (by kernel_rfl) (by kernel_rfl) (fun _ _ _ h => h) (Or.inl ⟨by rfl, fun w' hw' => by rfl⟩) hS ?_
              simp only [Act.put, List.setIfInBounds_toArray, List.set_cons_zero, List.set_cons_succ]
              refine take_lawH 14 (some 136) (.bool true) rfl rfl (by kernel_rfl) (by kernel_rfl) (by kernel_rfl) (fun _ _ _ h => h) (Or.inl ⟨by rfl, fun w' hw' => by rfl⟩) hS ?_
              simp only [Act.put, List.setIfInBounds_toArray, List.set_cons_zero, List.set_cons_succ]
              refine take_lawH 15 (some 137) (.agg (rv g p a3 b c3 T3).toArray) rfl rfl (by kernel_rfl) (by kernel_rfl) (by kernel_rfl) (fun _ _ _ h => h) (Or.inl ⟨by rfl, fun w' hw' => by exact exec_loadN 28 (.tmp 13) rfl _ rfl _ _ (load_cells rowy_record (HY.out.below hw' (range_lt HY.out.1 (Nat.succ_pos _))).1)⟩) hS ?_
              simp only [Act.put, List.setIfInBounds_toArray, List.set_cons_zero, List.set_cons_succ]
              refine take_lawH 17 (some 139) (.agg (rv g p (.slice ao al.length ca) b (.slice co cl.length cc) S).toArray) rfl rfl (by kernel_rfl) (by kernel_rfl) (by kernel_rfl) (fun _ _ _ h => h) (Or.inl ⟨by rfl, fun w' hw' => by exact exec_loadN 28 (.tmp 2) rfl _ rfl _ _ (load_cells rowy_record (HBz.out.below hw' (range_lt HBz.out.1 (Nat.succ_pos _))).1)⟩) hS ?_
              simp only [Act.put, List.setIfInBounds_toArray, List.set_cons_zero, List.set_cons_succ]
              refine wpAnyH_ready (rs := [16]) (by kernel_rfl) (by simp) ?_
              refine AllReadyH.cons rfl (fun K hK => ?_) AllReadyH.nil
              refine he.step_callW _ (by rfl) (some 138) rfl 13 #[.tmp 137] #[28] rfl (fun q w' => by rfl) #[.agg (rv g p a3 b c3 T3).toArray] (by simp only [List.map_toArray, List.map_cons, List.map_nil]; rfl) (fun z9 w' => z9 = .agg (rv g p a3 b c3 T3).toArray ∧ Below y4.heap.size y4 w') ?_ ?_
              · exact (of_rb g p b _ _ al cl T3 y4 (RX.out.below hS)).mono fun e w' ⟨h1, h2⟩ => ⟨_, h1, rfl, h2⟩
              rintro _ y5 ⟨rfl, hb⟩
              have hS : Below w207.heap.size w207 y5 := hS.trans (hb.mono hS.size)
              clear hb
              refine hK.out _ _ hS (fun _ => ?_)
              simp only [Act.put, List.setIfInBounds_toArray, List.set_cons_zero, List.set_cons_succ]
              clear hK K
              refine wpAnyH_ready (rs := [18]) (by kernel_rfl) (by simp) ?_
              refine AllReadyH.cons rfl (fun K hK => ?_) AllReadyH.nil
              refine he.step_callW _ (by rfl) (some 140) rfl 13 #[.tmp 139] #[28] rfl (fun q w' => by rfl) #[.agg (rv g p (.slice ao al.length ca) b (.slice co cl.length cc) S).toArray] (by simp only [List.map_toArray, List.map_cons, List.map_nil]; rfl) (fun z9 w' => z9 = .agg (rv g p (.slice ao al.length ca) b (.slice co cl.length cc) S).toArray ∧ Below y5.heap.size y5 w') ?_ ?_
              · exact (of_rb g p b _ _ al cl S y5 (RI.out.below (BT.out.trans ((BB.out.trans (hS.mono BB.out.size)).mono BT.out.size))).rb).mono fun e w' ⟨h1, h2⟩ => ⟨_, h1, rfl, h2⟩
              rintro _ y6 ⟨rfl, hb⟩
              have hS : Below w207.heap.size w207 y6 := hS.trans (hb.mono hS.size)
              clear hb
              refine hK.out _ _ hS (fun _ => ?_)
              simp only [Act.put, List.setIfInBounds_toArray, List.set_cons_zero, List.set_cons_succ]
              clear hK K
              refine wpAnyH_ready (rs := [19]) (by kernel_rfl) (by simp) ?_
              refine AllReadyH.cons rfl (fun K hK => ?_) AllReadyH.nil
              refine he.step_callW _ (by rfl) (some 141) rfl 14 #[.tmp 138, .tmp 140] #[39, 39] rfl (fun q w' => by rfl) #[.agg (rv g p a3 b c3 T3).toArray, .agg (rv g p (.slice ao al.length ca) b (.slice co cl.length cc) S).toArray] (by simp only [List.map_toArray, List.map_cons, List.map_nil]; rfl) (fun z9 w' => z9 = .bool true ∧ Below y6.heap.size y6 w') ?_ ?_
              · exact (rsame_rb g p b _ _ _ _ al cl T3 S y6 (RX.out.below hS) (RI.out.below (BT.out.trans ((BB.out.trans (hS.mono BB.out.size)).mono BT.out.size))).rb DT3.out).mono fun e w' ⟨h1, h2⟩ => ⟨_, h1, rfl, h2⟩
              rintro _ y7 ⟨rfl, hb⟩
              have hS : Below w207.heap.size w207 y7 := hS.trans (hb.mono hS.size)
              clear hb
              refine hK.out _ _ hS (fun _ => ?_)
              simp only [Act.put, List.setIfInBounds_toArray, List.set_cons_zero, List.set_cons_succ]
              clear hK K
              refine take_lawH 20 (some 142) (.bool true) rfl rfl (by kernel_rfl) (by kernel_rfl) (by kernel_rfl) (fun _ _ _ h => h) (Or.inl ⟨by rfl, fun w' hw' => by rfl⟩) hS ?_
              simp only [Act.put, List.setIfInBounds_toArray, List.set_cons_zero, List.set_cons_succ]
              refine take_lawH 21 (some 143) (.bool true) rfl rfl (by kernel_rfl) (by kernel_rfl) (by kernel_rfl) (fun _ _ _ h => h) (Or.inl ⟨by rfl, fun w' hw' => by rfl⟩) hS ?_
              simp only [Act.put, List.setIfInBounds_toArray, List.set_cons_zero, List.set_cons_succ]
              refine take_lawH 22 (some 144) (.slice bo 624 bc) rfl rfl (by kernel_rfl) (by kernel_rfl) (by kernel_rfl) (fun _ _ _ h => h) (Or.inl ⟨by rfl, fun w' hw' => by rfl⟩) hS ?_
              simp only [Act.put, List.setIfInBounds_toArray, List.set_cons_zero, List.set_cons_succ]
              refine take_lawH 23 (some 145) (.slice kx 32 ky) rfl rfl (by kernel_rfl) (by kernel_rfl) (by kernel_rfl) (fun _ _ _ h => h) (Or.inl ⟨by rfl, fun w' hw' => by rfl⟩) hS ?_
              simp only [Act.put, List.setIfInBounds_toArray, List.set_cons_zero, List.set_cons_succ]
              refine wpAnyH_ready (rs := [24]) (by kernel_rfl) (by simp) ?_
              refine AllReadyH.cons rfl (fun K hK => ?_) AllReadyH.nil
              refine he.step_callW _ (by rfl) (some 146) rfl 20 #[.tmp 144, .tmp 145] #[23, 23] rfl (fun q w' => by rfl) #[.slice bo 624 bc, .slice kx 32 ky] (by simp only [List.map_toArray, List.map_cons, List.map_nil]; rfl) (fun z9 w' => z9 = .bool true ∧ Below y7.heap.size y7 w') ?_ ?_
              · exact (SF.out y7 _ (BT.out.trans ((BB.out.trans (hS.mono BB.out.size)).mono BT.out.size)) (HXk.out.below (BB.out.trans (hS.mono BB.out.size)))).mono fun e w' ⟨h1, h2⟩ => ⟨_, h1, rfl, h2⟩
              rintro _ y8 ⟨rfl, hb⟩
              have hS : Below w207.heap.size w207 y8 := hS.trans (hb.mono hS.size)
              clear hb
              refine hK.out _ _ hS (fun _ => ?_)
              simp only [Act.put, List.setIfInBounds_toArray, List.set_cons_zero, List.set_cons_succ]
              clear hK K
              refine take_lawH 25 (some 147) (.bool true) rfl rfl (by kernel_rfl) (by kernel_rfl) (by kernel_rfl) (fun _ _ _ h => h) (Or.inl ⟨by rfl, fun w' hw' => by rfl⟩) hS ?_
              simp only [Act.put, List.setIfInBounds_toArray, List.set_cons_zero, List.set_cons_succ]
              refine take_lawH 26 (some 148) (.bool true) rfl rfl (by kernel_rfl) (by kernel_rfl) (by kernel_rfl) (fun _ _ _ h => h) (Or.inl ⟨by rfl, fun w' hw' => by rfl⟩) hS ?_
              simp only [Act.put, List.setIfInBounds_toArray, List.set_cons_zero, List.set_cons_succ]
              refine wpAnyH_ready (rs := [27]) (by kernel_rfl) (by simp) ?_
              refine AllReadyH.cons rfl (fun K hK => ?_) AllReadyH.nil
              refine he.step_callW _ (by rfl) (some 149) rfl 8 #[] #[] rfl (fun q w' => by rfl) #[] (by simp only [List.map_toArray, List.map_nil]) (fun z9 w' => z9 = .bool true ∧ Below y8.heap.size y8 w') ?_ ?_
              · exact (SW.out y8 (BT.out.trans ((BB.out.trans (hS.mono BB.out.size)).mono BT.out.size))).mono fun e w' ⟨h1, h2⟩ => ⟨_, h1, rfl, h2⟩
              rintro _ y9 ⟨rfl, hb⟩
              have hS : Below w207.heap.size w207 y9 := hS.trans (hb.mono hS.size)
              clear hb
              refine hK.out _ _ hS (fun _ => ?_)
              simp only [Act.put, List.setIfInBounds_toArray, List.set_cons_zero, List.set_cons_succ]
              clear hK K
              refine take_lawH 28 (some 150) (.bool true) rfl rfl (by kernel_rfl) (by kernel_rfl) (by kernel_rfl) (fun _ _ _ h => h) (Or.inl ⟨by rfl, fun w' hw' => by rfl⟩) hS ?_
              simp only [Act.put, List.setIfInBounds_toArray, List.set_cons_zero, List.set_cons_succ]
              refine take_lawH 29 (some 4) (.bool true) rfl rfl (by kernel_rfl) (by kernel_rfl) (by kernel_rfl) (fun _ _ _ h => h) (Or.inl ⟨by rfl, fun w' hw' => by rfl⟩) hS ?_
              simp only [Act.put, List.setIfInBounds_toArray, List.set_cons_zero, List.set_cons_succ]
              refine wpAnyH_done (by kernel_rfl) ?_ _
              have BZ : Hid (Below w.heap.size w _) := (BT.out.trans ((BB.out.trans (hS.mono BB.out.size)).mono BT.out.size))
              clear hS
              go_wp2
              go_ret
              exact ⟨rfl, BZ.out⟩

set_option maxHeartbeats 16000000 in
theorem walk_bad (g p b : Int) (a c : Value) (al cl : List Int) (S : Nat → Sc) (kv : Value) (ks : List Int) (w : World) (hR : Rin w g p b a c al cl S) (h1 : al.length ≤ 140737488355328) (h2 : cl.length ≤ 140737488355328) (h3 : ∀ k, k < 4 → (S k).xs.length ≤ 140737488355328) (hk : Byt w kv ks) (hT : Tbl w ∧ Tb2 w) (hl : lns al cl S 4 ≤ 2000) (hr : ¬ Rok al cl S) :
    Calls Tryd.prog 3 #[.agg (rv g p a b c S).toArray, kv] w fun x w' => x = .returned (.bool true) ∧ Below w.heap.size w w' := by
  have SW : Hid (∀ w0, Below w.heap.size w w0 → Calls Tryd.prog 8 #[] w0 fun x w' => x = .returned (.bool true) ∧ Below w0.heap.size w0 w') := fun w0 q => re.awake_any w0 (hT.1.below q hT.1.lt)
  have SL : Hid (∀ w0, Below w.heap.size w w0 → Calls Tryd.prog 7 #[.agg (rv g p a b c S).toArray] w0 fun x w' => x = .returned (.bool true) ∧ Below w0.heap.size w0 w') := fun w0 q => re.light_any g p b a c al cl S w0 (hR.below q) h1 h2 h3 true (decide_eq_true hl)
  have RI : Hid (Rin w g p b a c al cl S) := hR
  have LA : Hid (al.length ≤ 2000) := (lns_four al cl S hl).1
  have LS : Hid (∀ k, k < 4 → (S k).xs.length ≤ 2000) := (lns_four al cl S hl).2.2
  have SC : Hid (∀ w0 a c T, Rin w0 g p b a c al cl T → (∀ k, k < 4 → (T k).d = (S k).d) → Calls Tryd.prog 10 #[.agg (rv g p a b c T).toArray] w0 fun x w' => ∃ so sc ko kc T', x = .returned (.agg (rv g p (.slice so al.length sc) b (.slice ko cl.length kc) T').toArray) ∧ Cb w0.heap.size w' (.slice so al.length sc) (.slice ko cl.length kc) al cl T' ∧ (∀ k, k < 4 → (T' k).d = (S k).d) ∧ Below w0.heap.size w0 w') := fun w0 a c T h1 h2 => copy_cb w0 h1 h2 hl
  have SR : Hid (∀ w0, Rin w0 g p b a c al cl S → Calls Tryd.prog 11 #[.agg (rv g p a b c S).toArray] w0 fun x w' => x = .returned (.bool false) ∧ Below w0.heap.size w0 w') := fun w0 q => re.right_any g p b a c al cl S w0 q false ⟨fun z => absurd z hr, fun z => by cases z⟩
  have SG : Hid (∀ w0, Rin w0 g p b a c al cl S → Calls Tryd.prog 12 #[.agg (rv g p a b c S).toArray] w0 fun x w' => x = .returned (.bool false) ∧ Below w0.heap.size w0 w') := fun w0 q => re.rright_any g p b a c al cl S w0 q false ⟨fun z => absurd z hr, fun z => by cases z⟩
  have SZ : Hid (∀ w0, Rin w0 g p b a c al cl S → Calls Tryd.prog 16 #[.agg (rv g p a b c S).toArray] w0 fun x w' => ∃ r, x = .returned r ∧ Nums w' r (szs S 4) ∧ Below w0.heap.size w0 w') := fun w0 q => re.sizes_any g p b a c al cl S w0 q
  have SB : Hid (∀ w0, Below w.heap.size w w0 → Calls Tryd.prog 9 #[.agg (rv g p a b c S).toArray, kv] w0 fun x w' => x = .returned (.tuple #[.slice none 0 0, .int .i64 2]) ∧ Below w0.heap.size w0 w') := fun w0 q => re.bytes_bad g p b a c al cl S kv ks w0 (hR.below q) (hk.below q) hr
  obtain ⟨ao, ca, rfl⟩ := form hR.2.1
  obtain ⟨co, cc, rfl⟩ := form hR.2.2.1
  obtain ⟨kx, ky, rfl⟩ := form hk
  clear hR h1 h2 h3 hk hT hl hr
  have t0 : (0 : Nat) = 0 := rfl
  go_enter Tryd.func3, Tryd.ntmps3
  go_wp2_with (first
    | (have q12 := t12; (with_reducible refine at_store ?_); refine store_lawC _ (rv g p (.slice so2 al.length sc2) b (.slice ko2 cl.length kc2) T2) w7.heap.size 0 rfl rfl HD.out.2 rowy_record.2 (rv_one (slc_sl _ _ _) (slc_sl _ _ _) SLT2.out) ?_; intro w9 E9 R9 T9 B9; have K9 : ∀ k, k ≠ w7.heap.size → w9.heap[k]? = w8.heap[k]? := (by rw [E9.out]; exact fun k hk => heap_cells _ _ _ _ k hk); have NB_HC : Hid (NoB w9 w4.heap.size) := NB_HC.out.heap (K9 _ (Nat.ne_of_lt LT_HC_HD.out)); have HC : Hid (Vr w9 w4.heap.size (rv g p (.slice so1 al.length sc1) b (.slice ko1 cl.length kc1) T)) := HC.out.heap (K9 _ (Nat.ne_of_lt LT_HC_HD.out)); have CB : Hid (Cb w3.heap.size w9 (.slice so1 al.length sc1) (.slice ko1 cl.length kc1) al cl T) := cb_nob CB.out NB_HD.out K9; have CD : Hid (Cb w4.heap.size w9 (.slice so2 al.length sc2) (.slice ko2 cl.length kc2) al cl T2) := cb_nob CD.out NB_HD.out K9; have NB_HD : Hid (NoB w9 w7.heap.size) := (by rw [E9.out]; exact NB_HD.out.set HD.out rfl (rv_nob (slc_sl _ _ _) (slc_sl _ _ _) SLT2.out)); have HD : Hid (Vr w9 w7.heap.size (rv g p (.slice so2 al.length sc2) b (.slice ko2 cl.length kc2) T2)) := ⟨R9, T9⟩; have BB : Hid (Below w3.heap.size w3 w9) := BB.out.trans (B9.mono LE_HD.out); clear E9 R9 T9 B9 K9; clear t12; have t13 : (1 : Nat) = 1 := rfl)
    | (have q11 := t11; (with_reducible refine at_alloc ?_); refine new_lawN _ rv0 zero_record rv0_nob ?_; intro w8 X9 N9 B9; have LT_HC_HD : Hid (w4.heap.size < w7.heap.size) := range_lt HC.out.1 (Nat.succ_pos _); have LE_HD : Hid (w3.heap.size ≤ w7.heap.size) := BB.out.size; have CB : Hid (Cb w3.heap.size w8 (.slice so1 al.length sc1) (.slice ko1 cl.length kc1) al cl T) := CB.out.below B9; have NB_HC : Hid (NoB w8 w4.heap.size) := NB_HC.out.heap (B9.block _ (range_lt HC.out.1 (Nat.succ_pos _))); have HC : Hid (Vr w8 w4.heap.size (rv g p (.slice so1 al.length sc1) b (.slice ko1 cl.length kc1) T)) := HC.out.below B9 (range_lt HC.out.1 (Nat.succ_pos _)); have CD : Hid (Cb w4.heap.size w8 (.slice so2 al.length sc2) (.slice ko2 cl.length kc2) al cl T2) := CD.out.below B9; have HD : Hid (Vr w8 w7.heap.size rv0) := X9; have NB_HD : Hid (NoB w8 w7.heap.size) := N9; have BB : Hid (Below w3.heap.size w3 w8) := BB.out.trans (B9.mono BB.out.size); clear X9 N9 B9; clear t11; have t12 : (1 : Nat) = 1 := rfl)
    | (have q10 := t10; go_at_call 10; refine (SC.out w6 _ _ T (rin_cb RI.out CB.out DT.out) DT.out).mono ?_; rintro e9 w7 ⟨so2, sc2, ko2, kc2, T2, rfl, cb8, dt8, B9⟩; have CB : Hid (Cb w3.heap.size w7 (.slice so1 al.length sc1) (.slice ko1 cl.length kc1) al cl T) := CB.out.below B9; have NB_HC : Hid (NoB w7 w4.heap.size) := NB_HC.out.heap (B9.block _ (range_lt HC.out.1 (Nat.succ_pos _))); have HC : Hid (Vr w7 w4.heap.size (rv g p (.slice so1 al.length sc1) b (.slice ko1 cl.length kc1) T)) := HC.out.below B9 (range_lt HC.out.1 (Nat.succ_pos _)); have CD : Hid (Cb w4.heap.size w7 (.slice so2 al.length sc2) (.slice ko2 cl.length kc2) al cl T2) := cb8.mono (Nat.le_of_lt L5.out); have DT2 : Hid (∀ k, k < 4 → (T2 k).d = (S k).d) := dt8; have SLT2 : Hid (∀ k, k < 4 → Slc (T2 k).v) := fun k hk => slc_byt (cb8.2.2 k hk).1; have BB : Hid (Below w3.heap.size w3 w7) := BB.out.trans (B9.mono BB.out.size); clear B9 cb8 dt8; clear t10; have t11 : (1 : Nat) = 1 := rfl)
    | (have q9 := t9; refine load_lawC _ rfl (rv g p (.slice so1 al.length sc1) b (.slice ko1 cl.length kc1) T) w4.heap.size 0 rfl HC.out.1 rowy_record ?_; clear t9; have t10 : (1 : Nat) = 1 := rfl)
    | (have q8 := t8; (with_reducible refine at_store ?_); refine store_lawC _ (rv g p (.slice so1 al.length sc1) b (.slice ko1 cl.length kc1) T) w4.heap.size 0 rfl rfl HC.out.2 rowy_record.2 (rv_one (slc_sl _ _ _) (slc_sl _ _ _) SLT.out) ?_; intro w6 E9 R9 T9 B9; have K9 : ∀ k, k ≠ w4.heap.size → w6.heap[k]? = w5.heap[k]? := (by rw [E9.out]; exact fun k hk => heap_cells _ _ _ _ k hk); have CB : Hid (Cb w3.heap.size w6 (.slice so1 al.length sc1) (.slice ko1 cl.length kc1) al cl T) := cb_nob CB.out NB_HC.out K9; have NB_HC : Hid (NoB w6 w4.heap.size) := (by rw [E9.out]; exact NB_HC.out.set HC.out rfl (rv_nob (slc_sl _ _ _) (slc_sl _ _ _) SLT.out)); have HC : Hid (Vr w6 w4.heap.size (rv g p (.slice so1 al.length sc1) b (.slice ko1 cl.length kc1) T)) := ⟨R9, T9⟩; have BB : Hid (Below w3.heap.size w3 w6) := BB.out.trans (B9.mono LE_HC.out); have L5 : Hid (w4.heap.size < w6.heap.size) := range_lt HC.out.1 (Nat.succ_pos _); clear E9 R9 T9 B9 K9; clear t8; have t9 : (1 : Nat) = 1 := rfl)
    | (have q7 := t7; (with_reducible refine at_alloc ?_); refine new_lawN _ rv0 zero_record rv0_nob ?_; intro w5 X9 N9 B9; have LE_HC : Hid (w3.heap.size ≤ w4.heap.size) := BB.out.size; have CB : Hid (Cb w3.heap.size w5 (.slice so1 al.length sc1) (.slice ko1 cl.length kc1) al cl T) := CB.out.below B9; have HC : Hid (Vr w5 w4.heap.size rv0) := X9; have NB_HC : Hid (NoB w5 w4.heap.size) := N9; have BB : Hid (Below w3.heap.size w3 w5) := BB.out.trans (B9.mono BB.out.size); clear X9 N9 B9; clear t7; have t8 : (1 : Nat) = 1 := rfl)
    | (have q6 := t6; go_at_call 10; refine (SC.out w3 _ _ S (RI.out.below BW.out) (fun _ _ => rfl)).mono ?_; rintro e9 w4 ⟨so1, sc1, ko1, kc1, T, rfl, cb8, dt8, B9⟩; have CB : Hid (Cb w3.heap.size w4 (.slice so1 al.length sc1) (.slice ko1 cl.length kc1) al cl T) := cb8; have DT : Hid (∀ k, k < 4 → (T k).d = (S k).d) := dt8; have SLT : Hid (∀ k, k < 4 → Slc (T k).v) := fun k hk => slc_byt (cb8.2.2 k hk).1; have P1 : Hid (0 < al.length → ∃ b off, so1 = some ⟨b, off, none⟩ ∧ w3.heap.size ≤ b ∧ b < w4.heap.size) := bow_at cb8.1; obtain ⟨to9, tc9, e9t⟩ := form (cb8.2.2 0 (by omega)).1; have E9t : Hid ((T 0).v = .slice to9 (T 0).xs.length tc9) := e9t; have P2 : Hid (0 < (T 0).xs.length → ∃ b off, to9 = some ⟨b, off, none⟩ ∧ w3.heap.size ≤ b ∧ b < w4.heap.size) := bow_at (n := (T 0).xs.length) (cc := tc9) (by rw [← e9t]; exact cb8.2.2 0 (by omega)); have BB : Hid (Below w3.heap.size w3 w4) := B9; clear B9 cb8 dt8 e9t; clear t6; have t7 : (1 : Nat) = 1 := rfl)
    | (have q5 := t5; refine load_lawC _ rfl (rv g p (.slice ao al.length ca) b (.slice co cl.length cc) S) w.heap.size 0 rfl HB0.out.1 rowy_record ?_; clear t5; have t6 : (1 : Nat) = 1 := rfl)
    | (have q4 := t4; go_at_call 9; refine (SB.out w2 BB.out).mono ?_; rintro e9 w3 ⟨rfl, B9⟩; have HB0 : Hid (Vr w3 w.heap.size (rv g p (.slice ao al.length ca) b (.slice co cl.length cc) S)) := HB0.out.below B9 (range_lt HB0.out.1 (Nat.succ_pos _)); have BB : Hid (Below w.heap.size w w3) := BB.out.trans (B9.mono BB.out.size); have BW := BB; clear BB; have L0 : Hid (w.heap.size < w3.heap.size) := range_lt HB0.out.1 (Nat.succ_pos _); clear B9; clear t4; have t5 : (1 : Nat) = 1 := rfl)
    | (have q3 := t3; refine load_lawC _ rfl (rv g p (.slice ao al.length ca) b (.slice co cl.length cc) S) w.heap.size 0 rfl HB0.out.1 rowy_record ?_; clear t3; have t4 : (1 : Nat) = 1 := rfl)
    | (have q2 := t2; go_at_call 7; refine (SL.out w1 BB.out).mono ?_; rintro e9 w2 ⟨rfl, B9⟩; have HB0 : Hid (Vr w2 w.heap.size (rv g p (.slice ao al.length ca) b (.slice co cl.length cc) S)) := HB0.out.below B9 (range_lt HB0.out.1 (Nat.succ_pos _)); have BB : Hid (Below w.heap.size w w2) := BB.out.trans (B9.mono BB.out.size); clear B9; clear t2; have t3 : (1 : Nat) = 1 := rfl)
    | (have q1 := t1; refine load_lawC _ rfl (rv g p (.slice ao al.length ca) b (.slice co cl.length cc) S) w.heap.size 0 rfl HB0.out.1 rowy_record ?_; clear t1; have t2 : (1 : Nat) = 1 := rfl)
    | (have q0 := t0; refine box_lawC _ (rv g p (.slice ao al.length ca) b (.slice co cl.length cc) S) rfl ?_; intro w1 X9 B9 l9; have HB0 : Hid (Vr w1 w.heap.size (rv g p (.slice ao al.length ca) b (.slice co cl.length cc) S)) := X9; have BB : Hid (Below w.heap.size w w1) := B9; clear X9 B9 l9; clear t0; have t1 : (1 : Nat) = 1 := rfl))
  have LT0 : Hid ((T 0).xs.length ≤ 2000) := (by show _ ≤ _; rw [(d_eq (DT.out 0 (by omega))).2.2.2.2]; exact LS.out 0 (by omega))
  go_loopw [9] (fun i wr => ∃ k : Nat, k ≤ al.length ∧ i = .int .i64 k ∧ Wr w3.heap.size w4.heap.size w9 wr) (fun i _ => al.length - (intOf i).toNat)
  case atStart => exact ⟨0, Nat.zero_le _, rfl, Wr.refl _ _ _⟩
  case round =>
    skip
    obtain ⟨k, hk, rfl, hW⟩ := hrel
    have HW : Hid (Wr w3.heap.size w4.heap.size w9 wr) := hW
    have HCw : Hid (Vr wr w4.heap.size (rv g p (.slice so1 al.length sc1) b (.slice ko1 cl.length kc1) T)) := HC.out.heap (hW.2.1 _ (Nat.le_refl _))
    have hcc : wr.cell? ⟨w4.heap.size, 2, none⟩ = some (.slice so1 al.length sc1) := HCw.out.cell 2 _ rfl
    clear hW
    by_cases hlt : k < al.length
    · obtain ⟨b', off, y, hco, hcell, hfr⟩ := HW.out.byte (CB.out.1) k hlt
      obtain ⟨b'', off', hco', hB, hH⟩ := P1.out (by omega)
      rw [hco] at hco' hcc
      obtain ⟨rfl, rfl⟩ : b' = b'' ∧ off = off' := by injection hco' with q; injection q with q1 q2; exact ⟨q1, q2⟩
      clear hco' hco
      have lk : (k : Int) < (al.length : Int) := by omega
      have HBb : Hid (w3.heap.size ≤ b') := hB
      have HHb : Hid (b' < w4.heap.size) := hH
      have HE : Hid (wr.cell? ⟨b', off + k, none⟩ = some (.int .u8 y)) := hcell
      have XL : Hid (al.length ≤ 2000) := LA.out
      have wk : IntKind.i64.wrap ((k : Int) + 1) = (k : Int) + 1 := by have := XL.out; rw [IntKind.wrap_i64]; omega
      clear hB hH
      go_wp2
      go_roundw
      case rel => exact ⟨k + 1, by omega, by go_num, HW.out.set HE.out HBb.out HHb.out _⟩
      case measure => simp [intOf]; omega
    · have hk' : k = al.length := by omega
      subst hk'
      clear HCw
      go_wp2
      clear hcc
      go_loopw [10] (fun i wr => ∃ k : Nat, k ≤ (T 0).xs.length ∧ i = .int .i64 k ∧ Wr w3.heap.size w4.heap.size w9 wr) (fun i _ => (T 0).xs.length - (intOf i).toNat)
      case atStart => exact ⟨0, Nat.zero_le _, rfl, HW.out⟩
      case round =>
        clear HW
        obtain ⟨k, hk, rfl, hW⟩ := hrel
        have HW : Hid (Wr w3.heap.size w4.heap.size w9 wr) := hW
        have HCw : Hid (Vr wr w4.heap.size (rv g p (.slice so1 al.length sc1) b (.slice ko1 cl.length kc1) T)) := HC.out.heap (hW.2.1 _ (Nat.le_refl _))
        have hcc : wr.cell? ⟨w4.heap.size, 9, none⟩ = some (.slice to9 (T 0).xs.length tc9) := (by rw [← E9t.out]; exact HCw.out.cell 9 _ rfl)
        clear hW
        by_cases hlt : k < (T 0).xs.length
        · obtain ⟨b', off, y, hco, hcell, hfr⟩ := HW.out.byte (co := to9) (n := (T 0).xs.length) (cc := tc9) (by rw [← E9t.out]; exact CB.out.2.2 0 (by omega)) k hlt
          obtain ⟨b'', off', hco', hB, hH⟩ := P2.out (by omega)
          rw [hco] at hco' hcc
          obtain ⟨rfl, rfl⟩ : b' = b'' ∧ off = off' := by injection hco' with q; injection q with q1 q2; exact ⟨q1, q2⟩
          clear hco' hco
          have lk : (k : Int) < ((T 0).xs.length : Int) := by omega
          have HBb : Hid (w3.heap.size ≤ b') := hB
          have HHb : Hid (b' < w4.heap.size) := hH
          have HE : Hid (wr.cell? ⟨b', off + k, none⟩ = some (.int .u8 y)) := hcell
          have XL : Hid ((T 0).xs.length ≤ 2000) := LT0.out
          have wk : IntKind.i64.wrap ((k : Int) + 1) = (k : Int) + 1 := by have := XL.out; rw [IntKind.wrap_i64]; omega
          clear hB hH
          go_wp2
          go_roundw
          case rel => exact ⟨k + 1, by omega, by go_num, HW.out.set HE.out HBb.out HHb.out _⟩
          case measure => simp [intOf]; omega
        · have hk' : k = (T 0).xs.length := by omega
          subst hk'
          clear HCw
          go_wp2
          have BB2 : Hid (Below w3.heap.size w3 wr) := BB.out.trans HW.out.1
          have HBr : Hid (Vr wr w.heap.size (rv g p (.slice ao al.length ca) b (.slice co cl.length cc) S)) := HB0.out.below BB2.out L0.out
          have HDr : Hid (Vr wr w7.heap.size (rv g p (.slice so2 al.length sc2) b (.slice ko2 cl.length kc2) T2)) := HD.out.heap (HW.out.2.1 _ (Nat.le_of_lt LT_HC_HD.out))
          have RDb : Hid (Rb wr (.slice so2 al.length sc2) (.slice ko2 cl.length kc2) al cl T2) := ⟨HW.out.bow CD.out.1, HW.out.bow CD.out.2.1, fun k hk => HW.out.bow (CD.out.2.2 k hk)⟩
          have BT : Hid (Below w.heap.size w wr) := BW.out.trans (BB2.out.mono BW.out.size)
          have RIr : Hid (Rin wr g p b (.slice ao al.length ca) (.slice co cl.length cc) al cl S) := RI.out.below BT.out
          clear HW HC HD NB_HC NB_HD CB CD BB BB2 HB0 P1 P2 E9t hcc
          refine wp_region_held_drew (S := fun w' => Below wr.heap.size wr w') (by kernel_rfl) (Below.refl _ _).drew (fun hS => ?_)
          obtain ⟨x1, hx0⟩ : ∃ x, x = wr.drew := ⟨_, rfl⟩
          rw [← hx0] at hS  ⊢
          clear hx0
          refine take_lawH 0 (some 61) (.agg (rv g p (.slice ao al.length ca) b (.slice co cl.length cc) S).toArray) rfl rfl (by kernel_rfl) (by kernel_rfl) (by kernel_rfl) (fun _ _ _ h => h) (Or.inl ⟨by rfl, fun w' hw' => by exact exec_loadN 28 (.tmp 2) rfl _ rfl _ _ (load_cells rowy_record (HBr.out.below hw' (range_lt HBr.out.1 (Nat.succ_pos _))).1)⟩) hS ?_
          simp only [Act.put, List.setIfInBounds_toArray, List.set_cons_zero, List.set_cons_succ]
          refine take_lawH 2 (some 63) (.agg (rv g p (.slice ao al.length ca) b (.slice co cl.length cc) S).toArray) rfl rfl (by kernel_rfl) (by kernel_rfl) (by kernel_rfl) (fun _ _ _ h => h) (Or.inl ⟨by rfl, fun w' hw' => by exact exec_loadN 28 (.tmp 2) rfl _ rfl _ _ (load_cells rowy_record (HBr.out.below hw' (range_lt HBr.out.1 (Nat.succ_pos _))).1)⟩) hS ?_
          simp only [Act.put, List.setIfInBounds_toArray, List.set_cons_zero, List.set_cons_succ]
          refine wpAnyH_ready (rs := [1]) (by kernel_rfl) (by simp) ?_
          refine AllReadyH.cons rfl (fun K hK => ?_) AllReadyH.nil
          refine he.step_callW _ (by rfl) (some 62) rfl 11 #[.tmp 61] #[28] rfl (fun q w' => by rfl) #[.agg (rv g p (.slice ao al.length ca) b (.slice co cl.length cc) S).toArray] (by simp only [List.map_toArray, List.map_cons, List.map_nil]; rfl) (fun z9 w' => z9 = .bool false ∧ Below x1.heap.size x1 w') ?_ ?_
          · exact (SR.out x1 (RIr.out.below hS)).mono fun e w' ⟨h1, h2⟩ => ⟨_, h1, rfl, h2⟩
          rintro _ x2 ⟨rfl, hb⟩
          have hS : Below wr.heap.size wr x2 := hS.trans (hb.mono hS.size)
          clear hb
          refine hK.out _ _ hS (fun _ => ?_)
          simp only [Act.put, List.setIfInBounds_toArray, List.set_cons_zero, List.set_cons_succ]
          clear hK K
          refine wpAnyH_ready (rs := [3]) (by kernel_rfl) (by simp) ?_
          refine AllReadyH.cons rfl (fun K hK => ?_) AllReadyH.nil
          refine he.step_callW _ (by rfl) (some 64) rfl 13 #[.tmp 63] #[28] rfl (fun q w' => by rfl) #[.agg (rv g p (.slice ao al.length ca) b (.slice co cl.length cc) S).toArray] (by simp only [List.map_toArray, List.map_cons, List.map_nil]; rfl) (fun z9 w' => z9 = .agg (rv g p (.slice ao al.length ca) b (.slice co cl.length cc) S).toArray ∧ Below x2.heap.size x2 w') ?_ ?_
          · exact (of_rb g p b _ _ al cl S x2 (RIr.out.below hS).rb).mono fun e w' ⟨h1, h2⟩ => ⟨_, h1, rfl, h2⟩
          rintro _ x3 ⟨rfl, hb⟩
          have hS : Below wr.heap.size wr x3 := hS.trans (hb.mono hS.size)
          clear hb
          refine hK.out _ _ hS (fun _ => ?_)
          simp only [Act.put, List.setIfInBounds_toArray, List.set_cons_zero, List.set_cons_succ]
          clear hK K
          refine wpAnyH_ready (rs := [4]) (by kernel_rfl) (by simp) ?_
          refine AllReadyH.cons rfl (fun K hK => ?_) AllReadyH.nil
          refine he.step_callW _ (by rfl) (some 65) rfl 12 #[.tmp 64] #[39] rfl (fun q w' => by rfl) #[.agg (rv g p (.slice ao al.length ca) b (.slice co cl.length cc) S).toArray] (by simp only [List.map_toArray, List.map_cons, List.map_nil]; rfl) (fun z9 w' => z9 = .bool false ∧ Below x3.heap.size x3 w') ?_ ?_
          · exact (SG.out x3 (RIr.out.below hS)).mono fun e w' ⟨h1, h2⟩ => ⟨_, h1, rfl, h2⟩
          rintro _ x4 ⟨rfl, hb⟩
          have hS : Below wr.heap.size wr x4 := hS.trans (hb.mono hS.size)
          clear hb
          refine hK.out _ _ hS (fun _ => ?_)
          simp only [Act.put, List.setIfInBounds_toArray, List.set_cons_zero, List.set_cons_succ]
          clear hK K
          refine take_lawH 5 (some 66) (.bool false) rfl rfl (by kernel_rfl) (by kernel_rfl) (by kernel_rfl) (fun _ _ _ h => h) (Or.inl ⟨by rfl, fun w' hw' => by rfl⟩) hS ?_
          simp only [Act.put, List.setIfInBounds_toArray, List.set_cons_zero, List.set_cons_succ]
          refine take_lawH 6 (some 67) (.bool false) rfl rfl (by kernel_rfl) (by kernel_rfl) (by kernel_rfl) (fun _ _ _ h => h) (Or.inl ⟨by rfl, fun w' hw' => by rfl⟩) hS ?_
          simp only [Act.put, List.setIfInBounds_toArray, List.set_cons_zero, List.set_cons_succ]
          refine take_lawH 7 (some 68) (.agg (rv g p (.slice so2 al.length sc2) b (.slice ko2 cl.length kc2) T2).toArray) rfl rfl (by kernel_rfl) (by kernel_rfl) (by kernel_rfl) (fun _ _ _ h => h) (Or.inl ⟨by rfl, fun w' hw' => by exact exec_loadN 28 (.tmp 8) rfl _ rfl _ _ (load_cells rowy_record (HDr.out.below hw' (range_lt HDr.out.1 (Nat.succ_pos _))).1)⟩) hS ?_
          simp only [Act.put, List.setIfInBounds_toArray, List.set_cons_zero, List.set_cons_succ]
          refine take_lawH 9 (some 70) (.agg (rv g p (.slice ao al.length ca) b (.slice co cl.length cc) S).toArray) rfl rfl (by kernel_rfl) (by kernel_rfl) (by kernel_rfl) (fun _ _ _ h => h) (Or.inl ⟨by rfl, fun w' hw' => by exact exec_loadN 28 (.tmp 2) rfl _ rfl _ _ (load_cells rowy_record (HBr.out.below hw' (range_lt HBr.out.1 (Nat.succ_pos _))).1)⟩) hS ?_
          simp only [Act.put, List.setIfInBounds_toArray, List.set_cons_zero, List.set_cons_succ]
          refine wpAnyH_ready (rs := [8]) (by kernel_rfl) (by simp) ?_
          refine AllReadyH.cons rfl (fun K hK => ?_) AllReadyH.nil
          refine he.step_callW _ (by rfl) (some 69) rfl 13 #[.tmp 68] #[28] rfl (fun q w' => by rfl) #[.agg (rv g p (.slice so2 al.length sc2) b (.slice ko2 cl.length kc2) T2).toArray] (by simp only [List.map_toArray, List.map_cons, List.map_nil]; rfl) (fun z9 w' => z9 = .agg (rv g p (.slice so2 al.length sc2) b (.slice ko2 cl.length kc2) T2).toArray ∧ Below x4.heap.size x4 w') ?_ ?_
          · exact (of_rb g p b _ _ al cl T2 x4 (RDb.out.below hS)).mono fun e w' ⟨h1, h2⟩ => ⟨_, h1, rfl, h2⟩
          rintro _ x5 ⟨rfl, hb⟩
          have hS : Below wr.heap.size wr x5 := hS.trans (hb.mono hS.size)
          clear hb
          refine hK.out _ _ hS (fun _ => ?_)
          simp only [Act.put, List.setIfInBounds_toArray, List.set_cons_zero, List.set_cons_succ]
          clear hK K
          refine wpAnyH_ready (rs := [10]) (by kernel_rfl) (by simp) ?_
          refine AllReadyH.cons rfl (fun K hK => ?_) AllReadyH.nil
          refine he.step_callW _ (by rfl) (some 71) rfl 13 #[.tmp 70] #[28] rfl (fun q w' => by rfl) #[.agg (rv g p (.slice ao al.length ca) b (.slice co cl.length cc) S).toArray] (by simp only [List.map_toArray, List.map_cons, List.map_nil]; rfl) (fun z9 w' => z9 = .agg (rv g p (.slice ao al.length ca) b (.slice co cl.length cc) S).toArray ∧ Below x5.heap.size x5 w') ?_ ?_
          · exact (of_rb g p b _ _ al cl S x5 (RIr.out.below hS).rb).mono fun e w' ⟨h1, h2⟩ => ⟨_, h1, rfl, h2⟩
          rintro _ x6 ⟨rfl, hb⟩
          have hS : Below wr.heap.size wr x6 := hS.trans (hb.mono hS.size)
          clear hb
          refine hK.out _ _ hS (fun _ => ?_)
          simp only [Act.put, List.setIfInBounds_toArray, List.set_cons_zero, List.set_cons_succ]
          clear hK K
          refine wpAnyH_ready (rs := [11]) (by kernel_rfl) (by simp) ?_
          refine AllReadyH.cons rfl (fun K hK => ?_) AllReadyH.nil
          refine he.step_callW _ (by rfl) (some 72) rfl 14 #[.tmp 69, .tmp 71] #[39, 39] rfl (fun q w' => by rfl) #[.agg (rv g p (.slice so2 al.length sc2) b (.slice ko2 cl.length kc2) T2).toArray, .agg (rv g p (.slice ao al.length ca) b (.slice co cl.length cc) S).toArray] (by simp only [List.map_toArray, List.map_cons, List.map_nil]; rfl) (fun z9 w' => z9 = .bool true ∧ Below x6.heap.size x6 w') ?_ ?_
          · exact (rsame_rb g p b _ _ _ _ al cl T2 S x6 (RDb.out.below hS) (RIr.out.below hS).rb DT2.out).mono fun e w' ⟨h1, h2⟩ => ⟨_, h1, rfl, h2⟩
          rintro _ x7 ⟨rfl, hb⟩
          have hS : Below wr.heap.size wr x7 := hS.trans (hb.mono hS.size)
          clear hb
          refine hK.out _ _ hS (fun _ => ?_)
          simp only [Act.put, List.setIfInBounds_toArray, List.set_cons_zero, List.set_cons_succ]
          clear hK K
          refine take_lawH 12 (some 73) (.bool false) rfl rfl (by kernel_rfl) (by kernel_rfl) (by kernel_rfl) (fun _ _ _ h => h) (Or.inl ⟨by rfl, fun w' hw' => by rfl⟩) hS ?_
          simp only [Act.put, List.setIfInBounds_toArray, List.set_cons_zero, List.set_cons_succ]
          refine take_lawH 13 (some 74) (.bool false) rfl rfl (by kernel_rfl) (by kernel_rfl) (by kernel_rfl) (fun _ _ _ h => h) (Or.inl ⟨by rfl, fun w' hw' => by rfl⟩) hS ?_
          simp only [Act.put, List.setIfInBounds_toArray, List.set_cons_zero, List.set_cons_succ]
          refine wpAnyH_done (by kernel_rfl) ?_ _
          have BX : Hid (Below w.heap.size w x7) := BT.out.trans (hS.mono BT.out.size)
          have LX : Hid (w.heap.size < x7.heap.size) := Nat.lt_of_lt_of_le (range_lt HBr.out.1 (Nat.succ_pos _)) hS.size
          have HBx : Hid (Vr x7 w.heap.size (rv g p (.slice ao al.length ca) b (.slice co cl.length cc) S)) := HBr.out.below hS (range_lt HBr.out.1 (Nat.succ_pos _))
          clear hS HBr HDr RDb RIr BT
          have s0 : (0 : Nat) = 0 := rfl
          go_wp2_with (first
            | (have q := s0; refine nil_lawI _ rfl rfl ?_; intro w70 o7 B7; have O7 : Hid (OwnI x7.heap.size w70 (.slice (some ⟨x7.heap.size, 0, none⟩) 0 0) []) := o7; have B7h : Hid (Below x7.heap.size x7 w70) := B7; clear o7 B7 s0))
          go_loopw [12, 11] (fun i r wr => ∃ k : Nat, k ≤ 4 ∧ i = .int .i64 (k : Int) ∧ OwnI x7.heap.size wr r (szs S k) ∧ Below x7.heap.size x7 wr) (fun i _ _ => 4 - (intOf i).toNat)
          case atStart => exact ⟨0, Nat.zero_le _, rfl, O7.out, B7h.out⟩
          case round =>
            clear O7 B7h
            obtain ⟨k, hk4, rfl, o2, hBl⟩ := hrel
            have B0 : Hid (Below x7.heap.size x7 wr) := hBl
            clear hBl
            by_cases hk : k < 4
            · have ki : (k : Int) < 4 := by omega
              have HBk : Hid (Vr wr w.heap.size (rv g p (.slice ao al.length ca) b (.slice co cl.length cc) S)) := HBx.out.below B0.out LX.out
              have c0 : wr.cell? ⟨w.heap.size, 5 + k * 5, none⟩ = some (.bool (S k).u) := cell_slot HBk.out k hk 0 _ rfl
              have c1 : wr.cell? ⟨w.heap.size, 5 + k * 5 + 1, none⟩ = some (.int .i64 (S k).n) := cell_slot HBk.out k hk 1 _ rfl
              have O2 : Hid (OwnI x7.heap.size wr u11 (szs S k)) := o2
              have TL : Hid ((szs S k).length ≤ 1000000) := Nat.le_trans (szs_len S k) (by omega)
              clear o2 HBk
              by_cases hu : (S k).u = true
              · have s0 : (0 : Nat) = 0 := rfl
                go_wp2_with (first
                  | (have q := s1; at_builtin; refine ge.pushs_lawI _ rfl (.tmp 85) (.tmp 91) rfl x7.heap.size (Nat.le_trans B0.out.size B8.out.size) _ _ (szs S k) [(S k).n] rfl rfl (O2.out.below B8.out) O8.out.nums TL.out (show (1 : Nat) ≤ 1000000 by decide) ?_; intro v3 w90 o3 B3; have O3 : Hid (OwnI x7.heap.size w90 v3 (szs S k ++ [(S k).n])) := o3; have BZ : Hid (Below x7.heap.size x7 w90) := (B0.out.trans (B8.out.mono B0.out.size)).trans B3; clear o3 B3 s1)
                  | (have q := s0; refine one_lawI _ rfl (.tmp 90) rfl (S k).n rfl ?_; intro w80 o8 B9; have O8 : Hid (OwnI wr.heap.size w80 (.slice (some ⟨wr.heap.size, 0, none⟩) 1 1) [(S k).n]) := o8; have B8 : Hid (Below wr.heap.size wr w80) := B9; clear o8 B9 s0; have s1 : (1 : Nat) = 1 := rfl))
                go_roundw
                case rel => exact ⟨k + 1, by omega, by go_num, by rw [szs_yes S k hu]; exact O3.out, BZ.out⟩
                case measure => simp [intOf]; omega
              · have hu : (S k).u = false := by simpa using hu
                go_wp2
                go_roundw
                case rel => exact ⟨k + 1, by omega, by go_num, by rw [szs_no S k hu]; exact O2.out, B0.out⟩
                case measure => simp [intOf]; omega
            · have e4 : k = 4 := by omega
              subst e4
              have O2 : Hid (OwnI x7.heap.size wr u11 (szs S 4)) := o2
              have HBk : Hid (Vr wr w.heap.size (rv g p (.slice ao al.length ca) b (.slice co cl.length cc) S)) := HBx.out.below B0.out LX.out
              have BT : Hid (Below w.heap.size w wr) := BX.out.trans (B0.out.mono BX.out.size)
              have LK : Hid (w.heap.size < wr.heap.size) := range_lt HBk.out.1 (Nat.succ_pos _)
              clear o2 hk hk4
              have t0 : (0 : Nat) = 0 := rfl
              go_wp2_with (first
                | (have q6 := t6; go_at_call 8; refine (SW.out w204 (BT.out.trans (BB.out.mono BT.out.size))).mono ?_; rintro e9 w205 ⟨rfl, B9⟩; have BB : Hid (Below wr.heap.size wr w205) := BB.out.trans (B9.mono BB.out.size); clear B9; clear t6; have t7 : (1 : Nat) = 1 := rfl)
                | (have q5 := t5; go_at_call 12; refine (SG.out w203 (RI.out.below (BT.out.trans (BB.out.mono BT.out.size)))).mono ?_; rintro e9 w204 ⟨rfl, B9⟩; have BB : Hid (Below wr.heap.size wr w204) := BB.out.trans (B9.mono BB.out.size); clear B9; clear t5; have t6 : (1 : Nat) = 1 := rfl)
                | (have q4 := t4; go_at_call 13; refine (of_rb g p b _ _ al cl S w202 (RI.out.below (BT.out.trans (BB.out.mono BT.out.size))).rb).mono ?_; rintro e9 w203 ⟨rfl, B9⟩; have BB : Hid (Below wr.heap.size wr w203) := BB.out.trans (B9.mono BB.out.size); clear B9; clear t4; have t5 : (1 : Nat) = 1 := rfl)
                | (have q3 := t3; refine load_lawC _ rfl (rv g p (.slice ao al.length ca) b (.slice co cl.length cc) S) w.heap.size 0 rfl (HBk.out.below BB.out LK.out).1 rowy_record ?_; clear t3; have t4 : (1 : Nat) = 1 := rfl)
                | (have q2 := t2; go_at_call 15; refine (samei_yes w201 _ _ (szs S 4) YN.out (O2.out.nums.below BB.out)).mono ?_; rintro e9 w202 ⟨rfl, B9⟩; have BB : Hid (Below wr.heap.size wr w202) := BB.out.trans (B9.mono BB.out.size); clear B9; clear t2; have t3 : (1 : Nat) = 1 := rfl)
                | (have q1 := t1; go_at_call 16; refine (SZ.out wr (RI.out.below BT.out)).mono ?_; rintro e9 w201 ⟨r9, rfl, y9, B9⟩; have YN : Hid (Nums w201 r9 (szs S 4)) := y9; have BB : Hid (Below wr.heap.size wr w201) := B9; clear B9 y9; clear t1; have t2 : (1 : Nat) = 1 := rfl)
                | (have q0 := t0; refine load_lawC _ rfl (rv g p (.slice ao al.length ca) b (.slice co cl.length cc) S) w.heap.size 0 rfl HBk.out.1 rowy_record ?_; clear t0; have t1 : (1 : Nat) = 1 := rfl))
              go_ret
              exact ⟨rfl, (BT.out.trans (BB.out.mono BT.out.size))⟩

set_option maxHeartbeats 16000000 in
theorem walk_key (g p b : Int) (a c : Value) (al cl : List Int) (S : Nat → Sc) (kv : Value) (ks : List Int) (w : World) (hR : Rin w g p b a c al cl S) (h1 : al.length ≤ 140737488355328) (h2 : cl.length ≤ 140737488355328) (h3 : ∀ k, k < 4 → (S k).xs.length ≤ 140737488355328) (hk : Byt w kv ks) (hT : Tbl w ∧ Tb2 w) (hl : lns al cl S 4 ≤ 2000) (hr : Rok al cl S) (hn : ks.length ≠ 32) :
    Calls Tryd.prog 3 #[.agg (rv g p a b c S).toArray, kv] w fun x w' => x = .returned (.bool true) ∧ Below w.heap.size w w' := by
  have SW : Hid (∀ w0, Below w.heap.size w w0 → Calls Tryd.prog 8 #[] w0 fun x w' => x = .returned (.bool true) ∧ Below w0.heap.size w0 w') := fun w0 q => re.awake_any w0 (hT.1.below q hT.1.lt)
  have SL : Hid (∀ w0, Below w.heap.size w w0 → Calls Tryd.prog 7 #[.agg (rv g p a b c S).toArray] w0 fun x w' => x = .returned (.bool true) ∧ Below w0.heap.size w0 w') := fun w0 q => re.light_any g p b a c al cl S w0 (hR.below q) h1 h2 h3 true (decide_eq_true hl)
  have RI : Hid (Rin w g p b a c al cl S) := hR
  have LA : Hid (al.length ≤ 2000) := (lns_four al cl S hl).1
  have LS : Hid (∀ k, k < 4 → (S k).xs.length ≤ 2000) := (lns_four al cl S hl).2.2
  have SC : Hid (∀ w0 a c T, Rin w0 g p b a c al cl T → (∀ k, k < 4 → (T k).d = (S k).d) → Calls Tryd.prog 10 #[.agg (rv g p a b c T).toArray] w0 fun x w' => ∃ so sc ko kc T', x = .returned (.agg (rv g p (.slice so al.length sc) b (.slice ko cl.length kc) T').toArray) ∧ Cb w0.heap.size w' (.slice so al.length sc) (.slice ko cl.length kc) al cl T' ∧ (∀ k, k < 4 → (T' k).d = (S k).d) ∧ Below w0.heap.size w0 w') := fun w0 a c T h1 h2 => copy_cb w0 h1 h2 hl
  have SR : Hid (∀ w0, Rin w0 g p b a c al cl S → Calls Tryd.prog 11 #[.agg (rv g p a b c S).toArray] w0 fun x w' => x = .returned (.bool true) ∧ Below w0.heap.size w0 w') := fun w0 q => re.right_any g p b a c al cl S w0 q true ⟨fun _ => rfl, fun _ => hr⟩
  have SG : Hid (∀ w0, Rin w0 g p b a c al cl S → Calls Tryd.prog 12 #[.agg (rv g p a b c S).toArray] w0 fun x w' => x = .returned (.bool true) ∧ Below w0.heap.size w0 w') := fun w0 q => re.rright_any g p b a c al cl S w0 q true ⟨fun _ => rfl, fun _ => hr⟩
  have SZ : Hid (∀ w0, Rin w0 g p b a c al cl S → Calls Tryd.prog 16 #[.agg (rv g p a b c S).toArray] w0 fun x w' => ∃ r, x = .returned r ∧ Nums w' r (szs S 4) ∧ Below w0.heap.size w0 w') := fun w0 q => re.sizes_any g p b a c al cl S w0 q
  have SB : Hid (∀ w0, Below w.heap.size w w0 → Calls Tryd.prog 9 #[.agg (rv g p a b c S).toArray, kv] w0 fun x w' => x = .returned (.tuple #[.slice none 0 0, .int .i64 2]) ∧ Below w0.heap.size w0 w') := fun w0 q => re.bytes_key g p b a c al cl S kv ks w0 (hR.below q) (hk.below q) hr hn
  obtain ⟨ao, ca, rfl⟩ := form hR.2.1
  obtain ⟨co, cc, rfl⟩ := form hR.2.2.1
  obtain ⟨kx, ky, rfl⟩ := form hk
  have n32 : ((ks.length : Int) != 32) = true := bne_iff_ne.2 (by omega)
  clear hR h1 h2 h3 hk hT hl hr hn
  have t0 : (0 : Nat) = 0 := rfl
  go_enter Tryd.func3, Tryd.ntmps3
  go_wp2_with (first
    | (have q12 := t12; (with_reducible refine at_store ?_); refine store_lawC _ (rv g p (.slice so2 al.length sc2) b (.slice ko2 cl.length kc2) T2) w7.heap.size 0 rfl rfl HD.out.2 rowy_record.2 (rv_one (slc_sl _ _ _) (slc_sl _ _ _) SLT2.out) ?_; intro w9 E9 R9 T9 B9; have K9 : ∀ k, k ≠ w7.heap.size → w9.heap[k]? = w8.heap[k]? := (by rw [E9.out]; exact fun k hk => heap_cells _ _ _ _ k hk); have NB_HC : Hid (NoB w9 w4.heap.size) := NB_HC.out.heap (K9 _ (Nat.ne_of_lt LT_HC_HD.out)); have HC : Hid (Vr w9 w4.heap.size (rv g p (.slice so1 al.length sc1) b (.slice ko1 cl.length kc1) T)) := HC.out.heap (K9 _ (Nat.ne_of_lt LT_HC_HD.out)); have CB : Hid (Cb w3.heap.size w9 (.slice so1 al.length sc1) (.slice ko1 cl.length kc1) al cl T) := cb_nob CB.out NB_HD.out K9; have CD : Hid (Cb w4.heap.size w9 (.slice so2 al.length sc2) (.slice ko2 cl.length kc2) al cl T2) := cb_nob CD.out NB_HD.out K9; have NB_HD : Hid (NoB w9 w7.heap.size) := (by rw [E9.out]; exact NB_HD.out.set HD.out rfl (rv_nob (slc_sl _ _ _) (slc_sl _ _ _) SLT2.out)); have HD : Hid (Vr w9 w7.heap.size (rv g p (.slice so2 al.length sc2) b (.slice ko2 cl.length kc2) T2)) := ⟨R9, T9⟩; have BB : Hid (Below w3.heap.size w3 w9) := BB.out.trans (B9.mono LE_HD.out); clear E9 R9 T9 B9 K9; clear t12; have t13 : (1 : Nat) = 1 := rfl)
    | (have q11 := t11; (with_reducible refine at_alloc ?_); refine new_lawN _ rv0 zero_record rv0_nob ?_; intro w8 X9 N9 B9; have LT_HC_HD : Hid (w4.heap.size < w7.heap.size) := range_lt HC.out.1 (Nat.succ_pos _); have LE_HD : Hid (w3.heap.size ≤ w7.heap.size) := BB.out.size; have CB : Hid (Cb w3.heap.size w8 (.slice so1 al.length sc1) (.slice ko1 cl.length kc1) al cl T) := CB.out.below B9; have NB_HC : Hid (NoB w8 w4.heap.size) := NB_HC.out.heap (B9.block _ (range_lt HC.out.1 (Nat.succ_pos _))); have HC : Hid (Vr w8 w4.heap.size (rv g p (.slice so1 al.length sc1) b (.slice ko1 cl.length kc1) T)) := HC.out.below B9 (range_lt HC.out.1 (Nat.succ_pos _)); have CD : Hid (Cb w4.heap.size w8 (.slice so2 al.length sc2) (.slice ko2 cl.length kc2) al cl T2) := CD.out.below B9; have HD : Hid (Vr w8 w7.heap.size rv0) := X9; have NB_HD : Hid (NoB w8 w7.heap.size) := N9; have BB : Hid (Below w3.heap.size w3 w8) := BB.out.trans (B9.mono BB.out.size); clear X9 N9 B9; clear t11; have t12 : (1 : Nat) = 1 := rfl)
    | (have q10 := t10; go_at_call 10; refine (SC.out w6 _ _ T (rin_cb RI.out CB.out DT.out) DT.out).mono ?_; rintro e9 w7 ⟨so2, sc2, ko2, kc2, T2, rfl, cb8, dt8, B9⟩; have CB : Hid (Cb w3.heap.size w7 (.slice so1 al.length sc1) (.slice ko1 cl.length kc1) al cl T) := CB.out.below B9; have NB_HC : Hid (NoB w7 w4.heap.size) := NB_HC.out.heap (B9.block _ (range_lt HC.out.1 (Nat.succ_pos _))); have HC : Hid (Vr w7 w4.heap.size (rv g p (.slice so1 al.length sc1) b (.slice ko1 cl.length kc1) T)) := HC.out.below B9 (range_lt HC.out.1 (Nat.succ_pos _)); have CD : Hid (Cb w4.heap.size w7 (.slice so2 al.length sc2) (.slice ko2 cl.length kc2) al cl T2) := cb8.mono (Nat.le_of_lt L5.out); have DT2 : Hid (∀ k, k < 4 → (T2 k).d = (S k).d) := dt8; have SLT2 : Hid (∀ k, k < 4 → Slc (T2 k).v) := fun k hk => slc_byt (cb8.2.2 k hk).1; have BB : Hid (Below w3.heap.size w3 w7) := BB.out.trans (B9.mono BB.out.size); clear B9 cb8 dt8; clear t10; have t11 : (1 : Nat) = 1 := rfl)
    | (have q9 := t9; refine load_lawC _ rfl (rv g p (.slice so1 al.length sc1) b (.slice ko1 cl.length kc1) T) w4.heap.size 0 rfl HC.out.1 rowy_record ?_; clear t9; have t10 : (1 : Nat) = 1 := rfl)
    | (have q8 := t8; (with_reducible refine at_store ?_); refine store_lawC _ (rv g p (.slice so1 al.length sc1) b (.slice ko1 cl.length kc1) T) w4.heap.size 0 rfl rfl HC.out.2 rowy_record.2 (rv_one (slc_sl _ _ _) (slc_sl _ _ _) SLT.out) ?_; intro w6 E9 R9 T9 B9; have K9 : ∀ k, k ≠ w4.heap.size → w6.heap[k]? = w5.heap[k]? := (by rw [E9.out]; exact fun k hk => heap_cells _ _ _ _ k hk); have CB : Hid (Cb w3.heap.size w6 (.slice so1 al.length sc1) (.slice ko1 cl.length kc1) al cl T) := cb_nob CB.out NB_HC.out K9; have NB_HC : Hid (NoB w6 w4.heap.size) := (by rw [E9.out]; exact NB_HC.out.set HC.out rfl (rv_nob (slc_sl _ _ _) (slc_sl _ _ _) SLT.out)); have HC : Hid (Vr w6 w4.heap.size (rv g p (.slice so1 al.length sc1) b (.slice ko1 cl.length kc1) T)) := ⟨R9, T9⟩; have BB : Hid (Below w3.heap.size w3 w6) := BB.out.trans (B9.mono LE_HC.out); have L5 : Hid (w4.heap.size < w6.heap.size) := range_lt HC.out.1 (Nat.succ_pos _); clear E9 R9 T9 B9 K9; clear t8; have t9 : (1 : Nat) = 1 := rfl)
    | (have q7 := t7; (with_reducible refine at_alloc ?_); refine new_lawN _ rv0 zero_record rv0_nob ?_; intro w5 X9 N9 B9; have LE_HC : Hid (w3.heap.size ≤ w4.heap.size) := BB.out.size; have CB : Hid (Cb w3.heap.size w5 (.slice so1 al.length sc1) (.slice ko1 cl.length kc1) al cl T) := CB.out.below B9; have HC : Hid (Vr w5 w4.heap.size rv0) := X9; have NB_HC : Hid (NoB w5 w4.heap.size) := N9; have BB : Hid (Below w3.heap.size w3 w5) := BB.out.trans (B9.mono BB.out.size); clear X9 N9 B9; clear t7; have t8 : (1 : Nat) = 1 := rfl)
    | (have q6 := t6; go_at_call 10; refine (SC.out w3 _ _ S (RI.out.below BW.out) (fun _ _ => rfl)).mono ?_; rintro e9 w4 ⟨so1, sc1, ko1, kc1, T, rfl, cb8, dt8, B9⟩; have CB : Hid (Cb w3.heap.size w4 (.slice so1 al.length sc1) (.slice ko1 cl.length kc1) al cl T) := cb8; have DT : Hid (∀ k, k < 4 → (T k).d = (S k).d) := dt8; have SLT : Hid (∀ k, k < 4 → Slc (T k).v) := fun k hk => slc_byt (cb8.2.2 k hk).1; have P1 : Hid (0 < al.length → ∃ b off, so1 = some ⟨b, off, none⟩ ∧ w3.heap.size ≤ b ∧ b < w4.heap.size) := bow_at cb8.1; obtain ⟨to9, tc9, e9t⟩ := form (cb8.2.2 0 (by omega)).1; have E9t : Hid ((T 0).v = .slice to9 (T 0).xs.length tc9) := e9t; have P2 : Hid (0 < (T 0).xs.length → ∃ b off, to9 = some ⟨b, off, none⟩ ∧ w3.heap.size ≤ b ∧ b < w4.heap.size) := bow_at (n := (T 0).xs.length) (cc := tc9) (by rw [← e9t]; exact cb8.2.2 0 (by omega)); have BB : Hid (Below w3.heap.size w3 w4) := B9; clear B9 cb8 dt8 e9t; clear t6; have t7 : (1 : Nat) = 1 := rfl)
    | (have q5 := t5; refine load_lawC _ rfl (rv g p (.slice ao al.length ca) b (.slice co cl.length cc) S) w.heap.size 0 rfl HB0.out.1 rowy_record ?_; clear t5; have t6 : (1 : Nat) = 1 := rfl)
    | (have q4 := t4; go_at_call 9; refine (SB.out w2 BB.out).mono ?_; rintro e9 w3 ⟨rfl, B9⟩; have HB0 : Hid (Vr w3 w.heap.size (rv g p (.slice ao al.length ca) b (.slice co cl.length cc) S)) := HB0.out.below B9 (range_lt HB0.out.1 (Nat.succ_pos _)); have BB : Hid (Below w.heap.size w w3) := BB.out.trans (B9.mono BB.out.size); have BW := BB; clear BB; have L0 : Hid (w.heap.size < w3.heap.size) := range_lt HB0.out.1 (Nat.succ_pos _); clear B9; clear t4; have t5 : (1 : Nat) = 1 := rfl)
    | (have q3 := t3; refine load_lawC _ rfl (rv g p (.slice ao al.length ca) b (.slice co cl.length cc) S) w.heap.size 0 rfl HB0.out.1 rowy_record ?_; clear t3; have t4 : (1 : Nat) = 1 := rfl)
    | (have q2 := t2; go_at_call 7; refine (SL.out w1 BB.out).mono ?_; rintro e9 w2 ⟨rfl, B9⟩; have HB0 : Hid (Vr w2 w.heap.size (rv g p (.slice ao al.length ca) b (.slice co cl.length cc) S)) := HB0.out.below B9 (range_lt HB0.out.1 (Nat.succ_pos _)); have BB : Hid (Below w.heap.size w w2) := BB.out.trans (B9.mono BB.out.size); clear B9; clear t2; have t3 : (1 : Nat) = 1 := rfl)
    | (have q1 := t1; refine load_lawC _ rfl (rv g p (.slice ao al.length ca) b (.slice co cl.length cc) S) w.heap.size 0 rfl HB0.out.1 rowy_record ?_; clear t1; have t2 : (1 : Nat) = 1 := rfl)
    | (have q0 := t0; refine box_lawC _ (rv g p (.slice ao al.length ca) b (.slice co cl.length cc) S) rfl ?_; intro w1 X9 B9 l9; have HB0 : Hid (Vr w1 w.heap.size (rv g p (.slice ao al.length ca) b (.slice co cl.length cc) S)) := X9; have BB : Hid (Below w.heap.size w w1) := B9; clear X9 B9 l9; clear t0; have t1 : (1 : Nat) = 1 := rfl))
  have LT0 : Hid ((T 0).xs.length ≤ 2000) := (by show _ ≤ _; rw [(d_eq (DT.out 0 (by omega))).2.2.2.2]; exact LS.out 0 (by omega))
  go_loopw [9] (fun i wr => ∃ k : Nat, k ≤ al.length ∧ i = .int .i64 k ∧ Wr w3.heap.size w4.heap.size w9 wr) (fun i _ => al.length - (intOf i).toNat)
  case atStart => exact ⟨0, Nat.zero_le _, rfl, Wr.refl _ _ _⟩
  case round =>
    skip
    obtain ⟨k, hk, rfl, hW⟩ := hrel
    have HW : Hid (Wr w3.heap.size w4.heap.size w9 wr) := hW
    have HCw : Hid (Vr wr w4.heap.size (rv g p (.slice so1 al.length sc1) b (.slice ko1 cl.length kc1) T)) := HC.out.heap (hW.2.1 _ (Nat.le_refl _))
    have hcc : wr.cell? ⟨w4.heap.size, 2, none⟩ = some (.slice so1 al.length sc1) := HCw.out.cell 2 _ rfl
    clear hW
    by_cases hlt : k < al.length
    · obtain ⟨b', off, y, hco, hcell, hfr⟩ := HW.out.byte (CB.out.1) k hlt
      obtain ⟨b'', off', hco', hB, hH⟩ := P1.out (by omega)
      rw [hco] at hco' hcc
      obtain ⟨rfl, rfl⟩ : b' = b'' ∧ off = off' := by injection hco' with q; injection q with q1 q2; exact ⟨q1, q2⟩
      clear hco' hco
      have lk : (k : Int) < (al.length : Int) := by omega
      have HBb : Hid (w3.heap.size ≤ b') := hB
      have HHb : Hid (b' < w4.heap.size) := hH
      have HE : Hid (wr.cell? ⟨b', off + k, none⟩ = some (.int .u8 y)) := hcell
      have XL : Hid (al.length ≤ 2000) := LA.out
      have wk : IntKind.i64.wrap ((k : Int) + 1) = (k : Int) + 1 := by have := XL.out; rw [IntKind.wrap_i64]; omega
      clear hB hH
      go_wp2
      go_roundw
      case rel => exact ⟨k + 1, by omega, by go_num, HW.out.set HE.out HBb.out HHb.out _⟩
      case measure => simp [intOf]; omega
    · have hk' : k = al.length := by omega
      subst hk'
      clear HCw
      go_wp2
      clear hcc
      go_loopw [10] (fun i wr => ∃ k : Nat, k ≤ (T 0).xs.length ∧ i = .int .i64 k ∧ Wr w3.heap.size w4.heap.size w9 wr) (fun i _ => (T 0).xs.length - (intOf i).toNat)
      case atStart => exact ⟨0, Nat.zero_le _, rfl, HW.out⟩
      case round =>
        clear HW
        obtain ⟨k, hk, rfl, hW⟩ := hrel
        have HW : Hid (Wr w3.heap.size w4.heap.size w9 wr) := hW
        have HCw : Hid (Vr wr w4.heap.size (rv g p (.slice so1 al.length sc1) b (.slice ko1 cl.length kc1) T)) := HC.out.heap (hW.2.1 _ (Nat.le_refl _))
        have hcc : wr.cell? ⟨w4.heap.size, 9, none⟩ = some (.slice to9 (T 0).xs.length tc9) := (by rw [← E9t.out]; exact HCw.out.cell 9 _ rfl)
        clear hW
        by_cases hlt : k < (T 0).xs.length
        · obtain ⟨b', off, y, hco, hcell, hfr⟩ := HW.out.byte (co := to9) (n := (T 0).xs.length) (cc := tc9) (by rw [← E9t.out]; exact CB.out.2.2 0 (by omega)) k hlt
          obtain ⟨b'', off', hco', hB, hH⟩ := P2.out (by omega)
          rw [hco] at hco' hcc
          obtain ⟨rfl, rfl⟩ : b' = b'' ∧ off = off' := by injection hco' with q; injection q with q1 q2; exact ⟨q1, q2⟩
          clear hco' hco
          have lk : (k : Int) < ((T 0).xs.length : Int) := by omega
          have HBb : Hid (w3.heap.size ≤ b') := hB
          have HHb : Hid (b' < w4.heap.size) := hH
          have HE : Hid (wr.cell? ⟨b', off + k, none⟩ = some (.int .u8 y)) := hcell
          have XL : Hid ((T 0).xs.length ≤ 2000) := LT0.out
          have wk : IntKind.i64.wrap ((k : Int) + 1) = (k : Int) + 1 := by have := XL.out; rw [IntKind.wrap_i64]; omega
          clear hB hH
          go_wp2
          go_roundw
          case rel => exact ⟨k + 1, by omega, by go_num, HW.out.set HE.out HBb.out HHb.out _⟩
          case measure => simp [intOf]; omega
        · have hk' : k = (T 0).xs.length := by omega
          subst hk'
          clear HCw
          go_wp2
          have BB2 : Hid (Below w3.heap.size w3 wr) := BB.out.trans HW.out.1
          have HBr : Hid (Vr wr w.heap.size (rv g p (.slice ao al.length ca) b (.slice co cl.length cc) S)) := HB0.out.below BB2.out L0.out
          have HDr : Hid (Vr wr w7.heap.size (rv g p (.slice so2 al.length sc2) b (.slice ko2 cl.length kc2) T2)) := HD.out.heap (HW.out.2.1 _ (Nat.le_of_lt LT_HC_HD.out))
          have RDb : Hid (Rb wr (.slice so2 al.length sc2) (.slice ko2 cl.length kc2) al cl T2) := ⟨HW.out.bow CD.out.1, HW.out.bow CD.out.2.1, fun k hk => HW.out.bow (CD.out.2.2 k hk)⟩
          have BT : Hid (Below w.heap.size w wr) := BW.out.trans (BB2.out.mono BW.out.size)
          have RIr : Hid (Rin wr g p b (.slice ao al.length ca) (.slice co cl.length cc) al cl S) := RI.out.below BT.out
          clear HW HC HD NB_HC NB_HD CB CD BB BB2 HB0 P1 P2 E9t hcc
          refine wp_region_held_drew (S := fun w' => Below wr.heap.size wr w') (by kernel_rfl) (Below.refl _ _).drew (fun hS => ?_)
          obtain ⟨x1, hx0⟩ : ∃ x, x = wr.drew := ⟨_, rfl⟩
          rw [← hx0] at hS  ⊢
          clear hx0
          refine take_lawH 0 (some 61) (.agg (rv g p (.slice ao al.length ca) b (.slice co cl.length cc) S).toArray) rfl rfl (by kernel_rfl) (by kernel_rfl) (by kernel_rfl) (fun _ _ _ h => h) (Or.inl ⟨by rfl, fun w' hw' => by exact exec_loadN 28 (.tmp 2) rfl _ rfl _ _ (load_cells rowy_record (HBr.out.below hw' (range_lt HBr.out.1 (Nat.succ_pos _))).1)⟩) hS ?_
          simp only [Act.put, List.setIfInBounds_toArray, List.set_cons_zero, List.set_cons_succ]
          refine take_lawH 2 (some 63) (.agg (rv g p (.slice ao al.length ca) b (.slice co cl.length cc) S).toArray) rfl rfl (by kernel_rfl) (by kernel_rfl) (by kernel_rfl) (fun _ _ _ h => h) (Or.inl ⟨by rfl, fun w' hw' => by exact exec_loadN 28 (.tmp 2) rfl _ rfl _ _ (load_cells rowy_record (HBr.out.below hw' (range_lt HBr.out.1 (Nat.succ_pos _))).1)⟩) hS ?_
          simp only [Act.put, List.setIfInBounds_toArray, List.set_cons_zero, List.set_cons_succ]
          refine wpAnyH_ready (rs := [1]) (by kernel_rfl) (by simp) ?_
          refine AllReadyH.cons rfl (fun K hK => ?_) AllReadyH.nil
          refine he.step_callW _ (by rfl) (some 62) rfl 11 #[.tmp 61] #[28] rfl (fun q w' => by rfl) #[.agg (rv g p (.slice ao al.length ca) b (.slice co cl.length cc) S).toArray] (by simp only [List.map_toArray, List.map_cons, List.map_nil]; rfl) (fun z9 w' => z9 = .bool true ∧ Below x1.heap.size x1 w') ?_ ?_
          · exact (SR.out x1 (RIr.out.below hS)).mono fun e w' ⟨h1, h2⟩ => ⟨_, h1, rfl, h2⟩
          rintro _ x2 ⟨rfl, hb⟩
          have hS : Below wr.heap.size wr x2 := hS.trans (hb.mono hS.size)
          clear hb
          refine hK.out _ _ hS (fun _ => ?_)
          simp only [Act.put, List.setIfInBounds_toArray, List.set_cons_zero, List.set_cons_succ]
          clear hK K
          refine wpAnyH_ready (rs := [3]) (by kernel_rfl) (by simp) ?_
          refine AllReadyH.cons rfl (fun K hK => ?_) AllReadyH.nil
          refine he.step_callW _ (by rfl) (some 64) rfl 13 #[.tmp 63] #[28] rfl (fun q w' => by rfl) #[.agg (rv g p (.slice ao al.length ca) b (.slice co cl.length cc) S).toArray] (by simp only [List.map_toArray, List.map_cons, List.map_nil]; rfl) (fun z9 w' => z9 = .agg (rv g p (.slice ao al.length ca) b (.slice co cl.length cc) S).toArray ∧ Below x2.heap.size x2 w') ?_ ?_
          · exact (of_rb g p b _ _ al cl S x2 (RIr.out.below hS).rb).mono fun e w' ⟨h1, h2⟩ => ⟨_, h1, rfl, h2⟩
          rintro _ x3 ⟨rfl, hb⟩
          have hS : Below wr.heap.size wr x3 := hS.trans (hb.mono hS.size)
          clear hb
          refine hK.out _ _ hS (fun _ => ?_)
          simp only [Act.put, List.setIfInBounds_toArray, List.set_cons_zero, List.set_cons_succ]
          clear hK K
          refine wpAnyH_ready (rs := [4]) (by kernel_rfl) (by simp) ?_
          refine AllReadyH.cons rfl (fun K hK => ?_) AllReadyH.nil
          refine he.step_callW _ (by rfl) (some 65) rfl 12 #[.tmp 64] #[39] rfl (fun q w' => by rfl) #[.agg (rv g p (.slice ao al.length ca) b (.slice co cl.length cc) S).toArray] (by simp only [List.map_toArray, List.map_cons, List.map_nil]; rfl) (fun z9 w' => z9 = .bool true ∧ Below x3.heap.size x3 w') ?_ ?_
          · exact (SG.out x3 (RIr.out.below hS)).mono fun e w' ⟨h1, h2⟩ => ⟨_, h1, rfl, h2⟩
          rintro _ x4 ⟨rfl, hb⟩
          have hS : Below wr.heap.size wr x4 := hS.trans (hb.mono hS.size)
          clear hb
          refine hK.out _ _ hS (fun _ => ?_)
          simp only [Act.put, List.setIfInBounds_toArray, List.set_cons_zero, List.set_cons_succ]
          clear hK K
          refine take_lawH 5 (some 66) (.bool false) rfl rfl (by kernel_rfl) (by kernel_rfl) (by kernel_rfl) (fun _ _ _ h => h) (Or.inl ⟨by rfl, fun w' hw' => by rfl⟩) hS ?_
          simp only [Act.put, List.setIfInBounds_toArray, List.set_cons_zero, List.set_cons_succ]
          refine take_lawH 6 (some 67) (.bool false) rfl rfl (by kernel_rfl) (by kernel_rfl) (by kernel_rfl) (fun _ _ _ h => h) (Or.inl ⟨by rfl, fun w' hw' => by rfl⟩) hS ?_
          simp only [Act.put, List.setIfInBounds_toArray, List.set_cons_zero, List.set_cons_succ]
          refine take_lawH 7 (some 68) (.agg (rv g p (.slice so2 al.length sc2) b (.slice ko2 cl.length kc2) T2).toArray) rfl rfl (by kernel_rfl) (by kernel_rfl) (by kernel_rfl) (fun _ _ _ h => h) (Or.inl ⟨by rfl, fun w' hw' => by exact exec_loadN 28 (.tmp 8) rfl _ rfl _ _ (load_cells rowy_record (HDr.out.below hw' (range_lt HDr.out.1 (Nat.succ_pos _))).1)⟩) hS ?_
          simp only [Act.put, List.setIfInBounds_toArray, List.set_cons_zero, List.set_cons_succ]
          refine take_lawH 9 (some 70) (.agg (rv g p (.slice ao al.length ca) b (.slice co cl.length cc) S).toArray) rfl rfl (by kernel_rfl) (by kernel_rfl) (by kernel_rfl) (fun _ _ _ h => h) (Or.inl ⟨by rfl, fun w' hw' => by exact exec_loadN 28 (.tmp 2) rfl _ rfl _ _ (load_cells rowy_record (HBr.out.below hw' (range_lt HBr.out.1 (Nat.succ_pos _))).1)⟩) hS ?_
          simp only [Act.put, List.setIfInBounds_toArray, List.set_cons_zero, List.set_cons_succ]
          refine wpAnyH_ready (rs := [8]) (by kernel_rfl) (by simp) ?_
          refine AllReadyH.cons rfl (fun K hK => ?_) AllReadyH.nil
          refine he.step_callW _ (by rfl) (some 69) rfl 13 #[.tmp 68] #[28] rfl (fun q w' => by rfl) #[.agg (rv g p (.slice so2 al.length sc2) b (.slice ko2 cl.length kc2) T2).toArray] (by simp only [List.map_toArray, List.map_cons, List.map_nil]; rfl) (fun z9 w' => z9 = .agg (rv g p (.slice so2 al.length sc2) b (.slice ko2 cl.length kc2) T2).toArray ∧ Below x4.heap.size x4 w') ?_ ?_
          · exact (of_rb g p b _ _ al cl T2 x4 (RDb.out.below hS)).mono fun e w' ⟨h1, h2⟩ => ⟨_, h1, rfl, h2⟩
          rintro _ x5 ⟨rfl, hb⟩
          have hS : Below wr.heap.size wr x5 := hS.trans (hb.mono hS.size)
          clear hb
          refine hK.out _ _ hS (fun _ => ?_)
          simp only [Act.put, List.setIfInBounds_toArray, List.set_cons_zero, List.set_cons_succ]
          clear hK K
          refine wpAnyH_ready (rs := [10]) (by kernel_rfl) (by simp) ?_
          refine AllReadyH.cons rfl (fun K hK => ?_) AllReadyH.nil
          refine he.step_callW _ (by rfl) (some 71) rfl 13 #[.tmp 70] #[28] rfl (fun q w' => by rfl) #[.agg (rv g p (.slice ao al.length ca) b (.slice co cl.length cc) S).toArray] (by simp only [List.map_toArray, List.map_cons, List.map_nil]; rfl) (fun z9 w' => z9 = .agg (rv g p (.slice ao al.length ca) b (.slice co cl.length cc) S).toArray ∧ Below x5.heap.size x5 w') ?_ ?_
          · exact (of_rb g p b _ _ al cl S x5 (RIr.out.below hS).rb).mono fun e w' ⟨h1, h2⟩ => ⟨_, h1, rfl, h2⟩
          rintro _ x6 ⟨rfl, hb⟩
          have hS : Below wr.heap.size wr x6 := hS.trans (hb.mono hS.size)
          clear hb
          refine hK.out _ _ hS (fun _ => ?_)
          simp only [Act.put, List.setIfInBounds_toArray, List.set_cons_zero, List.set_cons_succ]
          clear hK K
          refine wpAnyH_ready (rs := [11]) (by kernel_rfl) (by simp) ?_
          refine AllReadyH.cons rfl (fun K hK => ?_) AllReadyH.nil
          refine he.step_callW _ (by rfl) (some 72) rfl 14 #[.tmp 69, .tmp 71] #[39, 39] rfl (fun q w' => by rfl) #[.agg (rv g p (.slice so2 al.length sc2) b (.slice ko2 cl.length kc2) T2).toArray, .agg (rv g p (.slice ao al.length ca) b (.slice co cl.length cc) S).toArray] (by simp only [List.map_toArray, List.map_cons, List.map_nil]; rfl) (fun z9 w' => z9 = .bool true ∧ Below x6.heap.size x6 w') ?_ ?_
          · exact (rsame_rb g p b _ _ _ _ al cl T2 S x6 (RDb.out.below hS) (RIr.out.below hS).rb DT2.out).mono fun e w' ⟨h1, h2⟩ => ⟨_, h1, rfl, h2⟩
          rintro _ x7 ⟨rfl, hb⟩
          have hS : Below wr.heap.size wr x7 := hS.trans (hb.mono hS.size)
          clear hb
          refine hK.out _ _ hS (fun _ => ?_)
          simp only [Act.put, List.setIfInBounds_toArray, List.set_cons_zero, List.set_cons_succ]
          clear hK K
          refine take_lawH 12 (some 73) (.bool false) rfl rfl (by kernel_rfl) (by kernel_rfl) (by kernel_rfl) (fun _ _ _ h => h) (Or.inl ⟨by rfl, fun w' hw' => by rfl⟩) hS ?_
          simp only [Act.put, List.setIfInBounds_toArray, List.set_cons_zero, List.set_cons_succ]
          refine take_lawH 13 (some 74) (.bool false) rfl rfl (by kernel_rfl) (by kernel_rfl) (by kernel_rfl) (fun _ _ _ h => h) (Or.inl ⟨by rfl, fun w' hw' => by rfl⟩) hS ?_
          simp only [Act.put, List.setIfInBounds_toArray, List.set_cons_zero, List.set_cons_succ]
          refine wpAnyH_done (by kernel_rfl) ?_ _
          have BX : Hid (Below w.heap.size w x7) := BT.out.trans (hS.mono BT.out.size)
          have LX : Hid (w.heap.size < x7.heap.size) := Nat.lt_of_lt_of_le (range_lt HBr.out.1 (Nat.succ_pos _)) hS.size
          have HBx : Hid (Vr x7 w.heap.size (rv g p (.slice ao al.length ca) b (.slice co cl.length cc) S)) := HBr.out.below hS (range_lt HBr.out.1 (Nat.succ_pos _))
          clear hS HBr HDr RDb RIr BT
          have s0 : (0 : Nat) = 0 := rfl
          go_wp2_with (first
            | (have q := s0; refine nil_lawI _ rfl rfl ?_; intro w70 o7 B7; have O7 : Hid (OwnI x7.heap.size w70 (.slice (some ⟨x7.heap.size, 0, none⟩) 0 0) []) := o7; have B7h : Hid (Below x7.heap.size x7 w70) := B7; clear o7 B7 s0))
          go_loopw [12, 11] (fun i r wr => ∃ k : Nat, k ≤ 4 ∧ i = .int .i64 (k : Int) ∧ OwnI x7.heap.size wr r (szs S k) ∧ Below x7.heap.size x7 wr) (fun i _ _ => 4 - (intOf i).toNat)
          case atStart => exact ⟨0, Nat.zero_le _, rfl, O7.out, B7h.out⟩
          case round =>
            clear O7 B7h
            obtain ⟨k, hk4, rfl, o2, hBl⟩ := hrel
            have B0 : Hid (Below x7.heap.size x7 wr) := hBl
            clear hBl
            by_cases hk : k < 4
            · have ki : (k : Int) < 4 := by omega
              have HBk : Hid (Vr wr w.heap.size (rv g p (.slice ao al.length ca) b (.slice co cl.length cc) S)) := HBx.out.below B0.out LX.out
              have c0 : wr.cell? ⟨w.heap.size, 5 + k * 5, none⟩ = some (.bool (S k).u) := cell_slot HBk.out k hk 0 _ rfl
              have c1 : wr.cell? ⟨w.heap.size, 5 + k * 5 + 1, none⟩ = some (.int .i64 (S k).n) := cell_slot HBk.out k hk 1 _ rfl
              have O2 : Hid (OwnI x7.heap.size wr u11 (szs S k)) := o2
              have TL : Hid ((szs S k).length ≤ 1000000) := Nat.le_trans (szs_len S k) (by omega)
              clear o2 HBk
              by_cases hu : (S k).u = true
              · have s0 : (0 : Nat) = 0 := rfl
                go_wp2_with (first
                  | (have q := s1; at_builtin; refine ge.pushs_lawI _ rfl (.tmp 85) (.tmp 91) rfl x7.heap.size (Nat.le_trans B0.out.size B8.out.size) _ _ (szs S k) [(S k).n] rfl rfl (O2.out.below B8.out) O8.out.nums TL.out (show (1 : Nat) ≤ 1000000 by decide) ?_; intro v3 w90 o3 B3; have O3 : Hid (OwnI x7.heap.size w90 v3 (szs S k ++ [(S k).n])) := o3; have BZ : Hid (Below x7.heap.size x7 w90) := (B0.out.trans (B8.out.mono B0.out.size)).trans B3; clear o3 B3 s1)
                  | (have q := s0; refine one_lawI _ rfl (.tmp 90) rfl (S k).n rfl ?_; intro w80 o8 B9; have O8 : Hid (OwnI wr.heap.size w80 (.slice (some ⟨wr.heap.size, 0, none⟩) 1 1) [(S k).n]) := o8; have B8 : Hid (Below wr.heap.size wr w80) := B9; clear o8 B9 s0; have s1 : (1 : Nat) = 1 := rfl))
                go_roundw
                case rel => exact ⟨k + 1, by omega, by go_num, by rw [szs_yes S k hu]; exact O3.out, BZ.out⟩
                case measure => simp [intOf]; omega
              · have hu : (S k).u = false := by simpa using hu
                go_wp2
                go_roundw
                case rel => exact ⟨k + 1, by omega, by go_num, by rw [szs_no S k hu]; exact O2.out, B0.out⟩
                case measure => simp [intOf]; omega
            · have e4 : k = 4 := by omega
              subst e4
              have O2 : Hid (OwnI x7.heap.size wr u11 (szs S 4)) := o2
              have HBk : Hid (Vr wr w.heap.size (rv g p (.slice ao al.length ca) b (.slice co cl.length cc) S)) := HBx.out.below B0.out LX.out
              have BT : Hid (Below w.heap.size w wr) := BX.out.trans (B0.out.mono BX.out.size)
              have LK : Hid (w.heap.size < wr.heap.size) := range_lt HBk.out.1 (Nat.succ_pos _)
              clear o2 hk hk4
              have t0 : (0 : Nat) = 0 := rfl
              go_wp2_with (first
                | (have q6 := t6; go_at_call 8; refine (SW.out w204 (BT.out.trans (BB.out.mono BT.out.size))).mono ?_; rintro e9 w205 ⟨rfl, B9⟩; have BB : Hid (Below wr.heap.size wr w205) := BB.out.trans (B9.mono BB.out.size); clear B9; clear t6; have t7 : (1 : Nat) = 1 := rfl)
                | (have q5 := t5; go_at_call 12; refine (SG.out w203 (RI.out.below (BT.out.trans (BB.out.mono BT.out.size)))).mono ?_; rintro e9 w204 ⟨rfl, B9⟩; have BB : Hid (Below wr.heap.size wr w204) := BB.out.trans (B9.mono BB.out.size); clear B9; clear t5; have t6 : (1 : Nat) = 1 := rfl)
                | (have q4 := t4; go_at_call 13; refine (of_rb g p b _ _ al cl S w202 (RI.out.below (BT.out.trans (BB.out.mono BT.out.size))).rb).mono ?_; rintro e9 w203 ⟨rfl, B9⟩; have BB : Hid (Below wr.heap.size wr w203) := BB.out.trans (B9.mono BB.out.size); clear B9; clear t4; have t5 : (1 : Nat) = 1 := rfl)
                | (have q3 := t3; refine load_lawC _ rfl (rv g p (.slice ao al.length ca) b (.slice co cl.length cc) S) w.heap.size 0 rfl (HBk.out.below BB.out LK.out).1 rowy_record ?_; clear t3; have t4 : (1 : Nat) = 1 := rfl)
                | (have q2 := t2; go_at_call 15; refine (samei_yes w201 _ _ (szs S 4) YN.out (O2.out.nums.below BB.out)).mono ?_; rintro e9 w202 ⟨rfl, B9⟩; have BB : Hid (Below wr.heap.size wr w202) := BB.out.trans (B9.mono BB.out.size); clear B9; clear t2; have t3 : (1 : Nat) = 1 := rfl)
                | (have q1 := t1; go_at_call 16; refine (SZ.out wr (RI.out.below BT.out)).mono ?_; rintro e9 w201 ⟨r9, rfl, y9, B9⟩; have YN : Hid (Nums w201 r9 (szs S 4)) := y9; have BB : Hid (Below wr.heap.size wr w201) := B9; clear B9 y9; clear t1; have t2 : (1 : Nat) = 1 := rfl)
                | (have q0 := t0; refine load_lawC _ rfl (rv g p (.slice ao al.length ca) b (.slice co cl.length cc) S) w.heap.size 0 rfl HBk.out.1 rowy_record ?_; clear t0; have t1 : (1 : Nat) = 1 := rfl))
              go_ret
              exact ⟨rfl, (BT.out.trans (BB.out.mono BT.out.size))⟩

theorem walk (g p b : Int) (a c : Value) (al cl : List Int) (S : Nat → Sc) (kv : Value) (ks : List Int) (w : World) (hR : Rin w g p b a c al cl S) (h1 : al.length ≤ 140737488355328) (h2 : cl.length ≤ 140737488355328) (h3 : ∀ k, k < 4 → (S k).xs.length ≤ 140737488355328) (hk : Byt w kv ks) (hT : Tbl w ∧ Tb2 w) :
    Calls Tryd.prog 3 #[.agg (rv g p a b c S).toArray, kv] w fun x w' => x = .returned (.bool true) ∧ Below w.heap.size w w' := by
  by_cases hl : lns al cl S 4 ≤ 2000
  · by_cases hr : Rok al cl S
    · by_cases hn : ks.length = 32
      · exact walk_yes g p b a c al cl S kv ks w hR h1 h2 h3 hk hT hl hr hn
      · exact walk_key g p b a c al cl S kv ks w hR h1 h2 h3 hk hT hl hr hn
    · exact walk_bad g p b a c al cl S kv ks w hR h1 h2 h3 hk hT hl hr
  · exact walk_heavy g p b a c al cl S kv ks w hR h1 h2 h3 hk hT hl

theorem params : ∀ t ∈ Tryd.f3.params.toList, Tryd.prog.readableRec t = true ∧ t < Tryd.prog.types.size := by
  rw [Tryd.params3]
  intro t ht
  simp at ht
  rcases ht with rfl | rfl
  · exact ⟨by kernel_rfl, of_decide_eq_true (by kernel_rfl)⟩
  · exact ⟨by kernel_rfl, of_decide_eq_true (by kernel_rfl)⟩

theorem contract (H : Type) (enc : TypeId × Value → H) (W : World) (base : Nat) (args : Array Value) (ds gs : List (DataW H)) (before : List MemPlace)
    (hval : ∀ (j : Nat) t v, Tryd.f3.params[j]? = some t → args[j]? = some v → Value.okWide Tryd.prog W .any base t v)
    (hW : DataW.Whole enc Tryd.prog Tryd.f3.params.toList Rows.recordBytesSpec.vars false W args.toList ds gs before) (hL : laidMetH Tryd.prog Rows.recordBytesRow.laid W)
    (hsz : (DataW.weightsEach Tryd.prog (Tryd.f3.params.toList ++ (OpenSpec.ofChange Rows.recordBytesSpec).bare.plain.varTypes Tryd.prog) (ds ++ gs)).all (· ≤ reachBytes) = true) :
    Calls Tryd.prog 3 args W fun e W' => ∃ v, e = .returned v ∧ Rows.recordBytesSpec.post enc Tryd.prog Tryd.f3 false true false false W args v W' := by
  have hW' := hW
  obtain ⟨p, q, hA0, hV, rfl, hfz, hnd⟩ := hW
  have hA : DataW.TrodAll enc Tryd.prog W 0 (fun _ => true) true Tryd.f3.params.toList args.toList ds p := hA0
  rw [Tryd.params3] at hA hval
  obtain ⟨v0, v1, d0, d1, p0, p1, rfl, rfl, rfl, h0, h1⟩ := trodAll_two hA
  obtain ⟨rfl, rfl⟩ := trodVars_none hV
  obtain ⟨rg0, rp0, rb0, ra0, rc0, al0, cl0, S0, rfl, hR0, m0, n0, o0⟩ := re.record_open (hval 0 28 v0 rfl rfl) h0 (fun n hn => by have := List.all_eq_true.1 hsz n (DataW.weights_mem_each (j := 0) (t := 28) (d := d0) (by rw [Tryd.params3]; rfl) rfl n hn); simpa using this)
  obtain ⟨xs1, b1⟩ := byt_open (hval 1 23 v1 rfl rfl) h1
  clear hA0
  refine (walk rg0 rp0 rb0 ra0 rc0 al0 cl0 S0 v1 xs1 W hR0 m0 n0 o0 b1 (re.tables hL)).mono fun e W' ⟨he, hg⟩ => ?_
  subst he
  exact ⟨_, rfl, post_law rfl (by kernel_rfl) params rfl rfl rfl hW' hg⟩

theorem laid_met (os : Os) : laidMet Tryd.prog Rows.recordBytesRow.laid (({ World.holding Tryd.prog os ⟨#[], #[], []⟩ with heap := ((World.holding Tryd.prog os ⟨#[], #[], []⟩).heap.modify 0 fun | .cells _ t frozen => .cells #[.int .i64 1, .int .i64 3, .int .i64 4, .int .i64 8, .int .i64 8] t frozen | o => o).modify 1 fun | .cells _ t frozen => .cells #[.int .i64 8, .int .i64 8, .int .i64 16, .int .i64 8, .int .i64 8, .int .i64 32] t frozen | o => o } : World).forCall (fun _ _ => 0) ⟨#[], #[.agg #[.int .u64 0, .int .u64 0, .slice none 0 0, .int .u64 0, .slice none 0 0, .bool false, .int .i64 0, .int .u64 0, .int .u64 0, .slice none 0 0, .bool false, .int .i64 0, .int .u64 0, .int .u64 0, .slice none 0 0, .bool false, .int .i64 0, .int .u64 0, .int .u64 0, .slice none 0 0, .bool false, .int .i64 0, .int .u64 0, .int .u64 0, .slice none 0 0], .slice none 0 0], []⟩).memory :=
  laidMet_of_run' 8 (by kernel_rfl) (by kernel_rfl)
theorem reads (os : Os) {H : Type} (enc : TypeId × Value → H) : ∃ places, DataW.whole enc Tryd.prog (({ World.holding Tryd.prog os ⟨#[], #[], []⟩ with heap := ((World.holding Tryd.prog os ⟨#[], #[], []⟩).heap.modify 0 fun | .cells _ t frozen => .cells #[.int .i64 1, .int .i64 3, .int .i64 4, .int .i64 8, .int .i64 8] t frozen | o => o).modify 1 fun | .cells _ t frozen => .cells #[.int .i64 8, .int .i64 8, .int .i64 16, .int .i64 8, .int .i64 8, .int .i64 32] t frozen | o => o } : World).forCall (fun _ _ => 0) ⟨#[], #[.agg #[.int .u64 0, .int .u64 0, .slice none 0 0, .int .u64 0, .slice none 0 0, .bool false, .int .i64 0, .int .u64 0, .int .u64 0, .slice none 0 0, .bool false, .int .i64 0, .int .u64 0, .int .u64 0, .slice none 0 0, .bool false, .int .i64 0, .int .u64 0, .int .u64 0, .slice none 0 0, .bool false, .int .i64 0, .int .u64 0, .int .u64 0, .slice none 0 0], .slice none 0 0], []⟩).memory Tryd.f3.params.toList Rows.recordBytesSpec.vars false #[Value.agg #[.int .u64 0, .int .u64 0, .slice none 0 0, .int .u64 0, .slice none 0 0, .bool false, .int .i64 0, .int .u64 0, .int .u64 0, .slice none 0 0, .bool false, .int .i64 0, .int .u64 0, .int .u64 0, .slice none 0 0, .bool false, .int .i64 0, .int .u64 0, .int .u64 0, .slice none 0 0, .bool false, .int .i64 0, .int .u64 0, .int .u64 0, .slice none 0 0], Value.slice none 0 0].toList 8 = some ([.agg [.lit (.int .u64 0), .lit (.int .u64 0), .nil, .lit (.int .u64 0), .nil, .agg [.agg [.lit (.bool false), .lit (.int .i64 0), .lit (.int .u64 0), .lit (.int .u64 0), .nil], .agg [.lit (.bool false), .lit (.int .i64 0), .lit (.int .u64 0), .lit (.int .u64 0), .nil], .agg [.lit (.bool false), .lit (.int .i64 0), .lit (.int .u64 0), .lit (.int .u64 0), .nil], .agg [.lit (.bool false), .lit (.int .i64 0), .lit (.int .u64 0), .lit (.int .u64 0), .nil]]], .nil], [], places) :=
  ⟨[], by kernel_rfl⟩

set_option maxRecDepth 100000 in
theorem lifted (os : Os) (started : os.Started) (H : Type) (enc : TypeId × Value → H) (F : Stop.Interp) :
    ReturnsInHanded {} Tryd.checked os 3 .any ((OpenSpec.ofChange Rows.recordBytesSpec).preRow enc Tryd.prog Tryd.f3 Rows.recordBytesRow.domain false Rows.recordBytesRow.laid) (((OpenSpec.ofChange Rows.recordBytesSpec).at F).post enc Tryd.prog Tryd.f3 false true false false) := by
  obtain ⟨places, hx⟩ := reads os enc
  refine returnsInHanded_of_row (C := Tryd.checked) (s := OpenSpec.ofChange Rows.recordBytesSpec) own started (by kernel_rfl) Tryd.func3
    (witness_row_at (enc := enc) (C := Tryd.checked) false ({ World.holding Tryd.prog os ⟨#[], #[], []⟩ with heap := ((World.holding Tryd.prog os ⟨#[], #[], []⟩).heap.modify 0 fun | .cells _ t frozen => .cells #[.int .i64 1, .int .i64 3, .int .i64 4, .int .i64 8, .int .i64 8] t frozen | o => o).modify 1 fun | .cells _ t frozen => .cells #[.int .i64 8, .int .i64 8, .int .i64 16, .int .i64 8, .int .i64 8, .int .i64 32] t frozen | o => o } : World) #[.agg #[.int .u64 0, .int .u64 0, .slice none 0 0, .int .u64 0, .slice none 0 0, .bool false, .int .i64 0, .int .u64 0, .int .u64 0, .slice none 0 0, .bool false, .int .i64 0, .int .u64 0, .int .u64 0, .slice none 0 0, .bool false, .int .i64 0, .int .u64 0, .int .u64 0, .slice none 0 0, .bool false, .int .i64 0, .int .u64 0, .int .u64 0, .slice none 0 0], .slice none 0 0] rfl (by kernel_rfl) (by kernel_rfl) (by kernel_rfl)
      (OpenSpec.preRow_of_cond 8 hx (by kernel_rfl) (fun k hk => by cases hk) (by kernel_rfl) (laid_met os))) ?_
  intro W base args ds gs before hval hW _ _ hsz hL _ _
  exact contract H enc W base args ds gs before hval hW hL hsz

theorem said : Rows.RecordBytesSaid :=
  OpenClaim.holds_of_cond 3 Tryd.f3 rfl rfl rfl rfl rfl rfl rfl ⟨rfl, rfl, rfl, rfl, rfl⟩ rfl rfl rfl rfl rfl (by kernel_rfl) Tryd.func3 (by kernel_rfl)
    (of_decide_eq_true (by kernel_rfl)) (by unfold Func.isWrapper; first | (rw [if_pos (by decide +kernel)]; kernel_rfl) | (rw [if_neg (by decide +kernel)]; exact ⟨rfl, rfl⟩))
    (fun os started H enc _ F => by rw [OpenClaim.pre_eq_preRow]; exact lifted os started H enc F)

theorem plain (f : FuncId) (fn : Func) (hf : Tryd.pinned.checked.prog.funcNamed "nepenthe/nepenthelaw18.RecordBytes" = some f) (hfn : Tryd.pinned.checked.prog.funcs[f]? = some fn) :
    false = Tryd.pinned.checked.prog.looks [] ∧ ∀ (j : Nat) t, fn.params[j]? = some t → Tryd.pinned.checked.prog.wantsStandIn t = false := by
  obtain rfl : f = 3 := Option.some.inj ((show Tryd.prog.funcNamed "nepenthe/nepenthelaw18.RecordBytes" = some 3 by kernel_rfl).symm.trans hf) |>.symm
  obtain rfl : fn = Tryd.f3 := (Option.some.inj (Tryd.func3.symm.trans hfn)).symm
  refine ⟨by kernel_rfl, fun j t ht => ?_⟩
  rw [Tryd.params3] at ht
  have hm := Array.mem_of_getElem? ht
  simp at hm
  rcases hm with rfl | rfl
  · exact (show Tryd.prog.wantsStandIn 28 = false by kernel_rfl)
  · exact (show Tryd.prog.wantsStandIn 23 = false by kernel_rfl)
end Go.Proofs.YtmbfccclghnaeaaDoor.recordBytes

namespace Go.Proofs.YtmbfccclghnaeaaDoor
theorem recordBytes_card : Rows.RecordBytesCardSaid :=
  Claim7.holds_tied_plain_at .later [] _ _ _ _ recordBytes.said (fun _ h => by cases h) (by kernel_rfl) (fun _ h => by cases h) recordBytes_row_tie rfl ⟨rfl, rfl⟩ (by kernel_rfl) rfl recordBytes.plain (by kernel_rfl)
#print axioms recordBytes_card
end Go.Proofs.YtmbfccclghnaeaaDoor
