/- Texts put together (a claim holds few files). No claim of its own. -/
import Derived.Test.YtmbfccclghnaeaaDoorPackE
import Derived.Test.YtmbfccclghnaeaaDoorPackG
import Derived.Test.YtmbfccclghnaeaaDoorPackB
/- What the reference's Bytes and Read answer. No claim of its own. -/
namespace Go.Proofs.YtmbfccclghnaeaaDoor.so
open Go.RowKit Go.Proofs.YtmbfccclghnaeaaDoor.fa Go.Proofs.YtmbfccclghnaeaaDoor.he
set_option maxRecDepth 20000

/-- a slice of four bytes -/
theorem lit4_law {ops : Array Oper} {rest : List Oper} {o : Oper} {a : Act} {Q : Exit → Act → World → Prop} (w : World) (hg : o.guard = none) (x y z u : Operand) (hop : o.op = Op.buildSlice 23 4 #[(0, x), (1, y), (2, z), (3, u)]) (p q r s : Int) (hx : a.eval x = .int .u8 p) (hy : a.eval y = .int .u8 q) (hz : a.eval z = .int .u8 r) (hu : a.eval u = .int .u8 s)
    (hK : ∀ v w', Own w.heap.size w' v [p, q, r, s] → Below w.heap.size w w' → wpList Tryd.prog ops Q rest (a.put o.dst v) w') : wpList Tryd.prog ops Q (o :: rest) a w := by
  refine wpList_plain hg fun K hK' => ?_
  have hrun : (Instr.buildSlice 23 4 #[(0, .int .u8 p), (1, .int .u8 q), (2, .int .u8 r), (3, .int .u8 s)]).run Tryd.prog w = .ok (.slice (some ⟨w.heap.size, 0, none⟩) 4 4) (w.alloc (.cells #[.int .u8 p, .int .u8 q, .int .u8 r, .int .u8 s] 5)) := by kernel_rfl
  unfold Oper.wp execOp
  simp only [hop, List.map_toArray, List.map_cons, List.map_nil, hx, hy, hz, hu, Sem.run_bind, Sem.run_pure, Result.andThen_ok, hrun]
  exact hK' _ _ (hK _ _ (World.ownsRow_lit (e := 5) (size := 1) (base := w.heap.size) w #[.int .u8 p, .int .u8 q, .int .u8 r, .int .u8 s] 4 (Nat.le_refl _) (by simp [maxLen]) rfl) ((Below.refl _ _).alloc (Nat.le_refl _) _))
theorem same_b (w : World) (va vb : Value) (xs ys : List Int) (ha : Byt w va xs) (hy : Byt w vb ys) (d : Bool) (hd : decide (xs = ys) = d) : Calls Tryd.prog 18 #[va, vb] w fun e w' => e = .returned (.bool d) ∧ Below w.heap.size w w' :=
  (same_dec w va vb xs ys ha hy).mono fun _ _ ⟨h1, h2⟩ => ⟨by rw [← hd]; exact h1, h2⟩

set_option maxHeartbeats 2000000 in
theorem rbytes_free (n e t : Int) (v : Value) (w : World) :
    Calls Tryd.prog 41 #[.agg (sv false n e t v).toArray] w fun x w' => ∃ r, x = .returned r ∧ Byt w' r (List.replicate 128 0) ∧ Below w.heap.size w w' := by
  have SF : Hid (∀ w0, Calls Tryd.prog 40 #[.int .u8 0, .int .i64 128] w0 fun x w' => ∃ r, x = .returned r ∧ Byt w' r (List.replicate 128 0) ∧ Below w0.heap.size w0 w') := fun w0 => rfill_any 0 128 w0 (by omega)
  generalize List.replicate 128 (0 : Int) = ZZ at SF ⊢
  have t0 : (0 : Nat) = 0 := rfl
  go_enter Tryd.func41, Tryd.ntmps41
  go_wp2_with (first
    | (have q1 := t1; go_at_call 40; refine (SF.out w1).mono ?_; rintro e9 w2 ⟨r9, rfl, Y9, B9⟩; have HB0 : Hid (Vr w2 w.heap.size (sv false n e t v)) := HB0.out.below B9 (range_lt HB0.out.1 (Nat.succ_pos _)); have HW : Hid (Byt w2 r9 ZZ) := Y9; have BB : Hid (Below w.heap.size w w2) := BB.out.trans (B9.mono BB.out.size); clear hb0_0 hb0_1 hb0_2 hb0_3 hb0_4; have hb0_0 := HB0.out.cell 0 _ rfl; have hb0_1 := HB0.out.cell 1 _ rfl; have hb0_2 := HB0.out.cell 2 _ rfl; have hb0_3 := HB0.out.cell 3 _ rfl; have hb0_4 := HB0.out.cell 4 _ rfl; clear B9 Y9; clear t1; have t2 : (1 : Nat) = 1 := rfl)
    | (have q0 := t0; refine box_lawC _ (sv false n e t v) rfl ?_; intro w1 X9 B9 l9; have HB0 : Hid (Vr w1 w.heap.size (sv false n e t v)) := X9; have BB : Hid (Below w.heap.size w w1) := B9; have hb0_0 := HB0.out.cell 0 _ rfl; have hb0_1 := HB0.out.cell 1 _ rfl; have hb0_2 := HB0.out.cell 2 _ rfl; have hb0_3 := HB0.out.cell 3 _ rfl; have hb0_4 := HB0.out.cell 4 _ rfl; clear X9 B9 l9; clear t0; have t1 : (1 : Nat) = 1 := rfl))
  go_ret
  exact ⟨_, rfl, HW.out, BB.out⟩

set_option maxHeartbeats 4000000 in
theorem rbytes_used (n e t : Int) (v : Value) (xs : List Int) (w : World) (hv : Byt w v xs) (hS : Sb n e t) (hr : 1 ≤ n ∧ n ≤ 65535) (hl : xs.length = 104) :
    Calls Tryd.prog 41 #[.agg (sv true n e t v).toArray] w fun x w' => ∃ r, x = .returned r ∧ Byt w' r (sbt n e t xs) ∧ Below w.heap.size w w' := by
  have HV : Hid (Byt w v xs) := hv
  have HA : Hid (AllB (sbt n e t xs)) := sbt_all hv.all
  have wn : IntKind.u64.wrap n = n := (by rw [IntKind.wrap_u64]; omega)
  have S1 : Hid (∀ w0, Calls Tryd.prog 39 #[.int .u64 n, .int .i64 4] w0 fun x w' => ∃ r, x = .returned r ∧ Byt w' r (be n 4) ∧ Below w0.heap.size w0 w') := fun w0 => by
    have z := rbig_any n 4 w0 ⟨by omega, by omega⟩
    rw [show clamp 4 8 = 4 by decide] at z
    exact z
  have S2 : Hid (∀ w0, Calls Tryd.prog 39 #[.int .u64 e, .int .i64 8] w0 fun x w' => ∃ r, x = .returned r ∧ Byt w' r (be e 8) ∧ Below w0.heap.size w0 w') := fun w0 => by
    have z := rbig_any e 8 w0 hS.2.1
    rw [show clamp 8 8 = 8 by decide] at z
    exact z
  have S3 : Hid (∀ w0, Calls Tryd.prog 39 #[.int .u64 t, .int .i64 8] w0 fun x w' => ∃ r, x = .returned r ∧ Byt w' r (be t 8) ∧ Below w0.heap.size w0 w') := fun w0 => by
    have z := rbig_any t 8 w0 hS.2.2
    rw [show clamp 8 8 = 8 by decide] at z
    exact z
  have EZ0 : [1, 0, 0, 0] ++ be n 4 ++ be e 8 ++ be t 8 ++ xs = sbt n e t xs := (by simp [sbt])
  have q1 := be_len n 4
  have q2 := be_len e 8
  have q3 := be_len t 8
  generalize be n 4 = b1 at S1 EZ0 q1
  generalize be e 8 = b2 at S2 EZ0 q2
  generalize be t 8 = b3 at S3 EZ0 q3
  obtain ⟨L1, E0⟩ : ∃ z : List Int, Hid (z = [1, 0, 0, 0] ++ b1) := ⟨_, hdH rfl⟩
  have H0 : Hid (([1, 0, 0, 0] : List Int).length + b1.length ≤ 140737488355328) := (by show _ ≤ _; rw [q1]; decide)
  have l1 : L1.length = 8 := (by rw [E0.out, List.length_append, q1]; rfl)
  obtain ⟨L2, E1⟩ : ∃ z : List Int, Hid (z = L1 ++ b2) := ⟨_, hdH rfl⟩
  have H1 : Hid ((L1 : List Int).length + b2.length ≤ 140737488355328) := (by show _ ≤ _; rw [q2, l1]; omega)
  have l2 : L2.length = 16 := (by rw [E1.out, List.length_append, q2, l1])
  obtain ⟨L3, E2⟩ : ∃ z : List Int, Hid (z = L2 ++ b3) := ⟨_, hdH rfl⟩
  have H2 : Hid ((L2 : List Int).length + b3.length ≤ 140737488355328) := (by show _ ≤ _; rw [q3, l2]; omega)
  have l3 : L3.length = 24 := (by rw [E2.out, List.length_append, q3, l2])
  obtain ⟨L4, E3⟩ : ∃ z : List Int, Hid (z = L3 ++ xs) := ⟨_, hdH rfl⟩
  have H3 : Hid ((L3 : List Int).length + xs.length ≤ 140737488355328) := (by show _ ≤ _; rw [hl, l3]; omega)
  have EZ : Hid (L4 = sbt n e t xs) := (by rw [← EZ0, E3.out, E2.out, E1.out, E0.out]; rfl)
  clear EZ0 q1 q2 q3 l1 l2 l3
  obtain ⟨ao, cap, rfl⟩ := form hv
  generalize sbt n e t xs = ZZ at EZ HA ⊢
  clear hv hS hr hl
  have t0 : (0 : Nat) = 0 := rfl
  go_enter Tryd.func41, Tryd.ntmps41
  go_wp2_with (first
    | (have q8 := t8; have SZ : Hid (w1.heap.size ≤ w8.heap.size) := B1.out.size; refine pushs_law _ rfl (.tmp 24) (.tmp 26) rfl w1.heap.size SZ.out _ _ L3 xs rfl rfl HO.out (HV.out.below BB.out) (by have := H3.out; omega) ?_; intro o4 w9 O9 B9; have HB0 : Hid (Vr w9 w.heap.size (sv true n e t (.slice ao xs.length cap))) := HB0.out.below B9 LB.out; have HO : Hid (Own w1.heap.size w9 o4 L4) := (by rw [E3.out]; exact O9); have B1 : Hid (Below w1.heap.size w1 w9) := B1.out.trans B9; have BB : Hid (Below w.heap.size w w9) := BB.out.trans (B9.mono (Nat.le_of_lt LB.out)); clear hb0_0 hb0_1 hb0_2 hb0_3 hb0_4; have hb0_0 := HB0.out.cell 0 _ rfl; have hb0_1 := HB0.out.cell 1 _ rfl; have hb0_2 := HB0.out.cell 2 _ rfl; have hb0_3 := HB0.out.cell 3 _ rfl; have hb0_4 := HB0.out.cell 4 _ rfl; clear O9 B9 SZ; clear t8; have t9 : (1 : Nat) = 1 := rfl)
    | (have q7 := t7; have SZ : Hid (w1.heap.size ≤ w7.heap.size) := B1.out.size; refine pushs_law _ rfl (.tmp 19) (.tmp 22) rfl w1.heap.size SZ.out _ _ L2 b3 rfl rfl HO.out HY.out (by have := H2.out; omega) ?_; intro o3 w8 O9 B9; have HB0 : Hid (Vr w8 w.heap.size (sv true n e t (.slice ao xs.length cap))) := HB0.out.below B9 LB.out; have HO : Hid (Own w1.heap.size w8 o3 L3) := (by rw [E2.out]; exact O9); have B1 : Hid (Below w1.heap.size w1 w8) := B1.out.trans B9; have BB : Hid (Below w.heap.size w w8) := BB.out.trans (B9.mono (Nat.le_of_lt LB.out)); clear hb0_0 hb0_1 hb0_2 hb0_3 hb0_4; have hb0_0 := HB0.out.cell 0 _ rfl; have hb0_1 := HB0.out.cell 1 _ rfl; have hb0_2 := HB0.out.cell 2 _ rfl; have hb0_3 := HB0.out.cell 3 _ rfl; have hb0_4 := HB0.out.cell 4 _ rfl; clear O9 B9 SZ; clear t7; have t8 : (1 : Nat) = 1 := rfl)
    | (have q6 := t6; go_at_call 39; refine (S3.out w6).mono ?_; rintro e9 w7 ⟨r3, rfl, Y9, B9⟩; have HB0 : Hid (Vr w7 w.heap.size (sv true n e t (.slice ao xs.length cap))) := HB0.out.below B9 (range_lt HB0.out.1 (Nat.succ_pos _)); have HO : Hid (Own w1.heap.size w7 o2 L2) := own_low HO.out B9; have HY : Hid (Byt w7 r3 b3) := Y9; have BB : Hid (Below w.heap.size w w7) := BB.out.trans (B9.mono BB.out.size); have B1 : Hid (Below w1.heap.size w1 w7) := B1.out.trans (B9.mono B1.out.size); clear hb0_0 hb0_1 hb0_2 hb0_3 hb0_4; have hb0_0 := HB0.out.cell 0 _ rfl; have hb0_1 := HB0.out.cell 1 _ rfl; have hb0_2 := HB0.out.cell 2 _ rfl; have hb0_3 := HB0.out.cell 3 _ rfl; have hb0_4 := HB0.out.cell 4 _ rfl; clear B9 Y9; clear t6; have t7 : (1 : Nat) = 1 := rfl)
    | (have q5 := t5; have SZ : Hid (w1.heap.size ≤ w5.heap.size) := B1.out.size; refine pushs_law _ rfl (.tmp 14) (.tmp 17) rfl w1.heap.size SZ.out _ _ L1 b2 rfl rfl HO.out HY.out (by have := H1.out; omega) ?_; intro o2 w6 O9 B9; have HB0 : Hid (Vr w6 w.heap.size (sv true n e t (.slice ao xs.length cap))) := HB0.out.below B9 LB.out; have HO : Hid (Own w1.heap.size w6 o2 L2) := (by rw [E1.out]; exact O9); have B1 : Hid (Below w1.heap.size w1 w6) := B1.out.trans B9; have BB : Hid (Below w.heap.size w w6) := BB.out.trans (B9.mono (Nat.le_of_lt LB.out)); clear hb0_0 hb0_1 hb0_2 hb0_3 hb0_4; have hb0_0 := HB0.out.cell 0 _ rfl; have hb0_1 := HB0.out.cell 1 _ rfl; have hb0_2 := HB0.out.cell 2 _ rfl; have hb0_3 := HB0.out.cell 3 _ rfl; have hb0_4 := HB0.out.cell 4 _ rfl; clear O9 B9 SZ; clear t5; have t6 : (1 : Nat) = 1 := rfl)
    | (have q4 := t4; go_at_call 39; refine (S2.out w4).mono ?_; rintro e9 w5 ⟨r2, rfl, Y9, B9⟩; have HB0 : Hid (Vr w5 w.heap.size (sv true n e t (.slice ao xs.length cap))) := HB0.out.below B9 (range_lt HB0.out.1 (Nat.succ_pos _)); have HO : Hid (Own w1.heap.size w5 o1 L1) := own_low HO.out B9; have HY : Hid (Byt w5 r2 b2) := Y9; have BB : Hid (Below w.heap.size w w5) := BB.out.trans (B9.mono BB.out.size); have B1 : Hid (Below w1.heap.size w1 w5) := B1.out.trans (B9.mono B1.out.size); clear hb0_0 hb0_1 hb0_2 hb0_3 hb0_4; have hb0_0 := HB0.out.cell 0 _ rfl; have hb0_1 := HB0.out.cell 1 _ rfl; have hb0_2 := HB0.out.cell 2 _ rfl; have hb0_3 := HB0.out.cell 3 _ rfl; have hb0_4 := HB0.out.cell 4 _ rfl; clear B9 Y9; clear t4; have t5 : (1 : Nat) = 1 := rfl)
    | (have q3 := t3; have SZ : Hid (w1.heap.size ≤ w3.heap.size) := B1.out.size; refine pushs_law _ rfl (.tmp 8) (.tmp 12) rfl w1.heap.size SZ.out _ _ [1, 0, 0, 0] b1 rfl rfl HO.out HY.out (by have := H0.out; omega) ?_; intro o1 w4 O9 B9; have HB0 : Hid (Vr w4 w.heap.size (sv true n e t (.slice ao xs.length cap))) := HB0.out.below B9 LB.out; have HO : Hid (Own w1.heap.size w4 o1 L1) := (by rw [E0.out]; exact O9); have B1 : Hid (Below w1.heap.size w1 w4) := B1.out.trans B9; have BB : Hid (Below w.heap.size w w4) := BB.out.trans (B9.mono (Nat.le_of_lt LB.out)); clear hb0_0 hb0_1 hb0_2 hb0_3 hb0_4; have hb0_0 := HB0.out.cell 0 _ rfl; have hb0_1 := HB0.out.cell 1 _ rfl; have hb0_2 := HB0.out.cell 2 _ rfl; have hb0_3 := HB0.out.cell 3 _ rfl; have hb0_4 := HB0.out.cell 4 _ rfl; clear O9 B9 SZ; clear t3; have t4 : (1 : Nat) = 1 := rfl)
    | (have q2 := t2; go_at_call 39; refine (S1.out w2).mono ?_; rintro e9 w3 ⟨r1, rfl, Y9, B9⟩; have HB0 : Hid (Vr w3 w.heap.size (sv true n e t (.slice ao xs.length cap))) := HB0.out.below B9 (range_lt HB0.out.1 (Nat.succ_pos _)); have HO : Hid (Own w1.heap.size w3 o0 [1, 0, 0, 0]) := own_low HO.out B9; have HY : Hid (Byt w3 r1 b1) := Y9; have BB : Hid (Below w.heap.size w w3) := BB.out.trans (B9.mono BB.out.size); have B1 : Hid (Below w1.heap.size w1 w3) := B1.out.trans (B9.mono B1.out.size); clear hb0_0 hb0_1 hb0_2 hb0_3 hb0_4; have hb0_0 := HB0.out.cell 0 _ rfl; have hb0_1 := HB0.out.cell 1 _ rfl; have hb0_2 := HB0.out.cell 2 _ rfl; have hb0_3 := HB0.out.cell 3 _ rfl; have hb0_4 := HB0.out.cell 4 _ rfl; clear B9 Y9; clear t2; have t3 : (1 : Nat) = 1 := rfl)
    | (have q1 := t1; have HB0q := HB0; refine lit4_law _ rfl _ _ _ _ rfl 1 0 0 0 rfl rfl rfl rfl ?_; intro o0 w2 O9 B9; have HB0 : Hid (Vr w2 w.heap.size (sv true n e t (.slice ao xs.length cap))) := HB0.out.below B9 (range_lt HB0.out.1 (Nat.succ_pos _)); have HO : Hid (Own w1.heap.size w2 o0 [1, 0, 0, 0]) := O9; have LB : Hid (w.heap.size < w1.heap.size) := range_lt HB0q.out.1 (Nat.succ_pos _); have BB : Hid (Below w.heap.size w w2) := BB.out.trans (B9.mono BB.out.size); clear hb0_0 hb0_1 hb0_2 hb0_3 hb0_4; have hb0_0 := HB0.out.cell 0 _ rfl; have hb0_1 := HB0.out.cell 1 _ rfl; have hb0_2 := HB0.out.cell 2 _ rfl; have hb0_3 := HB0.out.cell 3 _ rfl; have hb0_4 := HB0.out.cell 4 _ rfl; have B1 : Hid (Below w1.heap.size w1 w2) := B9; clear O9 B9 HB0q; clear t1; have t2 : (1 : Nat) = 1 := rfl)
    | (have q0 := t0; refine box_lawC _ (sv true n e t (.slice ao xs.length cap)) rfl ?_; intro w1 X9 B9 l9; have HB0 : Hid (Vr w1 w.heap.size (sv true n e t (.slice ao xs.length cap))) := X9; have BB : Hid (Below w.heap.size w w1) := B9; have hb0_0 := HB0.out.cell 0 _ rfl; have hb0_1 := HB0.out.cell 1 _ rfl; have hb0_2 := HB0.out.cell 2 _ rfl; have hb0_3 := HB0.out.cell 3 _ rfl; have hb0_4 := HB0.out.cell 4 _ rfl; clear X9 B9 l9; clear t0; have t1 : (1 : Nat) = 1 := rfl))
  go_ret
  exact ⟨_, rfl, (by rw [EZ.out] at HO; exact HO.out.byt HA.out), BB.out⟩

set_option maxHeartbeats 8000000 in
theorem rread_zero (v : Value) (xs : List Int) (w : World) (hb : Byt w v xs) (hl : xs.length = 128) (h0 : gb xs 0 ≠ 1) (hd : decide (List.replicate 128 0 = xs) = true) :
    Calls Tryd.prog 45 #[v] w fun x w' => x = .returned (.tuple #[.agg (sv false 0 0 0 (.slice none 0 0)).toArray, .bool true]) ∧ Below w.heap.size w w' := by
  obtain ⟨ZZ, hZ⟩ : ∃ z : List Int, List.replicate 128 0 = z := ⟨_, rfl⟩
  rw [hZ] at hd
  have HD : Hid (decide (ZZ = xs) = true) := hd
  have SR : Hid (∀ w0, Calls Tryd.prog 34 #[.agg (sv false 0 0 0 (.slice none 0 0)).toArray] w0 fun x w' => x = .returned (.bool true) ∧ Below w0.heap.size w0 w') := fun w0 => rright_yes false 0 0 0 _ [] w0 (Byt.nil w0) ⟨rfl, rfl, rfl, rfl⟩
  have SB : Hid (∀ w0, Calls Tryd.prog 41 #[.agg (sv false 0 0 0 (.slice none 0 0)).toArray] w0 fun x w' => ∃ r, x = .returned r ∧ Byt w' r ZZ ∧ Below w0.heap.size w0 w') := fun w0 => by
    rw [← hZ]
    exact rbytes_free 0 0 0 _ w0
  have HB : Hid (Byt w v xs) := hb
  have HL : Hid (xs.length = 128) := hl
  obtain ⟨ao, bc, e1, h1, h2, h3, h4, h5⟩ := hb
  rw [hl] at e1 h5
  obtain ⟨bb, off, rfl, hc⟩ := h5 (by omega)
  subst e1
  have HC : Hid (∀ w', Below w.heap.size w w' → w'.cell? ⟨bb, off, none⟩ = some (.int .u8 (gb xs 0))) := fun w' q => (by have z := hc 0 (by omega); rw [Nat.add_zero] at z; rw [q.cell (World.block_lt_of_cell? w _ z)]; exact z)
  have b0 : (gb xs 0 == 1) = false := beq_eq_false_iff_ne.2 h0
  generalize gb xs 0 = x0 at HC b0
  clear hl h0 hd hZ h1 h2 h3 h4 h5 hc
  have t0 : (0 : Nat) = 0 := rfl
  go_enter Tryd.func45, Tryd.ntmps45
  go_wp2_with (first
    | (have q7 := t7; (with_reducible refine at_store ?_); refine store_lawC _ (sv false 0 0 0 (.slice none 0 0)) w.heap.size 0 rfl rfl HR.out.2 rowy_rslot.2 (sv_one _ _ _ _ rfl) ?_; intro w7 E9 R9 T9 B9; have K9 : ∀ k, k ≠ w.heap.size → w7.heap[k]? = w6.heap[k]? := (by rw [E9.out]; exact fun k hk => heap_cells _ _ _ _ k hk); have NB_HS : Hid (NoB w7 w1.heap.size) := NB_HS.out.heap (K9 _ (Nat.ne_of_gt LT_HR_HS.out)); have HS : Hid (Vr w7 w1.heap.size (sv false 0 0 0 (.slice none 0 0))) := HS.out.heap (K9 _ (Nat.ne_of_gt LT_HR_HS.out)); have HW : Hid (Byt w7 r9 ZZ) := byt_nob HW.out NB_HR.out K9; have NB_HR : Hid (NoB w7 w.heap.size) := (by rw [E9.out]; exact NB_HR.out.set HR.out rfl (sv_nob _ _ _ _ _ _ _)); have HR : Hid (Vr w7 w.heap.size (sv false 0 0 0 (.slice none 0 0))) := ⟨R9, T9⟩; have BB : Hid (Below w.heap.size w w7) := BB.out.trans (B9.mono LE_HR.out); clear hs_0 hs_1 hs_2 hs_3 hs_4 c0; have hs_0 := HS.out.cell 0 _ rfl; have hs_1 := HS.out.cell 1 _ rfl; have hs_2 := HS.out.cell 2 _ rfl; have hs_3 := HS.out.cell 3 _ rfl; have hs_4 := HS.out.cell 4 _ rfl; have c0 : w7.cell? ⟨bb, off, none⟩ = some (.int .u8 x0) := HC.out w7 BB.out; clear E9 R9 T9 B9 K9; clear t7; have t8 : (1 : Nat) = 1 := rfl)
    | (have q6 := t6; go_at_call 18; refine (same_b w5 _ _ ZZ xs HW.out (HB.out.below BB.out) true HD.out).mono ?_; rintro e9 w6 ⟨rfl, B9⟩; have NB_HR : Hid (NoB w6 w.heap.size) := NB_HR.out.heap (B9.block _ (range_lt HR.out.1 (Nat.succ_pos _))); have HR : Hid (Vr w6 w.heap.size (sv false 0 0 0 (.slice none 0 0))) := HR.out.below B9 (range_lt HR.out.1 (Nat.succ_pos _)); have NB_HS : Hid (NoB w6 w1.heap.size) := NB_HS.out.heap (B9.block _ (range_lt HS.out.1 (Nat.succ_pos _))); have HS : Hid (Vr w6 w1.heap.size (sv false 0 0 0 (.slice none 0 0))) := HS.out.below B9 (range_lt HS.out.1 (Nat.succ_pos _)); have HW : Hid (Byt w6 r9 ZZ) := HW.out.below B9; have BB : Hid (Below w.heap.size w w6) := BB.out.trans (B9.mono BB.out.size); clear hs_0 hs_1 hs_2 hs_3 hs_4 c0; have hs_0 := HS.out.cell 0 _ rfl; have hs_1 := HS.out.cell 1 _ rfl; have hs_2 := HS.out.cell 2 _ rfl; have hs_3 := HS.out.cell 3 _ rfl; have hs_4 := HS.out.cell 4 _ rfl; have c0 : w6.cell? ⟨bb, off, none⟩ = some (.int .u8 x0) := HC.out w6 BB.out; clear B9; clear t6; have t7 : (1 : Nat) = 1 := rfl)
    | (have q5 := t5; go_at_call 41; refine (SB.out w4).mono ?_; rintro e9 w5 ⟨r9, rfl, Y9, B9⟩; have NB_HR : Hid (NoB w5 w.heap.size) := NB_HR.out.heap (B9.block _ (range_lt HR.out.1 (Nat.succ_pos _))); have HR : Hid (Vr w5 w.heap.size (sv false 0 0 0 (.slice none 0 0))) := HR.out.below B9 (range_lt HR.out.1 (Nat.succ_pos _)); have NB_HS : Hid (NoB w5 w1.heap.size) := NB_HS.out.heap (B9.block _ (range_lt HS.out.1 (Nat.succ_pos _))); have HS : Hid (Vr w5 w1.heap.size (sv false 0 0 0 (.slice none 0 0))) := HS.out.below B9 (range_lt HS.out.1 (Nat.succ_pos _)); have HW : Hid (Byt w5 r9 ZZ) := Y9; have BB : Hid (Below w.heap.size w w5) := BB.out.trans (B9.mono BB.out.size); clear hs_0 hs_1 hs_2 hs_3 hs_4 c0; have hs_0 := HS.out.cell 0 _ rfl; have hs_1 := HS.out.cell 1 _ rfl; have hs_2 := HS.out.cell 2 _ rfl; have hs_3 := HS.out.cell 3 _ rfl; have hs_4 := HS.out.cell 4 _ rfl; have c0 : w5.cell? ⟨bb, off, none⟩ = some (.int .u8 x0) := HC.out w5 BB.out; clear B9 Y9; clear t5; have t6 : (1 : Nat) = 1 := rfl)
    | (have q4 := t4; go_at_call 34; refine (SR.out w3).mono ?_; rintro e9 w4 ⟨rfl, B9⟩; have NB_HR : Hid (NoB w4 w.heap.size) := NB_HR.out.heap (B9.block _ (range_lt HR.out.1 (Nat.succ_pos _))); have HR : Hid (Vr w4 w.heap.size (sv false 0 0 0 (.slice none 0 0))) := HR.out.below B9 (range_lt HR.out.1 (Nat.succ_pos _)); have NB_HS : Hid (NoB w4 w1.heap.size) := NB_HS.out.heap (B9.block _ (range_lt HS.out.1 (Nat.succ_pos _))); have HS : Hid (Vr w4 w1.heap.size (sv false 0 0 0 (.slice none 0 0))) := HS.out.below B9 (range_lt HS.out.1 (Nat.succ_pos _)); have BB : Hid (Below w.heap.size w w4) := BB.out.trans (B9.mono BB.out.size); clear hs_0 hs_1 hs_2 hs_3 hs_4 c0; have hs_0 := HS.out.cell 0 _ rfl; have hs_1 := HS.out.cell 1 _ rfl; have hs_2 := HS.out.cell 2 _ rfl; have hs_3 := HS.out.cell 3 _ rfl; have hs_4 := HS.out.cell 4 _ rfl; have c0 : w4.cell? ⟨bb, off, none⟩ = some (.int .u8 x0) := HC.out w4 BB.out; clear B9; clear t4; have t5 : (1 : Nat) = 1 := rfl)
    | (have q3 := t3; (with_reducible refine at_store ?_); refine store_lawC _ (sv false 0 0 0 (.slice none 0 0)) w1.heap.size 0 rfl rfl HS.out.2 rowy_rslot.2 (sv_one _ _ _ _ rfl) ?_; intro w3 E9 R9 T9 B9; have K9 : ∀ k, k ≠ w1.heap.size → w3.heap[k]? = w2.heap[k]? := (by rw [E9.out]; exact fun k hk => heap_cells _ _ _ _ k hk); have NB_HR : Hid (NoB w3 w.heap.size) := NB_HR.out.heap (K9 _ (Nat.ne_of_lt LT_HR_HS.out)); have HR : Hid (Vr w3 w.heap.size (sv false 0 0 0 (.slice none 0 0))) := HR.out.heap (K9 _ (Nat.ne_of_lt LT_HR_HS.out)); have NB_HS : Hid (NoB w3 w1.heap.size) := (by rw [E9.out]; exact NB_HS.out.set HS.out rfl (sv_nob _ _ _ _ _ _ _)); have HS : Hid (Vr w3 w1.heap.size (sv false 0 0 0 (.slice none 0 0))) := ⟨R9, T9⟩; have BB : Hid (Below w.heap.size w w3) := BB.out.trans (B9.mono LE_HS.out); clear c0; have hs_0 := HS.out.cell 0 _ rfl; have hs_1 := HS.out.cell 1 _ rfl; have hs_2 := HS.out.cell 2 _ rfl; have hs_3 := HS.out.cell 3 _ rfl; have hs_4 := HS.out.cell 4 _ rfl; have c0 : w3.cell? ⟨bb, off, none⟩ = some (.int .u8 x0) := HC.out w3 BB.out; clear E9 R9 T9 B9 K9; clear t3; have t4 : (1 : Nat) = 1 := rfl)
    | (have q2 := t2; (with_reducible refine at_alloc ?_); refine new_lawN _ (sv false 0 0 0 (.slice none 0 0)) zero_rslot (sv_nob _ _ _ _ _ _ _) ?_; intro w2 X9 N9 B9; have LT_HR_HS : Hid (w.heap.size < w1.heap.size) := range_lt HR.out.1 (Nat.succ_pos _); have LE_HS : Hid (w.heap.size ≤ w1.heap.size) := BB.out.size; have NB_HR : Hid (NoB w2 w.heap.size) := NB_HR.out.heap (B9.block _ (range_lt HR.out.1 (Nat.succ_pos _))); have HR : Hid (Vr w2 w.heap.size (sv false 0 0 0 (.slice none 0 0))) := HR.out.below B9 (range_lt HR.out.1 (Nat.succ_pos _)); have HS : Hid (Vr w2 w1.heap.size (sv false 0 0 0 (.slice none 0 0))) := X9; have NB_HS : Hid (NoB w2 w1.heap.size) := N9; have BB : Hid (Below w.heap.size w w2) := BB.out.trans (B9.mono BB.out.size); clear c0; have c0 : w2.cell? ⟨bb, off, none⟩ = some (.int .u8 x0) := HC.out w2 BB.out; clear X9 N9 B9; clear t2; have t3 : (1 : Nat) = 1 := rfl)
    | (have q1 := t1; refine build_law _ rfl 36 _ rfl (.agg (sv false 0 0 0 (.slice none 0 0)).toArray) (by kernel_rfl) ?_; clear t1; have t2 : (1 : Nat) = 1 := rfl)
    | (have q0 := t0; (with_reducible refine at_alloc ?_); refine new_lawN _ (sv false 0 0 0 (.slice none 0 0)) zero_rslot (sv_nob _ _ _ _ _ _ _) ?_; intro w1 X9 N9 B9; have LE_HR : Hid (w.heap.size ≤ w.heap.size) := Nat.le_refl _; have HR : Hid (Vr w1 w.heap.size (sv false 0 0 0 (.slice none 0 0))) := X9; have NB_HR : Hid (NoB w1 w.heap.size) := N9; have BB : Hid (Below w.heap.size w w1) := B9; have c0 : w1.cell? ⟨bb, off, none⟩ = some (.int .u8 x0) := HC.out w1 BB.out; clear X9 N9 B9; clear t0; have t1 : (1 : Nat) = 1 := rfl))
  exact bodyPost_ret (v := .tuple #[.agg (sv false 0 0 0 (.slice none 0 0)).toArray, .bool true]) (results_cv rfl _ _ w.heap.size _ _ rowy_rslot rfl rfl HR.out.1) rfl ⟨rfl, BB.out⟩

set_option maxHeartbeats 8000000 in
theorem rread_notz (v : Value) (xs : List Int) (w : World) (hb : Byt w v xs) (hl : xs.length = 128) (h0 : gb xs 0 ≠ 1) (hd : decide (List.replicate 128 0 = xs) = false) :
    Calls Tryd.prog 45 #[v] w fun x w' => x = .returned (.tuple #[.agg (sv false 0 0 0 (.slice none 0 0)).toArray, .bool false]) ∧ Below w.heap.size w w' := by
  obtain ⟨ZZ, hZ⟩ : ∃ z : List Int, List.replicate 128 0 = z := ⟨_, rfl⟩
  rw [hZ] at hd
  have HD : Hid (decide (ZZ = xs) = false) := hd
  have SR : Hid (∀ w0, Calls Tryd.prog 34 #[.agg (sv false 0 0 0 (.slice none 0 0)).toArray] w0 fun x w' => x = .returned (.bool true) ∧ Below w0.heap.size w0 w') := fun w0 => rright_yes false 0 0 0 _ [] w0 (Byt.nil w0) ⟨rfl, rfl, rfl, rfl⟩
  have SB : Hid (∀ w0, Calls Tryd.prog 41 #[.agg (sv false 0 0 0 (.slice none 0 0)).toArray] w0 fun x w' => ∃ r, x = .returned r ∧ Byt w' r ZZ ∧ Below w0.heap.size w0 w') := fun w0 => by
    rw [← hZ]
    exact rbytes_free 0 0 0 _ w0
  have HB : Hid (Byt w v xs) := hb
  have HL : Hid (xs.length = 128) := hl
  obtain ⟨ao, bc, e1, h1, h2, h3, h4, h5⟩ := hb
  rw [hl] at e1 h5
  obtain ⟨bb, off, rfl, hc⟩ := h5 (by omega)
  subst e1
  have HC : Hid (∀ w', Below w.heap.size w w' → w'.cell? ⟨bb, off, none⟩ = some (.int .u8 (gb xs 0))) := fun w' q => (by have z := hc 0 (by omega); rw [Nat.add_zero] at z; rw [q.cell (World.block_lt_of_cell? w _ z)]; exact z)
  have b0 : (gb xs 0 == 1) = false := beq_eq_false_iff_ne.2 h0
  generalize gb xs 0 = x0 at HC b0
  clear hl h0 hd hZ h1 h2 h3 h4 h5 hc
  have t0 : (0 : Nat) = 0 := rfl
  go_enter Tryd.func45, Tryd.ntmps45
  go_wp2_with (first
    | (have q8 := t8; (with_reducible refine at_store ?_); refine store_lawC _ (sv false 0 0 0 (.slice none 0 0)) w.heap.size 0 rfl rfl HR.out.2 rowy_rslot.2 (sv_one _ _ _ _ rfl) ?_; intro w7 E9 R9 T9 B9; have K9 : ∀ k, k ≠ w.heap.size → w7.heap[k]? = w6.heap[k]? := (by rw [E9.out]; exact fun k hk => heap_cells _ _ _ _ k hk); have NB_HS : Hid (NoB w7 w1.heap.size) := NB_HS.out.heap (K9 _ (Nat.ne_of_gt LT_HR_HS.out)); have HS : Hid (Vr w7 w1.heap.size (sv false 0 0 0 (.slice none 0 0))) := HS.out.heap (K9 _ (Nat.ne_of_gt LT_HR_HS.out)); have HW : Hid (Byt w7 r9 ZZ) := byt_nob HW.out NB_HR.out K9; have NB_HR : Hid (NoB w7 w.heap.size) := (by rw [E9.out]; exact NB_HR.out.set HR.out rfl (sv_nob _ _ _ _ _ _ _)); have HR : Hid (Vr w7 w.heap.size (sv false 0 0 0 (.slice none 0 0))) := ⟨R9, T9⟩; have BB : Hid (Below w.heap.size w w7) := BB.out.trans (B9.mono LE_HR.out); clear hs_0 hs_1 hs_2 hs_3 hs_4 c0; have hs_0 := HS.out.cell 0 _ rfl; have hs_1 := HS.out.cell 1 _ rfl; have hs_2 := HS.out.cell 2 _ rfl; have hs_3 := HS.out.cell 3 _ rfl; have hs_4 := HS.out.cell 4 _ rfl; have c0 : w7.cell? ⟨bb, off, none⟩ = some (.int .u8 x0) := HC.out w7 BB.out; clear E9 R9 T9 B9 K9; clear t8; have t9 : (1 : Nat) = 1 := rfl)
    | (have q7 := t7; refine build_law _ rfl 36 _ rfl (.agg (sv false 0 0 0 (.slice none 0 0)).toArray) (by kernel_rfl) ?_; clear t7; have t8 : (1 : Nat) = 1 := rfl)
    | (have q6 := t6; go_at_call 18; refine (same_b w5 _ _ ZZ xs HW.out (HB.out.below BB.out) false HD.out).mono ?_; rintro e9 w6 ⟨rfl, B9⟩; have NB_HR : Hid (NoB w6 w.heap.size) := NB_HR.out.heap (B9.block _ (range_lt HR.out.1 (Nat.succ_pos _))); have HR : Hid (Vr w6 w.heap.size (sv false 0 0 0 (.slice none 0 0))) := HR.out.below B9 (range_lt HR.out.1 (Nat.succ_pos _)); have NB_HS : Hid (NoB w6 w1.heap.size) := NB_HS.out.heap (B9.block _ (range_lt HS.out.1 (Nat.succ_pos _))); have HS : Hid (Vr w6 w1.heap.size (sv false 0 0 0 (.slice none 0 0))) := HS.out.below B9 (range_lt HS.out.1 (Nat.succ_pos _)); have HW : Hid (Byt w6 r9 ZZ) := HW.out.below B9; have BB : Hid (Below w.heap.size w w6) := BB.out.trans (B9.mono BB.out.size); clear hs_0 hs_1 hs_2 hs_3 hs_4 c0; have hs_0 := HS.out.cell 0 _ rfl; have hs_1 := HS.out.cell 1 _ rfl; have hs_2 := HS.out.cell 2 _ rfl; have hs_3 := HS.out.cell 3 _ rfl; have hs_4 := HS.out.cell 4 _ rfl; have c0 : w6.cell? ⟨bb, off, none⟩ = some (.int .u8 x0) := HC.out w6 BB.out; clear B9; clear t6; have t7 : (1 : Nat) = 1 := rfl)
    | (have q5 := t5; go_at_call 41; refine (SB.out w4).mono ?_; rintro e9 w5 ⟨r9, rfl, Y9, B9⟩; have NB_HR : Hid (NoB w5 w.heap.size) := NB_HR.out.heap (B9.block _ (range_lt HR.out.1 (Nat.succ_pos _))); have HR : Hid (Vr w5 w.heap.size (sv false 0 0 0 (.slice none 0 0))) := HR.out.below B9 (range_lt HR.out.1 (Nat.succ_pos _)); have NB_HS : Hid (NoB w5 w1.heap.size) := NB_HS.out.heap (B9.block _ (range_lt HS.out.1 (Nat.succ_pos _))); have HS : Hid (Vr w5 w1.heap.size (sv false 0 0 0 (.slice none 0 0))) := HS.out.below B9 (range_lt HS.out.1 (Nat.succ_pos _)); have HW : Hid (Byt w5 r9 ZZ) := Y9; have BB : Hid (Below w.heap.size w w5) := BB.out.trans (B9.mono BB.out.size); clear hs_0 hs_1 hs_2 hs_3 hs_4 c0; have hs_0 := HS.out.cell 0 _ rfl; have hs_1 := HS.out.cell 1 _ rfl; have hs_2 := HS.out.cell 2 _ rfl; have hs_3 := HS.out.cell 3 _ rfl; have hs_4 := HS.out.cell 4 _ rfl; have c0 : w5.cell? ⟨bb, off, none⟩ = some (.int .u8 x0) := HC.out w5 BB.out; clear B9 Y9; clear t5; have t6 : (1 : Nat) = 1 := rfl)
    | (have q4 := t4; go_at_call 34; refine (SR.out w3).mono ?_; rintro e9 w4 ⟨rfl, B9⟩; have NB_HR : Hid (NoB w4 w.heap.size) := NB_HR.out.heap (B9.block _ (range_lt HR.out.1 (Nat.succ_pos _))); have HR : Hid (Vr w4 w.heap.size (sv false 0 0 0 (.slice none 0 0))) := HR.out.below B9 (range_lt HR.out.1 (Nat.succ_pos _)); have NB_HS : Hid (NoB w4 w1.heap.size) := NB_HS.out.heap (B9.block _ (range_lt HS.out.1 (Nat.succ_pos _))); have HS : Hid (Vr w4 w1.heap.size (sv false 0 0 0 (.slice none 0 0))) := HS.out.below B9 (range_lt HS.out.1 (Nat.succ_pos _)); have BB : Hid (Below w.heap.size w w4) := BB.out.trans (B9.mono BB.out.size); clear hs_0 hs_1 hs_2 hs_3 hs_4 c0; have hs_0 := HS.out.cell 0 _ rfl; have hs_1 := HS.out.cell 1 _ rfl; have hs_2 := HS.out.cell 2 _ rfl; have hs_3 := HS.out.cell 3 _ rfl; have hs_4 := HS.out.cell 4 _ rfl; have c0 : w4.cell? ⟨bb, off, none⟩ = some (.int .u8 x0) := HC.out w4 BB.out; clear B9; clear t4; have t5 : (1 : Nat) = 1 := rfl)
    | (have q3 := t3; (with_reducible refine at_store ?_); refine store_lawC _ (sv false 0 0 0 (.slice none 0 0)) w1.heap.size 0 rfl rfl HS.out.2 rowy_rslot.2 (sv_one _ _ _ _ rfl) ?_; intro w3 E9 R9 T9 B9; have K9 : ∀ k, k ≠ w1.heap.size → w3.heap[k]? = w2.heap[k]? := (by rw [E9.out]; exact fun k hk => heap_cells _ _ _ _ k hk); have NB_HR : Hid (NoB w3 w.heap.size) := NB_HR.out.heap (K9 _ (Nat.ne_of_lt LT_HR_HS.out)); have HR : Hid (Vr w3 w.heap.size (sv false 0 0 0 (.slice none 0 0))) := HR.out.heap (K9 _ (Nat.ne_of_lt LT_HR_HS.out)); have NB_HS : Hid (NoB w3 w1.heap.size) := (by rw [E9.out]; exact NB_HS.out.set HS.out rfl (sv_nob _ _ _ _ _ _ _)); have HS : Hid (Vr w3 w1.heap.size (sv false 0 0 0 (.slice none 0 0))) := ⟨R9, T9⟩; have BB : Hid (Below w.heap.size w w3) := BB.out.trans (B9.mono LE_HS.out); clear c0; have hs_0 := HS.out.cell 0 _ rfl; have hs_1 := HS.out.cell 1 _ rfl; have hs_2 := HS.out.cell 2 _ rfl; have hs_3 := HS.out.cell 3 _ rfl; have hs_4 := HS.out.cell 4 _ rfl; have c0 : w3.cell? ⟨bb, off, none⟩ = some (.int .u8 x0) := HC.out w3 BB.out; clear E9 R9 T9 B9 K9; clear t3; have t4 : (1 : Nat) = 1 := rfl)
    | (have q2 := t2; (with_reducible refine at_alloc ?_); refine new_lawN _ (sv false 0 0 0 (.slice none 0 0)) zero_rslot (sv_nob _ _ _ _ _ _ _) ?_; intro w2 X9 N9 B9; have LT_HR_HS : Hid (w.heap.size < w1.heap.size) := range_lt HR.out.1 (Nat.succ_pos _); have LE_HS : Hid (w.heap.size ≤ w1.heap.size) := BB.out.size; have NB_HR : Hid (NoB w2 w.heap.size) := NB_HR.out.heap (B9.block _ (range_lt HR.out.1 (Nat.succ_pos _))); have HR : Hid (Vr w2 w.heap.size (sv false 0 0 0 (.slice none 0 0))) := HR.out.below B9 (range_lt HR.out.1 (Nat.succ_pos _)); have HS : Hid (Vr w2 w1.heap.size (sv false 0 0 0 (.slice none 0 0))) := X9; have NB_HS : Hid (NoB w2 w1.heap.size) := N9; have BB : Hid (Below w.heap.size w w2) := BB.out.trans (B9.mono BB.out.size); clear c0; have c0 : w2.cell? ⟨bb, off, none⟩ = some (.int .u8 x0) := HC.out w2 BB.out; clear X9 N9 B9; clear t2; have t3 : (1 : Nat) = 1 := rfl)
    | (have q1 := t1; refine build_law _ rfl 36 _ rfl (.agg (sv false 0 0 0 (.slice none 0 0)).toArray) (by kernel_rfl) ?_; clear t1; have t2 : (1 : Nat) = 1 := rfl)
    | (have q0 := t0; (with_reducible refine at_alloc ?_); refine new_lawN _ (sv false 0 0 0 (.slice none 0 0)) zero_rslot (sv_nob _ _ _ _ _ _ _) ?_; intro w1 X9 N9 B9; have LE_HR : Hid (w.heap.size ≤ w.heap.size) := Nat.le_refl _; have HR : Hid (Vr w1 w.heap.size (sv false 0 0 0 (.slice none 0 0))) := X9; have NB_HR : Hid (NoB w1 w.heap.size) := N9; have BB : Hid (Below w.heap.size w w1) := B9; have c0 : w1.cell? ⟨bb, off, none⟩ = some (.int .u8 x0) := HC.out w1 BB.out; clear X9 N9 B9; clear t0; have t1 : (1 : Nat) = 1 := rfl))
  exact bodyPost_ret (v := .tuple #[.agg (sv false 0 0 0 (.slice none 0 0)).toArray, .bool false]) (results_cv rfl _ _ w.heap.size _ _ rowy_rslot rfl rfl HR.out.1) rfl ⟨rfl, BB.out⟩

set_option maxHeartbeats 8000000 in
theorem rread_range (v : Value) (xs : List Int) (w : World) (hb : Byt w v xs) (hl : xs.length = 128) (h0 : gb xs 0 = 1) (hr : ¬ (1 ≤ gn xs ∧ gn xs ≤ 65535)) :
    Calls Tryd.prog 45 #[v] w fun x w' => x = .returned (.tuple #[.agg (sv false 0 0 0 (.slice none 0 0)).toArray, .bool false]) ∧ Below w.heap.size w w' := by
  have gs := g_sb hl hb.all
  have bl := (be_num4 (xs := sub xs 4 8) (by rw [sub_len _ _ _ (by omega)]) (allB_sub hb.all 4 8)).2
  have WN : Hid (IntKind.i64.wrap (gn xs) = gn xs) := wrap_small bl
  have N2 : Hid (num (last8 (sub xs 4 8)) = gn xs) := rfl
  have N3 : Hid (num (last8 (sub xs 8 16)) = ge' xs) := rfl
  have N4 : Hid (num (last8 (sub xs 16 24)) = gt' xs) := rfl
  have hq : Byt w (sl v 24 128) (gw xs) := sl_sub hb 24 128 (by omega) (by omega)
  obtain ⟨so, sc, he⟩ := byt_form hq gs.2.1
  rw [he] at hq
  have HQ : Hid (Byt w (.slice so 104 sc) (gw xs)) := hq
  have HB : Hid (Byt w v xs) := hb
  have HL : Hid (xs.length = 128) := hl
  obtain ⟨ao, bc, e1, h1, h2, h3, h4, h5⟩ := hb
  rw [hl] at e1 h5
  obtain ⟨bb, off, rfl, hc⟩ := h5 (by omega)
  subst e1
  have HC : Hid (∀ w', Below w.heap.size w w' → w'.cell? ⟨bb, off, none⟩ = some (.int .u8 (gb xs 0))) := fun w' q => (by have z := hc 0 (by omega); rw [Nat.add_zero] at z; rw [q.cell (World.block_lt_of_cell? w _ z)]; exact z)
  have HE : Hid (sl (.slice (some ⟨bb, off, none⟩) 128 bc) 24 128 = .slice so 104 sc) := he
  have b0 : (gb xs 0 == 1) = true := beq_iff_eq.2 h0
  have SR : Hid (∀ w0, Below w.heap.size w w0 → Calls Tryd.prog 34 #[.agg (sv true (gn xs) (ge' xs) (gt' xs) (.slice so 104 sc)).toArray] w0 fun x w' => x = .returned (.bool false) ∧ Below w0.heap.size w0 w') := fun w0 q => rright_no true _ _ _ _ _ w0 (HQ.out.below q) fun z => hr ⟨z.1, z.2.1⟩
  generalize gb xs 0 = x0 at HC b0
  generalize gn xs = a at WN N2 SR
  generalize ge' xs = b at N3 SR
  generalize gt' xs = c at N4 SR
  clear hl h0 h1 h2 h3 h4 h5 hc he hq gs bl hr
  have t0 : (0 : Nat) = 0 := rfl
  go_enter Tryd.func45, Tryd.ntmps45
  go_wp2_with (first
    | (have q3 := t3; (with_reducible refine at_store ?_); refine store_lawC _ (sv false 0 0 0 (.slice none 0 0)) w1.heap.size 0 rfl rfl HS.out.2 rowy_rslot.2 (sv_one _ _ _ _ rfl) ?_; intro w3 E9 R9 T9 B9; have K9 : ∀ k, k ≠ w1.heap.size → w3.heap[k]? = w2.heap[k]? := (by rw [E9.out]; exact fun k hk => heap_cells _ _ _ _ k hk); have NB_HR : Hid (NoB w3 w.heap.size) := NB_HR.out.heap (K9 _ (Nat.ne_of_lt LT_HR_HS.out)); have HR : Hid (Vr w3 w.heap.size (sv false 0 0 0 (.slice none 0 0))) := HR.out.heap (K9 _ (Nat.ne_of_lt LT_HR_HS.out)); have NB_HS : Hid (NoB w3 w1.heap.size) := (by rw [E9.out]; exact NB_HS.out.set HS.out rfl (sv_nob _ _ _ _ _ _ _)); have HS : Hid (Vr w3 w1.heap.size (sv false 0 0 0 (.slice none 0 0))) := ⟨R9, T9⟩; have BB : Hid (Below w.heap.size w w3) := BB.out.trans (B9.mono LE_HS.out); clear c0; have hs_0 := HS.out.cell 0 _ rfl; have hs_1 := HS.out.cell 1 _ rfl; have hs_2 := HS.out.cell 2 _ rfl; have hs_3 := HS.out.cell 3 _ rfl; have hs_4 := HS.out.cell 4 _ rfl; have c0 : w3.cell? ⟨bb, off, none⟩ = some (.int .u8 x0) := HC.out w3 BB.out; clear E9 R9 T9 B9 K9; clear t3; have t4 : (1 : Nat) = 1 := rfl)
    | (have q2 := t2; (with_reducible refine at_alloc ?_); refine new_lawN _ (sv false 0 0 0 (.slice none 0 0)) zero_rslot (sv_nob _ _ _ _ _ _ _) ?_; intro w2 X9 N9 B9; have LT_HR_HS : Hid (w.heap.size < w1.heap.size) := range_lt HR.out.1 (Nat.succ_pos _); have LE_HS : Hid (w.heap.size ≤ w1.heap.size) := BB.out.size; have NB_HR : Hid (NoB w2 w.heap.size) := NB_HR.out.heap (B9.block _ (range_lt HR.out.1 (Nat.succ_pos _))); have HR : Hid (Vr w2 w.heap.size (sv false 0 0 0 (.slice none 0 0))) := HR.out.below B9 (range_lt HR.out.1 (Nat.succ_pos _)); have HS : Hid (Vr w2 w1.heap.size (sv false 0 0 0 (.slice none 0 0))) := X9; have NB_HS : Hid (NoB w2 w1.heap.size) := N9; have BB : Hid (Below w.heap.size w w2) := BB.out.trans (B9.mono BB.out.size); clear c0; have c0 : w2.cell? ⟨bb, off, none⟩ = some (.int .u8 x0) := HC.out w2 BB.out; clear X9 N9 B9; clear t2; have t3 : (1 : Nat) = 1 := rfl)
    | (have q1 := t1; refine build_law _ rfl 36 _ rfl (.agg (sv false 0 0 0 (.slice none 0 0)).toArray) (by kernel_rfl) ?_; clear t1; have t2 : (1 : Nat) = 1 := rfl)
    | (have q0 := t0; (with_reducible refine at_alloc ?_); refine new_lawN _ (sv false 0 0 0 (.slice none 0 0)) zero_rslot (sv_nob _ _ _ _ _ _ _) ?_; intro w1 X9 N9 B9; have LE_HR : Hid (w.heap.size ≤ w.heap.size) := Nat.le_refl _; have HR : Hid (Vr w1 w.heap.size (sv false 0 0 0 (.slice none 0 0))) := X9; have NB_HR : Hid (NoB w1 w.heap.size) := N9; have BB : Hid (Below w.heap.size w w1) := B9; have c0 : w1.cell? ⟨bb, off, none⟩ = some (.int .u8 x0) := HC.out w1 BB.out; clear X9 N9 B9; clear t0; have t1 : (1 : Nat) = 1 := rfl))
  clear hs_0 hs_1 hs_2 hs_3 hs_4 c0
  have HS : Hid (Vr w3.drew w1.heap.size (sv false 0 0 0 (.slice none 0 0))) := HS.out.drewN 1
  have NB_HS : Hid (NoB w3.drew w1.heap.size) := NB_HS.out.heap rfl
  have HR : Hid (Vr w3.drew w.heap.size (sv false 0 0 0 (.slice none 0 0))) := HR.out.drewN 1
  have NB_HR : Hid (NoB w3.drew w.heap.size) := NB_HR.out.heap rfl
  refine wp_region_held_drew (S := fun w' => Below w.heap.size w w') (by kernel_rfl) BB.out.drew (fun hS => ?_)
  obtain ⟨x1, hx0⟩ : ∃ x, x = w3.drew := ⟨_, rfl⟩
  rw [← hx0] at hS HS NB_HS HR NB_HR ⊢
  clear hx0
  refine take_lawH 0 (some 10) (.slice (some ⟨bb, off, none⟩) 128 bc) rfl rfl (by kernel_rfl) (by kernel_rfl) (by kernel_rfl) (fun _ _ _ h => h) (Or.inl ⟨by rfl, fun w' hw' => by rfl⟩) hS ?_
  simp only [Act.put, List.setIfInBounds_toArray, List.set_cons_zero, List.set_cons_succ]
  refine take_lawH 1 (some 11) (sl (.slice (some ⟨bb, off, none⟩) 128 bc) 4 8) rfl rfl (by kernel_rfl) (by kernel_rfl) (by kernel_rfl) (fun _ _ _ h => h) (Or.inl ⟨by rfl, fun w' hw' => by exact exec_part (.tmp 10) (.const (.int .i64 4)) (.const (.int .i64 8)) rfl _ xs _ HB.out 4 8 rfl rfl rfl (by omega) (by have := HL.out; omega) _⟩) hS ?_
  simp only [Act.put, List.setIfInBounds_toArray, List.set_cons_zero, List.set_cons_succ]
  refine take_lawH 4 (some 14) (.slice (some ⟨bb, off, none⟩) 128 bc) rfl rfl (by kernel_rfl) (by kernel_rfl) (by kernel_rfl) (fun _ _ _ h => h) (Or.inl ⟨by rfl, fun w' hw' => by rfl⟩) hS ?_
  simp only [Act.put, List.setIfInBounds_toArray, List.set_cons_zero, List.set_cons_succ]
  refine take_lawH 5 (some 15) (sl (.slice (some ⟨bb, off, none⟩) 128 bc) 8 16) rfl rfl (by kernel_rfl) (by kernel_rfl) (by kernel_rfl) (fun _ _ _ h => h) (Or.inl ⟨by rfl, fun w' hw' => by exact exec_part (.tmp 14) (.const (.int .i64 8)) (.const (.int .i64 16)) rfl _ xs _ HB.out 8 16 rfl rfl rfl (by omega) (by have := HL.out; omega) _⟩) hS ?_
  simp only [Act.put, List.setIfInBounds_toArray, List.set_cons_zero, List.set_cons_succ]
  refine take_lawH 7 (some 17) (.slice (some ⟨bb, off, none⟩) 128 bc) rfl rfl (by kernel_rfl) (by kernel_rfl) (by kernel_rfl) (fun _ _ _ h => h) (Or.inl ⟨by rfl, fun w' hw' => by rfl⟩) hS ?_
  simp only [Act.put, List.setIfInBounds_toArray, List.set_cons_zero, List.set_cons_succ]
  refine take_lawH 8 (some 18) (sl (.slice (some ⟨bb, off, none⟩) 128 bc) 16 24) rfl rfl (by kernel_rfl) (by kernel_rfl) (by kernel_rfl) (fun _ _ _ h => h) (Or.inl ⟨by rfl, fun w' hw' => by exact exec_part (.tmp 17) (.const (.int .i64 16)) (.const (.int .i64 24)) rfl _ xs _ HB.out 16 24 rfl rfl rfl (by omega) (by have := HL.out; omega) _⟩) hS ?_
  simp only [Act.put, List.setIfInBounds_toArray, List.set_cons_zero, List.set_cons_succ]
  refine take_lawH 10 (some 20) (.slice (some ⟨bb, off, none⟩) 128 bc) rfl rfl (by kernel_rfl) (by kernel_rfl) (by kernel_rfl) (fun _ _ _ h => h) (Or.inl ⟨by rfl, fun w' hw' => by rfl⟩) hS ?_
  simp only [Act.put, List.setIfInBounds_toArray, List.set_cons_zero, List.set_cons_succ]
  refine take_lawH 11 (some 21) (.slice so 104 sc) rfl rfl (by kernel_rfl) (by kernel_rfl) (by kernel_rfl) (fun _ _ _ h => h) (Or.inl ⟨by rfl, fun w' hw' => by rw [← HE.out]; exact exec_part (.tmp 20) (.const (.int .i64 24)) (.const (.int .i64 128)) rfl _ xs _ HB.out 24 128 rfl rfl rfl (by omega) (by have := HL.out; omega) _⟩) hS ?_
  simp only [Act.put, List.setIfInBounds_toArray, List.set_cons_zero, List.set_cons_succ]
  refine wpAnyH_ready (rs := [2]) (by kernel_rfl) (by simp) ?_
  refine AllReadyH.cons rfl (fun K hK => ?_) AllReadyH.nil
  refine he.step_callW _ (by rfl) (some 12) rfl 44 #[.tmp 11] #[23] rfl (fun q w' => by rfl) #[sl (.slice (some ⟨bb, off, none⟩) 128 bc) 4 8] (by simp only [List.map_toArray, List.map_cons, List.map_nil]; rfl) (fun z9 w' => z9 = .int .u64 a ∧ Below x1.heap.size x1 w') ?_ ?_
  · exact (rnum_any _ _ x1 (sl_sub (HB.out.below hS) 4 8 (by omega) (by have := HL.out; omega)) (by rw [sub_len _ _ _ (by have := HL.out; omega)]; omega)).mono fun e w' ⟨h1, h2⟩ => ⟨_, h1, (by rw [N2.out]), h2⟩
  rintro _ x2 ⟨rfl, hb⟩
  have HS9 := HS
  have HR9 := HR
  have HS : Hid (Vr x2 w1.heap.size (sv false 0 0 0 (.slice none 0 0))) := HS.out.below hb (range_lt HS.out.1 (Nat.succ_pos _))
  have NB_HS : Hid (NoB x2 w1.heap.size) := NB_HS.out.heap (hb.block _ (range_lt HS9.out.1 (Nat.succ_pos _)))
  have HR : Hid (Vr x2 w.heap.size (sv false 0 0 0 (.slice none 0 0))) := HR.out.below hb (range_lt HR.out.1 (Nat.succ_pos _))
  have NB_HR : Hid (NoB x2 w.heap.size) := NB_HR.out.heap (hb.block _ (range_lt HR9.out.1 (Nat.succ_pos _)))
  have hS : Below w.heap.size w x2 := hS.trans (hb.mono hS.size)
  clear hb HS9 HR9
  refine hK.out _ _ hS (fun _ => ?_)
  simp only [Act.put, List.setIfInBounds_toArray, List.set_cons_zero, List.set_cons_succ]
  clear hK K
  refine take_lawH 3 (some 13) (.int .i64 a) rfl rfl (by kernel_rfl) (by kernel_rfl) (by kernel_rfl) (fun _ _ _ h => h) (Or.inl ⟨by rfl, fun w' hw' => by exact exec_conv (.tmp 12) rfl a rfl WN.out _⟩) hS ?_
  simp only [Act.put, List.setIfInBounds_toArray, List.set_cons_zero, List.set_cons_succ]
  refine wpAnyH_ready (rs := [6]) (by kernel_rfl) (by simp) ?_
  refine AllReadyH.cons rfl (fun K hK => ?_) AllReadyH.nil
  refine he.step_callW _ (by rfl) (some 16) rfl 44 #[.tmp 15] #[23] rfl (fun q w' => by rfl) #[sl (.slice (some ⟨bb, off, none⟩) 128 bc) 8 16] (by simp only [List.map_toArray, List.map_cons, List.map_nil]; rfl) (fun z9 w' => z9 = .int .u64 b ∧ Below x2.heap.size x2 w') ?_ ?_
  · exact (rnum_any _ _ x2 (sl_sub (HB.out.below hS) 8 16 (by omega) (by have := HL.out; omega)) (by rw [sub_len _ _ _ (by have := HL.out; omega)]; omega)).mono fun e w' ⟨h1, h2⟩ => ⟨_, h1, (by rw [N3.out]), h2⟩
  rintro _ x3 ⟨rfl, hb⟩
  have HS9 := HS
  have HR9 := HR
  have HS : Hid (Vr x3 w1.heap.size (sv false 0 0 0 (.slice none 0 0))) := HS.out.below hb (range_lt HS.out.1 (Nat.succ_pos _))
  have NB_HS : Hid (NoB x3 w1.heap.size) := NB_HS.out.heap (hb.block _ (range_lt HS9.out.1 (Nat.succ_pos _)))
  have HR : Hid (Vr x3 w.heap.size (sv false 0 0 0 (.slice none 0 0))) := HR.out.below hb (range_lt HR.out.1 (Nat.succ_pos _))
  have NB_HR : Hid (NoB x3 w.heap.size) := NB_HR.out.heap (hb.block _ (range_lt HR9.out.1 (Nat.succ_pos _)))
  have hS : Below w.heap.size w x3 := hS.trans (hb.mono hS.size)
  clear hb HS9 HR9
  refine hK.out _ _ hS (fun _ => ?_)
  simp only [Act.put, List.setIfInBounds_toArray, List.set_cons_zero, List.set_cons_succ]
  clear hK K
  refine wpAnyH_ready (rs := [9]) (by kernel_rfl) (by simp) ?_
  refine AllReadyH.cons rfl (fun K hK => ?_) AllReadyH.nil
  refine he.step_callW _ (by rfl) (some 19) rfl 44 #[.tmp 18] #[23] rfl (fun q w' => by rfl) #[sl (.slice (some ⟨bb, off, none⟩) 128 bc) 16 24] (by simp only [List.map_toArray, List.map_cons, List.map_nil]; rfl) (fun z9 w' => z9 = .int .u64 c ∧ Below x3.heap.size x3 w') ?_ ?_
  · exact (rnum_any _ _ x3 (sl_sub (HB.out.below hS) 16 24 (by omega) (by have := HL.out; omega)) (by rw [sub_len _ _ _ (by have := HL.out; omega)]; omega)).mono fun e w' ⟨h1, h2⟩ => ⟨_, h1, (by rw [N4.out]), h2⟩
  rintro _ x4 ⟨rfl, hb⟩
  have HS9 := HS
  have HR9 := HR
  have HS : Hid (Vr x4 w1.heap.size (sv false 0 0 0 (.slice none 0 0))) := HS.out.below hb (range_lt HS.out.1 (Nat.succ_pos _))
  have NB_HS : Hid (NoB x4 w1.heap.size) := NB_HS.out.heap (hb.block _ (range_lt HS9.out.1 (Nat.succ_pos _)))
  have HR : Hid (Vr x4 w.heap.size (sv false 0 0 0 (.slice none 0 0))) := HR.out.below hb (range_lt HR.out.1 (Nat.succ_pos _))
  have NB_HR : Hid (NoB x4 w.heap.size) := NB_HR.out.heap (hb.block _ (range_lt HR9.out.1 (Nat.succ_pos _)))
  have hS : Below w.heap.size w x4 := hS.trans (hb.mono hS.size)
  clear hb HS9 HR9
  refine hK.out _ _ hS (fun _ => ?_)
  simp only [Act.put, List.setIfInBounds_toArray, List.set_cons_zero, List.set_cons_succ]
  clear hK K
  refine take_lawH 12 (some 22) (.agg (sv true a b c (.slice so 104 sc)).toArray) rfl rfl (by kernel_rfl) (by kernel_rfl) (by kernel_rfl) (fun _ _ _ h => h) (Or.inl ⟨by rfl, fun w' hw' => by exact exec_build 36 _ rfl _ _ (by kernel_rfl)⟩) hS ?_
  simp only [Act.put, List.setIfInBounds_toArray, List.set_cons_zero, List.set_cons_succ]
  refine wpAnyH_ready (rs := [13]) (by kernel_rfl) (by simp) ?_
  refine AllReadyH.cons rfl (fun K hK => ?_) AllReadyH.nil
  have NBo := NB_HS
  refine step_storeK _ rfl none rfl (.tmp 4) (.tmp 22) 36 rfl w1.heap.size (sv false 0 0 0 (.slice none 0 0)) (sv true a b c (.slice so 104 sc)) rfl rfl HS.out rfl rowy_rslot.2 (sv_one _ _ _ _ rfl) ?_
  intro x5 v9 B9 E9
  have HS : Hid (Vr x5 w1.heap.size (sv true a b c (.slice so 104 sc))) := v9
  have HR : Hid (Vr x5 w.heap.size (sv false 0 0 0 (.slice none 0 0))) := HR.out.heap (E9 _ (Nat.ne_of_lt LT_HR_HS.out))
  have NB_HR : Hid (NoB x5 w.heap.size) := NB_HR.out.heap (E9 _ (Nat.ne_of_lt LT_HR_HS.out))
  have hS : Below w.heap.size w x5 := hS.trans (B9.mono LE_HS.out)
  clear v9 B9 E9 NBo
  refine hK.out _ _ hS (fun _ => ?_)
  simp only [Act.put]
  clear hK K
  refine wpAnyH_done (by kernel_rfl) ?_ _
  have BB : Hid (Below w.heap.size w x5) := hS
  clear hS
  have hs_0 := HS.out.cell 0 _ rfl
  have hs_1 := HS.out.cell 1 _ rfl
  have hs_2 := HS.out.cell 2 _ rfl
  have hs_3 := HS.out.cell 3 _ rfl
  have hs_4 := HS.out.cell 4 _ rfl
  have t50 : (1 : Nat) = 1 := rfl
  go_wp2_with (first
    | (have q52 := t52; (with_reducible refine at_store ?_); refine store_lawC _ (sv false 0 0 0 (.slice none 0 0)) w.heap.size 0 rfl rfl HR.out.2 rowy_rslot.2 (sv_one _ _ _ _ rfl) ?_; intro w92 E9 R9 T9 B9; have K9 : ∀ k, k ≠ w.heap.size → w92.heap[k]? = w91.heap[k]? := (by rw [E9.out]; exact fun k hk => heap_cells _ _ _ _ k hk); have HS : Hid (Vr w92 w1.heap.size (sv true a b c (.slice so 104 sc))) := HS.out.heap (K9 _ (Nat.ne_of_gt LT_HR_HS.out)); have NB_HR : Hid (NoB w92 w.heap.size) := (by rw [E9.out]; exact NB_HR.out.set HR.out rfl (sv_nob _ _ _ _ _ _ _)); have HR : Hid (Vr w92 w.heap.size (sv false 0 0 0 (.slice none 0 0))) := ⟨R9, T9⟩; have BB : Hid (Below w.heap.size w w92) := BB.out.trans (B9.mono LE_HR.out); clear hs_0 hs_1 hs_2 hs_3 hs_4; have hs_0 := HS.out.cell 0 _ rfl; have hs_1 := HS.out.cell 1 _ rfl; have hs_2 := HS.out.cell 2 _ rfl; have hs_3 := HS.out.cell 3 _ rfl; have hs_4 := HS.out.cell 4 _ rfl; clear E9 R9 T9 B9 K9; clear t52; have t53 : (1 : Nat) = 1 := rfl)
    | (have q51 := t51; refine build_law _ rfl 36 _ rfl (.agg (sv false 0 0 0 (.slice none 0 0)).toArray) (by kernel_rfl) ?_; clear t51; have t52 : (1 : Nat) = 1 := rfl)
    | (have q50 := t50; go_at_call 34; refine (SR.out x5 BB.out).mono ?_; rintro e9 w91 ⟨rfl, B9⟩; have NB_HR : Hid (NoB w91 w.heap.size) := NB_HR.out.heap (B9.block _ (range_lt HR.out.1 (Nat.succ_pos _))); have HR : Hid (Vr w91 w.heap.size (sv false 0 0 0 (.slice none 0 0))) := HR.out.below B9 (range_lt HR.out.1 (Nat.succ_pos _)); have HS : Hid (Vr w91 w1.heap.size (sv true a b c (.slice so 104 sc))) := HS.out.below B9 (range_lt HS.out.1 (Nat.succ_pos _)); have BB : Hid (Below w.heap.size w w91) := BB.out.trans (B9.mono BB.out.size); clear hs_0 hs_1 hs_2 hs_3 hs_4; have hs_0 := HS.out.cell 0 _ rfl; have hs_1 := HS.out.cell 1 _ rfl; have hs_2 := HS.out.cell 2 _ rfl; have hs_3 := HS.out.cell 3 _ rfl; have hs_4 := HS.out.cell 4 _ rfl; clear B9; clear t50; have t51 : (1 : Nat) = 1 := rfl))
  exact bodyPost_ret (v := .tuple #[.agg (sv false 0 0 0 (.slice none 0 0)).toArray, .bool false]) (results_cv rfl _ _ w.heap.size _ _ rowy_rslot rfl rfl HR.out.1) rfl ⟨rfl, BB.out⟩

set_option maxHeartbeats 8000000 in
theorem rread_form (v : Value) (xs : List Int) (w : World) (hb : Byt w v xs) (hl : xs.length = 128) (h0 : gb xs 0 = 1) (hr : 1 ≤ gn xs ∧ gn xs ≤ 65535) (hd : decide (sbt (gn xs) (ge' xs) (gt' xs) (gw xs) = xs) = false) :
    Calls Tryd.prog 45 #[v] w fun x w' => x = .returned (.tuple #[.agg (sv false 0 0 0 (.slice none 0 0)).toArray, .bool false]) ∧ Below w.heap.size w w' := by
  have gs := g_sb hl hb.all
  have bl := (be_num4 (xs := sub xs 4 8) (by rw [sub_len _ _ _ (by omega)]) (allB_sub hb.all 4 8)).2
  have WN : Hid (IntKind.i64.wrap (gn xs) = gn xs) := wrap_small bl
  have N2 : Hid (num (last8 (sub xs 4 8)) = gn xs) := rfl
  have N3 : Hid (num (last8 (sub xs 8 16)) = ge' xs) := rfl
  have N4 : Hid (num (last8 (sub xs 16 24)) = gt' xs) := rfl
  have hq : Byt w (sl v 24 128) (gw xs) := sl_sub hb 24 128 (by omega) (by omega)
  obtain ⟨so, sc, he⟩ := byt_form hq gs.2.1
  rw [he] at hq
  have HQ : Hid (Byt w (.slice so 104 sc) (gw xs)) := hq
  have HB : Hid (Byt w v xs) := hb
  have HL : Hid (xs.length = 128) := hl
  obtain ⟨ao, bc, e1, h1, h2, h3, h4, h5⟩ := hb
  rw [hl] at e1 h5
  obtain ⟨bb, off, rfl, hc⟩ := h5 (by omega)
  subst e1
  have HC : Hid (∀ w', Below w.heap.size w w' → w'.cell? ⟨bb, off, none⟩ = some (.int .u8 (gb xs 0))) := fun w' q => (by have z := hc 0 (by omega); rw [Nat.add_zero] at z; rw [q.cell (World.block_lt_of_cell? w _ z)]; exact z)
  have HE : Hid (sl (.slice (some ⟨bb, off, none⟩) 128 bc) 24 128 = .slice so 104 sc) := he
  have b0 : (gb xs 0 == 1) = true := beq_iff_eq.2 h0
  have SR : Hid (∀ w0, Below w.heap.size w w0 → Calls Tryd.prog 34 #[.agg (sv true (gn xs) (ge' xs) (gt' xs) (.slice so 104 sc)).toArray] w0 fun x w' => x = .returned (.bool true) ∧ Below w0.heap.size w0 w') := fun w0 q => rright_yes true _ _ _ _ _ w0 (HQ.out.below q) ⟨hr.1, hr.2, gs.2.1⟩
  have SB : Hid (∀ w0, Below w.heap.size w w0 → Calls Tryd.prog 41 #[.agg (sv true (gn xs) (ge' xs) (gt' xs) (.slice so 104 sc)).toArray] w0 fun x w' => ∃ r, x = .returned r ∧ Byt w' r (sbt (gn xs) (ge' xs) (gt' xs) (gw xs)) ∧ Below w0.heap.size w0 w') := fun w0 q => rbytes_used _ _ _ _ _ w0 (HQ.out.below q) gs.1 hr gs.2.1
  have HD : Hid (decide (sbt (gn xs) (ge' xs) (gt' xs) (gw xs) = xs) = false) := hd
  generalize sbt (gn xs) (ge' xs) (gt' xs) (gw xs) = ZZ at SB HD
  generalize gb xs 0 = x0 at HC b0
  generalize gn xs = a at WN N2 SR SB
  generalize ge' xs = b at N3 SR SB
  generalize gt' xs = c at N4 SR SB
  clear hl h0 h1 h2 h3 h4 h5 hc he hq gs bl hr hd
  have t0 : (0 : Nat) = 0 := rfl
  go_enter Tryd.func45, Tryd.ntmps45
  go_wp2_with (first
    | (have q3 := t3; (with_reducible refine at_store ?_); refine store_lawC _ (sv false 0 0 0 (.slice none 0 0)) w1.heap.size 0 rfl rfl HS.out.2 rowy_rslot.2 (sv_one _ _ _ _ rfl) ?_; intro w3 E9 R9 T9 B9; have K9 : ∀ k, k ≠ w1.heap.size → w3.heap[k]? = w2.heap[k]? := (by rw [E9.out]; exact fun k hk => heap_cells _ _ _ _ k hk); have NB_HR : Hid (NoB w3 w.heap.size) := NB_HR.out.heap (K9 _ (Nat.ne_of_lt LT_HR_HS.out)); have HR : Hid (Vr w3 w.heap.size (sv false 0 0 0 (.slice none 0 0))) := HR.out.heap (K9 _ (Nat.ne_of_lt LT_HR_HS.out)); have NB_HS : Hid (NoB w3 w1.heap.size) := (by rw [E9.out]; exact NB_HS.out.set HS.out rfl (sv_nob _ _ _ _ _ _ _)); have HS : Hid (Vr w3 w1.heap.size (sv false 0 0 0 (.slice none 0 0))) := ⟨R9, T9⟩; have BB : Hid (Below w.heap.size w w3) := BB.out.trans (B9.mono LE_HS.out); clear c0; have hs_0 := HS.out.cell 0 _ rfl; have hs_1 := HS.out.cell 1 _ rfl; have hs_2 := HS.out.cell 2 _ rfl; have hs_3 := HS.out.cell 3 _ rfl; have hs_4 := HS.out.cell 4 _ rfl; have c0 : w3.cell? ⟨bb, off, none⟩ = some (.int .u8 x0) := HC.out w3 BB.out; clear E9 R9 T9 B9 K9; clear t3; have t4 : (1 : Nat) = 1 := rfl)
    | (have q2 := t2; (with_reducible refine at_alloc ?_); refine new_lawN _ (sv false 0 0 0 (.slice none 0 0)) zero_rslot (sv_nob _ _ _ _ _ _ _) ?_; intro w2 X9 N9 B9; have LT_HR_HS : Hid (w.heap.size < w1.heap.size) := range_lt HR.out.1 (Nat.succ_pos _); have LE_HS : Hid (w.heap.size ≤ w1.heap.size) := BB.out.size; have NB_HR : Hid (NoB w2 w.heap.size) := NB_HR.out.heap (B9.block _ (range_lt HR.out.1 (Nat.succ_pos _))); have HR : Hid (Vr w2 w.heap.size (sv false 0 0 0 (.slice none 0 0))) := HR.out.below B9 (range_lt HR.out.1 (Nat.succ_pos _)); have HS : Hid (Vr w2 w1.heap.size (sv false 0 0 0 (.slice none 0 0))) := X9; have NB_HS : Hid (NoB w2 w1.heap.size) := N9; have BB : Hid (Below w.heap.size w w2) := BB.out.trans (B9.mono BB.out.size); clear c0; have c0 : w2.cell? ⟨bb, off, none⟩ = some (.int .u8 x0) := HC.out w2 BB.out; clear X9 N9 B9; clear t2; have t3 : (1 : Nat) = 1 := rfl)
    | (have q1 := t1; refine build_law _ rfl 36 _ rfl (.agg (sv false 0 0 0 (.slice none 0 0)).toArray) (by kernel_rfl) ?_; clear t1; have t2 : (1 : Nat) = 1 := rfl)
    | (have q0 := t0; (with_reducible refine at_alloc ?_); refine new_lawN _ (sv false 0 0 0 (.slice none 0 0)) zero_rslot (sv_nob _ _ _ _ _ _ _) ?_; intro w1 X9 N9 B9; have LE_HR : Hid (w.heap.size ≤ w.heap.size) := Nat.le_refl _; have HR : Hid (Vr w1 w.heap.size (sv false 0 0 0 (.slice none 0 0))) := X9; have NB_HR : Hid (NoB w1 w.heap.size) := N9; have BB : Hid (Below w.heap.size w w1) := B9; have c0 : w1.cell? ⟨bb, off, none⟩ = some (.int .u8 x0) := HC.out w1 BB.out; clear X9 N9 B9; clear t0; have t1 : (1 : Nat) = 1 := rfl))
  clear hs_0 hs_1 hs_2 hs_3 hs_4 c0
  have HS : Hid (Vr w3.drew w1.heap.size (sv false 0 0 0 (.slice none 0 0))) := HS.out.drewN 1
  have NB_HS : Hid (NoB w3.drew w1.heap.size) := NB_HS.out.heap rfl
  have HR : Hid (Vr w3.drew w.heap.size (sv false 0 0 0 (.slice none 0 0))) := HR.out.drewN 1
  have NB_HR : Hid (NoB w3.drew w.heap.size) := NB_HR.out.heap rfl
  refine wp_region_held_drew (S := fun w' => Below w.heap.size w w') (by kernel_rfl) BB.out.drew (fun hS => ?_)
  obtain ⟨x1, hx0⟩ : ∃ x, x = w3.drew := ⟨_, rfl⟩
  rw [← hx0] at hS HS NB_HS HR NB_HR ⊢
  clear hx0
  refine take_lawH 0 (some 10) (.slice (some ⟨bb, off, none⟩) 128 bc) rfl rfl (by kernel_rfl) (by kernel_rfl) (by kernel_rfl) (fun _ _ _ h => h) (Or.inl ⟨by rfl, fun w' hw' => by rfl⟩) hS ?_
  simp only [Act.put, List.setIfInBounds_toArray, List.set_cons_zero, List.set_cons_succ]
  refine take_lawH 1 (some 11) (sl (.slice (some ⟨bb, off, none⟩) 128 bc) 4 8) rfl rfl (by kernel_rfl) (by kernel_rfl) (by kernel_rfl) (fun _ _ _ h => h) (Or.inl ⟨by rfl, fun w' hw' => by exact exec_part (.tmp 10) (.const (.int .i64 4)) (.const (.int .i64 8)) rfl _ xs _ HB.out 4 8 rfl rfl rfl (by omega) (by have := HL.out; omega) _⟩) hS ?_
  simp only [Act.put, List.setIfInBounds_toArray, List.set_cons_zero, List.set_cons_succ]
  refine take_lawH 4 (some 14) (.slice (some ⟨bb, off, none⟩) 128 bc) rfl rfl (by kernel_rfl) (by kernel_rfl) (by kernel_rfl) (fun _ _ _ h => h) (Or.inl ⟨by rfl, fun w' hw' => by rfl⟩) hS ?_
  simp only [Act.put, List.setIfInBounds_toArray, List.set_cons_zero, List.set_cons_succ]
  refine take_lawH 5 (some 15) (sl (.slice (some ⟨bb, off, none⟩) 128 bc) 8 16) rfl rfl (by kernel_rfl) (by kernel_rfl) (by kernel_rfl) (fun _ _ _ h => h) (Or.inl ⟨by rfl, fun w' hw' => by exact exec_part (.tmp 14) (.const (.int .i64 8)) (.const (.int .i64 16)) rfl _ xs _ HB.out 8 16 rfl rfl rfl (by omega) (by have := HL.out; omega) _⟩) hS ?_
  simp only [Act.put, List.setIfInBounds_toArray, List.set_cons_zero, List.set_cons_succ]
  refine take_lawH 7 (some 17) (.slice (some ⟨bb, off, none⟩) 128 bc) rfl rfl (by kernel_rfl) (by kernel_rfl) (by kernel_rfl) (fun _ _ _ h => h) (Or.inl ⟨by rfl, fun w' hw' => by rfl⟩) hS ?_
  simp only [Act.put, List.setIfInBounds_toArray, List.set_cons_zero, List.set_cons_succ]
  refine take_lawH 8 (some 18) (sl (.slice (some ⟨bb, off, none⟩) 128 bc) 16 24) rfl rfl (by kernel_rfl) (by kernel_rfl) (by kernel_rfl) (fun _ _ _ h => h) (Or.inl ⟨by rfl, fun w' hw' => by exact exec_part (.tmp 17) (.const (.int .i64 16)) (.const (.int .i64 24)) rfl _ xs _ HB.out 16 24 rfl rfl rfl (by omega) (by have := HL.out; omega) _⟩) hS ?_
  simp only [Act.put, List.setIfInBounds_toArray, List.set_cons_zero, List.set_cons_succ]
  refine take_lawH 10 (some 20) (.slice (some ⟨bb, off, none⟩) 128 bc) rfl rfl (by kernel_rfl) (by kernel_rfl) (by kernel_rfl) (fun _ _ _ h => h) (Or.inl ⟨by rfl, fun w' hw' => by rfl⟩) hS ?_
  simp only [Act.put, List.setIfInBounds_toArray, List.set_cons_zero, List.set_cons_succ]
  refine take_lawH 11 (some 21) (.slice so 104 sc) rfl rfl (by kernel_rfl) (by kernel_rfl) (by kernel_rfl) (fun _ _ _ h => h) (Or.inl ⟨by rfl, fun w' hw' => by rw [← HE.out]; exact exec_part (.tmp 20) (.const (.int .i64 24)) (.const (.int .i64 128)) rfl _ xs _ HB.out 24 128 rfl rfl rfl (by omega) (by have := HL.out; omega) _⟩) hS ?_
  simp only [Act.put, List.setIfInBounds_toArray, List.set_cons_zero, List.set_cons_succ]
  refine wpAnyH_ready (rs := [2]) (by kernel_rfl) (by simp) ?_
  refine AllReadyH.cons rfl (fun K hK => ?_) AllReadyH.nil
  refine he.step_callW _ (by rfl) (some 12) rfl 44 #[.tmp 11] #[23] rfl (fun q w' => by rfl) #[sl (.slice (some ⟨bb, off, none⟩) 128 bc) 4 8] (by simp only [List.map_toArray, List.map_cons, List.map_nil]; rfl) (fun z9 w' => z9 = .int .u64 a ∧ Below x1.heap.size x1 w') ?_ ?_
  · exact (rnum_any _ _ x1 (sl_sub (HB.out.below hS) 4 8 (by omega) (by have := HL.out; omega)) (by rw [sub_len _ _ _ (by have := HL.out; omega)]; omega)).mono fun e w' ⟨h1, h2⟩ => ⟨_, h1, (by rw [N2.out]), h2⟩
  rintro _ x2 ⟨rfl, hb⟩
  have HS9 := HS
  have HR9 := HR
  have HS : Hid (Vr x2 w1.heap.size (sv false 0 0 0 (.slice none 0 0))) := HS.out.below hb (range_lt HS.out.1 (Nat.succ_pos _))
  have NB_HS : Hid (NoB x2 w1.heap.size) := NB_HS.out.heap (hb.block _ (range_lt HS9.out.1 (Nat.succ_pos _)))
  have HR : Hid (Vr x2 w.heap.size (sv false 0 0 0 (.slice none 0 0))) := HR.out.below hb (range_lt HR.out.1 (Nat.succ_pos _))
  have NB_HR : Hid (NoB x2 w.heap.size) := NB_HR.out.heap (hb.block _ (range_lt HR9.out.1 (Nat.succ_pos _)))
  have hS : Below w.heap.size w x2 := hS.trans (hb.mono hS.size)
  clear hb HS9 HR9
  refine hK.out _ _ hS (fun _ => ?_)
  simp only [Act.put, List.setIfInBounds_toArray, List.set_cons_zero, List.set_cons_succ]
  clear hK K
  refine take_lawH 3 (some 13) (.int .i64 a) rfl rfl (by kernel_rfl) (by kernel_rfl) (by kernel_rfl) (fun _ _ _ h => h) (Or.inl ⟨by rfl, fun w' hw' => by exact exec_conv (.tmp 12) rfl a rfl WN.out _⟩) hS ?_
  simp only [Act.put, List.setIfInBounds_toArray, List.set_cons_zero, List.set_cons_succ]
  refine wpAnyH_ready (rs := [6]) (by kernel_rfl) (by simp) ?_
  refine AllReadyH.cons rfl (fun K hK => ?_) AllReadyH.nil
  refine he.step_callW _ (by rfl) (some 16) rfl 44 #[.tmp 15] #[23] rfl (fun q w' => by rfl) #[sl (.slice (some ⟨bb, off, none⟩) 128 bc) 8 16] (by simp only [List.map_toArray, List.map_cons, List.map_nil]; rfl) (fun z9 w' => z9 = .int .u64 b ∧ Below x2.heap.size x2 w') ?_ ?_
  · exact (rnum_any _ _ x2 (sl_sub (HB.out.below hS) 8 16 (by omega) (by have := HL.out; omega)) (by rw [sub_len _ _ _ (by have := HL.out; omega)]; omega)).mono fun e w' ⟨h1, h2⟩ => ⟨_, h1, (by rw [N3.out]), h2⟩
  rintro _ x3 ⟨rfl, hb⟩
  have HS9 := HS
  have HR9 := HR
  have HS : Hid (Vr x3 w1.heap.size (sv false 0 0 0 (.slice none 0 0))) := HS.out.below hb (range_lt HS.out.1 (Nat.succ_pos _))
  have NB_HS : Hid (NoB x3 w1.heap.size) := NB_HS.out.heap (hb.block _ (range_lt HS9.out.1 (Nat.succ_pos _)))
  have HR : Hid (Vr x3 w.heap.size (sv false 0 0 0 (.slice none 0 0))) := HR.out.below hb (range_lt HR.out.1 (Nat.succ_pos _))
  have NB_HR : Hid (NoB x3 w.heap.size) := NB_HR.out.heap (hb.block _ (range_lt HR9.out.1 (Nat.succ_pos _)))
  have hS : Below w.heap.size w x3 := hS.trans (hb.mono hS.size)
  clear hb HS9 HR9
  refine hK.out _ _ hS (fun _ => ?_)
  simp only [Act.put, List.setIfInBounds_toArray, List.set_cons_zero, List.set_cons_succ]
  clear hK K
  refine wpAnyH_ready (rs := [9]) (by kernel_rfl) (by simp) ?_
  refine AllReadyH.cons rfl (fun K hK => ?_) AllReadyH.nil
  refine he.step_callW _ (by rfl) (some 19) rfl 44 #[.tmp 18] #[23] rfl (fun q w' => by rfl) #[sl (.slice (some ⟨bb, off, none⟩) 128 bc) 16 24] (by simp only [List.map_toArray, List.map_cons, List.map_nil]; rfl) (fun z9 w' => z9 = .int .u64 c ∧ Below x3.heap.size x3 w') ?_ ?_
  · exact (rnum_any _ _ x3 (sl_sub (HB.out.below hS) 16 24 (by omega) (by have := HL.out; omega)) (by rw [sub_len _ _ _ (by have := HL.out; omega)]; omega)).mono fun e w' ⟨h1, h2⟩ => ⟨_, h1, (by rw [N4.out]), h2⟩
  rintro _ x4 ⟨rfl, hb⟩
  have HS9 := HS
  have HR9 := HR
  have HS : Hid (Vr x4 w1.heap.size (sv false 0 0 0 (.slice none 0 0))) := HS.out.below hb (range_lt HS.out.1 (Nat.succ_pos _))
  have NB_HS : Hid (NoB x4 w1.heap.size) := NB_HS.out.heap (hb.block _ (range_lt HS9.out.1 (Nat.succ_pos _)))
  have HR : Hid (Vr x4 w.heap.size (sv false 0 0 0 (.slice none 0 0))) := HR.out.below hb (range_lt HR.out.1 (Nat.succ_pos _))
  have NB_HR : Hid (NoB x4 w.heap.size) := NB_HR.out.heap (hb.block _ (range_lt HR9.out.1 (Nat.succ_pos _)))
  have hS : Below w.heap.size w x4 := hS.trans (hb.mono hS.size)
  clear hb HS9 HR9
  refine hK.out _ _ hS (fun _ => ?_)
  simp only [Act.put, List.setIfInBounds_toArray, List.set_cons_zero, List.set_cons_succ]
  clear hK K
  refine take_lawH 12 (some 22) (.agg (sv true a b c (.slice so 104 sc)).toArray) rfl rfl (by kernel_rfl) (by kernel_rfl) (by kernel_rfl) (fun _ _ _ h => h) (Or.inl ⟨by rfl, fun w' hw' => by exact exec_build 36 _ rfl _ _ (by kernel_rfl)⟩) hS ?_
  simp only [Act.put, List.setIfInBounds_toArray, List.set_cons_zero, List.set_cons_succ]
  refine wpAnyH_ready (rs := [13]) (by kernel_rfl) (by simp) ?_
  refine AllReadyH.cons rfl (fun K hK => ?_) AllReadyH.nil
  have NBo := NB_HS
  refine step_storeK _ rfl none rfl (.tmp 4) (.tmp 22) 36 rfl w1.heap.size (sv false 0 0 0 (.slice none 0 0)) (sv true a b c (.slice so 104 sc)) rfl rfl HS.out rfl rowy_rslot.2 (sv_one _ _ _ _ rfl) ?_
  intro x5 v9 B9 E9
  have HS : Hid (Vr x5 w1.heap.size (sv true a b c (.slice so 104 sc))) := v9
  have HR : Hid (Vr x5 w.heap.size (sv false 0 0 0 (.slice none 0 0))) := HR.out.heap (E9 _ (Nat.ne_of_lt LT_HR_HS.out))
  have NB_HR : Hid (NoB x5 w.heap.size) := NB_HR.out.heap (E9 _ (Nat.ne_of_lt LT_HR_HS.out))
  have hS : Below w.heap.size w x5 := hS.trans (B9.mono LE_HS.out)
  clear v9 B9 E9 NBo
  refine hK.out _ _ hS (fun _ => ?_)
  simp only [Act.put]
  clear hK K
  refine wpAnyH_done (by kernel_rfl) ?_ _
  have BB : Hid (Below w.heap.size w x5) := hS
  clear hS
  have hs_0 := HS.out.cell 0 _ rfl
  have hs_1 := HS.out.cell 1 _ rfl
  have hs_2 := HS.out.cell 2 _ rfl
  have hs_3 := HS.out.cell 3 _ rfl
  have hs_4 := HS.out.cell 4 _ rfl
  have t50 : (1 : Nat) = 1 := rfl
  go_wp2_with (first
    | (have q54 := t54; (with_reducible refine at_store ?_); refine store_lawC _ (sv false 0 0 0 (.slice none 0 0)) w.heap.size 0 rfl rfl HR.out.2 rowy_rslot.2 (sv_one _ _ _ _ rfl) ?_; intro w94 E9 R9 T9 B9; have K9 : ∀ k, k ≠ w.heap.size → w94.heap[k]? = w93.heap[k]? := (by rw [E9.out]; exact fun k hk => heap_cells _ _ _ _ k hk); have HS : Hid (Vr w94 w1.heap.size (sv true a b c (.slice so 104 sc))) := HS.out.heap (K9 _ (Nat.ne_of_gt LT_HR_HS.out)); have HW : Hid (Byt w94 r9 ZZ) := byt_nob HW.out NB_HR.out K9; have NB_HR : Hid (NoB w94 w.heap.size) := (by rw [E9.out]; exact NB_HR.out.set HR.out rfl (sv_nob _ _ _ _ _ _ _)); have HR : Hid (Vr w94 w.heap.size (sv false 0 0 0 (.slice none 0 0))) := ⟨R9, T9⟩; have BB : Hid (Below w.heap.size w w94) := BB.out.trans (B9.mono LE_HR.out); clear hs_0 hs_1 hs_2 hs_3 hs_4; have hs_0 := HS.out.cell 0 _ rfl; have hs_1 := HS.out.cell 1 _ rfl; have hs_2 := HS.out.cell 2 _ rfl; have hs_3 := HS.out.cell 3 _ rfl; have hs_4 := HS.out.cell 4 _ rfl; clear E9 R9 T9 B9 K9; clear t54; have t55 : (1 : Nat) = 1 := rfl)
    | (have q53 := t53; refine build_law _ rfl 36 _ rfl (.agg (sv false 0 0 0 (.slice none 0 0)).toArray) (by kernel_rfl) ?_; clear t53; have t54 : (1 : Nat) = 1 := rfl)
    | (have q52 := t52; go_at_call 18; refine (same_b w92 _ _ ZZ xs HW.out (HB.out.below BB.out) false HD.out).mono ?_; rintro e9 w93 ⟨rfl, B9⟩; have NB_HR : Hid (NoB w93 w.heap.size) := NB_HR.out.heap (B9.block _ (range_lt HR.out.1 (Nat.succ_pos _))); have HR : Hid (Vr w93 w.heap.size (sv false 0 0 0 (.slice none 0 0))) := HR.out.below B9 (range_lt HR.out.1 (Nat.succ_pos _)); have HS : Hid (Vr w93 w1.heap.size (sv true a b c (.slice so 104 sc))) := HS.out.below B9 (range_lt HS.out.1 (Nat.succ_pos _)); have HW : Hid (Byt w93 r9 ZZ) := HW.out.below B9; have BB : Hid (Below w.heap.size w w93) := BB.out.trans (B9.mono BB.out.size); clear hs_0 hs_1 hs_2 hs_3 hs_4; have hs_0 := HS.out.cell 0 _ rfl; have hs_1 := HS.out.cell 1 _ rfl; have hs_2 := HS.out.cell 2 _ rfl; have hs_3 := HS.out.cell 3 _ rfl; have hs_4 := HS.out.cell 4 _ rfl; clear B9; clear t52; have t53 : (1 : Nat) = 1 := rfl)
    | (have q51 := t51; go_at_call 41; refine (SB.out w91 BB.out).mono ?_; rintro e9 w92 ⟨r9, rfl, Y9, B9⟩; have NB_HR : Hid (NoB w92 w.heap.size) := NB_HR.out.heap (B9.block _ (range_lt HR.out.1 (Nat.succ_pos _))); have HR : Hid (Vr w92 w.heap.size (sv false 0 0 0 (.slice none 0 0))) := HR.out.below B9 (range_lt HR.out.1 (Nat.succ_pos _)); have HS : Hid (Vr w92 w1.heap.size (sv true a b c (.slice so 104 sc))) := HS.out.below B9 (range_lt HS.out.1 (Nat.succ_pos _)); have HW : Hid (Byt w92 r9 ZZ) := Y9; have BB : Hid (Below w.heap.size w w92) := BB.out.trans (B9.mono BB.out.size); clear hs_0 hs_1 hs_2 hs_3 hs_4; have hs_0 := HS.out.cell 0 _ rfl; have hs_1 := HS.out.cell 1 _ rfl; have hs_2 := HS.out.cell 2 _ rfl; have hs_3 := HS.out.cell 3 _ rfl; have hs_4 := HS.out.cell 4 _ rfl; clear B9 Y9; clear t51; have t52 : (1 : Nat) = 1 := rfl)
    | (have q50 := t50; go_at_call 34; refine (SR.out x5 BB.out).mono ?_; rintro e9 w91 ⟨rfl, B9⟩; have NB_HR : Hid (NoB w91 w.heap.size) := NB_HR.out.heap (B9.block _ (range_lt HR.out.1 (Nat.succ_pos _))); have HR : Hid (Vr w91 w.heap.size (sv false 0 0 0 (.slice none 0 0))) := HR.out.below B9 (range_lt HR.out.1 (Nat.succ_pos _)); have HS : Hid (Vr w91 w1.heap.size (sv true a b c (.slice so 104 sc))) := HS.out.below B9 (range_lt HS.out.1 (Nat.succ_pos _)); have BB : Hid (Below w.heap.size w w91) := BB.out.trans (B9.mono BB.out.size); clear hs_0 hs_1 hs_2 hs_3 hs_4; have hs_0 := HS.out.cell 0 _ rfl; have hs_1 := HS.out.cell 1 _ rfl; have hs_2 := HS.out.cell 2 _ rfl; have hs_3 := HS.out.cell 3 _ rfl; have hs_4 := HS.out.cell 4 _ rfl; clear B9; clear t50; have t51 : (1 : Nat) = 1 := rfl))
  exact bodyPost_ret (v := .tuple #[.agg (sv false 0 0 0 (.slice none 0 0)).toArray, .bool false]) (results_cv rfl _ _ w.heap.size _ _ rowy_rslot rfl rfl HR.out.1) rfl ⟨rfl, BB.out⟩

set_option maxHeartbeats 8000000 in
theorem rread_used (v : Value) (xs : List Int) (w : World) (hb : Byt w v xs) (hl : xs.length = 128) (h0 : gb xs 0 = 1) (hr : 1 ≤ gn xs ∧ gn xs ≤ 65535) (hd : decide (sbt (gn xs) (ge' xs) (gt' xs) (gw xs) = xs) = true) :
    Calls Tryd.prog 45 #[v] w fun x w' => ∃ yo yc, x = .returned (.tuple #[.agg (sv true (gn xs) (ge' xs) (gt' xs) (.slice yo 104 yc)).toArray, .bool true]) ∧ Byt w' (.slice yo 104 yc) (gw xs) ∧ Below w.heap.size w w' := by
  have gs := g_sb hl hb.all
  have bl := (be_num4 (xs := sub xs 4 8) (by rw [sub_len _ _ _ (by omega)]) (allB_sub hb.all 4 8)).2
  have WN : Hid (IntKind.i64.wrap (gn xs) = gn xs) := wrap_small bl
  have N2 : Hid (num (last8 (sub xs 4 8)) = gn xs) := rfl
  have N3 : Hid (num (last8 (sub xs 8 16)) = ge' xs) := rfl
  have N4 : Hid (num (last8 (sub xs 16 24)) = gt' xs) := rfl
  have hq : Byt w (sl v 24 128) (gw xs) := sl_sub hb 24 128 (by omega) (by omega)
  obtain ⟨so, sc, he⟩ := byt_form hq gs.2.1
  rw [he] at hq
  have HQ : Hid (Byt w (.slice so 104 sc) (gw xs)) := hq
  have HB : Hid (Byt w v xs) := hb
  have HL : Hid (xs.length = 128) := hl
  obtain ⟨ao, bc, e1, h1, h2, h3, h4, h5⟩ := hb
  rw [hl] at e1 h5
  obtain ⟨bb, off, rfl, hc⟩ := h5 (by omega)
  subst e1
  have HC : Hid (∀ w', Below w.heap.size w w' → w'.cell? ⟨bb, off, none⟩ = some (.int .u8 (gb xs 0))) := fun w' q => (by have z := hc 0 (by omega); rw [Nat.add_zero] at z; rw [q.cell (World.block_lt_of_cell? w _ z)]; exact z)
  have HE : Hid (sl (.slice (some ⟨bb, off, none⟩) 128 bc) 24 128 = .slice so 104 sc) := he
  have b0 : (gb xs 0 == 1) = true := beq_iff_eq.2 h0
  have SR : Hid (∀ w0, Below w.heap.size w w0 → Calls Tryd.prog 34 #[.agg (sv true (gn xs) (ge' xs) (gt' xs) (.slice so 104 sc)).toArray] w0 fun x w' => x = .returned (.bool true) ∧ Below w0.heap.size w0 w') := fun w0 q => rright_yes true _ _ _ _ _ w0 (HQ.out.below q) ⟨hr.1, hr.2, gs.2.1⟩
  have SB : Hid (∀ w0, Below w.heap.size w w0 → Calls Tryd.prog 41 #[.agg (sv true (gn xs) (ge' xs) (gt' xs) (.slice so 104 sc)).toArray] w0 fun x w' => ∃ r, x = .returned r ∧ Byt w' r (sbt (gn xs) (ge' xs) (gt' xs) (gw xs)) ∧ Below w0.heap.size w0 w') := fun w0 q => rbytes_used _ _ _ _ _ w0 (HQ.out.below q) gs.1 hr gs.2.1
  have HD : Hid (decide (sbt (gn xs) (ge' xs) (gt' xs) (gw xs) = xs) = true) := hd
  generalize sbt (gn xs) (ge' xs) (gt' xs) (gw xs) = ZZ at SB HD
  generalize gb xs 0 = x0 at HC b0
  generalize gn xs = a at WN N2 SR SB ⊢
  generalize ge' xs = b at N3 SR SB ⊢
  generalize gt' xs = c at N4 SR SB ⊢
  clear hl h0 h1 h2 h3 h4 h5 hc he hq gs bl hr hd
  have t0 : (0 : Nat) = 0 := rfl
  go_enter Tryd.func45, Tryd.ntmps45
  go_wp2_with (first
    | (have q3 := t3; (with_reducible refine at_store ?_); refine store_lawC _ (sv false 0 0 0 (.slice none 0 0)) w1.heap.size 0 rfl rfl HS.out.2 rowy_rslot.2 (sv_one _ _ _ _ rfl) ?_; intro w3 E9 R9 T9 B9; have K9 : ∀ k, k ≠ w1.heap.size → w3.heap[k]? = w2.heap[k]? := (by rw [E9.out]; exact fun k hk => heap_cells _ _ _ _ k hk); have NB_HR : Hid (NoB w3 w.heap.size) := NB_HR.out.heap (K9 _ (Nat.ne_of_lt LT_HR_HS.out)); have HR : Hid (Vr w3 w.heap.size (sv false 0 0 0 (.slice none 0 0))) := HR.out.heap (K9 _ (Nat.ne_of_lt LT_HR_HS.out)); have NB_HS : Hid (NoB w3 w1.heap.size) := (by rw [E9.out]; exact NB_HS.out.set HS.out rfl (sv_nob _ _ _ _ _ _ _)); have HS : Hid (Vr w3 w1.heap.size (sv false 0 0 0 (.slice none 0 0))) := ⟨R9, T9⟩; have BB : Hid (Below w.heap.size w w3) := BB.out.trans (B9.mono LE_HS.out); clear c0; have hs_0 := HS.out.cell 0 _ rfl; have hs_1 := HS.out.cell 1 _ rfl; have hs_2 := HS.out.cell 2 _ rfl; have hs_3 := HS.out.cell 3 _ rfl; have hs_4 := HS.out.cell 4 _ rfl; have c0 : w3.cell? ⟨bb, off, none⟩ = some (.int .u8 x0) := HC.out w3 BB.out; clear E9 R9 T9 B9 K9; clear t3; have t4 : (1 : Nat) = 1 := rfl)
    | (have q2 := t2; (with_reducible refine at_alloc ?_); refine new_lawN _ (sv false 0 0 0 (.slice none 0 0)) zero_rslot (sv_nob _ _ _ _ _ _ _) ?_; intro w2 X9 N9 B9; have LT_HR_HS : Hid (w.heap.size < w1.heap.size) := range_lt HR.out.1 (Nat.succ_pos _); have LE_HS : Hid (w.heap.size ≤ w1.heap.size) := BB.out.size; have NB_HR : Hid (NoB w2 w.heap.size) := NB_HR.out.heap (B9.block _ (range_lt HR.out.1 (Nat.succ_pos _))); have HR : Hid (Vr w2 w.heap.size (sv false 0 0 0 (.slice none 0 0))) := HR.out.below B9 (range_lt HR.out.1 (Nat.succ_pos _)); have HS : Hid (Vr w2 w1.heap.size (sv false 0 0 0 (.slice none 0 0))) := X9; have NB_HS : Hid (NoB w2 w1.heap.size) := N9; have BB : Hid (Below w.heap.size w w2) := BB.out.trans (B9.mono BB.out.size); clear c0; have c0 : w2.cell? ⟨bb, off, none⟩ = some (.int .u8 x0) := HC.out w2 BB.out; clear X9 N9 B9; clear t2; have t3 : (1 : Nat) = 1 := rfl)
    | (have q1 := t1; refine build_law _ rfl 36 _ rfl (.agg (sv false 0 0 0 (.slice none 0 0)).toArray) (by kernel_rfl) ?_; clear t1; have t2 : (1 : Nat) = 1 := rfl)
    | (have q0 := t0; (with_reducible refine at_alloc ?_); refine new_lawN _ (sv false 0 0 0 (.slice none 0 0)) zero_rslot (sv_nob _ _ _ _ _ _ _) ?_; intro w1 X9 N9 B9; have LE_HR : Hid (w.heap.size ≤ w.heap.size) := Nat.le_refl _; have HR : Hid (Vr w1 w.heap.size (sv false 0 0 0 (.slice none 0 0))) := X9; have NB_HR : Hid (NoB w1 w.heap.size) := N9; have BB : Hid (Below w.heap.size w w1) := B9; have c0 : w1.cell? ⟨bb, off, none⟩ = some (.int .u8 x0) := HC.out w1 BB.out; clear X9 N9 B9; clear t0; have t1 : (1 : Nat) = 1 := rfl))
  clear hs_0 hs_1 hs_2 hs_3 hs_4 c0
  have HS : Hid (Vr w3.drew w1.heap.size (sv false 0 0 0 (.slice none 0 0))) := HS.out.drewN 1
  have NB_HS : Hid (NoB w3.drew w1.heap.size) := NB_HS.out.heap rfl
  have HR : Hid (Vr w3.drew w.heap.size (sv false 0 0 0 (.slice none 0 0))) := HR.out.drewN 1
  have NB_HR : Hid (NoB w3.drew w.heap.size) := NB_HR.out.heap rfl
  refine wp_region_held_drew (S := fun w' => Below w.heap.size w w') (by kernel_rfl) BB.out.drew (fun hS => ?_)
  obtain ⟨x1, hx0⟩ : ∃ x, x = w3.drew := ⟨_, rfl⟩
  rw [← hx0] at hS HS NB_HS HR NB_HR ⊢
  clear hx0
  refine take_lawH 0 (some 10) (.slice (some ⟨bb, off, none⟩) 128 bc) rfl rfl (by kernel_rfl) (by kernel_rfl) (by kernel_rfl) (fun _ _ _ h => h) (Or.inl ⟨by rfl, fun w' hw' => by rfl⟩) hS ?_
  simp only [Act.put, List.setIfInBounds_toArray, List.set_cons_zero, List.set_cons_succ]
  refine take_lawH 1 (some 11) (sl (.slice (some ⟨bb, off, none⟩) 128 bc) 4 8) rfl rfl (by kernel_rfl) (by kernel_rfl) (by kernel_rfl) (fun _ _ _ h => h) (Or.inl ⟨by rfl, fun w' hw' => by exact exec_part (.tmp 10) (.const (.int .i64 4)) (.const (.int .i64 8)) rfl _ xs _ HB.out 4 8 rfl rfl rfl (by omega) (by have := HL.out; omega) _⟩) hS ?_
  simp only [Act.put, List.setIfInBounds_toArray, List.set_cons_zero, List.set_cons_succ]
  refine take_lawH 4 (some 14) (.slice (some ⟨bb, off, none⟩) 128 bc) rfl rfl (by kernel_rfl) (by kernel_rfl) (by kernel_rfl) (fun _ _ _ h => h) (Or.inl ⟨by rfl, fun w' hw' => by rfl⟩) hS ?_
  simp only [Act.put, List.setIfInBounds_toArray, List.set_cons_zero, List.set_cons_succ]
  refine take_lawH 5 (some 15) (sl (.slice (some ⟨bb, off, none⟩) 128 bc) 8 16) rfl rfl (by kernel_rfl) (by kernel_rfl) (by kernel_rfl) (fun _ _ _ h => h) (Or.inl ⟨by rfl, fun w' hw' => by exact exec_part (.tmp 14) (.const (.int .i64 8)) (.const (.int .i64 16)) rfl _ xs _ HB.out 8 16 rfl rfl rfl (by omega) (by have := HL.out; omega) _⟩) hS ?_
  simp only [Act.put, List.setIfInBounds_toArray, List.set_cons_zero, List.set_cons_succ]
  refine take_lawH 7 (some 17) (.slice (some ⟨bb, off, none⟩) 128 bc) rfl rfl (by kernel_rfl) (by kernel_rfl) (by kernel_rfl) (fun _ _ _ h => h) (Or.inl ⟨by rfl, fun w' hw' => by rfl⟩) hS ?_
  simp only [Act.put, List.setIfInBounds_toArray, List.set_cons_zero, List.set_cons_succ]
  refine take_lawH 8 (some 18) (sl (.slice (some ⟨bb, off, none⟩) 128 bc) 16 24) rfl rfl (by kernel_rfl) (by kernel_rfl) (by kernel_rfl) (fun _ _ _ h => h) (Or.inl ⟨by rfl, fun w' hw' => by exact exec_part (.tmp 17) (.const (.int .i64 16)) (.const (.int .i64 24)) rfl _ xs _ HB.out 16 24 rfl rfl rfl (by omega) (by have := HL.out; omega) _⟩) hS ?_
  simp only [Act.put, List.setIfInBounds_toArray, List.set_cons_zero, List.set_cons_succ]
  refine take_lawH 10 (some 20) (.slice (some ⟨bb, off, none⟩) 128 bc) rfl rfl (by kernel_rfl) (by kernel_rfl) (by kernel_rfl) (fun _ _ _ h => h) (Or.inl ⟨by rfl, fun w' hw' => by rfl⟩) hS ?_
  simp only [Act.put, List.setIfInBounds_toArray, List.set_cons_zero, List.set_cons_succ]
  refine take_lawH 11 (some 21) (.slice so 104 sc) rfl rfl (by kernel_rfl) (by kernel_rfl) (by kernel_rfl) (fun _ _ _ h => h) (Or.inl ⟨by rfl, fun w' hw' => by rw [← HE.out]; exact exec_part (.tmp 20) (.const (.int .i64 24)) (.const (.int .i64 128)) rfl _ xs _ HB.out 24 128 rfl rfl rfl (by omega) (by have := HL.out; omega) _⟩) hS ?_
  simp only [Act.put, List.setIfInBounds_toArray, List.set_cons_zero, List.set_cons_succ]
  refine wpAnyH_ready (rs := [2]) (by kernel_rfl) (by simp) ?_
  refine AllReadyH.cons rfl (fun K hK => ?_) AllReadyH.nil
  refine he.step_callW _ (by rfl) (some 12) rfl 44 #[.tmp 11] #[23] rfl (fun q w' => by rfl) #[sl (.slice (some ⟨bb, off, none⟩) 128 bc) 4 8] (by simp only [List.map_toArray, List.map_cons, List.map_nil]; rfl) (fun z9 w' => z9 = .int .u64 a ∧ Below x1.heap.size x1 w') ?_ ?_
  · exact (rnum_any _ _ x1 (sl_sub (HB.out.below hS) 4 8 (by omega) (by have := HL.out; omega)) (by rw [sub_len _ _ _ (by have := HL.out; omega)]; omega)).mono fun e w' ⟨h1, h2⟩ => ⟨_, h1, (by rw [N2.out]), h2⟩
  rintro _ x2 ⟨rfl, hb⟩
  have HS9 := HS
  have HR9 := HR
  have HS : Hid (Vr x2 w1.heap.size (sv false 0 0 0 (.slice none 0 0))) := HS.out.below hb (range_lt HS.out.1 (Nat.succ_pos _))
  have NB_HS : Hid (NoB x2 w1.heap.size) := NB_HS.out.heap (hb.block _ (range_lt HS9.out.1 (Nat.succ_pos _)))
  have HR : Hid (Vr x2 w.heap.size (sv false 0 0 0 (.slice none 0 0))) := HR.out.below hb (range_lt HR.out.1 (Nat.succ_pos _))
  have NB_HR : Hid (NoB x2 w.heap.size) := NB_HR.out.heap (hb.block _ (range_lt HR9.out.1 (Nat.succ_pos _)))
  have hS : Below w.heap.size w x2 := hS.trans (hb.mono hS.size)
  clear hb HS9 HR9
  refine hK.out _ _ hS (fun _ => ?_)
  simp only [Act.put, List.setIfInBounds_toArray, List.set_cons_zero, List.set_cons_succ]
  clear hK K
  refine take_lawH 3 (some 13) (.int .i64 a) rfl rfl (by kernel_rfl) (by kernel_rfl) (by kernel_rfl) (fun _ _ _ h => h) (Or.inl ⟨by rfl, fun w' hw' => by exact exec_conv (.tmp 12) rfl a rfl WN.out _⟩) hS ?_
  simp only [Act.put, List.setIfInBounds_toArray, List.set_cons_zero, List.set_cons_succ]
  refine wpAnyH_ready (rs := [6]) (by kernel_rfl) (by simp) ?_
  refine AllReadyH.cons rfl (fun K hK => ?_) AllReadyH.nil
  refine he.step_callW _ (by rfl) (some 16) rfl 44 #[.tmp 15] #[23] rfl (fun q w' => by rfl) #[sl (.slice (some ⟨bb, off, none⟩) 128 bc) 8 16] (by simp only [List.map_toArray, List.map_cons, List.map_nil]; rfl) (fun z9 w' => z9 = .int .u64 b ∧ Below x2.heap.size x2 w') ?_ ?_
  · exact (rnum_any _ _ x2 (sl_sub (HB.out.below hS) 8 16 (by omega) (by have := HL.out; omega)) (by rw [sub_len _ _ _ (by have := HL.out; omega)]; omega)).mono fun e w' ⟨h1, h2⟩ => ⟨_, h1, (by rw [N3.out]), h2⟩
  rintro _ x3 ⟨rfl, hb⟩
  have HS9 := HS
  have HR9 := HR
  have HS : Hid (Vr x3 w1.heap.size (sv false 0 0 0 (.slice none 0 0))) := HS.out.below hb (range_lt HS.out.1 (Nat.succ_pos _))
  have NB_HS : Hid (NoB x3 w1.heap.size) := NB_HS.out.heap (hb.block _ (range_lt HS9.out.1 (Nat.succ_pos _)))
  have HR : Hid (Vr x3 w.heap.size (sv false 0 0 0 (.slice none 0 0))) := HR.out.below hb (range_lt HR.out.1 (Nat.succ_pos _))
  have NB_HR : Hid (NoB x3 w.heap.size) := NB_HR.out.heap (hb.block _ (range_lt HR9.out.1 (Nat.succ_pos _)))
  have hS : Below w.heap.size w x3 := hS.trans (hb.mono hS.size)
  clear hb HS9 HR9
  refine hK.out _ _ hS (fun _ => ?_)
  simp only [Act.put, List.setIfInBounds_toArray, List.set_cons_zero, List.set_cons_succ]
  clear hK K
  refine wpAnyH_ready (rs := [9]) (by kernel_rfl) (by simp) ?_
  refine AllReadyH.cons rfl (fun K hK => ?_) AllReadyH.nil
  refine he.step_callW _ (by rfl) (some 19) rfl 44 #[.tmp 18] #[23] rfl (fun q w' => by rfl) #[sl (.slice (some ⟨bb, off, none⟩) 128 bc) 16 24] (by simp only [List.map_toArray, List.map_cons, List.map_nil]; rfl) (fun z9 w' => z9 = .int .u64 c ∧ Below x3.heap.size x3 w') ?_ ?_
  · exact (rnum_any _ _ x3 (sl_sub (HB.out.below hS) 16 24 (by omega) (by have := HL.out; omega)) (by rw [sub_len _ _ _ (by have := HL.out; omega)]; omega)).mono fun e w' ⟨h1, h2⟩ => ⟨_, h1, (by rw [N4.out]), h2⟩
  rintro _ x4 ⟨rfl, hb⟩
  have HS9 := HS
  have HR9 := HR
  have HS : Hid (Vr x4 w1.heap.size (sv false 0 0 0 (.slice none 0 0))) := HS.out.below hb (range_lt HS.out.1 (Nat.succ_pos _))
  have NB_HS : Hid (NoB x4 w1.heap.size) := NB_HS.out.heap (hb.block _ (range_lt HS9.out.1 (Nat.succ_pos _)))
  have HR : Hid (Vr x4 w.heap.size (sv false 0 0 0 (.slice none 0 0))) := HR.out.below hb (range_lt HR.out.1 (Nat.succ_pos _))
  have NB_HR : Hid (NoB x4 w.heap.size) := NB_HR.out.heap (hb.block _ (range_lt HR9.out.1 (Nat.succ_pos _)))
  have hS : Below w.heap.size w x4 := hS.trans (hb.mono hS.size)
  clear hb HS9 HR9
  refine hK.out _ _ hS (fun _ => ?_)
  simp only [Act.put, List.setIfInBounds_toArray, List.set_cons_zero, List.set_cons_succ]
  clear hK K
  refine take_lawH 12 (some 22) (.agg (sv true a b c (.slice so 104 sc)).toArray) rfl rfl (by kernel_rfl) (by kernel_rfl) (by kernel_rfl) (fun _ _ _ h => h) (Or.inl ⟨by rfl, fun w' hw' => by exact exec_build 36 _ rfl _ _ (by kernel_rfl)⟩) hS ?_
  simp only [Act.put, List.setIfInBounds_toArray, List.set_cons_zero, List.set_cons_succ]
  refine wpAnyH_ready (rs := [13]) (by kernel_rfl) (by simp) ?_
  refine AllReadyH.cons rfl (fun K hK => ?_) AllReadyH.nil
  have NBo := NB_HS
  refine step_storeK _ rfl none rfl (.tmp 4) (.tmp 22) 36 rfl w1.heap.size (sv false 0 0 0 (.slice none 0 0)) (sv true a b c (.slice so 104 sc)) rfl rfl HS.out rfl rowy_rslot.2 (sv_one _ _ _ _ rfl) ?_
  intro x5 v9 B9 E9
  have HS : Hid (Vr x5 w1.heap.size (sv true a b c (.slice so 104 sc))) := v9
  have HR : Hid (Vr x5 w.heap.size (sv false 0 0 0 (.slice none 0 0))) := HR.out.heap (E9 _ (Nat.ne_of_lt LT_HR_HS.out))
  have NB_HR : Hid (NoB x5 w.heap.size) := NB_HR.out.heap (E9 _ (Nat.ne_of_lt LT_HR_HS.out))
  have hS : Below w.heap.size w x5 := hS.trans (B9.mono LE_HS.out)
  clear v9 B9 E9 NBo
  refine hK.out _ _ hS (fun _ => ?_)
  simp only [Act.put]
  clear hK K
  refine wpAnyH_done (by kernel_rfl) ?_ _
  have BB : Hid (Below w.heap.size w x5) := hS
  clear hS
  have hs_0 := HS.out.cell 0 _ rfl
  have hs_1 := HS.out.cell 1 _ rfl
  have hs_2 := HS.out.cell 2 _ rfl
  have hs_3 := HS.out.cell 3 _ rfl
  have hs_4 := HS.out.cell 4 _ rfl
  have t50 : (1 : Nat) = 1 := rfl
  go_wp2_with (first
    | (have q53 := t53; (with_reducible refine at_store ?_); refine store_lawC _ (sv true a b c (.slice so 104 sc)) w.heap.size 0 rfl rfl HR.out.2 rowy_rslot.2 (sv_one _ _ _ _ rfl) ?_; intro w94 E9 R9 T9 B9; have K9 : ∀ k, k ≠ w.heap.size → w94.heap[k]? = w93.heap[k]? := (by rw [E9.out]; exact fun k hk => heap_cells _ _ _ _ k hk); have HS : Hid (Vr w94 w1.heap.size (sv true a b c (.slice so 104 sc))) := HS.out.heap (K9 _ (Nat.ne_of_gt LT_HR_HS.out)); have HW : Hid (Byt w94 r9 ZZ) := byt_nob HW.out NB_HR.out K9; have NB_HR : Hid (NoB w94 w.heap.size) := (by rw [E9.out]; exact NB_HR.out.set HR.out rfl (sv_nob _ _ _ _ _ _ _)); have HR : Hid (Vr w94 w.heap.size (sv true a b c (.slice so 104 sc))) := ⟨R9, T9⟩; have BB : Hid (Below w.heap.size w w94) := BB.out.trans (B9.mono LE_HR.out); clear hs_0 hs_1 hs_2 hs_3 hs_4; have hs_0 := HS.out.cell 0 _ rfl; have hs_1 := HS.out.cell 1 _ rfl; have hs_2 := HS.out.cell 2 _ rfl; have hs_3 := HS.out.cell 3 _ rfl; have hs_4 := HS.out.cell 4 _ rfl; clear E9 R9 T9 B9 K9; clear t53; have t54 : (1 : Nat) = 1 := rfl)
    | (have q52 := t52; go_at_call 18; refine (same_b w92 _ _ ZZ xs HW.out (HB.out.below BB.out) true HD.out).mono ?_; rintro e9 w93 ⟨rfl, B9⟩; have NB_HR : Hid (NoB w93 w.heap.size) := NB_HR.out.heap (B9.block _ (range_lt HR.out.1 (Nat.succ_pos _))); have HR : Hid (Vr w93 w.heap.size (sv false 0 0 0 (.slice none 0 0))) := HR.out.below B9 (range_lt HR.out.1 (Nat.succ_pos _)); have HS : Hid (Vr w93 w1.heap.size (sv true a b c (.slice so 104 sc))) := HS.out.below B9 (range_lt HS.out.1 (Nat.succ_pos _)); have HW : Hid (Byt w93 r9 ZZ) := HW.out.below B9; have BB : Hid (Below w.heap.size w w93) := BB.out.trans (B9.mono BB.out.size); clear hs_0 hs_1 hs_2 hs_3 hs_4; have hs_0 := HS.out.cell 0 _ rfl; have hs_1 := HS.out.cell 1 _ rfl; have hs_2 := HS.out.cell 2 _ rfl; have hs_3 := HS.out.cell 3 _ rfl; have hs_4 := HS.out.cell 4 _ rfl; clear B9; clear t52; have t53 : (1 : Nat) = 1 := rfl)
    | (have q51 := t51; go_at_call 41; refine (SB.out w91 BB.out).mono ?_; rintro e9 w92 ⟨r9, rfl, Y9, B9⟩; have NB_HR : Hid (NoB w92 w.heap.size) := NB_HR.out.heap (B9.block _ (range_lt HR.out.1 (Nat.succ_pos _))); have HR : Hid (Vr w92 w.heap.size (sv false 0 0 0 (.slice none 0 0))) := HR.out.below B9 (range_lt HR.out.1 (Nat.succ_pos _)); have HS : Hid (Vr w92 w1.heap.size (sv true a b c (.slice so 104 sc))) := HS.out.below B9 (range_lt HS.out.1 (Nat.succ_pos _)); have HW : Hid (Byt w92 r9 ZZ) := Y9; have BB : Hid (Below w.heap.size w w92) := BB.out.trans (B9.mono BB.out.size); clear hs_0 hs_1 hs_2 hs_3 hs_4; have hs_0 := HS.out.cell 0 _ rfl; have hs_1 := HS.out.cell 1 _ rfl; have hs_2 := HS.out.cell 2 _ rfl; have hs_3 := HS.out.cell 3 _ rfl; have hs_4 := HS.out.cell 4 _ rfl; clear B9 Y9; clear t51; have t52 : (1 : Nat) = 1 := rfl)
    | (have q50 := t50; go_at_call 34; refine (SR.out x5 BB.out).mono ?_; rintro e9 w91 ⟨rfl, B9⟩; have NB_HR : Hid (NoB w91 w.heap.size) := NB_HR.out.heap (B9.block _ (range_lt HR.out.1 (Nat.succ_pos _))); have HR : Hid (Vr w91 w.heap.size (sv false 0 0 0 (.slice none 0 0))) := HR.out.below B9 (range_lt HR.out.1 (Nat.succ_pos _)); have HS : Hid (Vr w91 w1.heap.size (sv true a b c (.slice so 104 sc))) := HS.out.below B9 (range_lt HS.out.1 (Nat.succ_pos _)); have BB : Hid (Below w.heap.size w w91) := BB.out.trans (B9.mono BB.out.size); clear hs_0 hs_1 hs_2 hs_3 hs_4; have hs_0 := HS.out.cell 0 _ rfl; have hs_1 := HS.out.cell 1 _ rfl; have hs_2 := HS.out.cell 2 _ rfl; have hs_3 := HS.out.cell 3 _ rfl; have hs_4 := HS.out.cell 4 _ rfl; clear B9; clear t50; have t51 : (1 : Nat) = 1 := rfl))
  exact bodyPost_ret (v := .tuple #[.agg (sv true a b c (.slice so 104 sc)).toArray, .bool true]) (results_cv rfl _ _ w.heap.size _ _ rowy_rslot rfl rfl HR.out.1) rfl ⟨_, _, rfl, HQ.out.below BB.out, BB.out⟩

/-- bytes that are no slot's -/
theorem rread_no (v : Value) (xs : List Int) (w : World) (hb : Byt w v xs) (hl : xs.length = 128) (h1 : ¬ xs = List.replicate 128 0) (h2 : ¬ Ur xs) :
    Calls Tryd.prog 45 #[v] w fun x w' => x = .returned (.tuple #[.agg (sv false 0 0 0 (.slice none 0 0)).toArray, .bool false]) ∧ Below w.heap.size w w' := by
  by_cases h0 : gb xs 0 = 1
  · by_cases hr : 1 ≤ gn xs ∧ gn xs ≤ 65535
    · refine rread_form v xs w hb hl h0 hr (decide_eq_false fun q => ?_)
      obtain ⟨a, b, c, d⟩ := sbt_first q
      exact h2 ⟨a, b, c, d, hr.1, hr.2⟩
    · exact rread_range v xs w hb hl h0 hr
  · exact rread_notz v xs w hb hl h0 (decide_eq_false fun q => h1 q.symm)
theorem rread_free (v : Value) (w : World) (hb : Byt w v (List.replicate 128 0)) :
    Calls Tryd.prog 45 #[v] w fun x w' => x = .returned (.tuple #[.agg (sv false 0 0 0 (.slice none 0 0)).toArray, .bool true]) ∧ Below w.heap.size w w' :=
  rread_zero v _ w hb List.length_replicate (show (0 : Int) ≠ 1 by omega) (decide_eq_true rfl)
theorem rread_yes (v : Value) (xs : List Int) (w : World) (hb : Byt w v xs) (hl : xs.length = 128) (h : Ur xs) :
    Calls Tryd.prog 45 #[v] w fun x w' => ∃ yo yc, x = .returned (.tuple #[.agg (sv true (gn xs) (ge' xs) (gt' xs) (.slice yo 104 yc)).toArray, .bool true]) ∧ Byt w' (.slice yo 104 yc) (gw xs) ∧ Below w.heap.size w w' := by
  obtain ⟨a, b, c, d, e, f⟩ := h
  exact rread_used v xs w hb hl a ⟨e, f⟩ (decide_eq_true (sbt_g hl hb.all a b c d))
end Go.Proofs.YtmbfccclghnaeaaDoor.so

