/- P9.3: of two sectors of at most 600 bytes each, under any keys and tweak that may be: at each place that both have, what becomes of their blocks is alike just when the blocks are; else the program answers at all. -/
import Derived.Test.YtijadglmbopboaaPackE
namespace Go.Proofs.Ytijadglmbopboaa.xtsBlocks
open Go.ChangeShapes Go.WideShapes Go.ChangeAt Go.RowKit

open Go.Proofs.Ytijadglmbopboaa.xt

set_option maxHeartbeats 2000000 in
theorem walk_a (va : Value) (dk : List Int) (vb : Value) (tk : List Int) (vc : Value) (ab : List Int) (sa : Value) (as_ : List Int) (sb : Value) (bs : List Int) (w : World) (h0 : Byt w va dk) (h1 : Byt w vb tk) (h2 : Byt w vc ab) (ha : Byt w sa as_) (hb : Byt w sb bs) (hn' : ¬ Ok dk tk ab as_) :
    Calls Try.prog 6 #[.agg #[va, vb, vc], sa, sb] w fun e w' => e = .returned (.bool true) ∧ Below w.heap.size w w' := by
  have AW : Hid (∀ w0, Calls Try.prog 8 #[] w0 fun e w' => e = .returned (.bool true) ∧ Below w0.heap.size w0 w') := awake_any
  have SA : Hid (∀ w0, Below w.heap.size w w0 → Calls Try.prog 11 #[va, vb, vc, sa] w0 fun e w' => e = .returned (.bool false) ∧ w' = w0) := fun w0 hq => right_any w0 va vb vc sa dk tk ab as_ (h0.below hq) (h1.below hq) (h2.below hq) (ha.below hq) false (okb_no hn')
  obtain ⟨ao, ca, rfl, -, -, -, -, -⟩ := ha
  obtain ⟨bo, cb, rfl, -, -, -, -, -⟩ := hb
  obtain ⟨n, hn⟩ : ∃ n, n = as_.length := ⟨_, rfl⟩
  obtain ⟨m, hm⟩ : ∃ m, m = bs.length := ⟨_, rfl⟩
  rw [← hn] at SA ⊢
  rw [← hm] at ⊢
  clear h0 h1 h2 hn hm hn'
  have t0 : (0 : Nat) = 0 := rfl
  go_enter Try.func6, Try.ntmps6
  go_wp2_with (first
    | (go_at_call 8; refine (AW.out _).mono ?_; rintro e w9 ⟨rfl, B9⟩; have BB : Hid (Below w.heap.size w w9) := BB.out.trans (B9.mono BB.out.size); clear B9)
    | (have q1 := t1; go_at_call 11; refine (SA.out _ BB.out).mono ?_; rintro e wx ⟨rfl, hw⟩; obtain rfl := hw.symm; have t2 : (0 : Nat) = 0 := rfl; clear t1)
    | (have q0 := t0; refine box_keys _ rfl (.tmp 0) rfl va vb vc rfl ?_; intro w1 X1 B1; obtain ⟨kb, hkb⟩ : ∃ k, k = w.heap.size := ⟨_, rfl⟩; rw [← hkb] at X1; rw [← hkb]; have BB : Hid (Below w.heap.size w w1) := B1; have XX : Hid (Bx w1 kb va vb vc) := X1; obtain ⟨f0, f1, f2⟩ := X1; have t1 : (0 : Nat) = 0 := rfl; clear hkb B1 t0))
  go_ret
  exact ⟨rfl, BB.out⟩

set_option maxHeartbeats 2000000 in
theorem walk_b (va : Value) (dk : List Int) (vb : Value) (tk : List Int) (vc : Value) (ab : List Int) (sa : Value) (as_ : List Int) (sb : Value) (bs : List Int) (w : World) (h0 : Byt w va dk) (h1 : Byt w vb tk) (h2 : Byt w vc ab) (ha : Byt w sa as_) (hb : Byt w sb bs) (h3 : Ok dk tk ab as_) (hn' : ¬ Ok dk tk ab bs) :
    Calls Try.prog 6 #[.agg #[va, vb, vc], sa, sb] w fun e w' => e = .returned (.bool true) ∧ Below w.heap.size w w' := by
  have AW : Hid (∀ w0, Calls Try.prog 8 #[] w0 fun e w' => e = .returned (.bool true) ∧ Below w0.heap.size w0 w') := awake_any
  have SA : Hid (∀ w0, Below w.heap.size w w0 → Calls Try.prog 11 #[va, vb, vc, sa] w0 fun e w' => e = .returned (.bool true) ∧ w' = w0) := fun w0 hq => right_any w0 va vb vc sa dk tk ab as_ (h0.below hq) (h1.below hq) (h2.below hq) (ha.below hq) true (okb_yes h3)
  have SB : Hid (∀ w0, Below w.heap.size w w0 → Calls Try.prog 11 #[va, vb, vc, sb] w0 fun e w' => e = .returned (.bool false) ∧ w' = w0) := fun w0 hq => right_any w0 va vb vc sb dk tk ab bs (h0.below hq) (h1.below hq) (h2.below hq) (hb.below hq) false (okb_no hn')
  obtain ⟨ao, ca, rfl, -, -, -, -, -⟩ := ha
  obtain ⟨bo, cb, rfl, -, -, -, -, -⟩ := hb
  obtain ⟨n, hn⟩ : ∃ n, n = as_.length := ⟨_, rfl⟩
  obtain ⟨m, hm⟩ : ∃ m, m = bs.length := ⟨_, rfl⟩
  rw [← hn] at SA ⊢
  rw [← hm] at SB ⊢
  clear h0 h1 h2 hn hm h3 hn'
  have t0 : (0 : Nat) = 0 := rfl
  go_enter Try.func6, Try.ntmps6
  go_wp2_with (first
    | (go_at_call 8; refine (AW.out _).mono ?_; rintro e w9 ⟨rfl, B9⟩; have BB : Hid (Below w.heap.size w w9) := BB.out.trans (B9.mono BB.out.size); clear B9)
    | (have q2 := t2; go_at_call 11; refine (SB.out _ BB.out).mono ?_; rintro e wx ⟨rfl, hw⟩; obtain rfl := hw.symm; have t3 : (0 : Nat) = 0 := rfl; clear t2)
    | (have q1 := t1; go_at_call 11; refine (SA.out _ BB.out).mono ?_; rintro e wx ⟨rfl, hw⟩; obtain rfl := hw.symm; have t2 : (0 : Nat) = 0 := rfl; clear t1)
    | (have q0 := t0; refine box_keys _ rfl (.tmp 0) rfl va vb vc rfl ?_; intro w1 X1 B1; obtain ⟨kb, hkb⟩ : ∃ k, k = w.heap.size := ⟨_, rfl⟩; rw [← hkb] at X1; rw [← hkb]; have BB : Hid (Below w.heap.size w w1) := B1; have XX : Hid (Bx w1 kb va vb vc) := X1; obtain ⟨f0, f1, f2⟩ := X1; have t1 : (0 : Nat) = 0 := rfl; clear hkb B1 t0))
  go_ret
  exact ⟨rfl, BB.out⟩

set_option maxHeartbeats 2000000 in
theorem walk_la (va : Value) (dk : List Int) (vb : Value) (tk : List Int) (vc : Value) (ab : List Int) (sa : Value) (as_ : List Int) (sb : Value) (bs : List Int) (w : World) (h0 : Byt w va dk) (h1 : Byt w vb tk) (h2 : Byt w vc ab) (ha : Byt w sa as_) (hb : Byt w sb bs) (h3 : Ok dk tk ab as_) (h4 : Ok dk tk ab bs) (h5 : 600 < as_.length) :
    Calls Try.prog 6 #[.agg #[va, vb, vc], sa, sb] w fun e w' => e = .returned (.bool true) ∧ Below w.heap.size w w' := by
  have AW : Hid (∀ w0, Calls Try.prog 8 #[] w0 fun e w' => e = .returned (.bool true) ∧ Below w0.heap.size w0 w') := awake_any
  have SA : Hid (∀ w0, Below w.heap.size w w0 → Calls Try.prog 11 #[va, vb, vc, sa] w0 fun e w' => e = .returned (.bool true) ∧ w' = w0) := fun w0 hq => right_any w0 va vb vc sa dk tk ab as_ (h0.below hq) (h1.below hq) (h2.below hq) (ha.below hq) true (okb_yes h3)
  have SB : Hid (∀ w0, Below w.heap.size w w0 → Calls Try.prog 11 #[va, vb, vc, sb] w0 fun e w' => e = .returned (.bool true) ∧ w' = w0) := fun w0 hq => right_any w0 va vb vc sb dk tk ab bs (h0.below hq) (h1.below hq) (h2.below hq) (hb.below hq) true (okb_yes h4)
  obtain ⟨ao, ca, rfl, -, -, -, -, -⟩ := ha
  obtain ⟨bo, cb, rfl, -, -, -, -, -⟩ := hb
  obtain ⟨n, hn⟩ : ∃ n, n = as_.length := ⟨_, rfl⟩
  obtain ⟨m, hm⟩ : ∃ m, m = bs.length := ⟨_, rfl⟩
  rw [← hn] at SA h5 ⊢
  rw [← hm] at SB ⊢
  have l1 : (600 : Int) < (n : Int) := by omega
  clear h0 h1 h2 hn hm h3 h4 h5
  have t0 : (0 : Nat) = 0 := rfl
  go_enter Try.func6, Try.ntmps6
  go_wp2_with (first
    | (go_at_call 8; refine (AW.out _).mono ?_; rintro e w9 ⟨rfl, B9⟩; have BB : Hid (Below w.heap.size w w9) := BB.out.trans (B9.mono BB.out.size); clear B9)
    | (have q2 := t2; go_at_call 11; refine (SB.out _ BB.out).mono ?_; rintro e wx ⟨rfl, hw⟩; obtain rfl := hw.symm; have t3 : (0 : Nat) = 0 := rfl; clear t2)
    | (have q1 := t1; go_at_call 11; refine (SA.out _ BB.out).mono ?_; rintro e wx ⟨rfl, hw⟩; obtain rfl := hw.symm; have t2 : (0 : Nat) = 0 := rfl; clear t1)
    | (have q0 := t0; refine box_keys _ rfl (.tmp 0) rfl va vb vc rfl ?_; intro w1 X1 B1; obtain ⟨kb, hkb⟩ : ∃ k, k = w.heap.size := ⟨_, rfl⟩; rw [← hkb] at X1; rw [← hkb]; have BB : Hid (Below w.heap.size w w1) := B1; have XX : Hid (Bx w1 kb va vb vc) := X1; obtain ⟨f0, f1, f2⟩ := X1; have t1 : (0 : Nat) = 0 := rfl; clear hkb B1 t0))
  go_ret
  exact ⟨rfl, BB.out⟩

set_option maxHeartbeats 2000000 in
theorem walk_lb (va : Value) (dk : List Int) (vb : Value) (tk : List Int) (vc : Value) (ab : List Int) (sa : Value) (as_ : List Int) (sb : Value) (bs : List Int) (w : World) (h0 : Byt w va dk) (h1 : Byt w vb tk) (h2 : Byt w vc ab) (ha : Byt w sa as_) (hb : Byt w sb bs) (h3 : Ok dk tk ab as_) (h4 : Ok dk tk ab bs) (h5 : as_.length ≤ 600) (h6 : 600 < bs.length) :
    Calls Try.prog 6 #[.agg #[va, vb, vc], sa, sb] w fun e w' => e = .returned (.bool true) ∧ Below w.heap.size w w' := by
  have AW : Hid (∀ w0, Calls Try.prog 8 #[] w0 fun e w' => e = .returned (.bool true) ∧ Below w0.heap.size w0 w') := awake_any
  have SA : Hid (∀ w0, Below w.heap.size w w0 → Calls Try.prog 11 #[va, vb, vc, sa] w0 fun e w' => e = .returned (.bool true) ∧ w' = w0) := fun w0 hq => right_any w0 va vb vc sa dk tk ab as_ (h0.below hq) (h1.below hq) (h2.below hq) (ha.below hq) true (okb_yes h3)
  have SB : Hid (∀ w0, Below w.heap.size w w0 → Calls Try.prog 11 #[va, vb, vc, sb] w0 fun e w' => e = .returned (.bool true) ∧ w' = w0) := fun w0 hq => right_any w0 va vb vc sb dk tk ab bs (h0.below hq) (h1.below hq) (h2.below hq) (hb.below hq) true (okb_yes h4)
  obtain ⟨ao, ca, rfl, -, -, -, -, -⟩ := ha
  obtain ⟨bo, cb, rfl, -, -, -, -, -⟩ := hb
  obtain ⟨n, hn⟩ : ∃ n, n = as_.length := ⟨_, rfl⟩
  obtain ⟨m, hm⟩ : ∃ m, m = bs.length := ⟨_, rfl⟩
  rw [← hn] at SA h5 ⊢
  rw [← hm] at SB ⊢
  rw [← hm] at h6
  have l1 : ¬ ((600 : Int) < (n : Int)) := by omega
  have l2 : (600 : Int) < (m : Int) := by omega
  clear h0 h1 h2 hn hm h3 h4 h5 h6
  have t0 : (0 : Nat) = 0 := rfl
  go_enter Try.func6, Try.ntmps6
  go_wp2_with (first
    | (go_at_call 8; refine (AW.out _).mono ?_; rintro e w9 ⟨rfl, B9⟩; have BB : Hid (Below w.heap.size w w9) := BB.out.trans (B9.mono BB.out.size); clear B9)
    | (have q2 := t2; go_at_call 11; refine (SB.out _ BB.out).mono ?_; rintro e wx ⟨rfl, hw⟩; obtain rfl := hw.symm; have t3 : (0 : Nat) = 0 := rfl; clear t2)
    | (have q1 := t1; go_at_call 11; refine (SA.out _ BB.out).mono ?_; rintro e wx ⟨rfl, hw⟩; obtain rfl := hw.symm; have t2 : (0 : Nat) = 0 := rfl; clear t1)
    | (have q0 := t0; refine box_keys _ rfl (.tmp 0) rfl va vb vc rfl ?_; intro w1 X1 B1; obtain ⟨kb, hkb⟩ : ∃ k, k = w.heap.size := ⟨_, rfl⟩; rw [← hkb] at X1; rw [← hkb]; have BB : Hid (Below w.heap.size w w1) := B1; have XX : Hid (Bx w1 kb va vb vc) := X1; obtain ⟨f0, f1, f2⟩ := X1; have t1 : (0 : Nat) = 0 := rfl; clear hkb B1 t0))
  go_ret
  exact ⟨rfl, BB.out⟩

theorem alike (dk : List Int) (hdl : dk.length = 32) (hda : AllB dk) (M : Nat) (as_ bs : List Int) (Na Nb : Nat) (ha : AllB as_) (hb : AllB bs) (hla : as_.length = 16 * Na) (hlb : bs.length = 16 * Nb) (k : Nat) (hk : k < Na) (hk' : k < Nb) :
    decide (cut16 (run (xe dk) M as_ Na) k = cut16 (run (xe dk) M bs Nb) k) = decide (cut16 as_ k = cut16 bs k) := by
  rw [run_cut _ (keeps_e dk hdl hda) M as_ ha Na (by omega) k hk, run_cut _ (keeps_e dk hdl hda) M bs hb Nb (by omega) k hk']
  exact decide_eq_decide.2 (xe_only dk hdl hda _ _ _ (msk_blk M k) (cut16_blk as_ k ha (by omega)) (cut16_blk bs k hb (by omega)))

/-- 'b[l:h]' in a region that only reads -/
theorem q_cut {ops : Array Oper} {C : World → Prop} {K : Act → Prop} {o : Oper} {a : Act} (hw : Region.wanted o (yielded ops a.tmps) = true) (d : Option Tmp) (hd : o.dst = d) (s x y : Operand) (hop : o.op = Op.slice 22 s (some x) (some y) none) (v : Value) (xs : List Int) (w0 : World) (hb : Byt w0 v xs) (L H : Int) (l h : Nat)
    (hs : a.eval s = v) (hx : a.eval x = .int .i64 L) (hy : a.eval y = .int .i64 H) (hL : L = (l : Int)) (hH : H = (h : Int)) (hl : l ≤ h) (hh : h ≤ xs.length)
    (hK : ∀ v', (∀ w', Byt w' v xs → Byt w' v' ((xs.take h).drop l)) → K (a.put d v')) :
    if Region.wanted o (yielded ops a.tmps) = true then o.quiet Try.prog a C K else K (a.put o.dst undef) := by
  obtain ⟨ao, cap, rfl, hc, -⟩ := byt_cut hb l h hl hh
  refine q_val hw d hd (sliced ao l h cap 1) (fun w' _ => ?_) (hK _ fun w' h' => ?_)
  · have hrun := run_slice_lh (P := Try.prog) w' 22 ao xs.length cap und_bytes .i64 .i64 L H (by omega) (by omega) (by omega)
    rw [elem_bytes, run_size_u8] at hrun
    subst hL
    subst hH
    simp [execOp, hop, hs, hx, hy, run_sliceAt_slice w' 22 _ _ _ _ und_bytes, hrun, Result.andThen]
  · obtain ⟨ao', cap', e, -, hb'⟩ := byt_cut h' l h hl hh
    injection e with e1 e2 e3
    subst e1
    subst e3
    exact hb'

set_option linter.unusedSimpArgs false in
set_option maxRecDepth 20000 in
set_option maxHeartbeats 8000000 in
theorem walk_yes (va : Value) (dk : List Int) (vb : Value) (tk : List Int) (vc : Value) (ab : List Int) (sa : Value) (as_ : List Int) (sb : Value) (bs : List Int) (w : World) (h0 : Byt w va dk) (h1 : Byt w vb tk) (h2 : Byt w vc ab) (ha : Byt w sa as_) (hb : Byt w sb bs) (h3 : Ok dk tk ab as_) (h4 : Ok dk tk ab bs) (h5 : as_.length ≤ 600) (h6 : bs.length ≤ 600) :
    Calls Try.prog 6 #[.agg #[va, vb, vc], sa, sb] w fun e w' => e = .returned (.bool true) ∧ Below w.heap.size w w' := by
  obtain ⟨hdl, htl, hal, ha1, ha2, ha3⟩ := id h3
  obtain ⟨-, -, -, hb1, hb2, hb3⟩ := id h4
  obtain ⟨Na, hNa⟩ : ∃ N, N = as_.length / 16 := ⟨_, rfl⟩
  obtain ⟨Nb, hNb⟩ : ∃ N, N = bs.length / 16 := ⟨_, rfl⟩
  have hla : as_.length = 16 * Na := by omega
  have hlb : bs.length = 16 * Nb := by omega
  have hda := h0.all
  have hta := h1.all
  have haa := ha.all
  have hba := hb.all
  obtain ⟨M, hM⟩ : ∃ M, M = nm16 (encr tk ab) := ⟨_, rfl⟩
  have xl := run_len _ (keeps_e dk hdl hda) M as_ haa Na (by omega)
  have yl := run_len _ (keeps_e dk hdl hda) M bs hba Nb (by omega)
  have AW : Hid (∀ w0, Calls Try.prog 8 #[] w0 fun e w' => e = .returned (.bool true) ∧ Below w0.heap.size w0 w') := awake_any
  have SA : Hid (∀ w0, Below w.heap.size w w0 → Calls Try.prog 11 #[va, vb, vc, sa] w0 fun e w' => e = .returned (.bool true) ∧ w' = w0) := fun w0 hq => right_any w0 va vb vc sa dk tk ab as_ (h0.below hq) (h1.below hq) (h2.below hq) (ha.below hq) true (okb_yes h3)
  have SB : Hid (∀ w0, Below w.heap.size w w0 → Calls Try.prog 11 #[va, vb, vc, sb] w0 fun e w' => e = .returned (.bool true) ∧ w' = w0) := fun w0 hq => right_any w0 va vb vc sb dk tk ab bs (h0.below hq) (h1.below hq) (h2.below hq) (hb.below hq) true (okb_yes h4)
  have S1 : Hid (∀ w0, Below w.heap.size w w0 → Calls Try.prog 9 #[va, vb] w0 fun e w' => ∃ c, e = .returned (.tuple #[.pointer (some ⟨c, 0, none⟩), .int .i64 0]) ∧ Cip w' c dk tk ∧ w0.heap.size ≤ c ∧ Below w0.heap.size w0 w') := fun w0 hq => xnew_any va vb dk tk w0 (h0.below hq) (h1.below hq) hdl htl
  have EA : Hid (∀ c w0, Below w.heap.size w w0 → Cip w0 c dk tk → Calls Try.prog 10 #[.pointer (some ⟨c, 0, none⟩), vc, sa] w0 fun e w' => ∃ xo xc, e = .returned (.tuple #[.slice xo as_.length xc, .int .i64 0]) ∧ Byt w' (.slice xo as_.length xc) (run (xe dk) M as_ Na) ∧ Below w0.heap.size w0 w') := fun c w0 hq hc => by
    have := xenc_any c vc sa dk tk ab as_ Na w0 hc hdl hda htl hta (h2.below hq) hal (ha.below hq) hla (by omega) (by omega)
    rw [← hM] at this
    refine this.mono ?_
    rintro e w' ⟨v, rfl, hy, hb'⟩
    have hy' := hy
    obtain ⟨xo, xc, rfl, -, -, -, -, -⟩ := hy
    rw [xl, ← hla] at hy' ⊢
    exact ⟨xo, xc, rfl, hy', hb'⟩
  have EB : Hid (∀ c w0, Below w.heap.size w w0 → Cip w0 c dk tk → Calls Try.prog 10 #[.pointer (some ⟨c, 0, none⟩), vc, sb] w0 fun e w' => ∃ xo xc, e = .returned (.tuple #[.slice xo bs.length xc, .int .i64 0]) ∧ Byt w' (.slice xo bs.length xc) (run (xe dk) M bs Nb) ∧ Below w0.heap.size w0 w') := fun c w0 hq hc => by
    have := xenc_any c vc sb dk tk ab bs Nb w0 hc hdl hda htl hta (h2.below hq) hal (hb.below hq) hlb (by omega) (by omega)
    rw [← hM] at this
    refine this.mono ?_
    rintro e w' ⟨v, rfl, hy, hb'⟩
    have hy' := hy
    obtain ⟨xo, xc, rfl, -, -, -, -, -⟩ := hy
    rw [yl, ← hlb] at hy' ⊢
    exact ⟨xo, xc, rfl, hy', hb'⟩
  have HD : Hid (∀ k, k < Na → k < Nb → decide (cut16 (run (xe dk) M as_ Na) k = cut16 (run (xe dk) M bs Nb) k) = decide (cut16 as_ k = cut16 bs k)) := fun k hk hk' => alike dk hdl hda M as_ bs Na Nb haa hba hla hlb k hk hk'
  have LX : Hid ((run (xe dk) M as_ Na).length = 16 * Na) := xl
  have LY : Hid ((run (xe dk) M bs Nb).length = 16 * Nb) := yl
  have LA : Hid (as_.length = 16 * Na) := hla
  have LB : Hid (bs.length = 16 * Nb) := hlb
  have HA : Hid (Byt w sa as_) := ha
  have HB : Hid (Byt w sb bs) := hb
  generalize run (xe dk) M as_ Na = X at *
  generalize run (xe dk) M bs Nb = Y at *
  clear h0 h1 h2 h3 h4 hdl htl hal ha1 ha2 ha3 hb1 hb2 hb3 hNa hNb hda hta haa hba hM xl yl
  obtain ⟨ao, ca, rfl, -, -, -, -, -⟩ := ha
  obtain ⟨bo, cb, rfl, -, -, -, -, -⟩ := hb
  obtain ⟨n, hn⟩ : ∃ n, n = as_.length := ⟨_, rfl⟩
  obtain ⟨m, hm⟩ : ∃ m, m = bs.length := ⟨_, rfl⟩
  rw [← hn] at SA EA HA h5 hla ⊢
  rw [← hm] at SB EB HB h6 hlb ⊢
  have l1 : ¬ ((600 : Int) < (n : Int)) := by omega
  have l2 : ¬ ((600 : Int) < (m : Int)) := by omega
  have HNM : Hid (n = 16 * Na ∧ m = 16 * Nb ∧ Na ≤ 40 ∧ Nb ≤ 40) := ⟨hla, hlb, by omega, by omega⟩
  clear hn hm h5 h6 hla hlb
  have t0 : (0 : Nat) = 0 := rfl
  go_enter Try.func6, Try.ntmps6
  go_wp2_with (first
    | (have q5 := t5; go_at_call 10; refine (EB.out _ _ BB.out C3.out).mono ?_; rintro e w4 ⟨yo, yc, rfl, y4, B4⟩; have BB : Hid (Below w.heap.size w w4) := BB.out.trans (B4.mono BB.out.size); have YY : Hid (Byt w4 (.slice yo m yc) Y) := y4; have YX : Hid (Byt w4 (.slice xo n xc) X) := YX.out.below B4; have t6 : (0 : Nat) = 0 := rfl; clear y4 B4 t5)
    | (have q4 := t4; go_at_call 10; refine (EA.out _ _ BB.out C2.out).mono ?_; rintro e w3 ⟨xo, xc, rfl, y3, B3⟩; have BB : Hid (Below w.heap.size w w3) := BB.out.trans (B3.mono BB.out.size); have YX : Hid (Byt w3 (.slice xo n xc) X) := y3; have C3 : Hid (Cip w3 c2 dk tk) := C2.out.below B3; have XX : Hid (Bx w3 kb va vb vc) := XX.out.below B3; obtain ⟨f0, f1, f2⟩ := XX.out; have t5 : (0 : Nat) = 0 := rfl; clear y3 B3 t4)
    | (have q3 := t3; go_at_call 9; refine (S1.out _ BB.out).mono ?_; rintro e w2 ⟨c2, rfl, y2, L2, B2⟩; have BB : Hid (Below w.heap.size w w2) := BB.out.trans (B2.mono BB.out.size); have C2 : Hid (Cip w2 c2 dk tk) := y2; have XX : Hid (Bx w2 kb va vb vc) := XX.out.below B2; obtain ⟨f0, f1, f2⟩ := XX.out; have t4 : (0 : Nat) = 0 := rfl; clear y2 B2 L2 t3)
    | (have q2 := t2; go_at_call 11; refine (SB.out _ BB.out).mono ?_; rintro e wx ⟨rfl, hw⟩; obtain rfl := hw.symm; have t3 : (0 : Nat) = 0 := rfl; clear t2)
    | (have q1 := t1; go_at_call 11; refine (SA.out _ BB.out).mono ?_; rintro e wx ⟨rfl, hw⟩; obtain rfl := hw.symm; have t2 : (0 : Nat) = 0 := rfl; clear t1)
    | (have q0 := t0; refine box_keys _ rfl (.tmp 0) rfl va vb vc rfl ?_; intro w1 X1 B1; obtain ⟨kb, hkb⟩ : ∃ k, k = w.heap.size := ⟨_, rfl⟩; rw [← hkb] at X1; rw [← hkb]; have BB : Hid (Below w.heap.size w w1) := B1; have XX : Hid (Bx w1 kb va vb vc) := X1; obtain ⟨f0, f1, f2⟩ := X1; have t1 : (0 : Nat) = 0 := rfl; clear hkb B1 t0))
  have YA : Hid (Byt w4 (.slice ao n ca) as_) := HA.out.below BB.out
  have YB : Hid (Byt w4 (.slice bo m cb) bs) := HB.out.below BB.out
  clear C2 C3 XX HA HB f0 f1 f2 S1 EA EB SA SB t6
  go_loopw [13] (fun i wr => ∃ k : Nat, k ≤ Na ∧ k ≤ Nb ∧ i = .int .i64 ((16 * k : Nat) : Int) ∧ Below w4.heap.size w4 wr) (fun i _ => 16 * Na - (intOf i).toNat)
  case atStart => exact ⟨0, Nat.zero_le _, Nat.zero_le _, rfl, Below.refl _ _⟩
  case round =>
    obtain ⟨k, hk, hk', rfl, hB4⟩ := hrel
    obtain ⟨wa, rfl⟩ : ∃ wx, wx = wr := ⟨_, rfl⟩
    obtain ⟨j, hj⟩ : ∃ j, j = 16 * k := ⟨_, rfl⟩
    have HJ : Hid (j = 16 * k) := hj
    rw [← hj]
    have j0 : (0 : Int) ≤ (j : Int) := by omega
    have HB4 : Hid (Below w4.heap.size w4 wa) := hB4
    clear hB4
    by_cases hlt : k < Na ∧ k < Nb
    · have k1 : (j : Int) < (n : Int) := by have := HNM.out; omega
      have k2 : (j : Int) < (m : Int) := by have := HNM.out; omega
      have q3 : IntKind.i64.wrap ((j : Int) + 16) = (j : Int) + 16 := by have := HNM.out; rw [IntKind.wrap_i64]; omega
      obtain ⟨D, hD⟩ : ∃ D, D = decide (cut16 as_ k = cut16 bs k) := ⟨_, rfl⟩
      have YA : Hid (Byt wa (.slice ao n ca) as_) := YA.out.below HB4.out
      have YB : Hid (Byt wa (.slice bo m cb) bs) := YB.out.below HB4.out
      have YX : Hid (Byt wa (.slice xo n xc) X) := YX.out.below HB4.out
      have YY : Hid (Byt wa (.slice yo m yc) Y) := YY.out.below HB4.out
      have PS1 : Hid (∀ v1 v2, (∀ w', Byt w' (.slice ao n ca) as_ → Byt w' v1 (cut16 as_ k)) → (∀ w', Byt w' (.slice bo m cb) bs → Byt w' v2 (cut16 bs k)) → ∀ w', Below wa.heap.size wa w' → Calls Try.prog 12 #[v1, v2] w' fun e w'' => e = .returned (.bool D) ∧ Below wa.heap.size wa w'') := fun v1 v2 g1 g2 w' h => (same_any w' _ _ _ _ (g1 w' (YA.out.below h)) (g2 w' (YB.out.below h))).mono fun _ _ ⟨he, i, hw⟩ => ⟨by rw [he, hD], by rw [hw]; exact below_drewN h i⟩
      have PS2 : Hid (∀ v1 v2, (∀ w', Byt w' (.slice xo n xc) X → Byt w' v1 (cut16 X k)) → (∀ w', Byt w' (.slice yo m yc) Y → Byt w' v2 (cut16 Y k)) → ∀ w', Below wa.heap.size wa w' → Calls Try.prog 12 #[v1, v2] w' fun e w'' => e = .returned (.bool D) ∧ Below wa.heap.size wa w'') := fun v1 v2 g1 g2 w' h => (same_any w' _ _ _ _ (g1 w' (YX.out.below h)) (g2 w' (YY.out.below h))).mono fun _ _ ⟨he, i, hw⟩ => ⟨by rw [he, hD, HD.out k hlt.1 hlt.2], by rw [hw]; exact below_drewN h i⟩
      clear hD hj
      go_wp2
      refine region_quietC (C := fun w' => Below wa.heap.size wa w') (by kernel_rfl) (by kernel_rfl) (Below.refl _ _).drew ?_
      refine wpQuiet_step (fun K hK => ?_)
      refine q_val (by rfl) (some 101) rfl (.slice ao n ca) (fun w' _ => by rfl) (hK _ ?_)
      simp only [Act.put, List.setIfInBounds_toArray, List.set_cons_zero, List.set_cons_succ]
      clear hK K
      refine wpQuiet_step (fun K hK => ?_)
      refine q_val (by rfl) (some 102) rfl (.int .i64 (j : Int)) (fun w' _ => by rfl) (hK _ ?_)
      simp only [Act.put, List.setIfInBounds_toArray, List.set_cons_zero, List.set_cons_succ]
      clear hK K
      refine wpQuiet_step (fun K hK => ?_)
      refine q_val (by rfl) (some 103) rfl (.int .i64 (j : Int)) (fun w' _ => by rfl) (hK _ ?_)
      simp only [Act.put, List.setIfInBounds_toArray, List.set_cons_zero, List.set_cons_succ]
      clear hK K
      refine wpQuiet_step (fun K hK => ?_)
      refine q_val (by rfl) (some 104) rfl (.int .i64 ((j : Int) + 16)) (fun w' _ => by go_simp) (hK _ ?_)
      simp only [Act.put, List.setIfInBounds_toArray, List.set_cons_zero, List.set_cons_succ]
      clear hK K
      refine wpQuiet_step (fun K hK => ?_)
      refine q_cut (by rfl) (some 105) rfl (.tmp 101) (.tmp 102) (.tmp 104) rfl (.slice ao n ca) as_ _ YA.out (j : Int) ((j : Int) + 16) (16 * k) (16 * k + 16) rfl rfl rfl (by rw [HJ.out]) (by rw [HJ.out]; omega) (by omega) (by rw [LA.out]; omega) (fun va1 Fva1 => hK _ ?_)
      simp only [Act.put, List.setIfInBounds_toArray, List.set_cons_zero, List.set_cons_succ]
      clear hK K
      refine wpQuiet_step (fun K hK => ?_)
      refine q_val (by rfl) (some 106) rfl (.slice bo m cb) (fun w' _ => by rfl) (hK _ ?_)
      simp only [Act.put, List.setIfInBounds_toArray, List.set_cons_zero, List.set_cons_succ]
      clear hK K
      refine wpQuiet_step (fun K hK => ?_)
      refine q_val (by rfl) (some 107) rfl (.int .i64 (j : Int)) (fun w' _ => by rfl) (hK _ ?_)
      simp only [Act.put, List.setIfInBounds_toArray, List.set_cons_zero, List.set_cons_succ]
      clear hK K
      refine wpQuiet_step (fun K hK => ?_)
      refine q_val (by rfl) (some 108) rfl (.int .i64 (j : Int)) (fun w' _ => by rfl) (hK _ ?_)
      simp only [Act.put, List.setIfInBounds_toArray, List.set_cons_zero, List.set_cons_succ]
      clear hK K
      refine wpQuiet_step (fun K hK => ?_)
      refine q_val (by rfl) (some 109) rfl (.int .i64 ((j : Int) + 16)) (fun w' _ => by go_simp) (hK _ ?_)
      simp only [Act.put, List.setIfInBounds_toArray, List.set_cons_zero, List.set_cons_succ]
      clear hK K
      refine wpQuiet_step (fun K hK => ?_)
      refine q_cut (by rfl) (some 110) rfl (.tmp 106) (.tmp 107) (.tmp 109) rfl (.slice bo m cb) bs _ YB.out (j : Int) ((j : Int) + 16) (16 * k) (16 * k + 16) rfl rfl rfl (by rw [HJ.out]) (by rw [HJ.out]; omega) (by omega) (by rw [LB.out]; omega) (fun vb1 Fvb1 => hK _ ?_)
      simp only [Act.put, List.setIfInBounds_toArray, List.set_cons_zero, List.set_cons_succ]
      clear hK K
      refine wpQuiet_step (fun K hK => ?_)
      refine q_call (by rfl) (some 111) rfl 12 #[.tmp 105, .tmp 110] #[22, 22] rfl (fun q w' => by rfl) #[va1, vb1] (by simp only [List.map_toArray, List.map_cons, List.map_nil]; rfl) (.bool D) (PS1.out _ _ Fva1 Fvb1) (hK _ ?_)
      simp only [Act.put, List.setIfInBounds_toArray, List.set_cons_zero, List.set_cons_succ]
      clear hK K
      refine wpQuiet_step (fun K hK => ?_)
      refine q_val (by rfl) (some 112) rfl (.slice xo n xc) (fun w' _ => by rfl) (hK _ ?_)
      simp only [Act.put, List.setIfInBounds_toArray, List.set_cons_zero, List.set_cons_succ]
      clear hK K
      refine wpQuiet_step (fun K hK => ?_)
      refine q_val (by rfl) (some 113) rfl (.int .i64 (j : Int)) (fun w' _ => by rfl) (hK _ ?_)
      simp only [Act.put, List.setIfInBounds_toArray, List.set_cons_zero, List.set_cons_succ]
      clear hK K
      refine wpQuiet_step (fun K hK => ?_)
      refine q_val (by rfl) (some 114) rfl (.int .i64 (j : Int)) (fun w' _ => by rfl) (hK _ ?_)
      simp only [Act.put, List.setIfInBounds_toArray, List.set_cons_zero, List.set_cons_succ]
      clear hK K
      refine wpQuiet_step (fun K hK => ?_)
      refine q_val (by rfl) (some 115) rfl (.int .i64 ((j : Int) + 16)) (fun w' _ => by go_simp) (hK _ ?_)
      simp only [Act.put, List.setIfInBounds_toArray, List.set_cons_zero, List.set_cons_succ]
      clear hK K
      refine wpQuiet_step (fun K hK => ?_)
      refine q_cut (by rfl) (some 116) rfl (.tmp 112) (.tmp 113) (.tmp 115) rfl (.slice xo n xc) X _ YX.out (j : Int) ((j : Int) + 16) (16 * k) (16 * k + 16) rfl rfl rfl (by rw [HJ.out]) (by rw [HJ.out]; omega) (by omega) (by rw [LX.out]; omega) (fun vx1 Fvx1 => hK _ ?_)
      simp only [Act.put, List.setIfInBounds_toArray, List.set_cons_zero, List.set_cons_succ]
      clear hK K
      refine wpQuiet_step (fun K hK => ?_)
      refine q_val (by rfl) (some 117) rfl (.slice yo m yc) (fun w' _ => by rfl) (hK _ ?_)
      simp only [Act.put, List.setIfInBounds_toArray, List.set_cons_zero, List.set_cons_succ]
      clear hK K
      refine wpQuiet_step (fun K hK => ?_)
      refine q_val (by rfl) (some 118) rfl (.int .i64 (j : Int)) (fun w' _ => by rfl) (hK _ ?_)
      simp only [Act.put, List.setIfInBounds_toArray, List.set_cons_zero, List.set_cons_succ]
      clear hK K
      refine wpQuiet_step (fun K hK => ?_)
      refine q_val (by rfl) (some 119) rfl (.int .i64 (j : Int)) (fun w' _ => by rfl) (hK _ ?_)
      simp only [Act.put, List.setIfInBounds_toArray, List.set_cons_zero, List.set_cons_succ]
      clear hK K
      refine wpQuiet_step (fun K hK => ?_)
      refine q_val (by rfl) (some 120) rfl (.int .i64 ((j : Int) + 16)) (fun w' _ => by go_simp) (hK _ ?_)
      simp only [Act.put, List.setIfInBounds_toArray, List.set_cons_zero, List.set_cons_succ]
      clear hK K
      refine wpQuiet_step (fun K hK => ?_)
      refine q_cut (by rfl) (some 121) rfl (.tmp 117) (.tmp 118) (.tmp 120) rfl (.slice yo m yc) Y _ YY.out (j : Int) ((j : Int) + 16) (16 * k) (16 * k + 16) rfl rfl rfl (by rw [HJ.out]) (by rw [HJ.out]; omega) (by omega) (by rw [LY.out]; omega) (fun vy1 Fvy1 => hK _ ?_)
      simp only [Act.put, List.setIfInBounds_toArray, List.set_cons_zero, List.set_cons_succ]
      clear hK K
      refine wpQuiet_step (fun K hK => ?_)
      refine q_call (by rfl) (some 122) rfl 12 #[.tmp 116, .tmp 121] #[22, 22] rfl (fun q w' => by rfl) #[vx1, vy1] (by simp only [List.map_toArray, List.map_cons, List.map_nil]; rfl) (.bool D) (PS2.out _ _ Fvx1 Fvy1) (hK _ ?_)
      simp only [Act.put, List.setIfInBounds_toArray, List.set_cons_zero, List.set_cons_succ]
      clear hK K
      refine wpQuiet_step (fun K hK => ?_)
      refine q_val (by rfl) (some 123) rfl (.bool false) (fun w' _ => by (cases D <;> go_simp)) (hK _ ?_)
      simp only [Act.put, List.setIfInBounds_toArray, List.set_cons_zero, List.set_cons_succ]
      clear hK K
      refine wpQuiet_nil ?_
      intro w5 B5
      have HB5 : Hid (Below w4.heap.size w4 w5) := HB4.out.trans (B5.mono HB4.out.size)
      clear B5
      go_wp2
      go_roundw
      case rel => exact ⟨k + 1, by omega, by omega, by rw [HJ.out]; go_num, HB5.out⟩
      case measure => have := HJ.out; simp [intOf]; omega
    · by_cases hka : k < Na
      · have k1 : (j : Int) < (n : Int) := by have := HNM.out; omega
        have k2 : ¬ ((j : Int) < (m : Int)) := by have := HNM.out; omega
        clear hj
        go_wp2_with (go_at_call 8; refine (AW.out _).mono ?_; rintro e w9 ⟨rfl, B9⟩)
        go_ret
        exact ⟨rfl, BB.out.trans ((HB4.out.trans (B9.mono HB4.out.size)).mono BB.out.size)⟩
      · have k1 : ¬ ((j : Int) < (n : Int)) := by have := HNM.out; omega
        clear hj
        go_wp2_with (go_at_call 8; refine (AW.out _).mono ?_; rintro e w9 ⟨rfl, B9⟩)
        go_ret
        exact ⟨rfl, BB.out.trans ((HB4.out.trans (B9.mono HB4.out.size)).mono BB.out.size)⟩

theorem walk (va : Value) (dk : List Int) (vb : Value) (tk : List Int) (vc : Value) (ab : List Int) (sa : Value) (as_ : List Int) (sb : Value) (bs : List Int) (w : World) (h0 : Byt w va dk) (h1 : Byt w vb tk) (h2 : Byt w vc ab) (ha : Byt w sa as_) (hb : Byt w sb bs) :
    Calls Try.prog 6 #[.agg #[va, vb, vc], sa, sb] w fun e w' => e = .returned (.bool true) ∧ Below w.heap.size w w' := by
  by_cases h3 : Ok dk tk ab as_
  · by_cases h4 : Ok dk tk ab bs
    · by_cases h5 : as_.length ≤ 600
      · by_cases h6 : bs.length ≤ 600
        · exact walk_yes va dk vb tk vc ab sa as_ sb bs w h0 h1 h2 ha hb h3 h4 h5 h6
        · exact walk_lb va dk vb tk vc ab sa as_ sb bs w h0 h1 h2 ha hb h3 h4 h5 (by omega)
      · exact walk_la va dk vb tk vc ab sa as_ sb bs w h0 h1 h2 ha hb h3 h4 (by omega)
    · exact walk_b va dk vb tk vc ab sa as_ sb bs w h0 h1 h2 ha hb h3 h4
  · exact walk_a va dk vb tk vc ab sa as_ sb bs w h0 h1 h2 ha hb h3

theorem params : ∀ t ∈ Try.f6.params.toList, Try.prog.readableRec t = true ∧ t < Try.prog.types.size := by
  rw [Try.params6]
  intro t ht
  simp at ht
  rcases ht with rfl | rfl
  · exact ⟨by kernel_rfl, of_decide_eq_true (by kernel_rfl)⟩
  · exact ⟨by kernel_rfl, of_decide_eq_true (by kernel_rfl)⟩

theorem contract (H : Type) (enc : TypeId × Value → H) (W : World) (base : Nat) (args : Array Value) (ds gs : List (DataW H)) (before : List MemPlace)
    (hval : ∀ (j : Nat) t v, Try.f6.params[j]? = some t → args[j]? = some v → Value.okWide Try.prog W .any base t v)
    (hW : DataW.Whole enc Try.prog Try.f6.params.toList Rows.xtsBlocksSpec.vars false W args.toList ds gs before) :
    Calls Try.prog 6 args W fun e W' => ∃ v, e = .returned v ∧ Rows.xtsBlocksSpec.post enc Try.prog Try.f6 false true false false W args v W' := by
  have hW' := hW
  obtain ⟨p, q, hA0, hV, rfl, hfz, hnd⟩ := hW
  have hA : DataW.TrodAll enc Try.prog W 0 (fun _ => true) true Try.f6.params.toList args.toList ds p := hA0
  rw [Try.params6] at hA hval
  obtain ⟨v0, v1, v2, d0, d1, d2, p0, p1, p2, rfl, rfl, rfl, h0, h1, h2⟩ := trodAll_three hA
  obtain ⟨rfl, rfl⟩ := trodVars_none hV
  obtain ⟨va0, vb0, vc0, xs0, ys0, zs0, rfl, b0, c0, e0⟩ := keys_open (hval 0 24 v0 rfl rfl) h0
  obtain ⟨xs1, b1⟩ := byt_open (hval 1 22 v1 rfl rfl) h1
  obtain ⟨xs2, b2⟩ := byt_open (hval 2 22 v2 rfl rfl) h2
  clear hA0
  refine (walk va0 xs0 vb0 ys0 vc0 zs0 v1 xs1 v2 xs2 W b0 c0 e0 b1 b2).mono fun e W' ⟨he, hg⟩ => ?_
  subst he
  exact ⟨_, rfl, post_law rfl (by kernel_rfl) params rfl rfl rfl hW' hg⟩

theorem laid_met (os : Os) : laidMet Try.prog Rows.xtsBlocksRow.laid ((World.holding Try.prog os ⟨#[], #[], []⟩).forCall (fun _ _ => 0) ⟨#[], #[.agg #[.slice none 0 0, .slice none 0 0, .slice none 0 0], .slice none 0 0, .slice none 0 0], []⟩).memory :=
  laidMet_of_run' 8 (by kernel_rfl) (by kernel_rfl)
theorem reads (os : Os) {H : Type} (enc : TypeId × Value → H) : ∃ places, DataW.whole enc Try.prog ((World.holding Try.prog os ⟨#[], #[], []⟩).forCall (fun _ _ => 0) ⟨#[], #[.agg #[.slice none 0 0, .slice none 0 0, .slice none 0 0], .slice none 0 0, .slice none 0 0], []⟩).memory Try.f6.params.toList Rows.xtsBlocksSpec.vars false #[Value.agg #[.slice none 0 0, .slice none 0 0, .slice none 0 0], Value.slice none 0 0, Value.slice none 0 0].toList 8 = some ([.agg [.nil, .nil, .nil], .nil, .nil], [], places) :=
  ⟨[], by kernel_rfl⟩

set_option maxRecDepth 100000 in
theorem lifted (os : Os) (started : os.Started) (H : Type) (enc : TypeId × Value → H) (F : Stop.Interp) :
    ReturnsInHanded {} Try.checked os 6 .any ((OpenSpec.ofChange Rows.xtsBlocksSpec).preRow enc Try.prog Try.f6 Rows.xtsBlocksRow.domain false Rows.xtsBlocksRow.laid) (((OpenSpec.ofChange Rows.xtsBlocksSpec).at F).post enc Try.prog Try.f6 false true false false) := by
  obtain ⟨places, hx⟩ := reads os enc
  refine returnsInHanded_of_row (C := Try.checked) (s := OpenSpec.ofChange Rows.xtsBlocksSpec) own started (by kernel_rfl) Try.func6
    (witness_row_at (enc := enc) (C := Try.checked) false (World.holding Try.prog os ⟨#[], #[], []⟩) #[.agg #[.slice none 0 0, .slice none 0 0, .slice none 0 0], .slice none 0 0, .slice none 0 0] rfl (by kernel_rfl) (by kernel_rfl) (by kernel_rfl)
      (OpenSpec.preRow_of_cond 8 hx (by kernel_rfl) (fun k hk => by cases hk) (by kernel_rfl) (laid_met os))) ?_
  intro W base args ds gs before hval hW _ _ _ _ _ _
  exact contract H enc W base args ds gs before hval hW

theorem said : Rows.XtsBlocksSaid :=
  OpenClaim.holds_of_cond 6 Try.f6 rfl rfl rfl rfl rfl rfl rfl ⟨rfl, rfl, rfl, rfl, rfl⟩ rfl rfl rfl rfl rfl (by kernel_rfl) Try.func6 (by kernel_rfl)
    (of_decide_eq_true (by kernel_rfl)) (by unfold Func.isWrapper; first | (rw [if_pos (by decide +kernel)]; kernel_rfl) | (rw [if_neg (by decide +kernel)]; exact ⟨rfl, rfl⟩))
    (fun os started H enc _ F => by rw [OpenClaim.pre_eq_preRow]; exact lifted os started H enc F)
end Go.Proofs.Ytijadglmbopboaa.xtsBlocks

namespace Go.Proofs.Ytijadglmbopboaa
theorem xtsBlocks_said : Rows.XtsBlocksSaid := xtsBlocks.said
#print axioms xtsBlocks_said
end Go.Proofs.Ytijadglmbopboaa
