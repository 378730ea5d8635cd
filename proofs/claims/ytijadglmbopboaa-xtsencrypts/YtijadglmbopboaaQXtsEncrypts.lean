/- P9.1: any sector, encrypted under any keys and tweak: what the definition says, where they may be (sectors of 201 to 4096 bytes aside: there that the program answers at all); else ErrShape and nothing. -/
import Derived.Test.YtijadglmbopboaaPackE
import Derived.Test.YtijadglmbopboaaPackG
namespace Go.Proofs.Ytijadglmbopboaa.xtsEncrypts
open Go.ChangeShapes Go.WideShapes Go.ChangeAt Go.RowKit

open Go.Proofs.Ytijadglmbopboaa.xt

set_option maxHeartbeats 2000000 in
theorem walk_long (va vb vc sv : Value) (s : List Int) (w : World) (hs : Byt w sv s) (hg : 200 < s.length ∧ s.length ≤ 4096) :
    Calls Try.prog 3 #[.agg #[va, vb, vc], sv] w fun e w' => e = .returned (.bool true) ∧ Below w.heap.size w w' := by
  have AW : Hid (∀ w0, Calls Try.prog 8 #[] w0 fun e w' => e = .returned (.bool true) ∧ Below w0.heap.size w0 w') := awake_any
  obtain ⟨ao, ca, rfl, -, -, -, -, -⟩ := hs
  obtain ⟨n, hn⟩ : ∃ n, n = s.length := ⟨_, rfl⟩
  rw [← hn] at hg ⊢
  have l1 : (200 : Int) < (n : Int) := by omega
  have l2 : (n : Int) ≤ 4096 := by omega
  clear hn hg
  have t0 : (0 : Nat) = 0 := rfl
  go_enter Try.func3, Try.ntmps3
  go_wp2_with (first
    | (go_at_call 8; refine (AW.out _).mono ?_; rintro e w9 ⟨rfl, B9⟩; have BB : Hid (Below w.heap.size w w9) := BB.out.trans (B9.mono BB.out.size); clear B9)
    | (have q0 := t0; refine box_keys _ rfl (.tmp 0) rfl va vb vc rfl ?_; intro w1 X1 B1; obtain ⟨kb, hkb⟩ : ∃ k, k = w.heap.size := ⟨_, rfl⟩; rw [← hkb] at X1; rw [← hkb]; have BB : Hid (Below w.heap.size w w1) := B1; have XX : Hid (Bx w1 kb va vb vc) := X1; obtain ⟨f0, f1, f2⟩ := X1; have t1 : (0 : Nat) = 0 := rfl; clear hkb B1 t0))
  go_ret
  exact ⟨rfl, BB.out⟩

set_option maxHeartbeats 4000000 in
theorem walk_key (va : Value) (dk : List Int) (vb : Value) (tk : List Int) (vc : Value) (ab : List Int) (sv : Value) (s : List Int) (w : World) (h0 : Byt w va dk) (h1 : Byt w vb tk) (h2 : Byt w vc ab) (hs : Byt w sv s) (hg : s.length ≤ 200 ∨ 4096 < s.length) (hk : ¬ (dk.length = 32 ∧ tk.length = 32)) :
    Calls Try.prog 3 #[.agg #[va, vb, vc], sv] w fun e w' => e = .returned (.bool true) ∧ Below w.heap.size w w' := by
  have AW : Hid (∀ w0, Calls Try.prog 8 #[] w0 fun e w' => e = .returned (.bool true) ∧ Below w0.heap.size w0 w') := awake_any
  have S1 : Hid (∀ w0, Below w.heap.size w w0 → Calls Try.prog 9 #[va, vb] w0 fun e w' => e = .returned (.tuple #[.pointer none, .int .i64 2]) ∧ Below w0.heap.size w0 w') := fun w0 hb => xnew_no va vb dk tk w0 (h0.below hb) (h1.below hb) hk
  have S2 : Hid (∀ w0, Calls Try.prog 10 #[.pointer none, vc, sv] w0 fun e w' => e = .returned (.tuple #[.slice none 0 0, .int .i64 2]) ∧ w' = w0) := fun w0 => xenc_nil vc sv w0
  have S3 : Hid (∀ w0, Below w.heap.size w w0 → Calls Try.prog 11 #[va, vb, vc, sv] w0 fun e w' => e = .returned (.bool false) ∧ w' = w0) := fun w0 hb => right_any w0 va vb vc sv dk tk ab s (h0.below hb) (h1.below hb) (h2.below hb) (hs.below hb) false (okb_no fun h => hk ⟨h.1, h.2.1⟩)
  obtain ⟨ao, ca, rfl, -, -, -, -, -⟩ := hs
  obtain ⟨n, hn⟩ : ∃ n, n = s.length := ⟨_, rfl⟩
  rw [← hn] at hg S2 S3 ⊢
  clear h0 h1 h2 hn hk
  rcases hg with hg | hg
  · have l1 : ¬ ((200 : Int) < (n : Int)) := by omega
    clear hg
    have t0 : (0 : Nat) = 0 := rfl
    go_enter Try.func3, Try.ntmps3
    go_wp2_with (first
      | (go_at_call 8; refine (AW.out _).mono ?_; rintro e w9 ⟨rfl, B9⟩; have BB : Hid (Below w.heap.size w w9) := BB.out.trans (B9.mono BB.out.size); clear B9)
      | (have q3 := t3; go_at_call 11; refine (S3.out _ BB.out).mono ?_; rintro e wx ⟨rfl, hw⟩; obtain rfl := hw.symm)
      | (have q2 := t2; go_at_call 10; refine (S2.out _).mono ?_; rintro e wx ⟨rfl, hw⟩; obtain rfl := hw.symm; have t3 : (0 : Nat) = 0 := rfl)
      | (have q1 := t1; go_at_call 9; refine (S1.out _ BB.out).mono ?_; rintro e w2 ⟨rfl, B2⟩; have BB : Hid (Below w.heap.size w w2) := BB.out.trans (B2.mono BB.out.size); have XX : Hid (Bx w2 kb va vb vc) := XX.out.below B2; obtain ⟨f0, f1, f2⟩ := XX.out; have t2 : (0 : Nat) = 0 := rfl; clear B2)
      | (have q0 := t0; refine box_keys _ rfl (.tmp 0) rfl va vb vc rfl ?_; intro w1 X1 B1; obtain ⟨kb, hkb⟩ : ∃ k, k = w.heap.size := ⟨_, rfl⟩; rw [← hkb] at X1; rw [← hkb]; have BB : Hid (Below w.heap.size w w1) := B1; have XX : Hid (Bx w1 kb va vb vc) := X1; obtain ⟨f0, f1, f2⟩ := X1; have t1 : (0 : Nat) = 0 := rfl; clear hkb B1 t0))
    go_ret
    exact ⟨rfl, BB.out⟩
  · have l1 : (200 : Int) < (n : Int) := by omega
    have l2 : ¬ ((n : Int) ≤ 4096) := by omega
    clear hg
    have t0 : (0 : Nat) = 0 := rfl
    go_enter Try.func3, Try.ntmps3
    go_wp2_with (first
      | (go_at_call 8; refine (AW.out _).mono ?_; rintro e w9 ⟨rfl, B9⟩; have BB : Hid (Below w.heap.size w w9) := BB.out.trans (B9.mono BB.out.size); clear B9)
      | (have q3 := t3; go_at_call 11; refine (S3.out _ BB.out).mono ?_; rintro e wx ⟨rfl, hw⟩; obtain rfl := hw.symm)
      | (have q2 := t2; go_at_call 10; refine (S2.out _).mono ?_; rintro e wx ⟨rfl, hw⟩; obtain rfl := hw.symm; have t3 : (0 : Nat) = 0 := rfl)
      | (have q1 := t1; go_at_call 9; refine (S1.out _ BB.out).mono ?_; rintro e w2 ⟨rfl, B2⟩; have BB : Hid (Below w.heap.size w w2) := BB.out.trans (B2.mono BB.out.size); have XX : Hid (Bx w2 kb va vb vc) := XX.out.below B2; obtain ⟨f0, f1, f2⟩ := XX.out; have t2 : (0 : Nat) = 0 := rfl; clear B2)
      | (have q0 := t0; refine box_keys _ rfl (.tmp 0) rfl va vb vc rfl ?_; intro w1 X1 B1; obtain ⟨kb, hkb⟩ : ∃ k, k = w.heap.size := ⟨_, rfl⟩; rw [← hkb] at X1; rw [← hkb]; have BB : Hid (Below w.heap.size w w1) := B1; have XX : Hid (Bx w1 kb va vb vc) := X1; obtain ⟨f0, f1, f2⟩ := X1; have t1 : (0 : Nat) = 0 := rfl; clear hkb B1 t0))
    go_ret
    exact ⟨rfl, BB.out⟩

set_option maxHeartbeats 4000000 in
theorem walk_sec (va : Value) (dk : List Int) (vb : Value) (tk : List Int) (vc : Value) (ab : List Int) (sv : Value) (s : List Int) (w : World) (h0 : Byt w va dk) (h1 : Byt w vb tk) (h2 : Byt w vc ab) (hs : Byt w sv s) (hg : s.length ≤ 200 ∨ 4096 < s.length) (hk : dk.length = 32 ∧ tk.length = 32) (hn' : ¬ (ab.length = 16 ∧ 16 ≤ s.length ∧ s.length ≤ 4096 ∧ s.length % 16 = 0)) :
    Calls Try.prog 3 #[.agg #[va, vb, vc], sv] w fun e w' => e = .returned (.bool true) ∧ Below w.heap.size w w' := by
  have AW : Hid (∀ w0, Calls Try.prog 8 #[] w0 fun e w' => e = .returned (.bool true) ∧ Below w0.heap.size w0 w') := awake_any
  have S1 : Hid (∀ w0, Below w.heap.size w w0 → Calls Try.prog 9 #[va, vb] w0 fun e w' => ∃ c, e = .returned (.tuple #[.pointer (some ⟨c, 0, none⟩), .int .i64 0]) ∧ Cip w' c dk tk ∧ w0.heap.size ≤ c ∧ Below w0.heap.size w0 w') := fun w0 hb => xnew_any va vb dk tk w0 (h0.below hb) (h1.below hb) hk.1 hk.2
  have S2 : Hid (∀ c w0, Below w.heap.size w w0 → Cip w0 c dk tk → Calls Try.prog 10 #[.pointer (some ⟨c, 0, none⟩), vc, sv] w0 fun e w' => e = .returned (.tuple #[.slice none 0 0, .int .i64 2]) ∧ w' = w0) := fun c w0 hb hc => xenc_no c vc sv dk tk ab s w0 hc (h2.below hb) (hs.below hb) hn'
  have S3 : Hid (∀ w0, Below w.heap.size w w0 → Calls Try.prog 11 #[va, vb, vc, sv] w0 fun e w' => e = .returned (.bool false) ∧ w' = w0) := fun w0 hb => right_any w0 va vb vc sv dk tk ab s (h0.below hb) (h1.below hb) (h2.below hb) (hs.below hb) false (okb_no fun h => hn' h.2.2)
  obtain ⟨ao, ca, rfl, -, -, -, -, -⟩ := hs
  obtain ⟨n, hn⟩ : ∃ n, n = s.length := ⟨_, rfl⟩
  rw [← hn] at hg S2 S3 ⊢
  clear h0 h1 h2 hn hk hn'
  rcases hg with hg | hg
  · have l1 : ¬ ((200 : Int) < (n : Int)) := by omega
    clear hg
    have t0 : (0 : Nat) = 0 := rfl
    go_enter Try.func3, Try.ntmps3
    go_wp2_with (first
      | (go_at_call 8; refine (AW.out _).mono ?_; rintro e w9 ⟨rfl, B9⟩; have BB : Hid (Below w.heap.size w w9) := BB.out.trans (B9.mono BB.out.size); clear B9)
      | (have q3 := t3; go_at_call 11; refine (S3.out _ BB.out).mono ?_; rintro e wx ⟨rfl, hw⟩; obtain rfl := hw.symm)
      | (have q2 := t2; go_at_call 10; refine (S2.out _ _ BB.out C2.out).mono ?_; rintro e wx ⟨rfl, hw⟩; obtain rfl := hw.symm; have t3 : (0 : Nat) = 0 := rfl)
      | (have q1 := t1; go_at_call 9; refine (S1.out _ BB.out).mono ?_; rintro e w2 ⟨c2, rfl, y2, L2, B2⟩; have C2 : Hid (Cip w2 c2 dk tk) := y2; clear y2 L2; have BB : Hid (Below w.heap.size w w2) := BB.out.trans (B2.mono BB.out.size); have XX : Hid (Bx w2 kb va vb vc) := XX.out.below B2; obtain ⟨f0, f1, f2⟩ := XX.out; have t2 : (0 : Nat) = 0 := rfl; clear B2)
      | (have q0 := t0; refine box_keys _ rfl (.tmp 0) rfl va vb vc rfl ?_; intro w1 X1 B1; obtain ⟨kb, hkb⟩ : ∃ k, k = w.heap.size := ⟨_, rfl⟩; rw [← hkb] at X1; rw [← hkb]; have BB : Hid (Below w.heap.size w w1) := B1; have XX : Hid (Bx w1 kb va vb vc) := X1; obtain ⟨f0, f1, f2⟩ := X1; have t1 : (0 : Nat) = 0 := rfl; clear hkb B1 t0))
    go_ret
    exact ⟨rfl, BB.out⟩
  · have l1 : (200 : Int) < (n : Int) := by omega
    have l2 : ¬ ((n : Int) ≤ 4096) := by omega
    clear hg
    have t0 : (0 : Nat) = 0 := rfl
    go_enter Try.func3, Try.ntmps3
    go_wp2_with (first
      | (go_at_call 8; refine (AW.out _).mono ?_; rintro e w9 ⟨rfl, B9⟩; have BB : Hid (Below w.heap.size w w9) := BB.out.trans (B9.mono BB.out.size); clear B9)
      | (have q3 := t3; go_at_call 11; refine (S3.out _ BB.out).mono ?_; rintro e wx ⟨rfl, hw⟩; obtain rfl := hw.symm)
      | (have q2 := t2; go_at_call 10; refine (S2.out _ _ BB.out C2.out).mono ?_; rintro e wx ⟨rfl, hw⟩; obtain rfl := hw.symm; have t3 : (0 : Nat) = 0 := rfl)
      | (have q1 := t1; go_at_call 9; refine (S1.out _ BB.out).mono ?_; rintro e w2 ⟨c2, rfl, y2, L2, B2⟩; have C2 : Hid (Cip w2 c2 dk tk) := y2; clear y2 L2; have BB : Hid (Below w.heap.size w w2) := BB.out.trans (B2.mono BB.out.size); have XX : Hid (Bx w2 kb va vb vc) := XX.out.below B2; obtain ⟨f0, f1, f2⟩ := XX.out; have t2 : (0 : Nat) = 0 := rfl; clear B2)
      | (have q0 := t0; refine box_keys _ rfl (.tmp 0) rfl va vb vc rfl ?_; intro w1 X1 B1; obtain ⟨kb, hkb⟩ : ∃ k, k = w.heap.size := ⟨_, rfl⟩; rw [← hkb] at X1; rw [← hkb]; have BB : Hid (Below w.heap.size w w1) := B1; have XX : Hid (Bx w1 kb va vb vc) := X1; obtain ⟨f0, f1, f2⟩ := X1; have t1 : (0 : Nat) = 0 := rfl; clear hkb B1 t0))
    go_ret
    exact ⟨rfl, BB.out⟩

set_option maxRecDepth 20000 in
set_option maxHeartbeats 8000000 in
theorem walk_yes (va : Value) (dk : List Int) (vb : Value) (tk : List Int) (vc : Value) (ab : List Int) (sv : Value) (s : List Int) (w : World) (h0 : Byt w va dk) (h1 : Byt w vb tk) (h2 : Byt w vc ab) (hs : Byt w sv s) (hok : Ok dk tk ab s) (h6 : s.length ≤ 200) :
    Calls Try.prog 3 #[.agg #[va, vb, vc], sv] w fun e w' => e = .returned (.bool true) ∧ Below w.heap.size w w' := by
  obtain ⟨hdl, htl, hal, hs1, hs2, hs3⟩ := id hok
  obtain ⟨N, hN⟩ : ∃ N, N = s.length / 16 := ⟨_, rfl⟩
  have hsl : s.length = 16 * N := by omega
  have hda := h0.all
  have hta := h1.all
  have S1 : Hid (∀ w0, Below w.heap.size w w0 → Calls Try.prog 9 #[va, vb] w0 fun e w' => ∃ c, e = .returned (.tuple #[.pointer (some ⟨c, 0, none⟩), .int .i64 0]) ∧ Cip w' c dk tk ∧ w0.heap.size ≤ c ∧ Below w0.heap.size w0 w') := fun w0 hb => xnew_any va vb dk tk w0 (h0.below hb) (h1.below hb) hdl htl
  have S2 : Hid (∀ c w0, Below w.heap.size w w0 → Cip w0 c dk tk → Calls Try.prog 10 #[.pointer (some ⟨c, 0, none⟩), vc, sv] w0 fun e w' => ∃ v', e = .returned (.tuple #[v', .int .i64 0]) ∧ Byt w' v' (run (xe dk) (nm16 (encr tk ab)) s N) ∧ Below w0.heap.size w0 w') := fun c w0 hb hc => xenc_any c vc sv dk tk ab s N w0 hc hdl hda htl hta (h2.below hb) hal (hs.below hb) hsl (by omega) (by omega)
  have S3 : Hid (∀ w0, Below w.heap.size w w0 → Calls Try.prog 11 #[va, vb, vc, sv] w0 fun e w' => e = .returned (.bool true) ∧ w' = w0) := fun w0 hb => right_any w0 va vb vc sv dk tk ab s (h0.below hb) (h1.below hb) (h2.below hb) (hs.below hb) true (okb_yes hok)
  have S4 : Hid (∀ w0, Calls Try.prog 14 #[] w0 fun e w' => ∃ v, e = .returned v ∧ Byt w' v ptab ∧ Below w0.heap.size w0 w') := rtable_any
  have S5 : Hid (∀ tv w0, Below w.heap.size w w0 → Byt w0 tv ptab → Calls Try.prog 13 #[va, vb, vc, sv, tv] w0 fun e w' => ∃ v', e = .returned v' ∧ Byt w' v' (run (xe dk) (nm16 (encr tk ab)) s N) ∧ Below w0.heap.size w0 w') := fun tv w0 hb ht => rxenc_any va vb vc sv tv dk tk ab s N w0 (h0.below hb) hdl (h1.below hb) htl (h2.below hb) hal (hs.below hb) hsl (by omega) ht
  have SM : Hid (∀ u v w0, Byt w0 u (run (xe dk) (nm16 (encr tk ab)) s N) → Byt w0 v (run (xe dk) (nm16 (encr tk ab)) s N) → Calls Try.prog 12 #[u, v] w0 fun e w' => ∃ r, e = .returned r ∧ r = .bool true ∧ Below w0.heap.size w0 w') := fun u v w0 hu hv => (same_yes w0 u v _ hu hv).mono fun _ _ ⟨he, hb⟩ => ⟨_, he, rfl, hb⟩
  have AW : Hid (∀ w0, Calls Try.prog 8 #[] w0 fun e w' => ∃ r, e = .returned r ∧ r = .bool true ∧ Below w0.heap.size w0 w') := fun w0 => (awake_any w0).mono fun _ _ ⟨he, hb⟩ => ⟨_, he, rfl, hb⟩
  generalize run (xe dk) (nm16 (encr tk ab)) s N = E at *
  generalize ptab = tab at *
  clear h0 h1 h2 hok hdl htl hal hs1 hs2 hs3 hN hsl hda hta
  obtain ⟨ao, ca, rfl, -, -, -, -, -⟩ := hs
  obtain ⟨n, hn⟩ : ∃ n, n = s.length := ⟨_, rfl⟩
  rw [← hn] at h6 S2 S3 S5 ⊢
  have l1 : ¬ ((200 : Int) < (n : Int)) := by omega
  clear hn h6
  have t0 : (0 : Nat) = 0 := rfl
  go_enter Try.func3, Try.ntmps3
  go_wp2_with (first
    | (have q3 := t3; go_at_call 11; refine (S3.out _ BB.out).mono ?_; rintro e wx ⟨rfl, hw⟩; obtain rfl := hw.symm)
    | (have q2 := t2; go_at_call 10; refine (S2.out _ _ BB.out C2.out).mono ?_; rintro e w3 ⟨v3, rfl, y3, B3⟩; have BB : Hid (Below w.heap.size w w3) := BB.out.trans (B3.mono BB.out.size); have Y3 : Hid (Byt w3 v3 E) := y3; have XX : Hid (Bx w3 kb va vb vc) := XX.out.below B3; obtain ⟨f0, f1, f2⟩ := XX.out; have t3 : (0 : Nat) = 0 := rfl; clear y3 B3)
    | (have q1 := t1; go_at_call 9; refine (S1.out _ BB.out).mono ?_; rintro e w2 ⟨c2, rfl, y2, L2, B2⟩; have BB : Hid (Below w.heap.size w w2) := BB.out.trans (B2.mono BB.out.size); have C2 : Hid (Cip w2 c2 dk tk) := y2; have XX : Hid (Bx w2 kb va vb vc) := XX.out.below B2; obtain ⟨f0, f1, f2⟩ := XX.out; have t2 : (0 : Nat) = 0 := rfl; clear y2 B2 L2)
    | (have q0 := t0; refine box_keys _ rfl (.tmp 0) rfl va vb vc rfl ?_; intro w1 X1 B1; obtain ⟨kb, hkb⟩ : ∃ k, k = w.heap.size := ⟨_, rfl⟩; rw [← hkb] at X1; rw [← hkb]; have BB : Hid (Below w.heap.size w w1) := B1; have XX : Hid (Bx w1 kb va vb vc) := X1; obtain ⟨f0, f1, f2⟩ := X1; have t1 : (0 : Nat) = 0 := rfl; clear hkb B1 t0))
  have R0 : Hid (∀ w', Below w3.heap.size w3 w' → (Instr.loadAt 22 (.pointer (some ⟨kb, 0, none⟩))).run Try.prog w' = .ok va w') := fun w' h => (XX.out.below h).load0
  have R1 : Hid (∀ w', Below w3.heap.size w3 w' → (Instr.loadAt 22 (.pointer (some ⟨kb, 1, none⟩))).run Try.prog w' = .ok vb w') := fun w' h => (XX.out.below h).load1
  have R2 : Hid (∀ w', Below w3.heap.size w3 w' → (Instr.loadAt 22 (.pointer (some ⟨kb, 2, none⟩))).run Try.prog w' = .ok vc w') := fun w' h => (XX.out.below h).load2
  refine wp_region_held_drew (S := fun w' => Below w3.heap.size w3 w') (by kernel_rfl) (Below.refl _ _).drew (fun hS => ?_)
  refine take_lawH 0 (some 53) (.int .i64 0) rfl rfl (by kernel_rfl) (by kernel_rfl) (by kernel_rfl) (fun _ _ _ h => h) (Or.inl ⟨by rfl, fun w' hw' => by rfl⟩) hS ?_
  simp only [Act.put, List.setIfInBounds_toArray, List.set_cons_zero, List.set_cons_succ]
  refine take_lawH 1 (some 54) (.bool true) rfl rfl (by kernel_rfl) (by kernel_rfl) (by kernel_rfl) (fun _ _ _ h => h) (Or.inl ⟨by rfl, fun w' hw' => by go_simp⟩) hS ?_
  simp only [Act.put, List.setIfInBounds_toArray, List.set_cons_zero, List.set_cons_succ]
  refine take_lawH 2 (some 55) (.bool true) rfl rfl (by kernel_rfl) (by kernel_rfl) (by kernel_rfl) (fun _ _ _ h => h) (Or.inl ⟨by rfl, fun w' hw' => by rfl⟩) hS ?_
  simp only [Act.put, List.setIfInBounds_toArray, List.set_cons_zero, List.set_cons_succ]
  refine take_lawH 3 (some 56) (v3) rfl rfl (by kernel_rfl) (by kernel_rfl) (by kernel_rfl) (fun _ _ _ h => h) (Or.inl ⟨by rfl, fun w' hw' => by rfl⟩) hS ?_
  simp only [Act.put, List.setIfInBounds_toArray, List.set_cons_zero, List.set_cons_succ]
  refine take_lawH 4 (some 57) (.pointer (some ⟨kb, 0, none⟩)) rfl rfl (by kernel_rfl) (by kernel_rfl) (by kernel_rfl) (fun _ _ _ h => h) (Or.inl ⟨by rfl, fun w' hw' => by go_simp⟩) hS ?_
  simp only [Act.put, List.setIfInBounds_toArray, List.set_cons_zero, List.set_cons_succ]
  refine take_lawH 5 (some 58) (va) rfl rfl (by kernel_rfl) (by kernel_rfl) (by kernel_rfl) (fun _ _ _ h => h) (Or.inl ⟨by rfl, fun w' hw' => by exact exec_load 22 (.tmp 57) rfl _ rfl _ _ (R0.out w' hw')⟩) hS ?_
  simp only [Act.put, List.setIfInBounds_toArray, List.set_cons_zero, List.set_cons_succ]
  refine take_lawH 6 (some 59) (.pointer (some ⟨kb, 1, none⟩)) rfl rfl (by kernel_rfl) (by kernel_rfl) (by kernel_rfl) (fun _ _ _ h => h) (Or.inl ⟨by rfl, fun w' hw' => by go_simp⟩) hS ?_
  simp only [Act.put, List.setIfInBounds_toArray, List.set_cons_zero, List.set_cons_succ]
  refine take_lawH 7 (some 60) (vb) rfl rfl (by kernel_rfl) (by kernel_rfl) (by kernel_rfl) (fun _ _ _ h => h) (Or.inl ⟨by rfl, fun w' hw' => by exact exec_load 22 (.tmp 59) rfl _ rfl _ _ (R1.out w' hw')⟩) hS ?_
  simp only [Act.put, List.setIfInBounds_toArray, List.set_cons_zero, List.set_cons_succ]
  refine take_lawH 8 (some 61) (.pointer (some ⟨kb, 2, none⟩)) rfl rfl (by kernel_rfl) (by kernel_rfl) (by kernel_rfl) (fun _ _ _ h => h) (Or.inl ⟨by rfl, fun w' hw' => by go_simp⟩) hS ?_
  simp only [Act.put, List.setIfInBounds_toArray, List.set_cons_zero, List.set_cons_succ]
  refine take_lawH 9 (some 62) (vc) rfl rfl (by kernel_rfl) (by kernel_rfl) (by kernel_rfl) (fun _ _ _ h => h) (Or.inl ⟨by rfl, fun w' hw' => by exact exec_load 22 (.tmp 61) rfl _ rfl _ _ (R2.out w' hw')⟩) hS ?_
  simp only [Act.put, List.setIfInBounds_toArray, List.set_cons_zero, List.set_cons_succ]
  refine take_lawH 10 (some 63) (.slice ao n ca) rfl rfl (by kernel_rfl) (by kernel_rfl) (by kernel_rfl) (fun _ _ _ h => h) (Or.inl ⟨by rfl, fun w' hw' => by rfl⟩) hS ?_
  simp only [Act.put, List.setIfInBounds_toArray, List.set_cons_zero, List.set_cons_succ]
  refine wpAnyH_ready (rs := [11]) (by kernel_rfl) (by simp) ?_
  refine AllReadyH.cons rfl (fun K hK => ?_) AllReadyH.nil
  refine step_callW _ (by rfl) (some 64) rfl 14 #[] #[] rfl (fun q w' => by rfl) #[] (by simp only [List.map_toArray, List.map_nil]) _ (S4.out _) ?_
  rintro tv w4 ⟨y4, B4⟩
  have hS : Below w3.heap.size w3 w4 := hS.trans (B4.mono hS.size)
  have T4 : Hid (Byt w4 tv tab) := y4
  clear y4
  clear B4
  refine hK.out _ _ hS (fun _ => ?_)
  simp only [Act.put, List.setIfInBounds_toArray, List.set_cons_zero, List.set_cons_succ]
  clear hK K
  refine wpAnyH_ready (rs := [12]) (by kernel_rfl) (by simp) ?_
  refine AllReadyH.cons rfl (fun K hK => ?_) AllReadyH.nil
  refine step_callW _ (by rfl) (some 65) rfl 13 #[.tmp 58, .tmp 60, .tmp 62, .tmp 63, .tmp 64] #[22, 22, 22, 22, 22] rfl (fun q w' => by rfl) #[va, vb, vc, .slice ao n ca, tv] (by simp only [List.map_toArray, List.map_cons, List.map_nil]; rfl) _ (S5.out _ _ (BB.out.trans (hS.mono BB.out.size)) T4.out) ?_
  rintro rv w5 ⟨y5, B5⟩
  have hS : Below w3.heap.size w3 w5 := hS.trans (B5.mono hS.size)
  have Y5 : Hid (Byt w5 rv E) := y5
  clear y5
  clear B5
  refine hK.out _ _ hS (fun _ => ?_)
  simp only [Act.put, List.setIfInBounds_toArray, List.set_cons_zero, List.set_cons_succ]
  clear hK K
  refine wpAnyH_ready (rs := [13]) (by kernel_rfl) (by simp) ?_
  refine AllReadyH.cons rfl (fun K hK => ?_) AllReadyH.nil
  refine step_callW _ (by rfl) (some 66) rfl 12 #[.tmp 56, .tmp 65] #[22, 22] rfl (fun q w' => by rfl) #[v3, rv] (by simp only [List.map_toArray, List.map_cons, List.map_nil]; rfl) _ (SM.out _ _ _ (Y3.out.below hS) Y5.out) ?_
  rintro _ w6 ⟨rfl, B6⟩
  have hS : Below w3.heap.size w3 w6 := hS.trans (B6.mono hS.size)
  clear B6
  refine hK.out _ _ hS (fun _ => ?_)
  simp only [Act.put, List.setIfInBounds_toArray, List.set_cons_zero, List.set_cons_succ]
  clear hK K
  refine take_lawH 14 (some 67) (.bool true) rfl rfl (by kernel_rfl) (by kernel_rfl) (by kernel_rfl) (fun _ _ _ h => h) (Or.inl ⟨by rfl, fun w' hw' => by go_simp⟩) hS ?_
  simp only [Act.put, List.setIfInBounds_toArray, List.set_cons_zero, List.set_cons_succ]
  refine take_lawH 15 (some 68) (.bool true) rfl rfl (by kernel_rfl) (by kernel_rfl) (by kernel_rfl) (fun _ _ _ h => h) (Or.inl ⟨by rfl, fun w' hw' => by rfl⟩) hS ?_
  simp only [Act.put, List.setIfInBounds_toArray, List.set_cons_zero, List.set_cons_succ]
  refine wpAnyH_ready (rs := [16]) (by kernel_rfl) (by simp) ?_
  refine AllReadyH.cons rfl (fun K hK => ?_) AllReadyH.nil
  refine step_callW _ (by rfl) (some 69) rfl 8 #[] #[] rfl (fun q w' => by rfl) #[] (by simp only [List.map_toArray, List.map_nil]) _ (AW.out _) ?_
  rintro _ w7 ⟨rfl, B7⟩
  have hS : Below w3.heap.size w3 w7 := hS.trans (B7.mono hS.size)
  clear B7
  refine hK.out _ _ hS (fun _ => ?_)
  simp only [Act.put, List.setIfInBounds_toArray, List.set_cons_zero, List.set_cons_succ]
  clear hK K
  refine take_lawH 17 (some 70) (.bool true) rfl rfl (by kernel_rfl) (by kernel_rfl) (by kernel_rfl) (fun _ _ _ h => h) (Or.inl ⟨by rfl, fun w' hw' => by go_simp⟩) hS ?_
  simp only [Act.put, List.setIfInBounds_toArray, List.set_cons_zero, List.set_cons_succ]
  refine wpAnyH_ready (rs := [18]) (by kernel_rfl) (by simp) ?_
  refine AllReadyH.cons rfl (fun K hK => ?_) AllReadyH.nil
  refine step_movG _ rfl (some 4) rfl (.tmp 70) rfl (.bool true) rfl ?_
  refine hK.out _ _ hS (fun _ => ?_)
  simp only [Act.put, List.setIfInBounds_toArray, List.set_cons_zero, List.set_cons_succ]
  clear hK K
  refine wpAnyH_done (by kernel_rfl) ?_ _
  go_wp2
  go_ret
  exact ⟨rfl, BB.out.trans (hS.mono BB.out.size)⟩

theorem walk (va : Value) (dk : List Int) (vb : Value) (tk : List Int) (vc : Value) (ab : List Int) (sv : Value) (s : List Int) (w : World) (h0 : Byt w va dk) (h1 : Byt w vb tk) (h2 : Byt w vc ab) (hs : Byt w sv s) :
    Calls Try.prog 3 #[.agg #[va, vb, vc], sv] w fun e w' => e = .returned (.bool true) ∧ Below w.heap.size w w' := by
  by_cases hg : 200 < s.length ∧ s.length ≤ 4096
  · exact walk_long va vb vc sv s w hs hg
  · by_cases hk : dk.length = 32 ∧ tk.length = 32
    · by_cases hn : ab.length = 16 ∧ 16 ≤ s.length ∧ s.length ≤ 4096 ∧ s.length % 16 = 0
      · exact walk_yes va dk vb tk vc ab sv s w h0 h1 h2 hs ⟨hk.1, hk.2, hn⟩ (by omega)
      · exact walk_sec va dk vb tk vc ab sv s w h0 h1 h2 hs (by omega) hk hn
    · exact walk_key va dk vb tk vc ab sv s w h0 h1 h2 hs (by omega) hk

theorem params : ∀ t ∈ Try.f3.params.toList, Try.prog.readableRec t = true ∧ t < Try.prog.types.size := by
  rw [Try.params3]
  intro t ht
  simp at ht
  rcases ht with rfl | rfl
  · exact ⟨by kernel_rfl, of_decide_eq_true (by kernel_rfl)⟩
  · exact ⟨by kernel_rfl, of_decide_eq_true (by kernel_rfl)⟩

theorem contract (H : Type) (enc : TypeId × Value → H) (W : World) (base : Nat) (args : Array Value) (ds gs : List (DataW H)) (before : List MemPlace)
    (hval : ∀ (j : Nat) t v, Try.f3.params[j]? = some t → args[j]? = some v → Value.okWide Try.prog W .any base t v)
    (hW : DataW.Whole enc Try.prog Try.f3.params.toList Rows.xtsEncryptsSpec.vars false W args.toList ds gs before) :
    Calls Try.prog 3 args W fun e W' => ∃ v, e = .returned v ∧ Rows.xtsEncryptsSpec.post enc Try.prog Try.f3 false true false false W args v W' := by
  have hW' := hW
  obtain ⟨p, q, hA0, hV, rfl, hfz, hnd⟩ := hW
  have hA : DataW.TrodAll enc Try.prog W 0 (fun _ => true) true Try.f3.params.toList args.toList ds p := hA0
  rw [Try.params3] at hA hval
  obtain ⟨v0, v1, d0, d1, p0, p1, rfl, rfl, rfl, h0, h1⟩ := trodAll_two hA
  obtain ⟨rfl, rfl⟩ := trodVars_none hV
  obtain ⟨va0, vb0, vc0, xs0, ys0, zs0, rfl, b0, c0, e0⟩ := keys_open (hval 0 24 v0 rfl rfl) h0
  obtain ⟨xs1, b1⟩ := byt_open (hval 1 22 v1 rfl rfl) h1
  clear hA0
  refine (walk va0 xs0 vb0 ys0 vc0 zs0 v1 xs1 W b0 c0 e0 b1).mono fun e W' ⟨he, hg⟩ => ?_
  subst he
  exact ⟨_, rfl, post_law rfl (by kernel_rfl) params rfl rfl rfl hW' hg⟩

theorem laid_met (os : Os) : laidMet Try.prog Rows.xtsEncryptsRow.laid ((World.holding Try.prog os ⟨#[], #[], []⟩).forCall (fun _ _ => 0) ⟨#[], #[.agg #[.slice none 0 0, .slice none 0 0, .slice none 0 0], .slice none 0 0], []⟩).memory :=
  laidMet_of_run' 8 (by kernel_rfl) (by kernel_rfl)
theorem reads (os : Os) {H : Type} (enc : TypeId × Value → H) : ∃ places, DataW.whole enc Try.prog ((World.holding Try.prog os ⟨#[], #[], []⟩).forCall (fun _ _ => 0) ⟨#[], #[.agg #[.slice none 0 0, .slice none 0 0, .slice none 0 0], .slice none 0 0], []⟩).memory Try.f3.params.toList Rows.xtsEncryptsSpec.vars false #[Value.agg #[.slice none 0 0, .slice none 0 0, .slice none 0 0], Value.slice none 0 0].toList 8 = some ([.agg [.nil, .nil, .nil], .nil], [], places) :=
  ⟨[], by kernel_rfl⟩

set_option maxRecDepth 100000 in
theorem lifted (os : Os) (started : os.Started) (H : Type) (enc : TypeId × Value → H) (F : Stop.Interp) :
    ReturnsInHanded {} Try.checked os 3 .any ((OpenSpec.ofChange Rows.xtsEncryptsSpec).preRow enc Try.prog Try.f3 Rows.xtsEncryptsRow.domain false Rows.xtsEncryptsRow.laid) (((OpenSpec.ofChange Rows.xtsEncryptsSpec).at F).post enc Try.prog Try.f3 false true false false) := by
  obtain ⟨places, hx⟩ := reads os enc
  refine returnsInHanded_of_row (C := Try.checked) (s := OpenSpec.ofChange Rows.xtsEncryptsSpec) own started (by kernel_rfl) Try.func3
    (witness_row_at (enc := enc) (C := Try.checked) false (World.holding Try.prog os ⟨#[], #[], []⟩) #[.agg #[.slice none 0 0, .slice none 0 0, .slice none 0 0], .slice none 0 0] rfl (by kernel_rfl) (by kernel_rfl) (by kernel_rfl)
      (OpenSpec.preRow_of_cond 8 hx (by kernel_rfl) (fun k hk => by cases hk) (by kernel_rfl) (laid_met os))) ?_
  intro W base args ds gs before hval hW _ _ _ _ _ _
  exact contract H enc W base args ds gs before hval hW

theorem said : Rows.XtsEncryptsSaid :=
  OpenClaim.holds_of_cond 3 Try.f3 rfl rfl rfl rfl rfl rfl rfl ⟨rfl, rfl, rfl, rfl, rfl⟩ rfl rfl rfl rfl rfl (by kernel_rfl) Try.func3 (by kernel_rfl)
    (of_decide_eq_true (by kernel_rfl)) (by unfold Func.isWrapper; first | (rw [if_pos (by decide +kernel)]; kernel_rfl) | (rw [if_neg (by decide +kernel)]; exact ⟨rfl, rfl⟩))
    (fun os started H enc _ F => by rw [OpenClaim.pre_eq_preRow]; exact lifted os started H enc F)
end Go.Proofs.Ytijadglmbopboaa.xtsEncrypts

namespace Go.Proofs.Ytijadglmbopboaa
theorem xtsEncrypts_said : Rows.XtsEncryptsSaid := xtsEncrypts.said
#print axioms xtsEncrypts_said
end Go.Proofs.Ytijadglmbopboaa
