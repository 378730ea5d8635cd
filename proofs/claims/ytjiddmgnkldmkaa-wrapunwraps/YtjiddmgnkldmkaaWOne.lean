/- What wrap's small functions and its two steps answer. No claim of its own. -/
import Derived.Test.YtjiddmgnkldmkaaWOwn
import Derived.Test.YtjiddmgnkldmkaaANo
namespace Go.Proofs.Ytjiddmgnkldmkaa.wr
open Go.RowKit

set_option maxHeartbeats 1000000 in
theorem cut_any (b off n cap i : Nat) (I : Int) (hI : I = (i : Int)) (w : World) (hi : 8 * i + 8 ≤ n) (hn : n ≤ cap) (hs : i ≤ 1000) :
    Calls Try.prog 28 #[.slice (some ⟨b, off, none⟩) n cap, .int .i64 I] w fun e w' => e = .returned (.slice (some ⟨b, off + 8 * i, none⟩) 8 8) ∧ w' = w := by
  subst hI
  have k1 : IntKind.i64.wrap (8 * (i : Int)) = 8 * (i : Int) := by rw [IntKind.wrap_i64]; omega
  have k2 : IntKind.i64.wrap (8 * (i : Int) + 8) = 8 * (i : Int) + 8 := by rw [IntKind.wrap_i64]; omega
  have k3 : (0 : Int) ≤ 8 * (i : Int) := by omega
  have k4 : 8 * (i : Int) + 8 ≤ (cap : Int) := by omega
  have k5 : 8 * (i : Int) ≤ 8 * (i : Int) + 8 := by omega
  go_enter Try.func28, Try.ntmps28
  go_wp2
  go_ret
  refine ⟨?_, rfl⟩
  show Ending.returned (Value.slice (some ⟨b, off + 8 * i, none⟩) (8 * i + 8 - 8 * i) (8 * i + 8 - 8 * i)) = _
  rw [show 8 * i + 8 - 8 * i = 8 by omega]

set_option maxHeartbeats 1000000 in
theorem parts_any (ao : Option Addr) (L n cap : Nat) (w : World) (hL : L = 8 * n + 8) (hn : n ≤ 1000) :
    Calls Try.prog 34 #[.slice ao L cap] w fun e w' => e = .returned (.int .i64 (n : Int)) ∧ w' = w := by
  have k1 : (L : Int).tdiv 8 = (n : Int) + 1 := by rw [Int.tdiv_eq_ediv_of_nonneg (by omega)]; omega
  have k2 : IntKind.i64.wrap ((n : Int) + 1) = (n : Int) + 1 := by rw [IntKind.wrap_i64]; omega
  have k3 : IntKind.i64.wrap ((n : Int) + 1 - 1) = (n : Int) := by rw [IntKind.wrap_i64]; omega
  clear hL
  go_enter Try.func34, Try.ntmps34
  go_wp2
  go_ret
  exact ⟨by first | rfl | exact ret_int (by omega), rfl⟩

set_option maxHeartbeats 1000000 in
theorem last_any (ao : Option Addr) (L n cap : Nat) (w : World) (hL : L = 8 * n + 8) (hn : n ≤ 1000) :
    Calls Try.prog 19 #[.slice ao L cap] w fun e w' => e = .returned (.int .i64 ((6 * n : Nat) : Int)) ∧ w' = w := by
  have H : Hid (Calls Try.prog 34 #[.slice ao L cap] w fun e w' => e = .returned (.int .i64 (n : Int)) ∧ w' = w) := parts_any ao L n cap w hL hn
  have k2 : IntKind.i64.wrap (6 * (n : Int)) = 6 * (n : Int) := by rw [IntKind.wrap_i64]; omega
  clear hL
  go_enter Try.func19, Try.ntmps19
  go_wp2_with (go_at_call 34; refine (H.out).mono ?_; rintro e wx ⟨rfl, hw⟩; obtain rfl := hw.symm)
  go_ret
  exact ⟨by first | rfl | exact ret_int (by omega), rfl⟩

set_option maxHeartbeats 1000000 in
theorem partOf_any (ao : Option Addr) (L n cap t i : Nat) (w : World) (hL : L = 8 * n + 8) (hn : n ≤ 1000) (hp : 0 < n) (ht : 1 ≤ t) (ht' : t ≤ 1000000) (hi : i = (t - 1) % n + 1) :
    Calls Try.prog 35 #[.slice ao L cap, .int .i64 (t : Int)] w fun e w' => e = .returned (.int .i64 (i : Int)) ∧ w' = w := by
  have H : Hid (∀ w, Calls Try.prog 34 #[.slice ao L cap] w fun e w' => e = .returned (.int .i64 (n : Int)) ∧ w' = w) := fun w => parts_any ao L n cap w hL hn
  obtain ⟨r, hr⟩ : ∃ r, r = (t - 1) % n := ⟨_, rfl⟩
  have hrn : r < n := by rw [hr]; exact Nat.mod_lt _ hp
  have k1 : IntKind.i64.wrap ((t : Int) - 1) = (t : Int) - 1 := by rw [IntKind.wrap_i64]; omega
  have k3 : ((t : Int) - 1).tmod (n : Int) = (r : Int) := by
    rw [Int.tmod_eq_emod_of_nonneg (by omega), show (t : Int) - 1 = ((t - 1 : Nat) : Int) by omega, hr]; rfl
  have k4 : IntKind.i64.wrap (r : Int) = (r : Int) := by rw [IntKind.wrap_i64]; omega
  have k5 : IntKind.i64.wrap ((r : Int) + 1) = (r : Int) + 1 := by rw [IntKind.wrap_i64]; omega
  have k6 : ¬ ((n : Int) = 0) := by omega
  have HI : Hid (i = r + 1) := by rw [hr]; exact hi
  clear hL hi hr
  go_enter Try.func35, Try.ntmps35
  go_wp2_with (go_at_call 34; refine (H.out _).mono ?_; rintro e wx ⟨rfl, hw⟩; obtain rfl := hw.symm)
  go_ret
  exact ⟨by have := HI.out; first | rfl | exact ret_int (by omega), rfl⟩

theorem clamp8 : clamp 8 8 = 8 := by unfold clamp; omega

set_option maxHeartbeats 1000000 in
theorem num8_any (v : Value) (xs : List Int) (t : Nat) (w : World) (hv : Byt w v xs) (hl : xs.length = 8) (ht : t ≤ 1000000) :
    Calls Try.prog 37 #[v, .int .i64 (t : Int)] w fun e w' => ∃ v', e = .returned (.tuple #[v', .int .i64 0]) ∧ Own w.heap.size w' v' (xorl xs (b8 t)) ∧ Below w.heap.size w w' := by
  have HB : Hid (∀ w, Calls Try.prog 31 #[.int .u64 (t : Int), .int .i64 8] w fun e w' => ∃ v, e = .returned v ∧ Byt w' v (b8 t) ∧ Below w.heap.size w w') := fun w => by
    have := big_any (t : Int) 8 w (by omega)
    rw [clamp8] at this
    exact this
  have HX : Hid (∀ w' u, Byt w' v xs → Byt w' u (b8 t) → Calls Try.prog 62 #[v, u] w' fun e w'' => ∃ v', e = .returned (.tuple #[v', .int .i64 0]) ∧ Own w'.heap.size w'' v' (xorl xs (b8 t)) ∧ Below w'.heap.size w' w'') := fun w' u h1 h2 => xor_own v u xs (b8 t) w' h1 h2 (by rw [hl, b8_len]) (by omega)
  have HV : Hid (Byt w v xs) := hv
  have k1 : IntKind.u64.wrap (t : Int) = (t : Int) := by rw [IntKind.wrap_u64]; omega
  clear hv hl
  generalize xorl xs (b8 t) = zs at *
  generalize b8 t = ts at *
  go_enter Try.func37, Try.ntmps37
  go_wp2_with (first
    | (have q1 := s1; go_at_call 62; refine (HX.out _ _ (HV.out.below B1) Y1.out).mono ?_; rintro e w2 ⟨v2, rfl, o2, B2⟩; have O2 : Hid (Own w1.heap.size w2 v2 zs) := o2; clear o2)
    | (go_at_call 31; refine (HB.out _).mono ?_; rintro e w1 ⟨v1, rfl, y1, B1⟩; have s1 := B1.size; have Y1 : Hid (Byt w1 v1 ts) := y1; clear y1))
  go_ret2
  exact ⟨_, rfl, own_mono O2.out s1, B1.trans (B2.mono s1)⟩

/-! ### the two steps -/
theorem pt_zero (s : List Int) : pt s 0 = hd s := by simp [pt, hd]
theorem ar_part {w : World} {g : Nat} {s : List Int} (h : Ar w g 0 .u8 s) (ha : AllB s) (p : Nat) (hp : p + 8 ≤ s.length) : Byt w (.slice (some ⟨g, p, none⟩) 8 8) (pt s p) := by
  have hl := pt_len s p hp
  have := h.subG p (pt s p) (by omega) (fun t ht => gb_cut s p (p + 8) t (by omega))
  rw [Nat.zero_add] at this
  exact this.bytG (pt_all s p ha) 8 8 hl (Nat.le_refl _) (by omega)
theorem ar_hd {w : World} {g : Nat} {s : List Int} (h : Ar w g 0 .u8 s) (ha : AllB s) (hp : 8 ≤ s.length) : Byt w (.slice (some ⟨g, 0, none⟩) 8 8) (hd s) := by
  have := ar_part h ha 0 (by omega)
  rwa [pt_zero] at this
theorem drop8_pt (s : List Int) (h : s.length = 16) : s.drop 8 = pt s 8 := by
  unfold pt
  rw [List.take_of_length_le (by omega)]
theorem laid_two (s a r : List Int) (p : Nat) (ha : a.length = 8) (hr : r.length = 8) (h8 : 8 ≤ p) : laid (laid s 0 a) p r = put s p a r := by
  have e0 : laid s 0 a = a ++ s.drop 8 := by
    unfold laid
    rw [List.take_zero, List.nil_append, Nat.zero_add, ha]
  rw [e0]
  unfold laid put
  rw [hr, List.take_append, List.take_of_length_le (by omega), List.drop_append, List.drop_eq_nil_of_le (show a.length ≤ p + 8 by omega), List.nil_append, List.drop_drop, ha, List.drop_take, show 8 + (p + 8 - 8) = p + 8 by omega]
theorem grown_trans {a b c : World} {row : Option Nat} (h : a.grownBy b row) (k : b.grownBy c row) : a.grownBy c row :=
  ⟨k.os.trans h.os, k.tape.trans h.tape, k.output.trans h.output, Nat.le_trans h.size k.size, fun j hj hr => (k.block j (Nat.lt_of_lt_of_le hj h.size) hr).trans (h.block j hj hr)⟩
theorem below_grown {w w' : World} (h : Below w.heap.size w w') (g : Nat) : w.grownBy w' (some g) := ⟨h.os, h.tape, h.output, h.size, fun j hj _ => h.block j hj⟩

set_option linter.unusedSimpArgs false in
set_option maxRecDepth 20000 in
set_option maxHeartbeats 4000000 in
theorem one_any (kb g n t cap : Nat) (key s : List Int) (w : World) (hk : KeyA w kb key) (hkl : key.length = 32) (hka : AllB key) (hA : Ar w g 0 .u8 s) (hs : Fit (8 * n + 8) s) (hn : 0 < n) (hn' : n ≤ 32) (ht : 1 ≤ t) (ht' : t ≤ 192) (hc : 8 * n + 8 ≤ cap) :
    Calls Try.prog 20 #[.pointer (some ⟨kb, 0, none⟩), .slice (some ⟨g, 0, none⟩) (8 * n + 8) cap, .int .i64 (t : Int)] w fun e w' => e = .returned (.int .i64 0) ∧ Ar w' g 0 .u8 (fw key t (ix n t) s) ∧ w.grownBy w' (some g) := by
  obtain ⟨i, hi⟩ : ∃ i, i = (t - 1) % n + 1 := ⟨_, rfl⟩
  obtain ⟨p, hp⟩ : ∃ p, p = 8 * i := ⟨_, rfl⟩
  have hix : ix n t = p := by rw [hp, hi]; rfl
  have hbd := ix_bd n t hn
  rw [hix] at hbd ⊢
  have hsl := hs.1
  have hin := in_blk s (8 * n + 8) p hs hbd.1 hbd.2
  have hX := encr_blk key hkl hka _ hin
  have hh := half _ hX
  have hxb := xb _ t hh.1.1 hh.1.2
  have P0 : Hid (∀ w, Calls Try.prog 35 #[.slice (some ⟨g, 0, none⟩) (8 * n + 8) cap, .int .i64 (t : Int)] w fun e w' => e = .returned (.int .i64 (i : Int)) ∧ w' = w) := fun w => partOf_any _ _ n cap t i w rfl (by omega) hn ht (by omega) hi
  have C0 : Hid (∀ w, Calls Try.prog 28 #[.slice (some ⟨g, 0, none⟩) (8 * n + 8) cap, .int .i64 0] w fun e w' => e = .returned (.slice (some ⟨g, 0, none⟩) 8 8) ∧ w' = w) := fun w => cut_any g 0 _ cap 0 0 rfl w (by omega) hc (by omega)
  have C1 : Hid (∀ w, Calls Try.prog 28 #[.slice (some ⟨g, 0, none⟩) (8 * n + 8) cap, .int .i64 (i : Int)] w fun e w' => e = .returned (.slice (some ⟨g, p, none⟩) 8 8) ∧ w' = w) := fun w => by
    have := cut_any g 0 (8 * n + 8) cap i (i : Int) rfl w (by omega) hc (by omega)
    rwa [Nat.zero_add, ← hp] at this
  have D0 : Hid (∀ g2 w, Calls Try.prog 28 #[.slice (some ⟨g2, 0, none⟩) 16 16, .int .i64 0] w fun e w' => e = .returned (.slice (some ⟨g2, 0, none⟩) 8 8) ∧ w' = w) := fun g2 w => cut_any g2 0 _ 16 0 0 rfl w (by omega) (by omega) (by omega)
  have D1 : Hid (∀ g2 w, Calls Try.prog 28 #[.slice (some ⟨g2, 0, none⟩) 16 16, .int .i64 1] w fun e w' => e = .returned (.slice (some ⟨g2, 8, none⟩) 8 8) ∧ w' = w) := fun g2 w => cut_any g2 0 _ 16 1 1 rfl w (by omega) (by omega) (by omega)
  have E0 : Hid (∀ w' v, KeyA w' kb key → Byt w' v (hd s ++ pt s p) → Calls Try.prog 36 #[.pointer (some ⟨kb, 0, none⟩), v] w' fun e w'' => ∃ g2, e = .returned (.tuple #[.slice (some ⟨g2, 0, none⟩) 16 16, .int .i64 0]) ∧ Ar w'' g2 0 .u8 (encr key (hd s ++ pt s p)) ∧ w'.heap.size ≤ g2 ∧ Below w'.heap.size w' w'') := fun w' v h1 h2 => encrypt_any v _ key kb w' h1 hkl hka h2 hin.1
  have N0 : Hid (∀ w' v, Byt w' v ((encr key (hd s ++ pt s p)).take 8) → Calls Try.prog 37 #[v, .int .i64 (t : Int)] w' fun e w'' => ∃ v', e = .returned (.tuple #[v', .int .i64 0]) ∧ Own w'.heap.size w'' v' (xorl ((encr key (hd s ++ pt s p)).take 8) (b8 t)) ∧ Below w'.heap.size w' w'') := fun w' v h => num8_any v _ t w' h hh.1.1 (by omega)
  have HF : Hid (fw key t p s = laid (laid s 0 (xorl ((encr key (hd s ++ pt s p)).take 8) (b8 t))) p ((encr key (hd s ++ pt s p)).drop 8)) := (laid_two s _ _ p hxb.1 hh.2.1 hbd.1).symm
  have Y0 : Hid (Byt w (.slice (some ⟨g, 0, none⟩) 8 8) (hd s)) := ar_hd hA hs.2 (by omega)
  have Y1 : Hid (Byt w (.slice (some ⟨g, p, none⟩) 8 8) (pt s p)) := ar_part hA hs.2 p (by omega)
  have L0 : Hid ((hd s).length = 8) := hd_len s (by omega)
  have L1 : Hid ((pt s p).length = 8) := pt_len s p (by omega)
  have LI : Hid (AllB (hd s ++ pt s p)) := hin.2
  have HK : Hid (KeyA w kb key) := hk
  have HA : Hid (Ar w g 0 .u8 s) := hA
  have lk : kb < w.heap.size := hk.lt
  have lg : g < w.heap.size := hA.lt (by omega)
  have HSL : Hid (s.length = 8 * n + 8 ∧ 8 ≤ p ∧ p + 8 ≤ 8 * n + 8) := ⟨hsl, hbd⟩
  clear hk hA hs hsl hix hbd hin hi hp hkl hka hn hn' ht ht' hc
  have LX : Hid ((encr key (hd s ++ pt s p)).length = 16) := hX.1
  have LA : Hid (AllB (encr key (hd s ++ pt s p))) := hX.2
  have LT : Hid (((encr key (hd s ++ pt s p)).drop 8).length = 8) := hh.2.1
  have LR : Hid ((xorl ((encr key (hd s ++ pt s p)).take 8) (b8 t)).length = 8 ∧ AllB (xorl ((encr key (hd s ++ pt s p)).take 8) (b8 t))) := hxb
  clear hX hh hxb
  generalize fw key t p s = Z at *
  generalize xorl ((encr key (hd s ++ pt s p)).take 8) (b8 t) = A' at *
  have TK : Hid (hd (encr key (hd s ++ pt s p)) = (encr key (hd s ++ pt s p)).take 8) := rfl
  have TD : Hid ((encr key (hd s ++ pt s p)).drop 8 = pt (encr key (hd s ++ pt s p)) 8) := drop8_pt _ LX.out
  generalize (encr key (hd s ++ pt s p)).take 8 = X0 at *
  generalize (encr key (hd s ++ pt s p)).drop 8 = X1 at *
  generalize encr key (hd s ++ pt s p) = X at *
  generalize hd s = S0 at *
  generalize pt s p = S1 at *
  generalize 8 * n + 8 = L at *
  have t0 : True := trivial
  have t1 : True := trivial
  have t2 : True := trivial
  have t3 : True := trivial
  have t4 : True := trivial
  have t5 : True := trivial
  have t6 : True := trivial
  have t7 : True := trivial
  have t8 : True := trivial
  have t9 : True := trivial
  have t10 : True := trivial
  have t11 : True := trivial
  go_enter Try.func20, Try.ntmps20
  go_wp2_with (first
    | (have q := t0; go_at_call 35; refine (P0.out _).mono ?_; rintro e wx ⟨rfl, hw⟩; obtain rfl := hw.symm; clear t0 q)
    | (have q := t1; go_at_call 28; refine (C0.out _).mono ?_; rintro e wx ⟨rfl, hw⟩; obtain rfl := hw.symm; clear t1 q)
    | (have q := t2; go_at_call 28; refine (C1.out _).mono ?_; rintro e wx ⟨rfl, hw⟩; obtain rfl := hw.symm; clear t2 q)
    | (at_builtin; have q := t3; refine full_law _ rfl (.tmp 17) (.tmp 20) rfl (.slice (some ⟨g, p, none⟩) 8 8) S0 S1 ⟨g, 0, none⟩ 8 rfl rfl Y0.out Y1.out (by rw [L1.out]; omega) (by rw [L0.out]; omega) (by rw [L0.out]; omega) (by rw [L1.out]; omega) ?_; intro v1 w1 o1 B1; have O1 : Hid (Byt w1 v1 (S0 ++ S1)) := o1.byt LI.out; have s1 := B1.size; clear t3 q o1)
    | (have q := t4; go_at_call 36; refine (E0.out _ _ (HK.out.below B1 lk) O1.out).mono ?_; rintro e w2 ⟨g2, rfl, a2, L2, B2⟩; have A2 : Hid (Ar w2 g2 0 .u8 X) := a2; have B02 : Hid (Below w.heap.size w w2) := B1.trans (B2.mono s1); have s2 := B2.size; have l2 : g2 < w2.heap.size := a2.lt (by rw [LX.out]; omega); clear t4 q a2)
    | (have q := t5; go_at_call 28; refine (D0.out _ _).mono ?_; rintro e wx ⟨rfl, hw⟩; obtain rfl := hw.symm; clear t5 q)
    | (have q := t6; go_at_call 37; refine (N0.out _ _ (by rw [← TK.out]; exact ar_hd A2.out LA.out (by rw [LX.out]; omega))).mono ?_; rintro e w3 ⟨v3, rfl, o3, B3⟩; have O3 : Hid (Byt w3 v3 A') := o3.byt LR.out.2; have B03 : Hid (Below w.heap.size w w3) := B02.out.trans (B3.mono (by omega)); have A3 : Hid (Ar w3 g2 0 .u8 X) := A2.out.below B3 l2; have H3 : Hid (Ar w3 g 0 .u8 s) := HA.out.below B03.out lg; have s3 := B3.size; clear t6 q o3)
    | (have q := t7; go_at_call 28; refine (C0.out _).mono ?_; rintro e wx ⟨rfl, hw⟩; obtain rfl := hw.symm; clear t7 q)
    | (have q := t8; refine copy_lawW _ rfl (.tmp 39) (.tmp 40) rfl g 0 8 8 v3 s A' rfl rfl O3.out H3.out LR.out.1 (by have := HSL.out; omega) ?_; intro w4 a4 G4; have H4 : Hid (Ar w4 g 0 .u8 (laid s 0 A')) := a4; have A4 : Hid (Ar w4 g2 0 .u8 X) := A3.out.heap (G4.block g2 (by omega) (by intro h; injection h with h; omega)); have K4 : Hid (w3.grownBy w4 (some g)) := G4; clear t8 q a4 G4)
    | (have q := t9; go_at_call 28; refine (C1.out _).mono ?_; rintro e wx ⟨rfl, hw⟩; obtain rfl := hw.symm; clear t9 q)
    | (have q := t10; go_at_call 28; refine (D1.out _ _).mono ?_; rintro e wx ⟨rfl, hw⟩; obtain rfl := hw.symm; clear t10 q)
    | (have q := t11; refine copy_lawW _ rfl (.tmp 44) (.tmp 46) rfl g p 8 8 (.slice (some ⟨g2, 8, none⟩) 8 8) (laid s 0 A') X1 rfl rfl (by rw [TD.out]; exact ar_part A4.out LA.out 8 (by have := LX.out; omega)) H4.out LT.out (by rw [laid_len s 0 A' (by rw [LR.out.1]; have := HSL.out; omega)]; have := HSL.out; omega) ?_; intro w5 a5 G5; have H5 : Hid (Ar w5 g 0 .u8 (laid (laid s 0 A') p X1)) := a5; have K5 : Hid (w4.grownBy w5 (some g)) := G5; clear t11 q a5 G5))
  go_ret
  exact ⟨rfl, by rw [HF.out]; exact H5.out, grown_trans (grown_trans (below_grown B03.out g) K4.out) K5.out⟩

set_option linter.unusedSimpArgs false in
set_option maxRecDepth 20000 in
set_option maxHeartbeats 4000000 in
theorem unone_any (kb g n t cap : Nat) (key s : List Int) (w : World) (hk : KeyA w kb key) (hkl : key.length = 32) (hka : AllB key) (hA : Ar w g 0 .u8 s) (hs : Fit (8 * n + 8) s) (hn : 0 < n) (hn' : n ≤ 32) (ht : 1 ≤ t) (ht' : t ≤ 192) (hc : 8 * n + 8 ≤ cap) :
    Calls Try.prog 26 #[.pointer (some ⟨kb, 0, none⟩), .slice (some ⟨g, 0, none⟩) (8 * n + 8) cap, .int .i64 (t : Int)] w fun e w' => e = .returned (.int .i64 0) ∧ Ar w' g 0 .u8 (bk key t (ix n t) s) ∧ w.grownBy w' (some g) := by
  obtain ⟨i, hi⟩ : ∃ i, i = (t - 1) % n + 1 := ⟨_, rfl⟩
  obtain ⟨p, hp⟩ : ∃ p, p = 8 * i := ⟨_, rfl⟩
  have hix : ix n t = p := by rw [hp, hi]; rfl
  have hbd := ix_bd n t hn
  rw [hix] at hbd ⊢
  have hsl := hs.1
  have hin := out_blk s (8 * n + 8) t p hs hbd.1 hbd.2
  have hX := decr_blk key hkl hka _ hin
  have hh := half _ hX
  have hxb := xb (hd s) t (hd_len s (by omega)) (hd_all s hs.2)
  have P0 : Hid (∀ w, Calls Try.prog 35 #[.slice (some ⟨g, 0, none⟩) (8 * n + 8) cap, .int .i64 (t : Int)] w fun e w' => e = .returned (.int .i64 (i : Int)) ∧ w' = w) := fun w => partOf_any _ _ n cap t i w rfl (by omega) hn ht (by omega) hi
  have C0 : Hid (∀ w, Calls Try.prog 28 #[.slice (some ⟨g, 0, none⟩) (8 * n + 8) cap, .int .i64 0] w fun e w' => e = .returned (.slice (some ⟨g, 0, none⟩) 8 8) ∧ w' = w) := fun w => cut_any g 0 _ cap 0 0 rfl w (by omega) hc (by omega)
  have C1 : Hid (∀ w, Calls Try.prog 28 #[.slice (some ⟨g, 0, none⟩) (8 * n + 8) cap, .int .i64 (i : Int)] w fun e w' => e = .returned (.slice (some ⟨g, p, none⟩) 8 8) ∧ w' = w) := fun w => by
    have := cut_any g 0 (8 * n + 8) cap i (i : Int) rfl w (by omega) hc (by omega)
    rwa [Nat.zero_add, ← hp] at this
  have D0 : Hid (∀ g2 w, Calls Try.prog 28 #[.slice (some ⟨g2, 0, none⟩) 16 16, .int .i64 0] w fun e w' => e = .returned (.slice (some ⟨g2, 0, none⟩) 8 8) ∧ w' = w) := fun g2 w => cut_any g2 0 _ 16 0 0 rfl w (by omega) (by omega) (by omega)
  have D1 : Hid (∀ g2 w, Calls Try.prog 28 #[.slice (some ⟨g2, 0, none⟩) 16 16, .int .i64 1] w fun e w' => e = .returned (.slice (some ⟨g2, 8, none⟩) 8 8) ∧ w' = w) := fun g2 w => cut_any g2 0 _ 16 1 1 rfl w (by omega) (by omega) (by omega)
  have E0 : Hid (∀ w' v, KeyA w' kb key → Byt w' v (xorl (hd s) (b8 t) ++ pt s p) → Calls Try.prog 47 #[.pointer (some ⟨kb, 0, none⟩), v] w' fun e w'' => ∃ g2, e = .returned (.tuple #[.slice (some ⟨g2, 0, none⟩) 16 16, .int .i64 0]) ∧ Ar w'' g2 0 .u8 (decr key (xorl (hd s) (b8 t) ++ pt s p)) ∧ w'.heap.size ≤ g2 ∧ Below w'.heap.size w' w'') := fun w' v h1 h2 => decrypt_any v _ key kb w' h1 hkl hka h2 hin.1
  have N0 : Hid (∀ w' v, Byt w' v (hd s) → Calls Try.prog 37 #[v, .int .i64 (t : Int)] w' fun e w'' => ∃ v', e = .returned (.tuple #[v', .int .i64 0]) ∧ Own w'.heap.size w'' v' (xorl (hd s) (b8 t)) ∧ Below w'.heap.size w' w'') := fun w' v h => num8_any v _ t w' h (hd_len s (by omega)) (by omega)
  have HF : Hid (bk key t p s = laid (laid s 0 ((decr key (xorl (hd s) (b8 t) ++ pt s p)).take 8)) p ((decr key (xorl (hd s) (b8 t) ++ pt s p)).drop 8)) := (laid_two s _ _ p hh.1.1 hh.2.1 hbd.1).symm
  have Y0 : Hid (Byt w (.slice (some ⟨g, 0, none⟩) 8 8) (hd s)) := ar_hd hA hs.2 (by omega)
  have Y1 : Hid (Byt w (.slice (some ⟨g, p, none⟩) 8 8) (pt s p)) := ar_part hA hs.2 p (by omega)
  have L1 : Hid ((pt s p).length = 8) := pt_len s p (by omega)
  have LI : Hid (AllB (xorl (hd s) (b8 t) ++ pt s p)) := hin.2
  have HK : Hid (KeyA w kb key) := hk
  have HA : Hid (Ar w g 0 .u8 s) := hA
  have lk : kb < w.heap.size := hk.lt
  have lg : g < w.heap.size := hA.lt (by omega)
  have HSL : Hid (s.length = 8 * n + 8 ∧ 8 ≤ p ∧ p + 8 ≤ 8 * n + 8) := ⟨hsl, hbd⟩
  have LX : Hid ((decr key (xorl (hd s) (b8 t) ++ pt s p)).length = 16) := hX.1
  have LA : Hid (AllB (decr key (xorl (hd s) (b8 t) ++ pt s p))) := hX.2
  have LH : Hid (((decr key (xorl (hd s) (b8 t) ++ pt s p)).take 8).length = 8) := hh.1.1
  have LT : Hid (((decr key (xorl (hd s) (b8 t) ++ pt s p)).drop 8).length = 8) := hh.2.1
  have LR : Hid ((xorl (hd s) (b8 t)).length = 8) := hxb.1
  clear hk hA hs hsl hix hbd hin hi hp hkl hka hn hn' ht ht' hc hX hh hxb
  generalize bk key t p s = Z at *
  have TK : Hid (hd (decr key (xorl (hd s) (b8 t) ++ pt s p)) = (decr key (xorl (hd s) (b8 t) ++ pt s p)).take 8) := rfl
  have TD : Hid ((decr key (xorl (hd s) (b8 t) ++ pt s p)).drop 8 = pt (decr key (xorl (hd s) (b8 t) ++ pt s p)) 8) := drop8_pt _ LX.out
  generalize (decr key (xorl (hd s) (b8 t) ++ pt s p)).take 8 = X0 at *
  generalize (decr key (xorl (hd s) (b8 t) ++ pt s p)).drop 8 = X1 at *
  generalize decr key (xorl (hd s) (b8 t) ++ pt s p) = X at *
  generalize xorl (hd s) (b8 t) = A' at *
  generalize hd s = S0 at *
  generalize pt s p = S1 at *
  generalize 8 * n + 8 = L at *
  have t0 : True := trivial
  have t1 : True := trivial
  have t2 : True := trivial
  have t3 : True := trivial
  have t4 : True := trivial
  have t5 : True := trivial
  have t6 : True := trivial
  have t7 : True := trivial
  have t8 : True := trivial
  have t9 : True := trivial
  have t10 : True := trivial
  have t11 : True := trivial
  go_enter Try.func26, Try.ntmps26
  go_wp2_with (first
    | (have q := t0; go_at_call 35; refine (P0.out _).mono ?_; rintro e wx ⟨rfl, hw⟩; obtain rfl := hw.symm; clear t0 q)
    | (have q := t1; go_at_call 28; refine (C0.out _).mono ?_; rintro e wx ⟨rfl, hw⟩; obtain rfl := hw.symm; clear t1 q)
    | (have q := t2; go_at_call 37; refine (N0.out _ _ Y0.out).mono ?_; rintro e w1 ⟨v1, rfl, o1, B1⟩; have O1 : Hid (Own w.heap.size w1 v1 A') := o1; have s1 := B1.size; have Y11 : Hid (Byt w1 (.slice (some ⟨g, p, none⟩) 8 8) S1) := Y1.out.below B1; clear t2 q o1)
    | (have q := t3; go_at_call 28; refine (C1.out _).mono ?_; rintro e wx ⟨rfl, hw⟩; obtain rfl := hw.symm; clear t3 q)
    | (at_builtin; have q := t4; refine pushs_lawG _ rfl (.tmp 26) (.tmp 29) rfl w.heap.size s1 v1 (.slice (some ⟨g, p, none⟩) 8 8) A' S1 rfl rfl O1.out Y11.out (by rw [LR.out]; omega) (by rw [L1.out]; omega) ?_; intro v2 w2 o2 B2; have O2 : Hid (Byt w2 v2 (A' ++ S1)) := o2.byt LI.out; have B02 : Hid (Below w.heap.size w w2) := B1.trans B2; have s2 := B2.size; clear t4 q o2)
    | (have q := t5; go_at_call 47; refine (E0.out _ _ (HK.out.below B02.out lk) O2.out).mono ?_; rintro e w3 ⟨g2, rfl, a3, L3, B3⟩; have A3 : Hid (Ar w3 g2 0 .u8 X) := a3; have B03 : Hid (Below w.heap.size w w3) := B02.out.trans (B3.mono B02.out.size); have s3 := B3.size; have s03 := B02.out.size; have l3 : g2 < w3.heap.size := a3.lt (by rw [LX.out]; omega); have H3 : Hid (Ar w3 g 0 .u8 s) := HA.out.below B03.out lg; clear t5 q a3)
    | (have q := t6; go_at_call 28; refine (C0.out _).mono ?_; rintro e wx ⟨rfl, hw⟩; obtain rfl := hw.symm; clear t6 q)
    | (have q := t7; go_at_call 28; refine (D0.out _ _).mono ?_; rintro e wx ⟨rfl, hw⟩; obtain rfl := hw.symm; clear t7 q)
    | (have q := t8; refine copy_lawW _ rfl (.tmp 38) (.tmp 40) rfl g 0 8 8 (.slice (some ⟨g2, 0, none⟩) 8 8) s X0 rfl rfl (by rw [← TK.out]; exact ar_hd A3.out LA.out (by rw [LX.out]; omega)) H3.out LH.out (by have := HSL.out; omega) ?_; intro w4 a4 G4; have H4 : Hid (Ar w4 g 0 .u8 (laid s 0 X0)) := a4; have A4 : Hid (Ar w4 g2 0 .u8 X) := A3.out.heap (G4.block g2 (by omega) (by intro h; injection h with h; omega)); have K4 : Hid (w3.grownBy w4 (some g)) := G4; clear t8 q a4 G4)
    | (have q := t9; go_at_call 28; refine (C1.out _).mono ?_; rintro e wx ⟨rfl, hw⟩; obtain rfl := hw.symm; clear t9 q)
    | (have q := t10; go_at_call 28; refine (D1.out _ _).mono ?_; rintro e wx ⟨rfl, hw⟩; obtain rfl := hw.symm; clear t10 q)
    | (have q := t11; refine copy_lawW _ rfl (.tmp 44) (.tmp 46) rfl g p 8 8 (.slice (some ⟨g2, 8, none⟩) 8 8) (laid s 0 X0) X1 rfl rfl (by rw [TD.out]; exact ar_part A4.out LA.out 8 (by have := LX.out; omega)) H4.out LT.out (by rw [laid_len s 0 X0 (by rw [LH.out]; have := HSL.out; omega)]; have := HSL.out; omega) ?_; intro w5 a5 G5; have H5 : Hid (Ar w5 g 0 .u8 (laid (laid s 0 X0) p X1)) := a5; have K5 : Hid (w4.grownBy w5 (some g)) := G5; clear t11 q a5 G5))
  go_ret
  exact ⟨rfl, by rw [HF.out]; exact H5.out, grown_trans (grown_trans (below_grown B03.out g) K4.out) K5.out⟩
end Go.Proofs.Ytjiddmgnkldmkaa.wr
