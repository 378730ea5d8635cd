/- Texts put together (a claim holds few files). No claim of its own. -/
import Derived.Test.YtifepmdhbhdjpaaPackF
import Derived.Test.YtifepmdhbhdjpaaPackI
import Derived.Lib.SliceRun
import Derived.Test.YtifepmdhbhdjpaaPackE
/- What wrap's small functions and its two steps answer. No claim of its own. -/
namespace Go.Proofs.Ytifepmdhbhdjpaa.wr
open Go.RowKit
set_option maxRecDepth 20000

set_option maxHeartbeats 1000000 in
theorem cut_any (b off n cap i : Nat) (I : Int) (hI : I = (i : Int)) (w : World) (hi : 8 * i + 8 ≤ n) (hn : n ≤ cap) (hs : i ≤ 1000) :
    Calls Try.prog 38 #[.slice (some ⟨b, off, none⟩) n cap, .int .i64 I] w fun e w' => e = .returned (.slice (some ⟨b, off + 8 * i, none⟩) 8 8) ∧ w' = w := by
  subst hI
  have k1 : IntKind.i64.wrap (8 * (i : Int)) = 8 * (i : Int) := by rw [IntKind.wrap_i64]; omega
  have k2 : IntKind.i64.wrap (8 * (i : Int) + 8) = 8 * (i : Int) + 8 := by rw [IntKind.wrap_i64]; omega
  have k3 : (0 : Int) ≤ 8 * (i : Int) := by omega
  have k4 : 8 * (i : Int) + 8 ≤ (cap : Int) := by omega
  have k5 : 8 * (i : Int) ≤ 8 * (i : Int) + 8 := by omega
  go_enter Try.func38, Try.ntmps38
  go_wp2
  go_ret
  refine ⟨?_, rfl⟩
  show Ending.returned (Value.slice (some ⟨b, off + 8 * i, none⟩) (8 * i + 8 - 8 * i) (8 * i + 8 - 8 * i)) = _
  rw [show 8 * i + 8 - 8 * i = 8 by omega]

set_option maxHeartbeats 1000000 in
theorem parts_any (ao : Option Addr) (L n cap : Nat) (w : World) (hL : L = 8 * n + 8) (hn : n ≤ 1000) :
    Calls Try.prog 54 #[.slice ao L cap] w fun e w' => e = .returned (.int .i64 (n : Int)) ∧ w' = w := by
  have k1 : (L : Int).tdiv 8 = (n : Int) + 1 := by rw [Int.tdiv_eq_ediv_of_nonneg (by omega)]; omega
  have k2 : IntKind.i64.wrap ((n : Int) + 1) = (n : Int) + 1 := by rw [IntKind.wrap_i64]; omega
  have k3 : IntKind.i64.wrap ((n : Int) + 1 - 1) = (n : Int) := by rw [IntKind.wrap_i64]; omega
  clear hL
  go_enter Try.func54, Try.ntmps54
  go_wp2
  go_ret
  exact ⟨by first | rfl | exact ret_int (by omega), rfl⟩

set_option maxHeartbeats 1000000 in
theorem last_any (ao : Option Addr) (L n cap : Nat) (w : World) (hL : L = 8 * n + 8) (hn : n ≤ 1000) :
    Calls Try.prog 32 #[.slice ao L cap] w fun e w' => e = .returned (.int .i64 ((6 * n : Nat) : Int)) ∧ w' = w := by
  have H : Hid (Calls Try.prog 54 #[.slice ao L cap] w fun e w' => e = .returned (.int .i64 (n : Int)) ∧ w' = w) := parts_any ao L n cap w hL hn
  have k2 : IntKind.i64.wrap (6 * (n : Int)) = 6 * (n : Int) := by rw [IntKind.wrap_i64]; omega
  clear hL
  go_enter Try.func32, Try.ntmps32
  go_wp2_with (go_at_call 54; refine (H.out).mono ?_; rintro e wx ⟨rfl, hw⟩; obtain rfl := hw.symm)
  go_ret
  exact ⟨by first | rfl | exact ret_int (by omega), rfl⟩

set_option maxHeartbeats 1000000 in
theorem partOf_any (ao : Option Addr) (L n cap t i : Nat) (w : World) (hL : L = 8 * n + 8) (hn : n ≤ 1000) (hp : 0 < n) (ht : 1 ≤ t) (ht' : t ≤ 1000000) (hi : i = (t - 1) % n + 1) :
    Calls Try.prog 55 #[.slice ao L cap, .int .i64 (t : Int)] w fun e w' => e = .returned (.int .i64 (i : Int)) ∧ w' = w := by
  have H : Hid (∀ w, Calls Try.prog 54 #[.slice ao L cap] w fun e w' => e = .returned (.int .i64 (n : Int)) ∧ w' = w) := fun w => parts_any ao L n cap w hL hn
  obtain ⟨r, hr⟩ : ∃ r, r = (t - 1) % n := ⟨_, rfl⟩
  have hrn : r < n := by rw [hr]; exact Nat.mod_lt _ hp
  have k1 : IntKind.i64.wrap ((t : Int) - 1) = (t : Int) - 1 := by rw [IntKind.wrap_i64]; omega
  have k3 : ((t : Int) - 1).tmod (n : Int) = (r : Int) := by
    rw [Int.tmod_eq_emod_of_nonneg (by omega), show (t : Int) - 1 = ((t - 1 : Nat) : Int) by omega, hr]; rfl
  have k4 : IntKind.i64.wrap (r : Int) = (r : Int) := by rw [IntKind.wrap_i64]; omega
  have k5 : IntKind.i64.wrap ((r : Int) + 1) = (r : Int) + 1 := by rw [IntKind.wrap_i64]; omega
  have k6 : ¬ ((n : Int) = 0) := by omega
  have HI : Hid (i = r + 1) := by rw [hr]; exact hi
  clear hL hi hr
  go_enter Try.func55, Try.ntmps55
  go_wp2_with (go_at_call 54; refine (H.out _).mono ?_; rintro e wx ⟨rfl, hw⟩; obtain rfl := hw.symm)
  go_ret
  exact ⟨by have := HI.out; first | rfl | exact ret_int (by omega), rfl⟩

theorem clamp8 : clamp 8 8 = 8 := by unfold clamp; omega

set_option maxHeartbeats 1000000 in
theorem num8_any (v : Value) (xs : List Int) (t : Nat) (w : World) (hv : Byt w v xs) (hl : xs.length = 8) (ht : t ≤ 1000000) :
    Calls Try.prog 57 #[v, .int .i64 (t : Int)] w fun e w' => ∃ v', e = .returned (.tuple #[v', .int .i64 0]) ∧ Own w.heap.size w' v' (xorl xs (b8 t)) ∧ Below w.heap.size w w' := by
  have HB : Hid (∀ w, Calls Try.prog 51 #[.int .u64 (t : Int), .int .i64 8] w fun e w' => ∃ v, e = .returned v ∧ Byt w' v (b8 t) ∧ Below w.heap.size w w') := fun w => by
    have := big_any (t : Int) 8 w (by omega)
    rw [clamp8] at this
    exact this
  have HX : Hid (∀ w' u, Byt w' v xs → Byt w' u (b8 t) → Calls Try.prog 77 #[v, u] w' fun e w'' => ∃ v', e = .returned (.tuple #[v', .int .i64 0]) ∧ Own w'.heap.size w'' v' (xorl xs (b8 t)) ∧ Below w'.heap.size w' w'') := fun w' u h1 h2 => xor_own v u xs (b8 t) w' h1 h2 (by rw [hl, b8_len]) (by omega)
  have HV : Hid (Byt w v xs) := hv
  have k1 : IntKind.u64.wrap (t : Int) = (t : Int) := by rw [IntKind.wrap_u64]; omega
  clear hv hl
  generalize xorl xs (b8 t) = zs at *
  generalize b8 t = ts at *
  go_enter Try.func57, Try.ntmps57
  go_wp2_with (first
    | (have q1 := s1; go_at_call 77; refine (HX.out _ _ (HV.out.below B1) Y1.out).mono ?_; rintro e w2 ⟨v2, rfl, o2, B2⟩; have O2 : Hid (Own w1.heap.size w2 v2 zs) := o2; clear o2)
    | (go_at_call 51; refine (HB.out _).mono ?_; rintro e w1 ⟨v1, rfl, y1, B1⟩; have s1 := B1.size; have Y1 : Hid (Byt w1 v1 ts) := y1; clear y1))
  go_ret2
  exact ⟨_, rfl, own_mono O2.out s1, B1.trans (B2.mono s1)⟩

/-! ### the two steps -/
theorem pt_zero (s : List Int) : pt s 0 = hd s := by simp [pt, hd]
theorem ar_part {w : World} {g : Nat} {s : List Int} (h : Ar w g 0 .u8 s) (ha : AllB s) (p : Nat) (hp : p + 8 ≤ s.length) : Byt w (.slice (some ⟨g, p, none⟩) 8 8) (pt s p) := by
  have hl := pt_len s p hp
  have := h.subG p (pt s p) (by omega) (fun t ht => gb_cut s p (p + 8) t (by omega))
  rw [Nat.zero_add] at this
  exact this.bytG (pt_all s p ha) 8 8 hl (Nat.le_refl _) (by omega)
theorem ar_hd {w : World} {g : Nat} {s : List Int} (h : Ar w g 0 .u8 s) (ha : AllB s) (hp : 8 ≤ s.length) : Byt w (.slice (some ⟨g, 0, none⟩) 8 8) (hd s) := by
  have := ar_part h ha 0 (by omega)
  rwa [pt_zero] at this
theorem drop8_pt (s : List Int) (h : s.length = 16) : s.drop 8 = pt s 8 := by
  unfold pt
  rw [List.take_of_length_le (by omega)]
theorem laid_two (s a r : List Int) (p : Nat) (ha : a.length = 8) (hr : r.length = 8) (h8 : 8 ≤ p) : laid (laid s 0 a) p r = put s p a r := by
  have e0 : laid s 0 a = a ++ s.drop 8 := by
    unfold laid
    rw [List.take_zero, List.nil_append, Nat.zero_add, ha]
  rw [e0]
  unfold laid put
  rw [hr, List.take_append, List.take_of_length_le (by omega), List.drop_append, List.drop_eq_nil_of_le (show a.length ≤ p + 8 by omega), List.nil_append, List.drop_drop, ha, List.drop_take, show 8 + (p + 8 - 8) = p + 8 by omega]
theorem grown_trans {a b c : World} {row : Option Nat} (h : a.grownBy b row) (k : b.grownBy c row) : a.grownBy c row :=
  ⟨k.os.trans h.os, k.tape.trans h.tape, k.output.trans h.output, Nat.le_trans h.size k.size, fun j hj hr => (k.block j (Nat.lt_of_lt_of_le hj h.size) hr).trans (h.block j hj hr)⟩
theorem below_grown {w w' : World} (h : Below w.heap.size w w') (g : Nat) : w.grownBy w' (some g) := ⟨h.os, h.tape, h.output, h.size, fun j hj _ => h.block j hj⟩

set_option linter.unusedSimpArgs false in
set_option maxRecDepth 20000 in
set_option maxHeartbeats 4000000 in
theorem one_any (kb g n t cap : Nat) (key s : List Int) (w : World) (hk : KeyA w kb key) (hkl : key.length = 32) (hka : AllB key) (hA : Ar w g 0 .u8 s) (hs : Fit (8 * n + 8) s) (hn : 0 < n) (hn' : n ≤ 32) (ht : 1 ≤ t) (ht' : t ≤ 192) (hc : 8 * n + 8 ≤ cap) :
    Calls Try.prog 33 #[.pointer (some ⟨kb, 0, none⟩), .slice (some ⟨g, 0, none⟩) (8 * n + 8) cap, .int .i64 (t : Int)] w fun e w' => e = .returned (.int .i64 0) ∧ Ar w' g 0 .u8 (fw key t (ix n t) s) ∧ w.grownBy w' (some g) := by
  obtain ⟨i, hi⟩ : ∃ i, i = (t - 1) % n + 1 := ⟨_, rfl⟩
  obtain ⟨p, hp⟩ : ∃ p, p = 8 * i := ⟨_, rfl⟩
  have hix : ix n t = p := by rw [hp, hi]; rfl
  have hbd := ix_bd n t hn
  rw [hix] at hbd ⊢
  have hsl := hs.1
  have hin := in_blk s (8 * n + 8) p hs hbd.1 hbd.2
  have hX := encr_blk key hkl hka _ hin
  have hh := half _ hX
  have hxb := xb _ t hh.1.1 hh.1.2
  have P0 : Hid (∀ w, Calls Try.prog 55 #[.slice (some ⟨g, 0, none⟩) (8 * n + 8) cap, .int .i64 (t : Int)] w fun e w' => e = .returned (.int .i64 (i : Int)) ∧ w' = w) := fun w => partOf_any _ _ n cap t i w rfl (by omega) hn ht (by omega) hi
  have C0 : Hid (∀ w, Calls Try.prog 38 #[.slice (some ⟨g, 0, none⟩) (8 * n + 8) cap, .int .i64 0] w fun e w' => e = .returned (.slice (some ⟨g, 0, none⟩) 8 8) ∧ w' = w) := fun w => cut_any g 0 _ cap 0 0 rfl w (by omega) hc (by omega)
  have C1 : Hid (∀ w, Calls Try.prog 38 #[.slice (some ⟨g, 0, none⟩) (8 * n + 8) cap, .int .i64 (i : Int)] w fun e w' => e = .returned (.slice (some ⟨g, p, none⟩) 8 8) ∧ w' = w) := fun w => by
    have := cut_any g 0 (8 * n + 8) cap i (i : Int) rfl w (by omega) hc (by omega)
    rwa [Nat.zero_add, ← hp] at this
  have D0 : Hid (∀ g2 w, Calls Try.prog 38 #[.slice (some ⟨g2, 0, none⟩) 16 16, .int .i64 0] w fun e w' => e = .returned (.slice (some ⟨g2, 0, none⟩) 8 8) ∧ w' = w) := fun g2 w => cut_any g2 0 _ 16 0 0 rfl w (by omega) (by omega) (by omega)
  have D1 : Hid (∀ g2 w, Calls Try.prog 38 #[.slice (some ⟨g2, 0, none⟩) 16 16, .int .i64 1] w fun e w' => e = .returned (.slice (some ⟨g2, 8, none⟩) 8 8) ∧ w' = w) := fun g2 w => cut_any g2 0 _ 16 1 1 rfl w (by omega) (by omega) (by omega)
  have E0 : Hid (∀ w' v, KeyA w' kb key → Byt w' v (hd s ++ pt s p) → Calls Try.prog 56 #[.pointer (some ⟨kb, 0, none⟩), v] w' fun e w'' => ∃ g2, e = .returned (.tuple #[.slice (some ⟨g2, 0, none⟩) 16 16, .int .i64 0]) ∧ Ar w'' g2 0 .u8 (encr key (hd s ++ pt s p)) ∧ w'.heap.size ≤ g2 ∧ Below w'.heap.size w' w'') := fun w' v h1 h2 => encrypt_any v _ key kb w' h1 hkl hka h2 hin.1
  have N0 : Hid (∀ w' v, Byt w' v ((encr key (hd s ++ pt s p)).take 8) → Calls Try.prog 57 #[v, .int .i64 (t : Int)] w' fun e w'' => ∃ v', e = .returned (.tuple #[v', .int .i64 0]) ∧ Own w'.heap.size w'' v' (xorl ((encr key (hd s ++ pt s p)).take 8) (b8 t)) ∧ Below w'.heap.size w' w'') := fun w' v h => num8_any v _ t w' h hh.1.1 (by omega)
  have HF : Hid (fw key t p s = laid (laid s 0 (xorl ((encr key (hd s ++ pt s p)).take 8) (b8 t))) p ((encr key (hd s ++ pt s p)).drop 8)) := (laid_two s _ _ p hxb.1 hh.2.1 hbd.1).symm
  have Y0 : Hid (Byt w (.slice (some ⟨g, 0, none⟩) 8 8) (hd s)) := ar_hd hA hs.2 (by omega)
  have Y1 : Hid (Byt w (.slice (some ⟨g, p, none⟩) 8 8) (pt s p)) := ar_part hA hs.2 p (by omega)
  have L0 : Hid ((hd s).length = 8) := hd_len s (by omega)
  have L1 : Hid ((pt s p).length = 8) := pt_len s p (by omega)
  have LI : Hid (AllB (hd s ++ pt s p)) := hin.2
  have HK : Hid (KeyA w kb key) := hk
  have HA : Hid (Ar w g 0 .u8 s) := hA
  have lk : kb < w.heap.size := hk.lt
  have lg : g < w.heap.size := hA.lt (by omega)
  have HSL : Hid (s.length = 8 * n + 8 ∧ 8 ≤ p ∧ p + 8 ≤ 8 * n + 8) := ⟨hsl, hbd⟩
  clear hk hA hs hsl hix hbd hin hi hp hkl hka hn hn' ht ht' hc
  have LX : Hid ((encr key (hd s ++ pt s p)).length = 16) := hX.1
  have LA : Hid (AllB (encr key (hd s ++ pt s p))) := hX.2
  have LT : Hid (((encr key (hd s ++ pt s p)).drop 8).length = 8) := hh.2.1
  have LR : Hid ((xorl ((encr key (hd s ++ pt s p)).take 8) (b8 t)).length = 8 ∧ AllB (xorl ((encr key (hd s ++ pt s p)).take 8) (b8 t))) := hxb
  clear hX hh hxb
  generalize fw key t p s = Z at *
  generalize xorl ((encr key (hd s ++ pt s p)).take 8) (b8 t) = A' at *
  have TK : Hid (hd (encr key (hd s ++ pt s p)) = (encr key (hd s ++ pt s p)).take 8) := rfl
  have TD : Hid ((encr key (hd s ++ pt s p)).drop 8 = pt (encr key (hd s ++ pt s p)) 8) := drop8_pt _ LX.out
  generalize (encr key (hd s ++ pt s p)).take 8 = X0 at *
  generalize (encr key (hd s ++ pt s p)).drop 8 = X1 at *
  generalize encr key (hd s ++ pt s p) = X at *
  generalize hd s = S0 at *
  generalize pt s p = S1 at *
  generalize 8 * n + 8 = L at *
  have t0 : True := trivial
  have t1 : True := trivial
  have t2 : True := trivial
  have t3 : True := trivial
  have t4 : True := trivial
  have t5 : True := trivial
  have t6 : True := trivial
  have t7 : True := trivial
  have t8 : True := trivial
  have t9 : True := trivial
  have t10 : True := trivial
  have t11 : True := trivial
  go_enter Try.func33, Try.ntmps33
  go_wp2_with (first
    | (have q := t0; go_at_call 55; refine (P0.out _).mono ?_; rintro e wx ⟨rfl, hw⟩; obtain rfl := hw.symm; clear t0 q)
    | (have q := t1; go_at_call 38; refine (C0.out _).mono ?_; rintro e wx ⟨rfl, hw⟩; obtain rfl := hw.symm; clear t1 q)
    | (have q := t2; go_at_call 38; refine (C1.out _).mono ?_; rintro e wx ⟨rfl, hw⟩; obtain rfl := hw.symm; clear t2 q)
    | (at_builtin; have q := t3; refine full_law _ rfl (.tmp 17) (.tmp 20) rfl (.slice (some ⟨g, p, none⟩) 8 8) S0 S1 ⟨g, 0, none⟩ 8 rfl rfl Y0.out Y1.out (by rw [L1.out]; omega) (by rw [L0.out]; omega) (by rw [L0.out]; omega) (by rw [L1.out]; omega) ?_; intro v1 w1 o1 B1; have O1 : Hid (Byt w1 v1 (S0 ++ S1)) := o1.byt LI.out; have s1 := B1.size; clear t3 q o1)
    | (have q := t4; go_at_call 56; refine (E0.out _ _ (HK.out.below B1 lk) O1.out).mono ?_; rintro e w2 ⟨g2, rfl, a2, L2, B2⟩; have A2 : Hid (Ar w2 g2 0 .u8 X) := a2; have B02 : Hid (Below w.heap.size w w2) := B1.trans (B2.mono s1); have s2 := B2.size; have l2 : g2 < w2.heap.size := a2.lt (by rw [LX.out]; omega); clear t4 q a2)
    | (have q := t5; go_at_call 38; refine (D0.out _ _).mono ?_; rintro e wx ⟨rfl, hw⟩; obtain rfl := hw.symm; clear t5 q)
    | (have q := t6; go_at_call 57; refine (N0.out _ _ (by rw [← TK.out]; exact ar_hd A2.out LA.out (by rw [LX.out]; omega))).mono ?_; rintro e w3 ⟨v3, rfl, o3, B3⟩; have O3 : Hid (Byt w3 v3 A') := o3.byt LR.out.2; have B03 : Hid (Below w.heap.size w w3) := B02.out.trans (B3.mono (by omega)); have A3 : Hid (Ar w3 g2 0 .u8 X) := A2.out.below B3 l2; have H3 : Hid (Ar w3 g 0 .u8 s) := HA.out.below B03.out lg; have s3 := B3.size; clear t6 q o3)
    | (have q := t7; go_at_call 38; refine (C0.out _).mono ?_; rintro e wx ⟨rfl, hw⟩; obtain rfl := hw.symm; clear t7 q)
    | (have q := t8; refine copy_lawW _ rfl (.tmp 39) (.tmp 40) rfl g 0 8 8 v3 s A' rfl rfl O3.out H3.out LR.out.1 (by have := HSL.out; omega) ?_; intro w4 a4 G4; have H4 : Hid (Ar w4 g 0 .u8 (laid s 0 A')) := a4; have A4 : Hid (Ar w4 g2 0 .u8 X) := A3.out.heap (G4.block g2 (by omega) (by intro h; injection h with h; omega)); have K4 : Hid (w3.grownBy w4 (some g)) := G4; clear t8 q a4 G4)
    | (have q := t9; go_at_call 38; refine (C1.out _).mono ?_; rintro e wx ⟨rfl, hw⟩; obtain rfl := hw.symm; clear t9 q)
    | (have q := t10; go_at_call 38; refine (D1.out _ _).mono ?_; rintro e wx ⟨rfl, hw⟩; obtain rfl := hw.symm; clear t10 q)
    | (have q := t11; refine copy_lawW _ rfl (.tmp 44) (.tmp 46) rfl g p 8 8 (.slice (some ⟨g2, 8, none⟩) 8 8) (laid s 0 A') X1 rfl rfl (by rw [TD.out]; exact ar_part A4.out LA.out 8 (by have := LX.out; omega)) H4.out LT.out (by rw [laid_len s 0 A' (by rw [LR.out.1]; have := HSL.out; omega)]; have := HSL.out; omega) ?_; intro w5 a5 G5; have H5 : Hid (Ar w5 g 0 .u8 (laid (laid s 0 A') p X1)) := a5; have K5 : Hid (w4.grownBy w5 (some g)) := G5; clear t11 q a5 G5))
  go_ret
  exact ⟨rfl, by rw [HF.out]; exact H5.out, grown_trans (grown_trans (below_grown B03.out g) K4.out) K5.out⟩

set_option linter.unusedSimpArgs false in
set_option maxRecDepth 20000 in
set_option maxHeartbeats 4000000 in
theorem unone_any (kb g n t cap : Nat) (key s : List Int) (w : World) (hk : KeyA w kb key) (hkl : key.length = 32) (hka : AllB key) (hA : Ar w g 0 .u8 s) (hs : Fit (8 * n + 8) s) (hn : 0 < n) (hn' : n ≤ 32) (ht : 1 ≤ t) (ht' : t ≤ 192) (hc : 8 * n + 8 ≤ cap) :
    Calls Try.prog 36 #[.pointer (some ⟨kb, 0, none⟩), .slice (some ⟨g, 0, none⟩) (8 * n + 8) cap, .int .i64 (t : Int)] w fun e w' => e = .returned (.int .i64 0) ∧ Ar w' g 0 .u8 (bk key t (ix n t) s) ∧ w.grownBy w' (some g) := by
  obtain ⟨i, hi⟩ : ∃ i, i = (t - 1) % n + 1 := ⟨_, rfl⟩
  obtain ⟨p, hp⟩ : ∃ p, p = 8 * i := ⟨_, rfl⟩
  have hix : ix n t = p := by rw [hp, hi]; rfl
  have hbd := ix_bd n t hn
  rw [hix] at hbd ⊢
  have hsl := hs.1
  have hin := out_blk s (8 * n + 8) t p hs hbd.1 hbd.2
  have hX := decr_blk key hkl hka _ hin
  have hh := half _ hX
  have hxb := xb (hd s) t (hd_len s (by omega)) (hd_all s hs.2)
  have P0 : Hid (∀ w, Calls Try.prog 55 #[.slice (some ⟨g, 0, none⟩) (8 * n + 8) cap, .int .i64 (t : Int)] w fun e w' => e = .returned (.int .i64 (i : Int)) ∧ w' = w) := fun w => partOf_any _ _ n cap t i w rfl (by omega) hn ht (by omega) hi
  have C0 : Hid (∀ w, Calls Try.prog 38 #[.slice (some ⟨g, 0, none⟩) (8 * n + 8) cap, .int .i64 0] w fun e w' => e = .returned (.slice (some ⟨g, 0, none⟩) 8 8) ∧ w' = w) := fun w => cut_any g 0 _ cap 0 0 rfl w (by omega) hc (by omega)
  have C1 : Hid (∀ w, Calls Try.prog 38 #[.slice (some ⟨g, 0, none⟩) (8 * n + 8) cap, .int .i64 (i : Int)] w fun e w' => e = .returned (.slice (some ⟨g, p, none⟩) 8 8) ∧ w' = w) := fun w => by
    have := cut_any g 0 (8 * n + 8) cap i (i : Int) rfl w (by omega) hc (by omega)
    rwa [Nat.zero_add, ← hp] at this
  have D0 : Hid (∀ g2 w, Calls Try.prog 38 #[.slice (some ⟨g2, 0, none⟩) 16 16, .int .i64 0] w fun e w' => e = .returned (.slice (some ⟨g2, 0, none⟩) 8 8) ∧ w' = w) := fun g2 w => cut_any g2 0 _ 16 0 0 rfl w (by omega) (by omega) (by omega)
  have D1 : Hid (∀ g2 w, Calls Try.prog 38 #[.slice (some ⟨g2, 0, none⟩) 16 16, .int .i64 1] w fun e w' => e = .returned (.slice (some ⟨g2, 8, none⟩) 8 8) ∧ w' = w) := fun g2 w => cut_any g2 0 _ 16 1 1 rfl w (by omega) (by omega) (by omega)
  have E0 : Hid (∀ w' v, KeyA w' kb key → Byt w' v (xorl (hd s) (b8 t) ++ pt s p) → Calls Try.prog 58 #[.pointer (some ⟨kb, 0, none⟩), v] w' fun e w'' => ∃ g2, e = .returned (.tuple #[.slice (some ⟨g2, 0, none⟩) 16 16, .int .i64 0]) ∧ Ar w'' g2 0 .u8 (decr key (xorl (hd s) (b8 t) ++ pt s p)) ∧ w'.heap.size ≤ g2 ∧ Below w'.heap.size w' w'') := fun w' v h1 h2 => decrypt_any v _ key kb w' h1 hkl hka h2 hin.1
  have N0 : Hid (∀ w' v, Byt w' v (hd s) → Calls Try.prog 57 #[v, .int .i64 (t : Int)] w' fun e w'' => ∃ v', e = .returned (.tuple #[v', .int .i64 0]) ∧ Own w'.heap.size w'' v' (xorl (hd s) (b8 t)) ∧ Below w'.heap.size w' w'') := fun w' v h => num8_any v _ t w' h (hd_len s (by omega)) (by omega)
  have HF : Hid (bk key t p s = laid (laid s 0 ((decr key (xorl (hd s) (b8 t) ++ pt s p)).take 8)) p ((decr key (xorl (hd s) (b8 t) ++ pt s p)).drop 8)) := (laid_two s _ _ p hh.1.1 hh.2.1 hbd.1).symm
  have Y0 : Hid (Byt w (.slice (some ⟨g, 0, none⟩) 8 8) (hd s)) := ar_hd hA hs.2 (by omega)
  have Y1 : Hid (Byt w (.slice (some ⟨g, p, none⟩) 8 8) (pt s p)) := ar_part hA hs.2 p (by omega)
  have L1 : Hid ((pt s p).length = 8) := pt_len s p (by omega)
  have LI : Hid (AllB (xorl (hd s) (b8 t) ++ pt s p)) := hin.2
  have HK : Hid (KeyA w kb key) := hk
  have HA : Hid (Ar w g 0 .u8 s) := hA
  have lk : kb < w.heap.size := hk.lt
  have lg : g < w.heap.size := hA.lt (by omega)
  have HSL : Hid (s.length = 8 * n + 8 ∧ 8 ≤ p ∧ p + 8 ≤ 8 * n + 8) := ⟨hsl, hbd⟩
  have LX : Hid ((decr key (xorl (hd s) (b8 t) ++ pt s p)).length = 16) := hX.1
  have LA : Hid (AllB (decr key (xorl (hd s) (b8 t) ++ pt s p))) := hX.2
  have LH : Hid (((decr key (xorl (hd s) (b8 t) ++ pt s p)).take 8).length = 8) := hh.1.1
  have LT : Hid (((decr key (xorl (hd s) (b8 t) ++ pt s p)).drop 8).length = 8) := hh.2.1
  have LR : Hid ((xorl (hd s) (b8 t)).length = 8) := hxb.1
  clear hk hA hs hsl hix hbd hin hi hp hkl hka hn hn' ht ht' hc hX hh hxb
  generalize bk key t p s = Z at *
  have TK : Hid (hd (decr key (xorl (hd s) (b8 t) ++ pt s p)) = (decr key (xorl (hd s) (b8 t) ++ pt s p)).take 8) := rfl
  have TD : Hid ((decr key (xorl (hd s) (b8 t) ++ pt s p)).drop 8 = pt (decr key (xorl (hd s) (b8 t) ++ pt s p)) 8) := drop8_pt _ LX.out
  generalize (decr key (xorl (hd s) (b8 t) ++ pt s p)).take 8 = X0 at *
  generalize (decr key (xorl (hd s) (b8 t) ++ pt s p)).drop 8 = X1 at *
  generalize decr key (xorl (hd s) (b8 t) ++ pt s p) = X at *
  generalize xorl (hd s) (b8 t) = A' at *
  generalize hd s = S0 at *
  generalize pt s p = S1 at *
  generalize 8 * n + 8 = L at *
  have t0 : True := trivial
  have t1 : True := trivial
  have t2 : True := trivial
  have t3 : True := trivial
  have t4 : True := trivial
  have t5 : True := trivial
  have t6 : True := trivial
  have t7 : True := trivial
  have t8 : True := trivial
  have t9 : True := trivial
  have t10 : True := trivial
  have t11 : True := trivial
  go_enter Try.func36, Try.ntmps36
  go_wp2_with (first
    | (have q := t0; go_at_call 55; refine (P0.out _).mono ?_; rintro e wx ⟨rfl, hw⟩; obtain rfl := hw.symm; clear t0 q)
    | (have q := t1; go_at_call 38; refine (C0.out _).mono ?_; rintro e wx ⟨rfl, hw⟩; obtain rfl := hw.symm; clear t1 q)
    | (have q := t2; go_at_call 57; refine (N0.out _ _ Y0.out).mono ?_; rintro e w1 ⟨v1, rfl, o1, B1⟩; have O1 : Hid (Own w.heap.size w1 v1 A') := o1; have s1 := B1.size; have Y11 : Hid (Byt w1 (.slice (some ⟨g, p, none⟩) 8 8) S1) := Y1.out.below B1; clear t2 q o1)
    | (have q := t3; go_at_call 38; refine (C1.out _).mono ?_; rintro e wx ⟨rfl, hw⟩; obtain rfl := hw.symm; clear t3 q)
    | (at_builtin; have q := t4; refine pushs_lawG _ rfl (.tmp 26) (.tmp 29) rfl w.heap.size s1 v1 (.slice (some ⟨g, p, none⟩) 8 8) A' S1 rfl rfl O1.out Y11.out (by rw [LR.out]; omega) (by rw [L1.out]; omega) ?_; intro v2 w2 o2 B2; have O2 : Hid (Byt w2 v2 (A' ++ S1)) := o2.byt LI.out; have B02 : Hid (Below w.heap.size w w2) := B1.trans B2; have s2 := B2.size; clear t4 q o2)
    | (have q := t5; go_at_call 58; refine (E0.out _ _ (HK.out.below B02.out lk) O2.out).mono ?_; rintro e w3 ⟨g2, rfl, a3, L3, B3⟩; have A3 : Hid (Ar w3 g2 0 .u8 X) := a3; have B03 : Hid (Below w.heap.size w w3) := B02.out.trans (B3.mono B02.out.size); have s3 := B3.size; have s03 := B02.out.size; have l3 : g2 < w3.heap.size := a3.lt (by rw [LX.out]; omega); have H3 : Hid (Ar w3 g 0 .u8 s) := HA.out.below B03.out lg; clear t5 q a3)
    | (have q := t6; go_at_call 38; refine (C0.out _).mono ?_; rintro e wx ⟨rfl, hw⟩; obtain rfl := hw.symm; clear t6 q)
    | (have q := t7; go_at_call 38; refine (D0.out _ _).mono ?_; rintro e wx ⟨rfl, hw⟩; obtain rfl := hw.symm; clear t7 q)
    | (have q := t8; refine copy_lawW _ rfl (.tmp 38) (.tmp 40) rfl g 0 8 8 (.slice (some ⟨g2, 0, none⟩) 8 8) s X0 rfl rfl (by rw [← TK.out]; exact ar_hd A3.out LA.out (by rw [LX.out]; omega)) H3.out LH.out (by have := HSL.out; omega) ?_; intro w4 a4 G4; have H4 : Hid (Ar w4 g 0 .u8 (laid s 0 X0)) := a4; have A4 : Hid (Ar w4 g2 0 .u8 X) := A3.out.heap (G4.block g2 (by omega) (by intro h; injection h with h; omega)); have K4 : Hid (w3.grownBy w4 (some g)) := G4; clear t8 q a4 G4)
    | (have q := t9; go_at_call 38; refine (C1.out _).mono ?_; rintro e wx ⟨rfl, hw⟩; obtain rfl := hw.symm; clear t9 q)
    | (have q := t10; go_at_call 38; refine (D1.out _ _).mono ?_; rintro e wx ⟨rfl, hw⟩; obtain rfl := hw.symm; clear t10 q)
    | (have q := t11; refine copy_lawW _ rfl (.tmp 44) (.tmp 46) rfl g p 8 8 (.slice (some ⟨g2, 8, none⟩) 8 8) (laid s 0 X0) X1 rfl rfl (by rw [TD.out]; exact ar_part A4.out LA.out 8 (by have := LX.out; omega)) H4.out LT.out (by rw [laid_len s 0 X0 (by rw [LH.out]; have := HSL.out; omega)]; have := HSL.out; omega) ?_; intro w5 a5 G5; have H5 : Hid (Ar w5 g 0 .u8 (laid (laid s 0 X0) p X1)) := a5; have K5 : Hid (w4.grownBy w5 (some g)) := G5; clear t11 q a5 G5))
  go_ret
  exact ⟨rfl, by rw [HF.out]; exact H5.out, grown_trans (grown_trans (below_grown B03.out g) K4.out) K5.out⟩
end Go.Proofs.Ytifepmdhbhdjpaa.wr

/- What slices.Grow, Concat (of two) and Clone answer, and how many bytes may be wrapped. No claim of its own. -/
namespace Go.Proofs.Ytifepmdhbhdjpaa.wr
open Go.RowKit
set_option maxRecDepth 20000

set_option maxHeartbeats 1000000 in
theorem grow_any (n : Nat) (w : World) (hp : 0 < n) (hn : n ≤ 1000000) :
    Calls Try.prog 52 #[.slice none 0 0, .int .i64 (n : Int)] w fun e w' => ∃ v, e = .returned v ∧ Own w.heap.size w' v [] ∧ Below w.heap.size w w' := by
  have k1 : ¬ ((n : Int) < 0) := by omega
  have k2 : IntKind.i64.wrap ((n : Int) - 0) = (n : Int) := by rw [IntKind.wrap_i64]; omega
  have k3 : IntKind.i64.wrap (n : Int) = (n : Int) := by rw [IntKind.wrap_i64]; omega
  have k4 : (n : Int) > 0 := by omega
  go_enter Try.func52, Try.ntmps52
  go_wp2_with (at_builtin; refine zeros_law _ rfl (.tmp 20) (.tmp 21) rfl (n : Int) n rfl rfl rfl hp hn ?_; intro cap w1 c1 c2 o1 B1; have O1 : Hid (Own w.heap.size w1 (.slice (some ⟨w.heap.size, 0, none⟩) 0 cap) []) := o1; have c3 : (0 : Int) ≤ (cap : Int) := (by omega); clear o1)
  go_ret
  exact ⟨_, rfl, O1.out, B1⟩

set_option maxHeartbeats 1000000 in
theorem clone_any (w : World) (ad : Addr) (n cap : Nat) (xs : List Int) (h : Byt w (.slice (some ad) n cap) xs) (hl : xs.length ≤ 1000000) :
    Calls Try.prog 35 #[.slice (some ad) n cap] w fun e w' => ∃ v', e = .returned v' ∧ Own w.heap.size w' v' xs ∧ Below w.heap.size w w' := by
  have HV : Hid (Byt (w.alloc (.cells #[] 5)) (.slice (some ad) n cap) xs) := h.below ((Below.refl _ _).alloc (Nat.le_refl _) _)
  have HO : Hid (Own w.heap.size (w.alloc (.cells #[] 5)) (.slice (some ⟨w.heap.size, 0, none⟩) 0 0) []) := Own.empty w (Nat.le_refl _)
  have B0 : Below w.heap.size w (w.alloc (.cells #[] 5)) := (Below.refl _ _).alloc (Nat.le_refl _) _
  have z0 := B0.size
  have qn : ∀ w : World, (binOp .eql 22 (.slice (some ad) n cap) (.slice none 0 0)).run Try.prog w = .ok (.bool false) w := fun w => Lib.run_eql_slice_nil w _ _ (some ad) n cap 0 0 Try.underlying22
  clear h
  go_enter Try.func35, Try.ntmps35
  go_wp2_with (refine pushs_lawG _ rfl (.tmp 5) (.tmp 6) rfl w.heap.size z0 _ _ [] xs rfl rfl HO.out HV.out (by simp) (by omega) ?_; intro v1 w1 O1 b1; rw [List.nil_append] at O1; have HO1 : Hid (Own w.heap.size w1 v1 xs) := O1; clear O1; have c1 : Below w.heap.size w w1 := B0.trans b1)
  go_ret
  exact ⟨_, rfl, HO1.out, c1⟩

theorem cell_new2 (w : World) (x y : Value) (t : TypeId) : (w.alloc (.cells #[x, y] t)).cell? ⟨w.heap.size, 0, none⟩ = some x ∧ (w.alloc (.cells #[x, y] t)).cell? ⟨w.heap.size, 1, none⟩ = some y := by
  constructor
  · rw [cell_of_row (w.alloc (.cells #[x, y] t)) w.heap.size 0 _ t (0, 0) (heap_alloc_last w _)]; rfl
  · rw [cell_of_row (w.alloc (.cells #[x, y] t)) w.heap.size 1 _ t (0, 0) (heap_alloc_last w _)]; rfl

set_option linter.unusedSimpArgs false in
set_option maxRecDepth 20000 in
set_option maxHeartbeats 4000000 in
theorem concat_any (c : Nat) (u v : Value) (xs ys : List Int) (w : World) (hu : Byt w u xs) (hv : Byt w v ys) (hx : 0 < xs.length) (hxl : xs.length ≤ 1000) (hyl : ys.length ≤ 1000) (h0 : w.cell? ⟨c, 0, none⟩ = some u) (h1 : w.cell? ⟨c, 1, none⟩ = some v) :
    Calls Try.prog 30 #[.slice (some ⟨c, 0, none⟩) 2 2] w fun e w' => ∃ r, e = .returned r ∧ Own w.heap.size w' r (xs ++ ys) ∧ Below w.heap.size w w' := by
  have HG : Hid (∀ w, Calls Try.prog 52 #[.slice none 0 0, .int .i64 ((xs.length + ys.length : Nat) : Int)] w fun e w' => ∃ v, e = .returned v ∧ Own w.heap.size w' v [] ∧ Below w.heap.size w w') := fun w => grow_any _ w (by omega) (by omega)
  have HU : Hid (Byt w u xs) := hu
  have HV : Hid (Byt w v ys) := hv
  have lc : c < w.heap.size := World.block_lt_of_cell? w _ h0
  obtain ⟨uo, uc, hue, -⟩ := hu
  obtain ⟨vo, vc, hve, -⟩ := hv
  obtain ⟨a, ha⟩ : ∃ a, a = xs.length := ⟨_, rfl⟩
  obtain ⟨b, hb⟩ : ∃ b, b = ys.length := ⟨_, rfl⟩
  have HA : Hid (a = xs.length) := ha
  have HB : Hid (b = ys.length) := hb
  rw [← ha] at hue HG hx hxl
  rw [← hb] at hve HG hyl
  clear ha hb
  subst hue
  subst hve
  have HC0 : Hid (w.cell? ⟨c, 0, none⟩ = some (.slice uo a uc)) := h0
  have HC1 : Hid (w.cell? ⟨c, 1, none⟩ = some (.slice vo b vc)) := h1
  go_enter Try.func30, Try.ntmps30
  go_wp2
  go_loopw [11, 3] (fun i z wr => ((i = .int .i64 0 ∧ z = .int .i64 0) ∨ (i = .int .i64 1 ∧ z = .int .i64 (a : Int)) ∨ (i = .int .i64 2 ∧ z = .int .i64 ((a + b : Nat) : Int))) ∧ wr = w) (fun i _ _ => 2 - (intOf i).toNat)
  case atStart => exact ⟨.inl ⟨rfl, rfl⟩, rfl⟩
  case round =>
    obtain ⟨⟨rfl, rfl⟩ | ⟨rfl, rfl⟩ | ⟨rfl, rfl⟩, rfl⟩ := hrel
    · have q1 : IntKind.i64.wrap (a : Int) = (a : Int) := by rw [IntKind.wrap_i64]; omega
      have q2 : ¬ ((a : Int) < 0) := by omega
      go_wp2
      go_roundw
      case rel => exact ⟨.inr (.inl ⟨rfl, rfl⟩), trivial⟩
      case measure => simp [intOf]
    · have q1 : IntKind.i64.wrap ((a : Int) + (b : Int)) = (a : Int) + (b : Int) := by rw [IntKind.wrap_i64]; omega
      have q2 : ¬ ((a : Int) + (b : Int) < 0) := by omega
      go_wp2
      go_roundw
      case rel => exact ⟨.inr (.inr ⟨rfl, rfl⟩), trivial⟩
      case measure => simp [intOf]
    · obtain ⟨wa, rfl⟩ : ∃ wx, wx = wr := ⟨_, rfl⟩
      go_wp2_with (go_at_call 52; refine (HG.out _).mono ?_; rintro e w1 ⟨v1, rfl, o1, B1⟩; have O1 : Hid (Own wa.heap.size w1 v1 []) := o1; clear o1)
      go_loopw [27, 6] (fun i o wx => ((i = .int .i64 0 ∧ Own wa.heap.size wx o []) ∨ (i = .int .i64 1 ∧ Own wa.heap.size wx o xs) ∨ (i = .int .i64 2 ∧ Own wa.heap.size wx o (xs ++ ys))) ∧ Below wa.heap.size wa wx) (fun i _ _ => 2 - (intOf i).toNat)
      case atStart => exact ⟨.inl ⟨rfl, O1.out⟩, B1⟩
      case round =>
        clear B1 O1
        obtain ⟨⟨rfl, o2⟩ | ⟨rfl, o2⟩ | ⟨rfl, o2⟩, B2⟩ := hrel
        · have cc : wr.cell? ⟨c, 0, none⟩ = some (.slice uo a uc) := (B2.cell lc).trans HC0.out
          have YY : Hid (Byt wr (.slice uo a uc) xs) := HU.out.below B2
          have O2 : Hid (Own wa.heap.size wr u6 []) := o2
          have z2 := B2.size
          clear o2
          go_wp2_with (at_builtin; refine pushs_lawG _ rfl (.tmp 31) (.tmp 32) rfl wa.heap.size z2 _ _ [] xs rfl rfl O2.out YY.out (by have := HA.out; have := HB.out; simp <;> omega) (by have := HA.out; have := HB.out; omega) ?_; intro v3 w3 o3 B3; have O3 : Hid (Own wa.heap.size w3 v3 ([] ++ xs)) := o3; clear o3)
          go_roundw
          case rel => exact ⟨.inr (.inl ⟨rfl, O3.out⟩), B2.trans B3⟩
          case measure => simp [intOf]
        · have cc : wr.cell? ⟨c, 1, none⟩ = some (.slice vo b vc) := (B2.cell lc).trans HC1.out
          have YY : Hid (Byt wr (.slice vo b vc) ys) := HV.out.below B2
          have O2 : Hid (Own wa.heap.size wr u6 xs) := o2
          have z2 := B2.size
          clear o2
          go_wp2_with (at_builtin; refine pushs_lawG _ rfl (.tmp 31) (.tmp 32) rfl wa.heap.size z2 _ _ xs ys rfl rfl O2.out YY.out (by have := HA.out; have := HB.out; simp <;> omega) (by have := HA.out; have := HB.out; omega) ?_; intro v3 w3 o3 B3; have O3 : Hid (Own wa.heap.size w3 v3 (xs ++ ys)) := o3; clear o3)
          go_roundw
          case rel => exact ⟨.inr (.inr ⟨rfl, O3.out⟩), B2.trans B3⟩
          case measure => simp [intOf]
        · go_wp2
          go_ret
          exact ⟨_, rfl, o2, B2⟩

set_option maxHeartbeats 1000000 in
theorem first_any (w : World) : Calls Try.prog 31 #[] w fun e w' => ∃ v, e = .returned v ∧ Byt w' v a6 ∧ Below w.heap.size w w' := by
  have H : Hid (∀ w, Calls Try.prog 53 #[.int .u8 166, .int .i64 8] w fun e w' => ∃ v, e = .returned v ∧ Byt w' v a6 ∧ Below w.heap.size w w') := fun w => by
    have := fill_any 166 8 w (by omega)
    rw [show clamp 8 65536 = 8 by unfold clamp; omega] at this
    exact this
  generalize a6 = zs at *
  go_enter Try.func31, Try.ntmps31
  go_wp2_with (go_at_call 53; refine (H.out _).mono ?_; rintro e w1 ⟨v1, rfl, y1, B1⟩)
  go_ret
  exact ⟨_, rfl, y1, B1⟩

set_option maxHeartbeats 1000000 in
theorem may_any (N : Int) (w : World) (b : Bool) (hb : b = decide (16 ≤ N ∧ N ≤ 256 ∧ N % 8 = 0)) (h1 : -1000 ≤ N) (h2 : N ≤ 9223372036854775807) :
    Calls Try.prog 29 #[.int .i64 N] w fun e w' => e = .returned (.bool b) ∧ w' = w := by
  have HB : Hid (b = decide (16 ≤ N ∧ N ≤ 256 ∧ N % 8 = 0)) := hb
  clear hb
  by_cases a1 : 16 ≤ N
  · have l1 : N ≥ 16 := a1
    obtain ⟨m, hm⟩ : ∃ m, m = N % 8 := ⟨_, rfl⟩
    have HM : Hid (m = N % 8) := hm
    have d1 : N.tmod 8 = m := by rw [Int.tmod_eq_emod_of_nonneg (by omega)]; exact hm.symm
    have d2 : IntKind.i64.wrap m = m := by rw [IntKind.wrap_i64]; omega
    clear hm
    by_cases a2 : N ≤ 256
    · by_cases a3 : m = 0
      · subst a3
        go_enter Try.func29, Try.ntmps29
        go_wp2
        go_ret
        exact ⟨ret_bool (by rw [HB.out, ← HM.out]; simp; omega), rfl⟩
      · go_enter Try.func29, Try.ntmps29
        go_wp2
        go_ret
        have e0 : (m == 0) = false := by simpa using a3
        exact ⟨ret_bool (by rw [HB.out, ← HM.out, e0]; simp [a3]), rfl⟩
    · go_enter Try.func29, Try.ntmps29
      go_wp2
      go_ret
      exact ⟨ret_bool (by rw [HB.out]; simp; omega), rfl⟩
  · go_enter Try.func29, Try.ntmps29
    go_wp2
    go_ret
    exact ⟨ret_bool (by rw [HB.out]; simp; omega), rfl⟩

end Go.Proofs.Ytifepmdhbhdjpaa.wr

/- What wrap's Wrap and Unwrap answer. No claim of its own. -/
namespace Go.Proofs.Ytifepmdhbhdjpaa.wr
open Go.RowKit
set_option maxRecDepth 20000

set_option linter.unusedSimpArgs false in
set_option maxRecDepth 20000 in
set_option maxHeartbeats 4000000 in
theorem wrap_any (kv bv : Value) (key b : List Int) (n : Nat) (w : World) (hk : Byt w kv key) (hkl : key.length = 32) (hb : Byt w bv b) (hbl : b.length = 8 * n) (hn : 2 ≤ n) (hn' : n ≤ 32) :
    Calls Try.prog 19 #[kv, bv] w fun e w' => ∃ v, e = .returned (.tuple #[v, .int .i64 0]) ∧ Byt w' v (wrapped key b n) ∧ Below w.heap.size w w' := by
  have hka := hk.all
  have hba := hb.all
  have S1 : Hid (Calls Try.prog 28 #[kv] w fun e w' => ∃ kb, e = .returned (.tuple #[.pointer (some ⟨kb, 0, none⟩), .int .i64 0]) ∧ KeyA w' kb key ∧ w.heap.size ≤ kb ∧ Below w.heap.size w w') := new_any kv key w hk hkl
  have S2 : Hid (∀ w, Calls Try.prog 29 #[.int .i64 (b.length : Int)] w fun e w' => e = .returned (.bool true) ∧ w' = w) := fun w => may_any _ w true (by simp; omega) (by omega) (by omega)
  have S4 : Hid (∀ c u w, Byt w u a6 → Byt w bv b → w.cell? ⟨c, 0, none⟩ = some u → w.cell? ⟨c, 1, none⟩ = some bv → Calls Try.prog 30 #[.slice (some ⟨c, 0, none⟩) 2 2] w fun e w' => ∃ r, e = .returned r ∧ Own w.heap.size w' r (ws key n (a6 ++ b) 0) ∧ Below w.heap.size w w') := fun c u w h1 h2 h3 h4 => concat_any c u bv a6 b w h1 h2 (by rw [a6_len]; omega) (by rw [a6_len]; omega) (by omega) h3 h4
  have fit : ∀ k, Fit (8 * n + 8) (ws key n (a6 ++ b) k) := fun k => ws_fit key hkl hka n (by omega) _ (a6_fit b n hbl hba) k
  have S5 : Hid (∀ g cap, 8 * n + 8 ≤ cap → ∀ w, Calls Try.prog 32 #[.slice (some ⟨g, 0, none⟩) (8 * n + 8) cap] w fun e w' => e = .returned (.int .i64 ((6 * n : Nat) : Int)) ∧ w' = w) := fun g cap _ w => last_any _ _ n cap w rfl (by omega)
  have S6 : Hid (∀ k, k < 6 * n → ∀ kb g cap w, 8 * n + 8 ≤ cap → KeyA w kb key → Ar w g 0 .u8 (ws key n (a6 ++ b) k) → Calls Try.prog 33 #[.pointer (some ⟨kb, 0, none⟩), .slice (some ⟨g, 0, none⟩) (8 * n + 8) cap, .int .i64 ((k + 1 : Nat) : Int)] w fun e w' => e = .returned (.int .i64 0) ∧ Ar w' g 0 .u8 (ws key n (a6 ++ b) (k + 1)) ∧ w.grownBy w' (some g)) := fun k hk kb g cap w hc h1 h2 => one_any kb g n (k + 1) cap key _ w h1 hkl hka h2 (fit k) (by omega) hn' (by omega) (by omega) hc
  have HW : Hid (wrapped key b n = ws key n (a6 ++ b) (6 * n)) := rfl
  have HL : Hid (∀ k, (ws key n (a6 ++ b) k).length = 8 * n + 8 ∧ AllB (ws key n (a6 ++ b) k)) := fun k => fit k
  have HV : Hid (Byt w bv b) := hb
  clear hk hka hba fit hkl
  obtain ⟨R, hR⟩ : ∃ R : Nat → List Int, R = ws key n (a6 ++ b) := ⟨_, rfl⟩
  rw [← hR] at S4 S6 HW HL
  clear hR
  generalize wrapped key b n = Z at *
  obtain ⟨bo, bc, rfl, hb1, hb2, -, -, -⟩ := hb
  rw [hbl] at S2 S4 HV hb1 ⊢
  clear hbl
  obtain ⟨m, hm⟩ : ∃ m, m = 8 * n := ⟨_, rfl⟩
  obtain ⟨L, hL⟩ : ∃ L, L = 8 * n + 8 := ⟨_, rfl⟩
  obtain ⟨T, hT⟩ : ∃ T, T = 6 * n := ⟨_, rfl⟩
  rw [← hm] at S2 S4 HV hb1 ⊢
  rw [← hL] at S5 S6 HL
  rw [← hT] at S5 S6 HW
  have HLN : Hid (L = 8 * n + 8 ∧ 2 ≤ n ∧ n ≤ 32) := ⟨hL, hn, hn'⟩
  have T0 : T ≤ 192 := by omega
  clear hm hL hT hn hn'
  have t0 : True := trivial
  have t1 : True := trivial
  have t2 : True := trivial
  have t3 : True := trivial
  go_enter Try.func19, Try.ntmps19
  go_wp2_with (first
    | (have q := t0; go_at_call 28; refine (S1.out).mono ?_; rintro e w1 ⟨kb, rfl, k1, l1, B1⟩; have K1 : Hid (KeyA w1 kb key) := k1; have lk := k1.lt; have V1 : Hid (Byt w1 (.slice bo m bc) b) := HV.out.below B1; clear k1 t0 q)
    | (have q := t1; go_at_call 29; refine (S2.out _).mono ?_; rintro e wx ⟨rfl, hw⟩; obtain rfl := hw.symm; clear t1 q)
    | (have q := t2; go_at_call 31; refine (first_any _).mono ?_; rintro e w2 ⟨v2, rfl, y2, B2⟩; have Y2 : Hid (Byt w2 v2 a6) := y2; obtain ⟨o2, c2, e2, -⟩ := y2; subst e2; have s2 := B2.size; have V2 : Hid (Byt w2 (.slice bo m bc) b) := V1.out.below B2; clear t2 q)
    | (have q := t3; go_at_call 30; refine (S4.out _ _ _ (Y2.out.below ((Below.refl _ _).alloc (Nat.le_refl _) _)) (V2.out.below ((Below.refl _ _).alloc (Nat.le_refl _) _)) (cell_new2 _ _ _ _).1 (cell_new2 _ _ _ _).2).mono ?_; rintro e w3 ⟨v3, rfl, o3, B3⟩; have O3 : Hid (Own (w2.alloc (.cells #[.slice o2 a6.length c2, .slice bo m bc] 22)).heap.size w3 v3 (R 0)) := o3; have B3' : Hid (Below (w2.alloc (.cells #[.slice o2 a6.length c2, .slice bo m bc] 22)).heap.size (w2.alloc (.cells #[.slice o2 a6.length c2, .slice bo m bc] 22)) w3) := B3; clear o3 B3 t3 q))
  have BA : Below w2.heap.size w2 (w2.alloc (.cells #[.slice o2 a6.length c2, .slice bo m bc] 22)) := (Below.refl _ _).alloc (Nat.le_refl _) _
  have sA := BA.size
  obtain ⟨g, cap, hv3, g1, g2, g3, g4⟩ := Own.ar O3.out (by rw [(HL.out 0).1]; have := HLN.out; omega)
  rw [(HL.out 0).1] at hv3 g2
  subst hv3
  have BW : Hid (Below w.heap.size w w3) := ((B1.trans (B2.mono B1.size)).trans (BA.mono (by have := B1.size; omega))).trans (B3'.out.mono (by have := B1.size; omega))
  have K3 : Hid (KeyA w3 kb key) := ((K1.out.below B2 lk).below BA (by omega)).below B3'.out (by omega)
  have A3 : Hid (Ar w3 g 0 .u8 (R 0)) := g4
  have lg : g < w3.heap.size := g4.lt (by rw [(HL.out 0).1]; have := HLN.out; omega)
  have lkg : kb < g := by omega
  have lwg : w.heap.size ≤ g := by have := B1.size; omega
  have C8 : Hid (L ≤ cap ∧ cap ≤ 9223372036854775807) := ⟨g2, g3⟩
  clear O3 B3' BA sA g1 g2 g3 g4 K1 V1 V2 Y2 B1 B2 s2 S1 S2 S4 HV
  go_loopw [9] (fun i wr => ∃ k : Nat, k ≤ T ∧ i = .int .i64 ((k + 1 : Nat) : Int) ∧ Ar wr g 0 .u8 (R k) ∧ Below g w3 wr) (fun i _ => T + 1 - (intOf i).toNat)
  case atStart => exact ⟨0, Nat.zero_le _, rfl, A3.out, Below.refl _ _⟩
  case round =>
    obtain ⟨k, hk, rfl, hA, hB⟩ := hrel
    have HA : Hid (Ar wr g 0 .u8 (R k)) := hA
    have HB : Hid (Below g w3 wr) := hB
    obtain ⟨j, hj⟩ : ∃ j, j = k + 1 := ⟨_, rfl⟩
    have HJ : Hid (j = k + 1) := hj
    rw [← hj]
    clear hA hB hj
    have u0 : True := trivial
    have u1' : True := trivial
    by_cases hlt : k < T
    · have k1 : (j : Int) ≤ (T : Int) := by have := HJ.out; omega
      have q3 : IntKind.i64.wrap ((j : Int) + 1) = (j : Int) + 1 := by rw [IntKind.wrap_i64]; have := HJ.out; omega
      have S6k : Hid (∀ w, KeyA w kb key → Ar w g 0 .u8 (R k) → Calls Try.prog 33 #[.pointer (some ⟨kb, 0, none⟩), .slice (some ⟨g, 0, none⟩) L cap, .int .i64 (j : Int)] w fun e w' => e = .returned (.int .i64 0) ∧ Ar w' g 0 .u8 (R (k + 1)) ∧ w.grownBy w' (some g)) := fun w h1 h2 => by rw [HJ.out]; exact S6.out k hlt kb g cap w C8.out.1 h1 h2
      go_wp2_with (first
        | (have q := u0; go_at_call 32; refine (S5.out _ _ C8.out.1 _).mono ?_; rintro e wx ⟨rfl, hw⟩; obtain rfl := hw.symm; clear u0 q)
        | (have q := u1'; go_at_call 33; refine (S6k.out _ (K3.out.below HB.out lkg) HA.out).mono ?_; rintro e w5 ⟨rfl, a5, G5⟩; have A5 : Hid (Ar w5 g 0 .u8 (R (k + 1))) := a5; have B5 : Hid (Below g w3 w5) := HB.out.trans (below_but G5 (by have := HB.out.size; omega)); clear u1' q a5 G5))
      go_roundw
      case rel => exact ⟨k + 1, by omega, by rw [HJ.out]; go_num, A5.out, B5.out⟩
      case measure => have := HJ.out; simp [intOf]; omega
    · have hkn : k = T := by omega
      subst hkn
      have k1 : ¬ ((j : Int) ≤ (k : Int)) := by have := HJ.out; omega
      go_wp2_with (go_at_call 32; refine (S5.out _ _ C8.out.1 _).mono ?_; rintro e wx ⟨rfl, hw⟩; obtain rfl := hw.symm)
      go_ret2
      exact ⟨_, rfl, by rw [HW.out]; exact HA.out.bytG (HL.out k).2 L cap (HL.out k).1 C8.out.1 C8.out.2, BW.out.trans (HB.out.mono lwg)⟩
end Go.Proofs.Ytifepmdhbhdjpaa.wr

/- What wrap's Unwrap answers, and Wrap and Unwrap of what may not be. No claim of its own. -/
namespace Go.Proofs.Ytifepmdhbhdjpaa.wr
open Go.RowKit
set_option maxRecDepth 20000

set_option linter.unusedSimpArgs false in
set_option maxRecDepth 20000 in
set_option maxHeartbeats 4000000 in
theorem unwrap_any (kv bv : Value) (key c : List Int) (n : Nat) (w : World) (hk : Byt w kv key) (hkl : key.length = 32) (hb : Byt w bv c) (hbl : c.length = 8 * n + 8) (hn : 2 ≤ n) (hn' : n ≤ 32) :
    Calls Try.prog 21 #[kv, bv] w fun e w' => ((hd (unwr key c n) = a6 ∧ ∃ v, e = .returned (.tuple #[v, .int .i64 0]) ∧ Byt w' v ((unwr key c n).drop 8)) ∨ (¬ hd (unwr key c n) = a6 ∧ e = .returned (.tuple #[.slice none 0 0, .int .i64 16]))) ∧ Below w.heap.size w w' := by
  have hka := hk.all
  have hba := hb.all
  have S1 : Hid (Calls Try.prog 28 #[kv] w fun e w' => ∃ kb, e = .returned (.tuple #[.pointer (some ⟨kb, 0, none⟩), .int .i64 0]) ∧ KeyA w' kb key ∧ w.heap.size ≤ kb ∧ Below w.heap.size w w') := new_any kv key w hk hkl
  have S2 : Hid (∀ w, Calls Try.prog 29 #[.int .i64 ((8 * n : Nat) : Int)] w fun e w' => e = .returned (.bool true) ∧ w' = w) := fun w => may_any _ w true (by simp; omega) (by omega) (by omega)
  have S3 : Hid (∀ ad L cap w, Byt w (.slice (some ad) L cap) c → Calls Try.prog 35 #[.slice (some ad) L cap] w fun e w' => ∃ v', e = .returned v' ∧ Own w.heap.size w' v' (us key n c (6 * n) 0) ∧ Below w.heap.size w w') := fun ad L cap w h => clone_any w ad L cap c h (by omega)
  have fit : ∀ k, Fit (8 * n + 8) (us key n c (6 * n) k) := fun k => us_fit key hkl hka n (by omega) _ ⟨hbl, hba⟩ _ k
  have S5 : Hid (∀ g cap, 8 * n + 8 ≤ cap → ∀ w, Calls Try.prog 32 #[.slice (some ⟨g, 0, none⟩) (8 * n + 8) cap] w fun e w' => e = .returned (.int .i64 ((6 * n : Nat) : Int)) ∧ w' = w) := fun g cap _ w => last_any _ _ n cap w rfl (by omega)
  have S6 : Hid (∀ k, k < 6 * n → ∀ kb g cap w, 8 * n + 8 ≤ cap → KeyA w kb key → Ar w g 0 .u8 (us key n c (6 * n) k) → Calls Try.prog 36 #[.pointer (some ⟨kb, 0, none⟩), .slice (some ⟨g, 0, none⟩) (8 * n + 8) cap, .int .i64 ((6 * n - k : Nat) : Int)] w fun e w' => e = .returned (.int .i64 0) ∧ Ar w' g 0 .u8 (us key n c (6 * n) (k + 1)) ∧ w.grownBy w' (some g)) := fun k hk kb g cap w hc h1 h2 => unone_any kb g n (6 * n - k) cap key _ w h1 hkl hka h2 (fit k) (by omega) hn' (by omega) (by omega) hc
  have S7 : Hid (∀ g cap, 8 * n + 8 ≤ cap → ∀ w, Calls Try.prog 38 #[.slice (some ⟨g, 0, none⟩) (8 * n + 8) cap, .int .i64 0] w fun e w' => e = .returned (.slice (some ⟨g, 0, none⟩) 8 8) ∧ w' = w) := fun g cap hc w => cut_any g 0 _ cap 0 0 rfl w (by omega) hc (by omega)
  have HW : Hid (unwr key c n = us key n c (6 * n) (6 * n)) := rfl
  have HL : Hid (∀ k, (us key n c (6 * n) k).length = 8 * n + 8 ∧ AllB (us key n c (6 * n) k)) := fun k => fit k
  have HV : Hid (Byt w bv c) := hb
  clear hk hka hba fit hkl
  obtain ⟨R, hR⟩ : ∃ R : Nat → List Int, R = us key n c (6 * n) := ⟨_, rfl⟩
  rw [← hR] at S3 S6 HW HL
  clear hR
  generalize unwr key c n = Z at *
  obtain ⟨bo, bc, rfl, hb1, hb2, -, -, hb5⟩ := hb
  obtain ⟨bb, off, rfl, -⟩ := hb5 (by omega)
  rw [hbl] at HV hb1 ⊢
  clear hbl
  obtain ⟨m, hm⟩ : ∃ m, m = 8 * n := ⟨_, rfl⟩
  obtain ⟨L, hL⟩ : ∃ L, L = 8 * n + 8 := ⟨_, rfl⟩
  obtain ⟨T, hT⟩ : ∃ T, T = 6 * n := ⟨_, rfl⟩
  rw [← hm] at S2
  rw [← hL] at S5 S6 S7 HL HV hb1 ⊢
  rw [← hT] at S5 S6 HW
  have HLN : Hid (L = 8 * n + 8 ∧ 2 ≤ n ∧ n ≤ 32) := ⟨hL, hn, hn'⟩
  have T0 : T ≤ 192 := by omega
  have k8 : IntKind.i64.wrap ((L : Int) - 8) = (m : Int) := by rw [IntKind.wrap_i64]; omega
  clear hm hL hT hn hn'
  have t0 : True := trivial
  have t1 : True := trivial
  have t2 : True := trivial
  have t3 : True := trivial
  go_enter Try.func21, Try.ntmps21
  go_wp2_with (first
    | (have q := t0; go_at_call 28; refine (S1.out).mono ?_; rintro e w1 ⟨kb, rfl, k1, l1, B1⟩; have K1 : Hid (KeyA w1 kb key) := k1; have lk := k1.lt; have V1 : Hid (Byt w1 (.slice (some ⟨bb, off, none⟩) L bc) c) := HV.out.below B1; clear k1 t0 q)
    | (have q := t1; go_at_call 29; refine (S2.out _).mono ?_; rintro e wx ⟨rfl, hw⟩; obtain rfl := hw.symm; clear t1 q)
    | (have q := t2; go_at_call 35; refine (S3.out _ _ _ _ V1.out).mono ?_; rintro e w3 ⟨v3, rfl, o3, B3⟩; have O3 : Hid (Own w1.heap.size w3 v3 (R 0)) := o3; obtain ⟨g, cap, hv3, g1, g2, g3, g4⟩ := Own.ar o3 (by rw [(HL.out 0).1]; have := HLN.out; omega); rw [(HL.out 0).1] at hv3 g2; subst hv3; have A3 : Hid (Ar w3 g 0 .u8 (R 0)) := g4; have C8 : Hid (L ≤ cap ∧ cap ≤ 9223372036854775807) := ⟨g2, g3⟩; have lg : g < w3.heap.size := g4.lt (by rw [(HL.out 0).1]; have := HLN.out; omega); clear g2 g3 g4 o3 t2 q)
    | (have q := t3; go_at_call 32; refine (S5.out _ _ C8.out.1 _).mono ?_; rintro e wx ⟨rfl, hw⟩; obtain rfl := hw.symm; clear t3 q))
  have BW : Hid (Below w.heap.size w w3) := B1.trans (B3.mono B1.size)
  have K3 : Hid (KeyA w3 kb key) := K1.out.below B3 lk
  have lkg : kb < g := by omega
  have lwg : w.heap.size ≤ g := by have := B1.size; omega
  clear O3 B3 g1 K1 V1 B1 S1 S2 S3 HV
  go_loopw [9] (fun i wr => ∃ k : Nat, k ≤ T ∧ i = .int .i64 ((T - k : Nat) : Int) ∧ Ar wr g 0 .u8 (R k) ∧ Below g w3 wr) (fun i _ => (intOf i).toNat)
  case atStart => exact ⟨0, Nat.zero_le _, rfl, A3.out, Below.refl _ _⟩
  case round =>
    obtain ⟨k, hk, rfl, hA, hB⟩ := hrel
    have HA : Hid (Ar wr g 0 .u8 (R k)) := hA
    have HB : Hid (Below g w3 wr) := hB
    obtain ⟨j, hj⟩ : ∃ j, j = T - k := ⟨_, rfl⟩
    have HJ : Hid (j = T - k) := hj
    rw [← hj]
    clear hA hB hj
    by_cases hlt : k < T
    · have k1 : (j : Int) > 0 := by have := HJ.out; omega
      have q3 : IntKind.i64.wrap ((j : Int) - 1) = (j : Int) - 1 := by rw [IntKind.wrap_i64]; have := HJ.out; omega
      have S6k : Hid (∀ w, KeyA w kb key → Ar w g 0 .u8 (R k) → Calls Try.prog 36 #[.pointer (some ⟨kb, 0, none⟩), .slice (some ⟨g, 0, none⟩) L cap, .int .i64 (j : Int)] w fun e w' => e = .returned (.int .i64 0) ∧ Ar w' g 0 .u8 (R (k + 1)) ∧ w.grownBy w' (some g)) := fun w h1 h2 => by rw [HJ.out]; exact S6.out k hlt kb g cap w C8.out.1 h1 h2
      go_wp2_with (go_at_call 36; refine (S6k.out _ (K3.out.below HB.out lkg) HA.out).mono ?_; rintro e w5 ⟨rfl, a5, G5⟩; have A5 : Hid (Ar w5 g 0 .u8 (R (k + 1))) := a5; have B5 : Hid (Below g w3 w5) := HB.out.trans (below_but G5 (by have := HB.out.size; omega)); clear a5 G5)
      go_roundw
      case rel => exact ⟨k + 1, by omega, by have := HJ.out; rw [show ((T - (k + 1) : Nat) : Int) = (j : Int) - 1 by omega], A5.out, B5.out⟩
      case measure => have := HJ.out; simp [intOf]; omega
    · have hkn : k = T := by omega
      subst hkn
      have k1 : ¬ ((j : Int) > 0) := by have := HJ.out; omega
      have HZ : Hid (Z = R k) := HW.out
      have LZ : Hid ((R k).length = L) := (HL.out k).1
      have YH : Hid (Byt wr (.slice (some ⟨g, 0, none⟩) 8 8) (hd (R k))) := ar_hd HA.out (HL.out k).2 (by rw [LZ.out]; have := HLN.out; omega)
      have YA : Hid (Byt wr (.slice (some ⟨g, 0, none⟩) L cap) (R k)) := HA.out.bytG (HL.out k).2 L cap LZ.out C8.out.1 C8.out.2
      have BG : Hid (Below w.heap.size w wr) := BW.out.trans (HB.out.mono lwg)
      have HZ2 : Hid (hd Z = hd (R k)) := congrArg hd HZ.out
      have r0 : True := trivial
      have r1 : True := trivial
      have r2 : True := trivial
      have r3 : True := trivial
      by_cases hf : hd (R k) = a6
      · have dc : decide (hd (R k) = a6) = true := by simp [hf]
        have DC : Hid (decide (hd (R k) = a6) = true) := dc
        have HF : Hid (hd Z = a6) := by rw [HZ2.out]; exact hf
        have h8 : (8 : Nat) ≤ (R k).length := by rw [LZ.out]; have := HLN.out; omega
        have H8 : Hid ((8 : Nat) ≤ (R k).length) := h8
        clear dc hf h8
        go_wp2_with (first
          | (have q := r0; go_at_call 38; refine (S7.out _ _ C8.out.1 _).mono ?_; rintro e wx ⟨rfl, hw⟩; obtain rfl := hw.symm; clear r0 q)
          | (have q := r1; go_at_call 31; refine (first_any _).mono ?_; rintro e w5 ⟨v5, rfl, y5, B5⟩; have Y5 : Hid (Byt w5 v5 a6) := y5; have YH5 : Hid (Byt w5 (.slice (some ⟨g, 0, none⟩) 8 8) (hd (R k))) := YH.out.below B5; have YA5 : Hid (Byt w5 (.slice (some ⟨g, 0, none⟩) L cap) (R k)) := YA.out.below B5; have BG5 : Hid (Below w.heap.size w w5) := BG.out.trans (B5.mono BG.out.size); clear y5 B5 r1 q)
          | (have q := r2; go_at_call 37; refine (oSame_any _ _ _ _ _ YH5.out Y5.out).mono ?_; rintro e wx ⟨rfl, nn, hw⟩; rw [DC.out]; obtain ⟨w6, hw6⟩ : ∃ w6, w6 = w5.drewN nn := ⟨_, rfl⟩; rw [← hw6] at hw; have YA6 : Hid (Byt w6 (.slice (some ⟨g, 0, none⟩) L cap) (R k)) := (by rw [hw6]; exact byt_drawn YA5.out nn); have BG6 : Hid (Below w.heap.size w w6) := (by rw [hw6]; exact below_drawn BG5.out nn); clear hw6; obtain rfl := hw.symm; clear r2 q)
          | (have q := r3; refine cut_from _ rfl (.tmp 44) (.const (.int .i64 8)) rfl _ (R k) 8 8 rfl rfl rfl H8.out YA6.out ?_; intro v7 y7; have Y7 : Hid (Byt _ v7 ((R k).drop 8)) := y7; clear y7 r3 q))
        go_ret2
        exact ⟨.inl ⟨HF.out, _, rfl, by rw [HZ.out]; exact Y7.out⟩, BG6.out⟩
      · have dc : decide (hd (R k) = a6) = false := by simp [hf]
        have DC : Hid (decide (hd (R k) = a6) = false) := dc
        have HF : Hid (¬ hd Z = a6) := by rw [HZ2.out]; exact hf
        clear dc hf
        go_wp2_with (first
          | (have q := r0; go_at_call 38; refine (S7.out _ _ C8.out.1 _).mono ?_; rintro e wx ⟨rfl, hw⟩; obtain rfl := hw.symm; clear r0 q)
          | (have q := r1; go_at_call 31; refine (first_any _).mono ?_; rintro e w5 ⟨v5, rfl, y5, B5⟩; have Y5 : Hid (Byt w5 v5 a6) := y5; have YH5 : Hid (Byt w5 (.slice (some ⟨g, 0, none⟩) 8 8) (hd (R k))) := YH.out.below B5; have BG5 : Hid (Below w.heap.size w w5) := BG.out.trans (B5.mono BG.out.size); clear y5 B5 r1 q)
          | (have q := r2; go_at_call 37; refine (oSame_any _ _ _ _ _ YH5.out Y5.out).mono ?_; rintro e wx ⟨rfl, nn, hw⟩; rw [DC.out]; obtain ⟨w6, hw6⟩ : ∃ w6, w6 = w5.drewN nn := ⟨_, rfl⟩; rw [← hw6] at hw; have BG6 : Hid (Below w.heap.size w w6) := (by rw [hw6]; exact below_drawn BG5.out nn); clear hw6; obtain rfl := hw.symm; clear r2 q))
        go_ret2
        exact ⟨.inr ⟨HF.out, rfl⟩, BG6.out⟩

set_option maxHeartbeats 2000000 in
theorem wrap_no (kv bv : Value) (key b : List Int) (w : World) (hk : Byt w kv key) (hb : Byt w bv b) (hno : ¬ (key.length = 32 ∧ 16 ≤ (b.length : Int) ∧ (b.length : Int) ≤ 256 ∧ ((b.length : Int)) % 8 = 0)) :
    Calls Try.prog 19 #[kv, bv] w fun e w' => e = .returned (.tuple #[.slice none 0 0, .int .i64 2]) ∧ Below w.heap.size w w' := by
  have hlen := hb.len
  by_cases hl : key.length = 32
  · have S1 : Hid (Calls Try.prog 28 #[kv] w fun e w' => ∃ kb, e = .returned (.tuple #[.pointer (some ⟨kb, 0, none⟩), .int .i64 0]) ∧ KeyA w' kb key ∧ w.heap.size ≤ kb ∧ Below w.heap.size w w') := new_any kv key w hk hl
    have S2 : Hid (∀ w, Calls Try.prog 29 #[.int .i64 ((b.length : Int))] w fun e w' => e = .returned (.bool false) ∧ w' = w) := fun w => may_any _ w false (by rw [eq_comm, decide_eq_false_iff_not]; exact fun h => hno ⟨hl, h⟩) (by omega) (by omega)
    clear hk hno hl
    obtain ⟨bo, bc, rfl, hb1, hb2, -, -, -⟩ := hb
    go_enter Try.func19, Try.ntmps19
    go_wp2_with (first
      | (go_at_call 28; refine (S1.out).mono ?_; rintro e w1 ⟨kb, rfl, k1, l1, B1⟩; clear k1)
      | (go_at_call 29; refine (S2.out _).mono ?_; rintro e wx ⟨rfl, hw⟩; obtain rfl := hw.symm))
    go_ret2
    exact ⟨rfl, B1⟩
  · have S1 : Hid (Calls Try.prog 28 #[kv] w fun e w' => e = .returned (.tuple #[.pointer none, .int .i64 2]) ∧ w' = w) := new_no kv key w hk hl
    clear hk hno hl hlen hb
    go_enter Try.func19, Try.ntmps19
    go_wp2_with (go_at_call 28; refine (S1.out).mono ?_; rintro e wx ⟨rfl, hw⟩; obtain rfl := hw.symm)
    go_ret2
    exact ⟨rfl, Below.refl _ _⟩

set_option maxHeartbeats 2000000 in
theorem unwrap_no (kv bv : Value) (key b : List Int) (w : World) (hk : Byt w kv key) (hb : Byt w bv b) (hno : ¬ (key.length = 32 ∧ 16 ≤ (b.length : Int) - 8 ∧ (b.length : Int) - 8 ≤ 256 ∧ ((b.length : Int) - 8) % 8 = 0)) :
    Calls Try.prog 21 #[kv, bv] w fun e w' => e = .returned (.tuple #[.slice none 0 0, .int .i64 2]) ∧ Below w.heap.size w w' := by
  have hlen := hb.len
  by_cases hl : key.length = 32
  · have S1 : Hid (Calls Try.prog 28 #[kv] w fun e w' => ∃ kb, e = .returned (.tuple #[.pointer (some ⟨kb, 0, none⟩), .int .i64 0]) ∧ KeyA w' kb key ∧ w.heap.size ≤ kb ∧ Below w.heap.size w w') := new_any kv key w hk hl
    have S2 : Hid (∀ w, Calls Try.prog 29 #[.int .i64 ((b.length : Int) - 8)] w fun e w' => e = .returned (.bool false) ∧ w' = w) := fun w => may_any _ w false (by rw [eq_comm, decide_eq_false_iff_not]; exact fun h => hno ⟨hl, h⟩) (by omega) (by omega)
    have k8 : IntKind.i64.wrap ((b.length : Int) - 8) = (b.length : Int) - 8 := by rw [IntKind.wrap_i64]; omega
    clear hk hno hl
    obtain ⟨bo, bc, rfl, hb1, hb2, -, -, -⟩ := hb
    go_enter Try.func21, Try.ntmps21
    go_wp2_with (first
      | (go_at_call 28; refine (S1.out).mono ?_; rintro e w1 ⟨kb, rfl, k1, l1, B1⟩; clear k1)
      | (go_at_call 29; refine (S2.out _).mono ?_; rintro e wx ⟨rfl, hw⟩; obtain rfl := hw.symm))
    go_ret2
    exact ⟨rfl, B1⟩
  · have S1 : Hid (Calls Try.prog 28 #[kv] w fun e w' => e = .returned (.tuple #[.pointer none, .int .i64 2]) ∧ w' = w) := new_no kv key w hk hl
    clear hk hno hl hlen hb
    go_enter Try.func21, Try.ntmps21
    go_wp2_with (go_at_call 28; refine (S1.out).mono ?_; rintro e wx ⟨rfl, hw⟩; obtain rfl := hw.symm)
    go_ret2
    exact ⟨rfl, Below.refl _ _⟩
end Go.Proofs.Ytifepmdhbhdjpaa.wr

/- What slot's Keys answers. No claim of its own. -/
namespace Go.Proofs.Ytifepmdhbhdjpaa.so
open Go.RowKit Go.Proofs.Ytifepmdhbhdjpaa.fa Go.Proofs.Ytifepmdhbhdjpaa.he Go.Proofs.Ytifepmdhbhdjpaa.wr
set_option maxRecDepth 20000

set_option maxHeartbeats 4000000 in
theorem keys_wrong (kv : Value) (ks : List Int) (u : Bool) (n e t : Int) (v : Value) (xs : List Int) (w : World) (hk : Byt w kv ks) (hv : Byt w v xs) (hS : Sb n e t) (hr : ¬ Rs u n e t xs) :
    Calls Try.prog 10 #[kv, .agg (sv u n e t v).toArray] w fun x w' => x = .returned (.tuple #[.slice none 0 0, .int .i64 2]) ∧ Below w.heap.size w w' := by
  have SR : Hid (∀ w0, Below w.heap.size w w0 → Calls Try.prog 20 #[.agg (sv u n e t v).toArray] w0 fun x w' => x = .returned (.bool false) ∧ Below w0.heap.size w0 w') := fun w0 q => right_no u n e t v xs w0 (hv.below q) hS hr
  obtain ⟨ko, kc, rfl⟩ := form hk
  obtain ⟨ao, cap, rfl⟩ := form hv
  clear hk hv hS hr
  have t0 : (0 : Nat) = 0 := rfl
  go_enter Try.func10, Try.ntmps10
  go_wp2_with (first
    | (have q2 := t2; go_at_call 20; refine (SR.out w1 BB.out).mono ?_; rintro e9 w2 ⟨rfl, B9⟩; have HB0 : Hid (Vr w2 w.heap.size (sv u n e t (.slice ao xs.length cap))) := HB0.out.below B9 (range_lt HB0.out.1 (Nat.succ_pos _)); have BB : Hid (Below w.heap.size w w2) := BB.out.trans (B9.mono BB.out.size); clear hb0_0 hb0_1 hb0_2 hb0_3 hb0_4; have hb0_0 := HB0.out.cell 0 _ rfl; have hb0_1 := HB0.out.cell 1 _ rfl; have hb0_2 := HB0.out.cell 2 _ rfl; have hb0_3 := HB0.out.cell 3 _ rfl; have hb0_4 := HB0.out.cell 4 _ rfl; clear B9; clear t2; have t3 : (1 : Nat) = 1 := rfl)
    | (have q1 := t1; refine load_lawC _ rfl (sv u n e t (.slice ao xs.length cap)) w.heap.size 0 rfl HB0.out.1 rowy_slot ?_; clear t1; have t2 : (1 : Nat) = 1 := rfl)
    | (have q0 := t0; refine box_lawC _ (sv u n e t (.slice ao xs.length cap)) rfl ?_; intro w1 X9 B9 l9; have HB0 : Hid (Vr w1 w.heap.size (sv u n e t (.slice ao xs.length cap))) := X9; have BB : Hid (Below w.heap.size w w1) := B9; have hb0_0 := HB0.out.cell 0 _ rfl; have hb0_1 := HB0.out.cell 1 _ rfl; have hb0_2 := HB0.out.cell 2 _ rfl; have hb0_3 := HB0.out.cell 3 _ rfl; have hb0_4 := HB0.out.cell 4 _ rfl; clear X9 B9 l9; clear t0; have t1 : (1 : Nat) = 1 := rfl))
  go_ret2
  exact ⟨rfl, BB.out⟩

set_option maxHeartbeats 4000000 in
theorem keys_len (kv : Value) (ks : List Int) (u : Bool) (n e t : Int) (v : Value) (xs : List Int) (w : World) (hk : Byt w kv ks) (hv : Byt w v xs) (hS : Sb n e t) (hr : Rs u n e t xs) (hl : ks.length ≠ 32) :
    Calls Try.prog 10 #[kv, .agg (sv u n e t v).toArray] w fun x w' => x = .returned (.tuple #[.slice none 0 0, .int .i64 2]) ∧ Below w.heap.size w w' := by
  have SR : Hid (∀ w0, Below w.heap.size w w0 → Calls Try.prog 20 #[.agg (sv u n e t v).toArray] w0 fun x w' => x = .returned (.bool true) ∧ Below w0.heap.size w0 w') := fun w0 q => right_yes u n e t v xs w0 (hv.below q) hS hr
  obtain ⟨ko, kc, rfl⟩ := form hk
  obtain ⟨ao, cap, rfl⟩ := form hv
  have n32 : ((ks.length : Int) != 32) = true := bne_iff_ne.2 (by omega)
  clear hk hv hS hr hl
  have t0 : (0 : Nat) = 0 := rfl
  go_enter Try.func10, Try.ntmps10
  go_wp2_with (first
    | (have q2 := t2; go_at_call 20; refine (SR.out w1 BB.out).mono ?_; rintro e9 w2 ⟨rfl, B9⟩; have HB0 : Hid (Vr w2 w.heap.size (sv u n e t (.slice ao xs.length cap))) := HB0.out.below B9 (range_lt HB0.out.1 (Nat.succ_pos _)); have BB : Hid (Below w.heap.size w w2) := BB.out.trans (B9.mono BB.out.size); clear hb0_0 hb0_1 hb0_2 hb0_3 hb0_4; have hb0_0 := HB0.out.cell 0 _ rfl; have hb0_1 := HB0.out.cell 1 _ rfl; have hb0_2 := HB0.out.cell 2 _ rfl; have hb0_3 := HB0.out.cell 3 _ rfl; have hb0_4 := HB0.out.cell 4 _ rfl; clear B9; clear t2; have t3 : (1 : Nat) = 1 := rfl)
    | (have q1 := t1; refine load_lawC _ rfl (sv u n e t (.slice ao xs.length cap)) w.heap.size 0 rfl HB0.out.1 rowy_slot ?_; clear t1; have t2 : (1 : Nat) = 1 := rfl)
    | (have q0 := t0; refine box_lawC _ (sv u n e t (.slice ao xs.length cap)) rfl ?_; intro w1 X9 B9 l9; have HB0 : Hid (Vr w1 w.heap.size (sv u n e t (.slice ao xs.length cap))) := X9; have BB : Hid (Below w.heap.size w w1) := B9; have hb0_0 := HB0.out.cell 0 _ rfl; have hb0_1 := HB0.out.cell 1 _ rfl; have hb0_2 := HB0.out.cell 2 _ rfl; have hb0_3 := HB0.out.cell 3 _ rfl; have hb0_4 := HB0.out.cell 4 _ rfl; clear X9 B9 l9; clear t0; have t1 : (1 : Nat) = 1 := rfl))
  go_ret2
  exact ⟨rfl, BB.out⟩

theorem keys_no (kv : Value) (ks : List Int) (u : Bool) (n e t : Int) (v : Value) (xs : List Int) (w : World) (hk : Byt w kv ks) (hv : Byt w v xs) (hS : Sb n e t) (h : ¬ (Rs u n e t xs ∧ ks.length = 32)) :
    Calls Try.prog 10 #[kv, .agg (sv u n e t v).toArray] w fun x w' => x = .returned (.tuple #[.slice none 0 0, .int .i64 2]) ∧ Below w.heap.size w w' := by
  by_cases hr : Rs u n e t xs
  · exact keys_len kv ks u n e t v xs w hk hv hS hr fun q => h ⟨hr, q⟩
  · exact keys_wrong kv ks u n e t v xs w hk hv hS hr

set_option maxHeartbeats 4000000 in
theorem keys_none (kv : Value) (ks : List Int) (n e t : Int) (v : Value) (xs : List Int) (w : World) (hk : Byt w kv ks) (hv : Byt w v xs) (hS : Sb n e t) (hr : Rs false n e t xs) (hl : ks.length = 32) :
    Calls Try.prog 10 #[kv, .agg (sv false n e t v).toArray] w fun x w' => x = .returned (.tuple #[.slice none 0 0, .int .i64 12]) ∧ Below w.heap.size w w' := by
  have SR : Hid (∀ w0, Below w.heap.size w w0 → Calls Try.prog 20 #[.agg (sv false n e t v).toArray] w0 fun x w' => x = .returned (.bool true) ∧ Below w0.heap.size w0 w') := fun w0 q => right_yes false n e t v xs w0 (hv.below q) hS hr
  obtain ⟨ko, kc, rfl⟩ := byt_form hk hl
  obtain ⟨ao, cap, rfl⟩ := form hv
  clear hk hv hS hr hl
  have t0 : (0 : Nat) = 0 := rfl
  go_enter Try.func10, Try.ntmps10
  go_wp2_with (first
    | (have q2 := t2; go_at_call 20; refine (SR.out w1 BB.out).mono ?_; rintro e9 w2 ⟨rfl, B9⟩; have HB0 : Hid (Vr w2 w.heap.size (sv false n e t (.slice ao xs.length cap))) := HB0.out.below B9 (range_lt HB0.out.1 (Nat.succ_pos _)); have BB : Hid (Below w.heap.size w w2) := BB.out.trans (B9.mono BB.out.size); clear hb0_0 hb0_1 hb0_2 hb0_3 hb0_4; have hb0_0 := HB0.out.cell 0 _ rfl; have hb0_1 := HB0.out.cell 1 _ rfl; have hb0_2 := HB0.out.cell 2 _ rfl; have hb0_3 := HB0.out.cell 3 _ rfl; have hb0_4 := HB0.out.cell 4 _ rfl; clear B9; clear t2; have t3 : (1 : Nat) = 1 := rfl)
    | (have q1 := t1; refine load_lawC _ rfl (sv false n e t (.slice ao xs.length cap)) w.heap.size 0 rfl HB0.out.1 rowy_slot ?_; clear t1; have t2 : (1 : Nat) = 1 := rfl)
    | (have q0 := t0; refine box_lawC _ (sv false n e t (.slice ao xs.length cap)) rfl ?_; intro w1 X9 B9 l9; have HB0 : Hid (Vr w1 w.heap.size (sv false n e t (.slice ao xs.length cap))) := X9; have BB : Hid (Below w.heap.size w w1) := B9; have hb0_0 := HB0.out.cell 0 _ rfl; have hb0_1 := HB0.out.cell 1 _ rfl; have hb0_2 := HB0.out.cell 2 _ rfl; have hb0_3 := HB0.out.cell 3 _ rfl; have hb0_4 := HB0.out.cell 4 _ rfl; clear X9 B9 l9; clear t0; have t1 : (1 : Nat) = 1 := rfl))
  go_ret2
  exact ⟨rfl, BB.out⟩

set_option maxHeartbeats 4000000 in
theorem keys_yes (kv : Value) (ks : List Int) (n e t : Int) (v : Value) (xs : List Int) (w : World) (hk : Byt w kv ks) (hv : Byt w v xs) (hS : Sb n e t) (hr : Rs true n e t xs) (hl : ks.length = 32) (hf : hd (unwr ks xs 12) = a6) :
    Calls Try.prog 10 #[kv, .agg (sv true n e t v).toArray] w fun x w' => ∃ zo zc, x = .returned (.tuple #[.slice zo 96 zc, .int .i64 0]) ∧ Byt w' (.slice zo 96 zc) ((unwr ks xs 12).drop 8) ∧ Below w.heap.size w w' := by
  have xl : xs.length = 104 := hr.2.2
  have SR : Hid (∀ w0, Below w.heap.size w w0 → Calls Try.prog 20 #[.agg (sv true n e t v).toArray] w0 fun x w' => x = .returned (.bool true) ∧ Below w0.heap.size w0 w') := fun w0 q => right_yes true n e t v xs w0 (hv.below q) hS hr
  have SU : Hid (∀ w0, Below w.heap.size w w0 → Calls Try.prog 21 #[kv, v] w0 fun x w' => ∃ zo zc, x = .returned (.tuple #[.slice zo 96 zc, .int .i64 0]) ∧ Byt w' (.slice zo 96 zc) ((unwr ks xs 12).drop 8) ∧ Below w0.heap.size w0 w') := fun w0 q => (unwrap_any kv v ks xs 12 w0 (hk.below q) hl (hv.below q) xl (by omega) (by omega)).mono fun _ _ ⟨h, h3⟩ => by
    rcases h with ⟨-, z, h1, h2⟩ | ⟨h1, -⟩
    · obtain ⟨zo, zc, rfl⟩ := byt_form h2 (n := 96) (by rw [List.length_drop, (unwr_fit ks hl hk.all xs 12 (by omega) ⟨xl, hv.all⟩).1])
      exact ⟨zo, zc, h1, h2, h3⟩
    · exact absurd hf h1
  obtain ⟨ko, kc, rfl⟩ := byt_form hk hl
  obtain ⟨ao, cap, rfl⟩ := byt_form hv xl
  generalize (unwr ks xs 12).drop 8 = X at SU ⊢
  clear hk hv hS hr hl hf xl
  have t0 : (0 : Nat) = 0 := rfl
  go_enter Try.func10, Try.ntmps10
  go_wp2_with (first
    | (have q3 := t3; go_at_call 21; refine (SU.out w2 BB.out).mono ?_; rintro e9 w3 ⟨zo, zc, rfl, Y9, B9⟩; have HB0 : Hid (Vr w3 w.heap.size (sv true n e t (.slice ao 104 cap))) := HB0.out.below B9 (range_lt HB0.out.1 (Nat.succ_pos _)); have HZ : Hid (Byt w3 (.slice zo 96 zc) X) := Y9; have BB : Hid (Below w.heap.size w w3) := BB.out.trans (B9.mono BB.out.size); clear hb0_0 hb0_1 hb0_2 hb0_3 hb0_4; have hb0_0 := HB0.out.cell 0 _ rfl; have hb0_1 := HB0.out.cell 1 _ rfl; have hb0_2 := HB0.out.cell 2 _ rfl; have hb0_3 := HB0.out.cell 3 _ rfl; have hb0_4 := HB0.out.cell 4 _ rfl; clear B9 Y9; clear t3; have t4 : (1 : Nat) = 1 := rfl)
    | (have q2 := t2; go_at_call 20; refine (SR.out w1 BB.out).mono ?_; rintro e9 w2 ⟨rfl, B9⟩; have HB0 : Hid (Vr w2 w.heap.size (sv true n e t (.slice ao 104 cap))) := HB0.out.below B9 (range_lt HB0.out.1 (Nat.succ_pos _)); have BB : Hid (Below w.heap.size w w2) := BB.out.trans (B9.mono BB.out.size); clear hb0_0 hb0_1 hb0_2 hb0_3 hb0_4; have hb0_0 := HB0.out.cell 0 _ rfl; have hb0_1 := HB0.out.cell 1 _ rfl; have hb0_2 := HB0.out.cell 2 _ rfl; have hb0_3 := HB0.out.cell 3 _ rfl; have hb0_4 := HB0.out.cell 4 _ rfl; clear B9; clear t2; have t3 : (1 : Nat) = 1 := rfl)
    | (have q1 := t1; refine load_lawC _ rfl (sv true n e t (.slice ao 104 cap)) w.heap.size 0 rfl HB0.out.1 rowy_slot ?_; clear t1; have t2 : (1 : Nat) = 1 := rfl)
    | (have q0 := t0; refine box_lawC _ (sv true n e t (.slice ao 104 cap)) rfl ?_; intro w1 X9 B9 l9; have HB0 : Hid (Vr w1 w.heap.size (sv true n e t (.slice ao 104 cap))) := X9; have BB : Hid (Below w.heap.size w w1) := B9; have hb0_0 := HB0.out.cell 0 _ rfl; have hb0_1 := HB0.out.cell 1 _ rfl; have hb0_2 := HB0.out.cell 2 _ rfl; have hb0_3 := HB0.out.cell 3 _ rfl; have hb0_4 := HB0.out.cell 4 _ rfl; clear X9 B9 l9; clear t0; have t1 : (1 : Nat) = 1 := rfl))
  go_ret2
  exact ⟨_, _, rfl, HZ.out, BB.out⟩

set_option maxHeartbeats 4000000 in
theorem keys_bad (kv : Value) (ks : List Int) (n e t : Int) (v : Value) (xs : List Int) (w : World) (hk : Byt w kv ks) (hv : Byt w v xs) (hS : Sb n e t) (hr : Rs true n e t xs) (hl : ks.length = 32) (hf : ¬ hd (unwr ks xs 12) = a6) :
    Calls Try.prog 10 #[kv, .agg (sv true n e t v).toArray] w fun x w' => x = .returned (.tuple #[.slice none 0 0, .int .i64 16]) ∧ Below w.heap.size w w' := by
  have xl : xs.length = 104 := hr.2.2
  have SR : Hid (∀ w0, Below w.heap.size w w0 → Calls Try.prog 20 #[.agg (sv true n e t v).toArray] w0 fun x w' => x = .returned (.bool true) ∧ Below w0.heap.size w0 w') := fun w0 q => right_yes true n e t v xs w0 (hv.below q) hS hr
  have SU : Hid (∀ w0, Below w.heap.size w w0 → Calls Try.prog 21 #[kv, v] w0 fun x w' => x = .returned (.tuple #[.slice none 0 0, .int .i64 16]) ∧ Below w0.heap.size w0 w') := fun w0 q => (unwrap_any kv v ks xs 12 w0 (hk.below q) hl (hv.below q) xl (by omega) (by omega)).mono fun _ _ ⟨h, h3⟩ => by
    rcases h with ⟨h1, -⟩ | ⟨-, h1⟩
    · exact absurd h1 hf
    · exact ⟨h1, h3⟩
  obtain ⟨ko, kc, rfl⟩ := byt_form hk hl
  obtain ⟨ao, cap, rfl⟩ := byt_form hv xl
  clear hk hv hS hr hl hf xl
  have t0 : (0 : Nat) = 0 := rfl
  go_enter Try.func10, Try.ntmps10
  go_wp2_with (first
    | (have q3 := t3; go_at_call 21; refine (SU.out w2 BB.out).mono ?_; rintro e9 w3 ⟨rfl, B9⟩; have HB0 : Hid (Vr w3 w.heap.size (sv true n e t (.slice ao 104 cap))) := HB0.out.below B9 (range_lt HB0.out.1 (Nat.succ_pos _)); have BB : Hid (Below w.heap.size w w3) := BB.out.trans (B9.mono BB.out.size); clear hb0_0 hb0_1 hb0_2 hb0_3 hb0_4; have hb0_0 := HB0.out.cell 0 _ rfl; have hb0_1 := HB0.out.cell 1 _ rfl; have hb0_2 := HB0.out.cell 2 _ rfl; have hb0_3 := HB0.out.cell 3 _ rfl; have hb0_4 := HB0.out.cell 4 _ rfl; clear B9; clear t3; have t4 : (1 : Nat) = 1 := rfl)
    | (have q2 := t2; go_at_call 20; refine (SR.out w1 BB.out).mono ?_; rintro e9 w2 ⟨rfl, B9⟩; have HB0 : Hid (Vr w2 w.heap.size (sv true n e t (.slice ao 104 cap))) := HB0.out.below B9 (range_lt HB0.out.1 (Nat.succ_pos _)); have BB : Hid (Below w.heap.size w w2) := BB.out.trans (B9.mono BB.out.size); clear hb0_0 hb0_1 hb0_2 hb0_3 hb0_4; have hb0_0 := HB0.out.cell 0 _ rfl; have hb0_1 := HB0.out.cell 1 _ rfl; have hb0_2 := HB0.out.cell 2 _ rfl; have hb0_3 := HB0.out.cell 3 _ rfl; have hb0_4 := HB0.out.cell 4 _ rfl; clear B9; clear t2; have t3 : (1 : Nat) = 1 := rfl)
    | (have q1 := t1; refine load_lawC _ rfl (sv true n e t (.slice ao 104 cap)) w.heap.size 0 rfl HB0.out.1 rowy_slot ?_; clear t1; have t2 : (1 : Nat) = 1 := rfl)
    | (have q0 := t0; refine box_lawC _ (sv true n e t (.slice ao 104 cap)) rfl ?_; intro w1 X9 B9 l9; have HB0 : Hid (Vr w1 w.heap.size (sv true n e t (.slice ao 104 cap))) := X9; have BB : Hid (Below w.heap.size w w1) := B9; have hb0_0 := HB0.out.cell 0 _ rfl; have hb0_1 := HB0.out.cell 1 _ rfl; have hb0_2 := HB0.out.cell 2 _ rfl; have hb0_3 := HB0.out.cell 3 _ rfl; have hb0_4 := HB0.out.cell 4 _ rfl; clear X9 B9 l9; clear t0; have t1 : (1 : Nat) = 1 := rfl))
  go_ret2
  exact ⟨rfl, BB.out⟩
end Go.Proofs.Ytifepmdhbhdjpaa.so

