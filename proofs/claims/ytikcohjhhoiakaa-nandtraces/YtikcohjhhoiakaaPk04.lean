/- Texts put together. -/
import Derived.Test.YtikcohjhhoiakaaPk03
import Derived.Test.YtikcohjhhoiakaaPk01
set_option maxHeartbeats 8000000
namespace Go.Proofs.Ytikcohjhhoiakaa.fa
open Go.RowKit
set_option maxRecDepth 20000
def tc (xs ys : List Int) (i : Nat) : Int := (((gb xs i).toNat &&& (255 - (gb ys i).toNat) : Nat) : Int)
theorem tc_bd (xs ys : List Int) (hx : AllB xs) (i : Nat) : 0 ≤ tc xs ys i ∧ tc xs ys i ≤ 255 := by
 have := hx i
 unfold tc
 have h : (gb xs i).toNat &&& (255 - (gb ys i).toNat) ≤ (gb xs i).toNat := Nat.and_le_left
 omega
theorem toClear_any (va vb : Value) (xs ys : List Int) (i : Nat) (w : World) (ha : Byt w va xs) (hb : Byt w vb ys) (hl : xs.length = ys.length) (hi : i < xs.length) :
  Calls Try.prog 96 #[va, vb, .int .i64 i] w fun e w' => e = .returned (.int .u8 (tc xs ys i)) ∧ ∃ n, w' = w.drewN n := by
 have a1 := ha.all i
 have a2 := hb.all i
 obtain ⟨ao, ca, rfl, ha1, ha2, -, -, ha5⟩ := ha
 obtain ⟨bo, cb, rfl, hb1, hb2, -, -, hb5⟩ := hb
 obtain ⟨b, off, rfl, hca⟩ := ha5 (by omega)
 obtain ⟨b', off', rfl, hcb⟩ := hb5 (by omega)
 have c1 := hca i hi
 have c2 := hcb i (by omega)
 have i0 : (0 : Int) ≤ (i : Int) := by omega
 have i1 : (i : Int) < (xs.length : Int) := by omega
 have i2 : (i : Int) < (ys.length : Int) := by omega
 have e : bits .andNot .u8 (gb xs i) (gb ys i) = tc xs ys i := u8_andNot _ _ a1.1 (by omega) a2.1 (by omega)
 generalize tc xs ys i = z at *
 generalize gb xs i = x at *
 generalize gb ys i = y at *
 clear hca hcb ha5 hb5 a1 a2 hl
 go_enter Try.func96, Try.ntmps96
 go_wp2
 go_quiet (fail)
 go_wp2
 go_ret
 exact ⟨rfl, _, rfl⟩
def Tells (w : World) (v : Value) (D : Nat → Int) (n : Nat) : Prop := ∃ K caps, v = .func (.func K) #[] caps ∧ (∀ (q : Array Value) (w : World), (callFunc K q).run Try.prog w = .ok (.enter K q) w) ∧ (∀ i, 0 ≤ D i ∧ D i ≤ 255) ∧
 ∀ w', Below w.heap.size w w' → ∀ i, i < n → Calls Try.prog K (#[.int .i64 i] ++ caps) w' fun e w'' => e = .returned (.int .u8 (D i)) ∧ ∃ m, w'' = w'.drewN m
def pgl (xs ys : List Int) (D : Nat → Int) : List Int := (List.range xs.length).map fun k => (((gb xs k).toNat &&& (255 - ((tc xs ys k).toNat &&& (D k).toNat)) : Nat) : Int)
theorem pgl_len (xs ys : List Int) (D : Nat → Int) : (pgl xs ys D).length = xs.length := by simp [pgl]
theorem pgl_gb (xs ys : List Int) (D : Nat → Int) (k : Nat) (h : k < xs.length) : gb (pgl xs ys D) k = (((gb xs k).toNat &&& (255 - ((tc xs ys k).toNat &&& (D k).toNat)) : Nat) : Int) := by simp [gb, List.getD, pgl, h]
theorem pgl_all (xs ys : List Int) (D : Nat → Int) (hx : AllB xs) : AllB (pgl xs ys D) := allB_mem fun z hz => by
 obtain ⟨k, hk, rfl⟩ := List.mem_map.1 hz
 have := hx k
 have h : (gb xs k).toNat &&& (255 - ((tc xs ys k).toNat &&& (D k).toNat)) ≤ (gb xs k).toNat := Nat.and_le_left
 omega
def prt (zs : List Int) (k : Nat) : List Int := zs.take k ++ List.replicate (zs.length - k) 0
theorem prt_zero (zs : List Int) : prt zs 0 = List.replicate zs.length 0 := by simp [prt]
theorem prt_end (zs : List Int) : prt zs zs.length = zs := by simp [prt]
theorem prt_set (zs : List Int) (k : Nat) (h : k < zs.length) : (prt zs k).set k (gb zs k) = prt zs (k + 1) := by
 unfold prt
 obtain ⟨d, hd⟩ : ∃ d, zs.length - k = d + 1 := ⟨zs.length - k - 1, by omega⟩
 have e : zs.length - (k + 1) = d := by omega
 have hm : min k zs.length = k := by omega
 rw [hd, e, List.set_append_right _ _ (by simp; omega), List.take_succ_eq_append_getElem h, List.append_assoc]
 simp only [List.length_take, hm, Nat.sub_self, List.replicate_succ, List.set_cons_zero, gb, List.getD, List.getElem?_eq_getElem h, Option.getD_some, List.cons_append, List.nil_append]
theorem prog_any (va vb vd : Value) (xs ys : List Int) (D : Nat → Int) (w : World) (ha : Byt w va xs) (hb : Byt w vb ys) (hl : xs.length = ys.length) (hmax : xs.length ≤ 1048576) (hD : Tells w vd D xs.length) :
  Calls Try.prog 93 #[va, vb, vd] w fun e w' => ∃ v, e = .returned v ∧ Byt w' v (pgl xs ys D) ∧ Below w.heap.size w w' := by
 obtain ⟨K, caps, rfl, hcf, hDb, hDc⟩ := hD
 have HA := hdH (ha)
 have HB := hdH (hb)
 obtain ⟨ao, ca, rfl, ha1, ha2, ha3, -, ha5⟩ := ha
 have HA5 := hdH (ha5)
 have HL := hdH (hl)
 have HDB : Hid (∀ i, 0 ≤ D i ∧ D i ≤ 255) := hDb
 have HDC : Hid (∀ w', Below w.heap.size w w' → ∀ i, i < xs.length → Calls Try.prog K (#[.int .i64 i] ++ caps) w' fun e w'' => e = .returned (.int .u8 (D i)) ∧ ∃ m, w'' = w'.drewN m) := hDc
 clear ha5 ha3 hb hl hDb hDc
 have HZ : Hid ((pgl xs ys D).length = xs.length) := pgl_len xs ys D
 go_enter Try.func93, Try.ntmps93
 go_wp2_with (at_make; refine make_law _ rfl (.tmp 10) (.tmp 10) rfl w.heap.size (Nat.le_refl _) _ xs.length rfl rfl rfl (by omega) ?_; intro w1 hown hbel hlt)
 go_loopw [14] (fun i wr => ∃ k : Nat, k ≤ xs.length ∧ i = .int .i64 k ∧ OwnN w.heap.size wr w.heap.size xs.length (prt (pgl xs ys D) k) ∧ Below w.heap.size w wr) (fun i _ => xs.length - (intOf i).toNat)
 case atStart => exact ⟨0, Nat.zero_le _, rfl, by rw [prt_zero, HZ.out]; exact hown, hbel⟩
 case round =>
  clear hown hbel
  obtain ⟨k, hk, rfl, hown, hbel⟩ := hrel
  by_cases hlt' : k < xs.length
  ·obtain ⟨b, off, rfl, hca⟩ := HA5.out (by omega)
   have n1 := World.block_lt_of_cell? w _ (hca k hlt')
   have c1 : wr.cell? ⟨b, off + k, none⟩ = some (.int .u8 (gb xs k)) := (hbel.cell n1).trans (hca k hlt')
   have lk : (k : Int) < (xs.length : Int) := by omega
   have lk0 : (0 : Int) ≤ (k : Int) := by omega
   have S1 : Hid (∀ n, Calls Try.prog 96 #[.slice (some ⟨b, off, none⟩) xs.length ca, vb, .int .i64 k] (wr.drewN n) fun e w' => e = .returned (.int .u8 (tc xs ys k)) ∧ ∃ m, w' = (wr.drewN n).drewN m) := fun n => toClear_any _ _ xs ys k _ (byt_drawn (HA.out.below hbel) n) (byt_drawn (HB.out.below hbel) n) HL.out hlt'
   have S2 : Hid (∀ n, Calls Try.prog K (#[.int .i64 k] ++ caps) (wr.drewN n) fun e w' => e = .returned (.int .u8 (D k)) ∧ ∃ m, w' = (wr.drewN n).drewN m) := fun n => HDC.out _ (below_drawn hbel n) k hlt'
   have HX : Hid (bits .andNot .u8 (gb xs k) (bits .and .u8 (tc xs ys k) (D k)) = gb (pgl xs ys D) k) := by
    show _ = _
    have b1 := HA.out.all k
    have b2 := tc_bd xs ys HA.out.all k
    have b3 := HDB.out k
    rw [pgl_gb xs ys D k hlt', u8_and _ _ b2.1 (by omega) b3.1 (by omega)]
    have h : (tc xs ys k).toNat &&& (D k).toNat ≤ (tc xs ys k).toNat := Nat.and_le_left
    rw [u8_andNot _ _ b1.1 (by omega) (by omega) (by omega), Int.toNat_natCast]
   have HO : Hid (OwnN w.heap.size wr w.heap.size xs.length (prt (pgl xs ys D) k)) := hown
   have HBL : Hid (Below w.heap.size w wr) := hbel
   clear hca hown hbel
   go_wp2
   refine wp_region_any (by kernel_rfl) ?_
   change wpAny _ _ _ _ _ _ _ (World.drew _)
   refine wpAny_quiet_then (C := fun w' => ∃ n, w' = wr.drewN n) 0 16 1 _ (by kernel_rfl) rfl (by kernel_rfl) (by kernel_rfl) ⟨1, rfl⟩ ?_
   simp only [List.take_succ_cons, List.take_zero, List.drop_zero]
   repeat (quiet_step (first
    | with_reducible exact Calls.quiet_of (S1.out _)
    | with_reducible exact Calls.quiet_of (S2.out _)))
   refine wpQuiet_nil ?_
   rintro f _ ⟨nq, rfl⟩
   have O1 : OwnN w.heap.size (wr.drewN nq) w.heap.size xs.length (prt (pgl xs ys D) k) := HO.out.drew nq
   have HS := O1.set k (gb (pgl xs ys D) k)
   rw [prt_set _ k (by rw [HZ.out]; exact hlt')] at HS
   have B2 : Below w.heap.size w ((wr.drewN nq).setCell ⟨w.heap.size, k, none⟩ (.int .u8 (gb (pgl xs ys D) k))) := (below_drawn HBL.out nq).setCell (Nat.le_refl _) _
   refine wpAny_ready (rs := [16]) (by kernel_rfl) (by simp) ?_
   refine AllReady.cons rfl (fun K hK => ?_) AllReady.nil
   refine step_set _ rfl none rfl (.tmp 32) (.tmp 31) 5 rfl .u8 (gb (pgl xs ys D) k) w.heap.size k rfl (by rw [← HX.out]; rfl) (by rw [O1.cell hlt']; rfl) (O1.free k) i_u8 (hK _ _ ?_)
   simp only [Act.put]
   clear O1 c1
   generalize (wr.drewN nq).setCell ⟨w.heap.size, k, none⟩ (.int .u8 (gb (pgl xs ys D) k)) = w6 at *
   refine wpAny_done (by kernel_rfl) ?_ _
   go_wp2
   go_roundw
   case rel => exact ⟨k + 1, by omega, by go_num, HS, B2⟩
   case measure => simp [intOf]; omega
  ·have hks : k = xs.length := by omega
   subst hks
   have hown2 : OwnN w.heap.size wr w.heap.size xs.length (pgl xs ys D) := by
    have := hown; rw [← HZ.out, prt_end, HZ.out] at this; exact this
   go_wp2
   go_ret
   exact ⟨_, rfl, hown2.byt (pgl_all _ _ _ HA.out.all), hbel⟩
def ln (x : Nat) : Nat := if x < 1 then 0 else if x < 2 then 1 else if x < 4 then 2 else if x < 8 then 3 else if x < 16 then 4 else if x < 32 then 5 else if x < 64 then 6 else if x < 128 then 7 else 8
theorem ln_top : ∀ x, x < 256 → 0 < x → 1 ≤ ln x ∧ ln x ≤ 8 ∧ bit x (ln x - 1) = true ∧ ∀ t, t < 8 → ln x ≤ t → bit x t = false := by decide +kernel
set_option maxRecDepth 20000 in
theorem len8_any (x : Nat) (w : World) (hx : x < 256) :
  Calls Try.prog 97 #[.int .u8 x] w fun e w' => e = .returned (.int .i64 (ln x)) ∧ w' = w := by
 go_enter Try.func97, Try.ntmps97
 go_wp2
 go_ret
 refine ⟨ret_int ?_, rfl⟩
 clear w
 revert x
 decide +kernel
theorem bit_not : ∀ y, y < 256 → ∀ t, t < 8 → bit (255 - y) t = !bit y t := by decide +kernel
theorem bit_and (a b t : Nat) : bit (a &&& b) t = (bit a t && bit b t) := by rw [bit_test, bit_test, bit_test, Nat.testBit_and]
theorem bit_or (a b t : Nat) : bit (a ||| b) t = (bit a t || bit b t) := by rw [bit_test, bit_test, bit_test, Nat.testBit_or]
theorem bit_zero (t : Nat) : bit 0 t = false := by unfold bit; simp
theorem bit_pow : ∀ k, k < 8 → ∀ t, t < 8 → bit (2 ^ k) t = decide (t = k) := by decide +kernel
theorem tc_bit (xs ys : List Int) (hy : AllB ys) (j t : Nat) (ht : t < 8) : bit (tc xs ys j).toNat t = due xs ys (8 * j + t) := by
 have b := hy j
 unfold tc due
 rw [Int.toNat_natCast, bit_and, bit_not _ (by omega) t ht, hs_at xs j t ht, hs_at ys j t ht]
theorem lst_eq (xs ys : List Int) (N p : Nat) (hp : p < N) (hd : due xs ys p = true) (h : ∀ k, p < k → k < N → due xs ys k = false) : lst xs ys N = p + 1 := by
 induction N with
 | zero => omega
 | succ N ih =>
  unfold lst
  by_cases e : p = N
  ·subst e; rw [if_pos hd]
  ·rw [if_neg (by rw [h N (by omega) (by omega)]; simp), ih (by omega) (fun k h1 h2 => h k h1 (by omega))]
theorem lst_none (xs ys : List Int) (N : Nat) (h : ∀ k, k < N → due xs ys k = false) : lst xs ys N = 0 := by
 induction N with
 | zero => rfl
 | succ N ih =>
  unfold lst
  rw [if_neg (by rw [h N (by omega)]; simp), ih (fun k hk => h k (by omega))]
def IsL (xs ys : List Int) (p z : Nat) : Prop := (p = 0 ∧ z = 0 ∧ lst xs ys (8 * xs.length) = 0) ∨ ∃ t, t < 8 ∧ p < xs.length ∧ z = 2 ^ t ∧ lst xs ys (8 * xs.length) = 8 * p + t + 1
theorem isL_some (xs ys : List Int) (hx : AllB xs) (hy : AllB ys) (p x : Nat) (hp : p < xs.length) (hx0 : tc xs ys p = x) (h0 : 0 < x) (h : ∀ q, 8 * (p + 1) ≤ q → q < 8 * xs.length → due xs ys q = false) : IsL xs ys p (2 ^ (ln x - 1)) := by
 have hb := tc_bd xs ys hx p
 obtain ⟨l1, l2, l3, l4⟩ := ln_top x (by omega) h0
 have hbit : ∀ t, t < 8 → due xs ys (8 * p + t) = bit x t := fun t ht => by rw [← tc_bit xs ys hy p t ht, hx0, Int.toNat_natCast]
 refine Or.inr ⟨ln x - 1, by omega, hp, rfl, lst_eq xs ys _ _ (by omega) (by rw [hbit _ (by omega)]; exact l3) fun k h1 h2 => ?_⟩
 by_cases hk : 8 * (p + 1) ≤ k
 ·exact h k hk h2
 ·have e : k = 8 * p + (k - 8 * p) := by omega
  rw [e, hbit _ (by omega)]
  exact l4 _ (by omega) (by omega)
theorem due_byte (xs ys : List Int) (hy : AllB ys) (p : Nat) (h0 : tc xs ys p = 0) (q : Nat) (h1 : 8 * p ≤ q) (h2 : q < 8 * (p + 1)) : due xs ys q = false := by
 have := tc_bit xs ys hy p (q - 8 * p) (by omega)
 rw [h0, show (0 : Int).toNat = 0 from rfl, bit_zero, show 8 * p + (q - 8 * p) = q by omega] at this
 exact this.symm
theorem last_any (va vb : Value) (xs ys : List Int) (w : World) (ha : Byt w va xs) (hb : Byt w vb ys) (hl : xs.length = ys.length) :
  Calls Try.prog 91 #[va, vb] w fun e w' => ∃ p z : Nat, e = .returned (.tuple #[.int .i64 p, .int .u8 z]) ∧ IsL xs ys p z ∧ ∃ n, w' = w.drewN n := by
 have HX : Hid (AllB xs ∧ AllB ys) := ⟨ha.all, hb.all⟩
 have S1 : Hid (∀ n i, i < xs.length → Calls Try.prog 96 #[va, vb, .int .i64 i] (w.drewN n) fun e w' => e = .returned (.int .u8 (tc xs ys i)) ∧ ∃ m, w' = (w.drewN n).drewN m) := fun n i hi => toClear_any va vb xs ys i _ (byt_drawn ha n) (byt_drawn hb n) hl hi
 have S2 : Hid (∀ (x : Nat) w0, x < 256 → Calls Try.prog 97 #[.int .u8 x] w0 fun e w' => e = .returned (.int .i64 (ln x)) ∧ w' = w0) := fun x w0 h => len8_any x w0 h
 obtain ⟨ao, ca, rfl, ha1, ha2, -⟩ := ha
 clear hb hl
 go_enter Try.func91, Try.ntmps91
 go_wp2
 go_loopw [6] (fun i wr => ∃ k n : Nat, k ≤ xs.length ∧ i = .int .i64 ((k : Int) - 1) ∧ Hid (∀ q, 8 * k ≤ q → q < 8 * xs.length → due xs ys q = false) ∧ wr = w.drewN n) (fun i _ => (intOf i + 1).toNat)
 case atStart => exact ⟨xs.length, 0, Nat.le_refl _, by go_num, fun q h1 h2 => by omega, rfl⟩
 case round =>
  obtain ⟨k, n, hk, rfl, HK, rfl⟩ := hrel
  rcases Nat.eq_zero_or_pos k with h0 | hp
  ·subst h0
   go_wp2
   go_ret2
   exact ⟨0, 0, rfl, Or.inl ⟨rfl, rfl, lst_none _ _ _ fun q hq => HK.out q (by omega) hq⟩, n, rfl⟩
  ·obtain ⟨p, rfl⟩ : ∃ p, k = p + 1 := ⟨k - 1, by omega⟩
   have e1 : (((p + 1 : Nat) : Int) - 1) = (p : Int) := by omega
   rw [e1]
   have tb := tc_bd xs ys HX.out.1 p
   obtain ⟨x, hx⟩ : ∃ x : Nat, tc xs ys p = x := ⟨(tc xs ys p).toNat, by omega⟩
   have xb : x < 256 := by omega
   have S3 : Hid (Calls Try.prog 96 #[.slice ao xs.length ca, vb, .int .i64 p] (w.drewN n) fun e w' => e = .returned (.int .u8 x) ∧ ∃ m, w' = (w.drewN n).drewN m) := by rw [← hx]; exact S1.out n p (by omega)
   have HXX := hdH (hx)
   have p0 : (0 : Int) ≤ (p : Int) := by omega
   have q1 : IntKind.i64.wrap (p : Int) = p := by rw [IntKind.wrap_i64]; omega
   clear hx tb e1
   by_cases hz : x = 0
   ·subst hz
    go_wp2_with (go_at_call 96; refine S3.out.mono ?_; rintro e w2 ⟨rfl, nn, hw⟩; obtain rfl := hw.symm)
    go_roundw
    case rel => exact ⟨p, n + nn, by omega, by go_num, fun q h1 h2 => if h : 8 * (p + 1) ≤ q then HK.out q h h2 else due_byte xs ys HX.out.2 p HXX.out q h1 (by omega), rfl⟩
    case measure => simp [intOf]
   ·have xn : ((x : Int) != 0) = true := by simpa using (show (x : Int) ≠ 0 by omega)
    have S4 : Hid (∀ w0, Calls Try.prog 97 #[.int .u8 x] w0 fun e w' => e = .returned (.int .i64 (ln x)) ∧ w' = w0) := fun w0 => S2.out x w0 xb
    obtain ⟨l1, l2, -, -⟩ := ln_top x xb (by omega)
    obtain ⟨t, ht⟩ : ∃ t, ln x = t + 1 := ⟨ln x - 1, by omega⟩
    have HT := hdH (ht)
    rw [ht] at S4
    have t7 : t ≤ 7 := by omega
    have r1 : IntKind.i64.wrap (((t + 1 : Nat) : Int) - 1) = t := by rw [IntKind.wrap_i64]; omega
    have t0 : (0 : Int) ≤ (t : Int) := by omega
    have z2 : 2 ^ t ≤ 128 := Nat.pow_le_pow_right (by omega) (show t ≤ 7 by omega)
    clear ht l1 l2
    go_wp2_with (go_at_call 96; refine S3.out.mono ?_; rintro e w2 ⟨rfl, nn, hw⟩; obtain rfl := hw.symm)
    obtain ⟨wz, hwz⟩ : ∃ wz, wz = w.drewN (n + nn) := ⟨_, rfl⟩
    have HW : Hid (wz = w.drewN (n + nn)) := hwz
    rw [← hwz]
    clear hwz
    go_quiet ((go_at_call 97; exact Calls.quiet_of_same (S4.out _)))
    go_wp2
    go_ret2
    refine ⟨p, 2 ^ t, ?_, ?_, n + nn + nq, ?_⟩
    ·have e2 : (2 : Int) ^ t % 256 = ((2 ^ t : Nat) : Int) := by
      rw [show (2 : Int) ^ t = ((2 ^ t : Nat) : Int) by simp]
      generalize 2 ^ t = q at *
      omega
     rw [e2]
     rfl
    ·have := isL_some xs ys HX.out.1 HX.out.2 p x (by omega) HXX.out (by omega) HK.out
     rwa [HT.out, Nat.add_sub_cancel] at this
    ·rw [HW.out, World.drewN_drewN]
theorem say_tells {w : World} {c : Nat} {m : List Int} (h : Say w c m) (hm : AllB m) (n : Nat) (hn : n ≤ 9223372036854775807) : Tells w (.func (.func 95) #[] #[.pointer (some ⟨c, 0, none⟩)]) (mb m) n :=
 ⟨95, #[.pointer (some ⟨c, 0, none⟩)], rfl, fun _ _ => rfl, mb_bd hm, fun _ hb i hi => said_any c m i _ (h.below hb) (by omega)⟩
def stl (xs : List Int) (D : Nat → Int) : List Int := (List.range xs.length).map fun k => (((gb xs k).toNat ||| (D k).toNat : Nat) : Int)
theorem stl_len (xs : List Int) (D : Nat → Int) : (stl xs D).length = xs.length := by simp [stl]
theorem stl_gb (xs : List Int) (D : Nat → Int) (k : Nat) (h : k < xs.length) : gb (stl xs D) k = (((gb xs k).toNat ||| (D k).toNat : Nat) : Int) := by simp [gb, List.getD, stl, h]
theorem stl_all (xs : List Int) (D : Nat → Int) (hx : AllB xs) (hD : ∀ i, 0 ≤ D i ∧ D i ≤ 255) : AllB (stl xs D) := allB_mem fun z hz => by
 obtain ⟨k, hk, rfl⟩ := List.mem_map.1 hz
 have := hx k
 have := hD k
 have h := Nat.or_lt_two_pow (n := 8) (show (gb xs k).toNat < 2 ^ 8 by omega) (show (D k).toNat < 2 ^ 8 by omega)
 omega
theorem fset_any (va vm : Value) (xs m : List Int) (w : World) (ha : Byt w va xs) (hm : Byt w vm m) (hmax : xs.length ≤ 1048576) :
  Calls Try.prog 79 #[va, vm] w fun e w' => ∃ v, e = .returned v ∧ Byt w' v (stl xs (mb m)) ∧ Below w.heap.size w w' := by
 have HA := hdH (ha)
 have SB : Hid (Calls Try.prog 90 #[vm] w fun e w' => e = .returned (.func (.func 95) #[] #[.pointer (some ⟨w.heap.size, 0, none⟩)]) ∧ Say w' w.heap.size m ∧ Below w.heap.size w w') := bitsOf_any vm m w hm
 have HMB : Hid (∀ i, 0 ≤ mb m i ∧ mb m i ≤ 255) := fun i => mb_bd hm.all i
 obtain ⟨ao, ca, rfl, ha1, ha2, ha3, -, ha5⟩ := ha
 have HA5 := hdH (ha5)
 clear ha5 ha3 hm
 have HZ : Hid ((stl xs (mb m)).length = xs.length) := stl_len xs (mb m)
 go_enter Try.func79, Try.ntmps79
 go_wp2_with (first
  | (go_at_call 90; refine SB.out.mono ?_; rintro e w0 ⟨rfl, y0, B0⟩; have Y0 := hdH (y0); clear y0; have l0 := Y0.out.lt)
  | (at_make; refine make_law _ rfl (.tmp 11) (.tmp 11) rfl w0.heap.size (Nat.le_refl _) _ xs.length rfl rfl rfl (by omega) ?_; intro w1 hown hbel hlt))
 go_loopw [15] (fun i wr => ∃ k : Nat, k ≤ xs.length ∧ i = .int .i64 k ∧ OwnN w0.heap.size wr w0.heap.size xs.length (prt (stl xs (mb m)) k) ∧ Below w0.heap.size w0 wr) (fun i _ => xs.length - (intOf i).toNat)
 case atStart => exact ⟨0, Nat.zero_le _, rfl, by rw [prt_zero, HZ.out]; exact hown, hbel⟩
 case round =>
  clear hown hbel
  obtain ⟨k, hk, rfl, hown, hbel⟩ := hrel
  by_cases hlt' : k < xs.length
  ·obtain ⟨b, off, rfl, hca⟩ := HA5.out (by omega)
   have n1 : b < w.heap.size := World.block_lt_of_cell? w _ (hca k hlt')
   have c1 : wr.cell? ⟨b, off + k, none⟩ = some (.int .u8 (gb xs k)) := (hbel.cell (show b < w0.heap.size by omega)).trans ((B0.cell n1).trans (hca k hlt'))
   have lk : (k : Int) < (xs.length : Int) := by omega
   have lk0 : (0 : Int) ≤ (k : Int) := by omega
   have S2 : Hid (∀ n, Calls Try.prog 95 #[.int .i64 k, .pointer (some ⟨w.heap.size, 0, none⟩)] (wr.drewN n) fun e w' => e = .returned (.int .u8 (mb m k)) ∧ ∃ m, w' = (wr.drewN n).drewN m) := fun n => said_any _ m k _ (Y0.out.below (below_drawn hbel n)) (by omega)
   have HX : Hid (bits .or .u8 (gb xs k) (mb m k) = gb (stl xs (mb m)) k) := by
    show _ = _
    have b1 := HA.out.all k
    have b3 := HMB.out k
    rw [stl_gb xs (mb m) k hlt', u8_or _ _ b1.1 (by omega) b3.1 (by omega)]
   have HO : Hid (OwnN w0.heap.size wr w0.heap.size xs.length (prt (stl xs (mb m)) k)) := hown
   have HBL : Hid (Below w0.heap.size w0 wr) := hbel
   clear hca hown hbel
   go_wp2
   refine wp_region_any (by kernel_rfl) ?_
   change wpAny _ _ _ _ _ _ _ (World.drew _)
   refine wpAny_quiet_then (C := fun w' => ∃ n, w' = wr.drewN n) 0 11 1 _ (by kernel_rfl) rfl (by kernel_rfl) (by kernel_rfl) ⟨1, rfl⟩ ?_
   simp only [List.take_succ_cons, List.take_zero, List.drop_zero]
   repeat (quiet_step (with_reducible exact Calls.quiet_of (S2.out _)))
   refine wpQuiet_nil ?_
   rintro f _ ⟨nq, rfl⟩
   have O1 : OwnN w0.heap.size (wr.drewN nq) w0.heap.size xs.length (prt (stl xs (mb m)) k) := HO.out.drew nq
   have HS := O1.set k (gb (stl xs (mb m)) k)
   rw [prt_set _ k (by rw [HZ.out]; exact hlt')] at HS
   have B2 : Below w0.heap.size w0 ((wr.drewN nq).setCell ⟨w0.heap.size, k, none⟩ (.int .u8 (gb (stl xs (mb m)) k))) := (below_drawn HBL.out nq).setCell (Nat.le_refl _) _
   refine wpAny_ready (rs := [11]) (by kernel_rfl) (by simp) ?_
   refine AllReady.cons rfl (fun K hK => ?_) AllReady.nil
   refine step_set _ rfl none rfl (.tmp 28) (.tmp 27) 5 rfl .u8 (gb (stl xs (mb m)) k) w0.heap.size k rfl (by rw [← HX.out]; rfl) (by rw [O1.cell hlt']; rfl) (O1.free k) i_u8 (hK _ _ ?_)
   simp only [Act.put]
   clear O1 c1
   generalize (wr.drewN nq).setCell ⟨w0.heap.size, k, none⟩ (.int .u8 (gb (stl xs (mb m)) k)) = w6 at *
   refine wpAny_done (by kernel_rfl) ?_ _
   go_wp2
   go_roundw
   case rel => exact ⟨k + 1, by omega, by go_num, HS, B2⟩
   case measure => simp [intOf]; omega
  ·have hks : k = xs.length := by omega
   subst hks
   have hown2 : OwnN w0.heap.size wr w0.heap.size xs.length (stl xs (mb m)) := by
    have := hown; rw [← HZ.out, prt_end, HZ.out] at this; exact this
   go_wp2
   go_ret
   exact ⟨_, rfl, hown2.byt (stl_all _ _ HA.out.all HMB.out), B0.trans (hbel.mono (by omega))⟩
theorem clear_any (va vb vm : Value) (xs ys m : List Int) (w : World) (ha : Byt w va xs) (hb : Byt w vb ys) (hm : Byt w vm m) (hl : xs.length = ys.length) (hmax : xs.length ≤ 1048576) :
  Calls Try.prog 89 #[va, vb, vm] w fun e w' => ∃ v, e = .returned (.tuple #[v, .int .i64 0]) ∧ Byt w' v (pgl xs ys (mb m)) ∧ Below w.heap.size w w' := by
 have SB : Hid (Calls Try.prog 90 #[vm] w fun e w' => e = .returned (.func (.func 95) #[] #[.pointer (some ⟨w.heap.size, 0, none⟩)]) ∧ Say w' w.heap.size m ∧ Below w.heap.size w w') := bitsOf_any vm m w hm
 have SP : Hid (∀ w1 c, Say w1 c m → Below w.heap.size w w1 → Calls Try.prog 93 #[va, vb, .func (.func 95) #[] #[.pointer (some ⟨c, 0, none⟩)]] w1 fun e w' => ∃ v, e = .returned v ∧ Byt w' v (pgl xs ys (mb m)) ∧ Below w1.heap.size w1 w') := fun w1 c h1 h2 => prog_any va vb _ xs ys (mb m) w1 (ha.below h2) (hb.below h2) hl hmax (say_tells h1 hm.all _ (by omega))
 obtain ⟨ao, ca, rfl, ha1, ha2, -⟩ := ha
 obtain ⟨bo, cb, rfl, hb1, hb2, -⟩ := hb
 rw [← hl] at hb1 SP ⊢
 generalize pgl xs ys (mb m) = zs at *
 clear hl hm
 go_enter Try.func89, Try.ntmps89
 go_wp2_with (first
  | (go_at_call 93; refine (SP.out _ _ Y0.out B0).mono ?_; rintro e w1 ⟨v1, rfl, y1, B1⟩; have Y1 := hdH (y1); clear y1)
  | (go_at_call 90; refine SB.out.mono ?_; rintro e w0 ⟨rfl, y0, B0⟩; have Y0 := hdH (y0); clear y0))
 go_ret2
 exact ⟨_, rfl, Y1.out, B0.trans (B1.mono B0.size)⟩
def dn (m : List Int) (p z i : Nat) : Int := if i = p then (((mb m i).toNat &&& (255 - z) : Nat) : Int) else mb m i
theorem dn_bd {m : List Int} (h : AllB m) (p z i : Nat) : 0 ≤ dn m p z i ∧ dn m p z i ≤ 255 := by
 have hb := mb_bd h i
 unfold dn
 split
 ·have : (mb m i).toNat &&& (255 - z) ≤ (mb m i).toNat := Nat.and_le_left
  omega
 ·exact hb
def Dn (w : World) (cp cs cl c p z : Nat) (m : List Int) : Prop := w.cell? ⟨cp, 0, none⟩ = some (.int .i64 p) ∧ w.cell? ⟨cs, 0, none⟩ = some (.func (.func 95) #[] #[.pointer (some ⟨c, 0, none⟩)]) ∧ w.cell? ⟨cl, 0, none⟩ = some (.int .u8 z) ∧ Say w c m
theorem Dn.below {w w' : World} {cp cs cl c p z : Nat} {m : List Int} (h : Dn w cp cs cl c p z m) (hb : Below w.heap.size w w') : Dn w' cp cs cl c p z m :=
 ⟨by rw [hb.cell (World.block_lt_of_cell? w _ h.1)]; exact h.1, by rw [hb.cell (World.block_lt_of_cell? w _ h.2.1)]; exact h.2.1, by rw [hb.cell (World.block_lt_of_cell? w _ h.2.2.1)]; exact h.2.2.1, h.2.2.2.below hb⟩
theorem done_any (cp cs cl c p z : Nat) (m : List Int) (i : Nat) (w : World) (h : Dn w cp cs cl c p z m) (hm : AllB m) (hz : z < 256) (hi : i ≤ 9223372036854775807) :
  Calls Try.prog 92 #[.int .i64 i, .pointer (some ⟨cp, 0, none⟩), .pointer (some ⟨cs, 0, none⟩), .pointer (some ⟨cl, 0, none⟩)] w fun e w' => e = .returned (.int .u8 (dn m p z i)) ∧ ∃ n, w' = w.drewN n := by
 obtain ⟨h1, h2, h3, h4⟩ := h
 have S : Hid (∀ n, Calls Try.prog 95 #[.int .i64 i, .pointer (some ⟨c, 0, none⟩)] (w.drewN n) fun e w' => e = .returned (.int .u8 (mb m i)) ∧ ∃ m, w' = (w.drewN n).drewN m) := fun n => said_any c m i (w.drewN n) h4 hi
 have S0 : Hid (Calls Try.prog 95 #[.int .i64 i, .pointer (some ⟨c, 0, none⟩)] w fun e w' => e = .returned (.int .u8 (mb m i)) ∧ ∃ m, w' = w.drewN m) := said_any c m i w h4 hi
 have hb := mb_bd hm i
 unfold dn
 generalize mb m i = x at *
 clear h4 hm
 by_cases e : i = p
 ·rw [if_pos e]
  subst e
  have e2 : bits .andNot .u8 x (z : Int) = ((x.toNat &&& (255 - z) : Nat) : Int) := by
   have := u8_andNot x z hb.1 (by omega) (by omega) (by omega)
   rwa [Int.toNat_natCast] at this
  clear hb
  generalize ((x.toNat &&& (255 - z) : Nat) : Int) = y at *
  go_enter Try.func92, Try.ntmps92
  go_wp2
  go_quiet ((go_at_call 95; exact Calls.quiet_of (S.out _)))
  go_wp2
  go_ret
  exact ⟨rfl, _, rfl⟩
 ·rw [if_neg e]
  have e2 : ((i : Int) == (p : Int)) = false := by simpa using (show (i : Int) ≠ (p : Int) by omega)
  go_enter Try.func92, Try.ntmps92
  go_wp2_with (go_at_call 95; refine S0.out.mono ?_; rintro e w1 ⟨rfl, n, hw⟩; obtain rfl := hw.symm)
  go_ret
  exact ⟨rfl, _, rfl⟩
theorem done_tells {w : World} {cp cs cl c p z : Nat} {m : List Int} (h : Dn w cp cs cl c p z m) (hm : AllB m) (hz : z < 256) (n : Nat) (hn : n ≤ 9223372036854775807) :
  Tells w (.func (.func 92) #[] #[.pointer (some ⟨cp, 0, none⟩), .pointer (some ⟨cs, 0, none⟩), .pointer (some ⟨cl, 0, none⟩)]) (dn m p z) n :=
 ⟨92, #[.pointer (some ⟨cp, 0, none⟩), .pointer (some ⟨cs, 0, none⟩), .pointer (some ⟨cl, 0, none⟩)], rfl, fun _ _ => rfl, dn_bd hm p z, fun _ hb i hi => done_any cp cs cl c p z m i _ (h.below hb) hm hz (by omega)⟩
theorem isL_lt {xs ys : List Int} {p z : Nat} (h : IsL xs ys p z) : z < 256 ∧ p ≤ xs.length := by
 rcases h with ⟨rfl, rfl, _⟩ | ⟨t, ht, hp, rfl, _⟩
 ·omega
 ·have : 2 ^ t ≤ 128 := Nat.pow_le_pow_right (by omega) (show t ≤ 7 by omega)
  omega
theorem dn_laid (w0 : World) (c p z nn : Nat) (m : List Int) (h : Say w0 c m) : Dn ((((w0.alloc (.cells #[.func (.func 95) #[] #[.pointer (some ⟨c, 0, none⟩)]] 133)).drewN nn).alloc (.cells #[.int .i64 p] 3)).alloc (.cells #[.int .u8 z] 5)) (w0.heap.size + 1) w0.heap.size (w0.heap.size + 1 + 1) c p z m ∧
  Below w0.heap.size w0 ((((w0.alloc (.cells #[.func (.func 95) #[] #[.pointer (some ⟨c, 0, none⟩)]] 133)).drewN nn).alloc (.cells #[.int .i64 p] 3)).alloc (.cells #[.int .u8 z] 5)) := by
 have V1 := Var.new w0 (.func (.func 95) #[] #[.pointer (some ⟨c, 0, none⟩)]) 133
 have B1 : Below w0.heap.size w0 (w0.alloc (.cells #[.func (.func 95) #[] #[.pointer (some ⟨c, 0, none⟩)]] 133)) := (Below.refl _ _).alloc (Nat.le_refl _) _
 have z1 : (w0.alloc (.cells #[.func (.func 95) #[] #[.pointer (some ⟨c, 0, none⟩)]] 133)).heap.size = w0.heap.size + 1 := by simp
 generalize w0.alloc (.cells #[.func (.func 95) #[] #[.pointer (some ⟨c, 0, none⟩)]] 133) = w1 at *
 have V2 : Var (w1.drewN nn) w0.heap.size _ := V1
 have B2 := below_drawn B1 nn
 have z2 : (w1.drewN nn).heap.size = w0.heap.size + 1 := z1
 generalize w1.drewN nn = w2 at *
 have V3 := Var.new w2 (.int .i64 p) 3
 have B3 : Below w2.heap.size w2 (w2.alloc (.cells #[.int .i64 p] 3)) := (Below.refl _ _).alloc (Nat.le_refl _) _
 have z3 : (w2.alloc (.cells #[.int .i64 p] 3)).heap.size = w2.heap.size + 1 := by simp
 generalize w2.alloc (.cells #[.int .i64 p] 3) = w3 at *
 have V4 := Var.new w3 (.int .u8 z) 5
 have B4 : Below w3.heap.size w3 (w3.alloc (.cells #[.int .u8 z] 5)) := (Below.refl _ _).alloc (Nat.le_refl _) _
 generalize w3.alloc (.cells #[.int .u8 z] 5) = w4 at *
 rw [z3, z2] at V4
 have BB : Below w0.heap.size w0 w4 := (B2.trans (B3.mono (by omega))).trans (B4.mono (by omega))
 rw [z2] at V3
 exact ⟨⟨(V3.below B4 (by omega)).1, ((V2.below B3 (by omega)).below B4 (by omega)).1, V4.1, h.below BB⟩, BB⟩
theorem fail_any (va vb vm : Value) (xs ys m : List Int) (w : World) (ha : Byt w va xs) (hb : Byt w vb ys) (hm : Byt w vm m) (hl : xs.length = ys.length) (hmax : xs.length ≤ 1048576) :
  Calls Try.prog 76 #[va, vb, vm] w fun e w' => ∃ v p z, e = .returned (.tuple #[v, .int .i64 0]) ∧ IsL xs ys p z ∧ Byt w' v (pgl xs ys (dn m p z)) ∧ Below w.heap.size w w' := by
 have SB : Hid (Calls Try.prog 90 #[vm] w fun e w' => e = .returned (.func (.func 95) #[] #[.pointer (some ⟨w.heap.size, 0, none⟩)]) ∧ Say w' w.heap.size m ∧ Below w.heap.size w w') := bitsOf_any vm m w hm
 have SL : Hid (∀ w1, Below w.heap.size w w1 → Calls Try.prog 91 #[va, vb] w1 fun e w' => ∃ p z : Nat, e = .returned (.tuple #[.int .i64 p, .int .u8 z]) ∧ IsL xs ys p z ∧ ∃ n, w' = w1.drewN n) := fun w1 h => last_any va vb xs ys w1 (ha.below h) (hb.below h) hl
 have SP : Hid (∀ w1 cp cs cl c p z, Dn w1 cp cs cl c p z m → z < 256 → Below w.heap.size w w1 → Calls Try.prog 93 #[va, vb, .func (.func 92) #[] #[.pointer (some ⟨cp, 0, none⟩), .pointer (some ⟨cs, 0, none⟩), .pointer (some ⟨cl, 0, none⟩)]] w1 fun e w' => ∃ v, e = .returned v ∧ Byt w' v (pgl xs ys (dn m p z)) ∧ Below w1.heap.size w1 w') := fun w1 cp cs cl c p z h1 h2 h3 => prog_any va vb _ xs ys (dn m p z) w1 (ha.below h3) (hb.below h3) hl hmax (done_tells h1 hm.all h2 _ (by omega))
 obtain ⟨ao, ca, rfl, ha1, ha2, -⟩ := ha
 obtain ⟨bo, cb, rfl, hb1, hb2, -⟩ := hb
 rw [← hl] at hb1 SP SL ⊢
 clear hl hm
 have hmf := makeFn
 have hst := fun (w : World) (a : Addr) (fn : Fn) (x y : Array Value) => run_store Try.prog w a (.func fn x y) .plain rfl
 go_enter Try.func76, Try.ntmps76
 go_wp2_with (first
  | (have q3 := PZ; go_at_call 93; refine (SP.out _ _ _ _ w.heap.size p z (dn_laid w0 w.heap.size p z nn m Y0.out).1 (isL_lt PZ).1 (B0.trans ((dn_laid w0 w.heap.size p z nn m Y0.out).2.mono B0.size))).mono ?_; rintro e w2 ⟨v2, rfl, y2, B2⟩; have Y2 := hdH (y2); clear y2)
  | (have q2 := B0; go_at_call 91; refine (SL.out _ (B0.alloc (by have := B0.size; omega) _)).mono ?_; rintro e w1 ⟨p, z, rfl, PZ, nn, hw⟩; obtain rfl := hw.symm)
  | (go_at_call 90; refine SB.out.mono ?_; rintro e w0 ⟨rfl, y0, B0⟩; have Y0 := hdH (y0); clear y0))
 go_ret2
 have D := dn_laid w0 w.heap.size p z nn m Y0.out
 exact ⟨_, p, z, rfl, PZ, Y2.out, B0.trans ((D.2.mono B0.size).trans (B2.mono (Nat.le_trans B0.size D.2.size)))⟩
def bo (m : List Int) (i : Int) : Bool := if i < 0 then false else mk m i.toNat
theorem rhas_any (v : Value) (xs : List Int) (i : Nat) (w : World) (h : Byt w v xs) (hi : i < 8 * xs.length) (hx : xs.length ≤ 1048576) :
  Calls Try.prog 86 #[v, .int .i64 i] w fun e w' => e = .returned (.bool (hs xs i)) ∧ ∃ n, w' = w.drewN n := by
 obtain ⟨ao, cap, rfl, h2, h3, h4, h5, h6⟩ := h
 obtain ⟨b, off, rfl, hc⟩ := h6 (by omega)
 have S := hdH (fun w0 => power_any (i % 8) w0 (by omega))
 unfold hs bit
 have hb := h4 (i / 8)
 generalize ht : i % 8 = t at *
 generalize hj : i / 8 = j at *
 have c1 := hc j (by omega)
 have r1 : (i : Int).tdiv 8 = (j : Int) := by rw [Int.tdiv_eq_ediv_of_nonneg (by omega)]; omega
 have r2 : (i : Int).tmod 8 = (t : Int) := by rw [Int.tmod_eq_emod_of_nonneg (by omega)]; omega
 have j2 : IntKind.i64.wrap (j : Int) = j := by rw [IntKind.wrap_i64]; omega
 have t2 : IntKind.i64.wrap (t : Int) = t := by rw [IntKind.wrap_i64]; omega
 have j1 : (j : Int) < (xs.length : Int) := by omega
 have j0 : (0 : Int) ≤ (j : Int) := by omega
 have q0 : 0 < 2 ^ t := Nat.two_pow_pos t
 obtain ⟨x, hx2⟩ : ∃ x : Nat, gb xs j = x := ⟨(gb xs j).toNat, by omega⟩
 have xb : x ≤ 255 := by omega
 rw [hx2] at c1 ⊢
 rw [Int.toNat_natCast]
 have q2 : 2 ^ t ≤ 128 := Nat.pow_le_pow_right (by omega) (show t ≤ 7 by omega)
 generalize 2 ^ t = q at *
 have r3 : (x : Int).tdiv (q : Int) = ((x / q : Nat) : Int) := by rw [Int.tdiv_eq_ediv_of_nonneg (by omega), Int.natCast_ediv]
 have l3 : x / q ≤ x := Nat.div_le_self _ _
 generalize x / q = y at *
 have r4 : (y : Int).tmod 2 = ((y % 2 : Nat) : Int) := by rw [Int.tmod_eq_emod_of_nonneg (by omega)]; omega
 have r5 : IntKind.i64.wrap (y : Int) = (y : Int) := by rw [IntKind.wrap_i64]; omega
 have zb : y % 2 ≤ 1 := by omega
 generalize y % 2 = z at *
 have r6 : IntKind.i64.wrap (z : Int) = (z : Int) := by rw [IntKind.wrap_i64]; omega
 have r7 : IntKind.i64.wrap (x : Int) = (x : Int) := by rw [IntKind.wrap_i64]; omega
 have qn : (q : Int) ≠ 0 := by omega
 clear hc h6 h4 h5 hx2 hb
 go_enter Try.func86, Try.ntmps86
 go_wp2
 go_quiet ((go_at_call 88; exact Calls.quiet_of_same (S.out _)))
 go_wp2
 go_ret
 exact ⟨ret_bool (by rw [Bool.eq_iff_iff]; simp; omega), _, rfl⟩
theorem rbit_any (vm : Value) (m : List Int) (i : Int) (w : World) (hm : Byt w vm m) (hi : i ≤ 9223372036854775807) :
  Calls Try.prog 87 #[vm, .int .i64 i] w fun e w' => e = .returned (.bool (bo m i)) ∧ ∃ n, w' = w.drewN n := by
 obtain ⟨ao, cap, rfl, h2, h3, h4, h5, h6⟩ := hm
 by_cases h0 : i < 0
 ·have e : bo m i = false := if_pos h0
  rw [e]
  clear h6 h4 h5
  go_enter Try.func87, Try.ntmps87
  go_wp2
  go_ret
  exact ⟨rfl, 0, rfl⟩
 ·obtain ⟨n, rfl⟩ := Int.eq_ofNat_of_zero_le (show 0 ≤ i by omega)
  have e : bo m n = mk m n := by unfold bo; rw [if_neg h0, Int.toNat_natCast]
  rw [e]
  clear e
  by_cases hl : m.length = 0
  ·have e : mk m n = true := by unfold mk; rw [hl]; rfl
   rw [e]
   clear e h6 h4 h5
   generalize hq : m.length = len at *
   subst hl
   go_enter Try.func87, Try.ntmps87
   go_wp2
   go_quiet (fail)
   go_wp2
   go_ret
   exact ⟨rfl, _, rfl⟩
  ·obtain ⟨b, off, rfl, hc⟩ := h6 (by omega)
   have S := hdH (fun w0 => power_any (n % 8) w0 (by omega))
   unfold mk bit
   rw [show (m.length == 0) = false by simpa using hl, Bool.false_or]
   have hb := h4 (n / 8 % m.length)
   have c1 := hc (n / 8 % m.length) (Nat.mod_lt _ (by omega))
   have pl : n / 8 % m.length < m.length := Nat.mod_lt _ (by omega)
   have r0 : ((n / 8 : Nat) : Int).tmod (m.length : Int) = ((n / 8 % m.length : Nat) : Int) := by rw [Int.tmod_eq_emod_of_nonneg (by omega), Int.natCast_emod]
   generalize n / 8 % m.length = p at *
   have r1 : (n : Int).tdiv 8 = ((n / 8 : Nat) : Int) := by rw [Int.tdiv_eq_ediv_of_nonneg (by omega)]; omega
   have r2 : (n : Int).tmod 8 = ((n % 8 : Nat) : Int) := by rw [Int.tmod_eq_emod_of_nonneg (by omega)]; omega
   have tb : n % 8 < 8 := by omega
   have jb : n / 8 ≤ n := by omega
   have n0 : ((n : Nat) : Int) ≥ 0 := by omega
   generalize n % 8 = t at *
   generalize n / 8 = j at *
   have j2 : IntKind.i64.wrap (j : Int) = j := by rw [IntKind.wrap_i64]; omega
   have t2 : IntKind.i64.wrap (t : Int) = t := by rw [IntKind.wrap_i64]; omega
   have p2 : IntKind.i64.wrap (p : Int) = p := by rw [IntKind.wrap_i64]; omega
   have p1 : (p : Int) < (m.length : Int) := by omega
   have p0 : (0 : Int) ≤ (p : Int) := by omega
   have m0 : (m.length : Int) ≠ 0 := by omega
   have m9 : ((m.length : Int) == 0) = false := by simpa using m0
   have q0 : 0 < 2 ^ t := Nat.two_pow_pos t
   obtain ⟨x, hx2⟩ : ∃ x : Nat, gb m p = x := ⟨(gb m p).toNat, by omega⟩
   have xb : x ≤ 255 := by omega
   rw [hx2] at c1 ⊢
   rw [Int.toNat_natCast]
   have q2 : 2 ^ t ≤ 128 := Nat.pow_le_pow_right (by omega) (show t ≤ 7 by omega)
   generalize 2 ^ t = q at *
   have r3 : (x : Int).tdiv (q : Int) = ((x / q : Nat) : Int) := by rw [Int.tdiv_eq_ediv_of_nonneg (by omega), Int.natCast_ediv]
   have l3 : x / q ≤ x := Nat.div_le_self _ _
   generalize x / q = y at *
   have r4 : (y : Int).tmod 2 = ((y % 2 : Nat) : Int) := by rw [Int.tmod_eq_emod_of_nonneg (by omega)]; omega
   have r5 : IntKind.i64.wrap (y : Int) = (y : Int) := by rw [IntKind.wrap_i64]; omega
   have zb : y % 2 ≤ 1 := by omega
   generalize y % 2 = z at *
   have r6 : IntKind.i64.wrap (z : Int) = (z : Int) := by rw [IntKind.wrap_i64]; omega
   have r7 : IntKind.i64.wrap (x : Int) = (x : Int) := by rw [IntKind.wrap_i64]; omega
   have qn : (q : Int) ≠ 0 := by omega
   clear hc h6 h4 h5 hx2 hb
   go_enter Try.func87, Try.ntmps87
   go_wp2
   go_quiet ((go_at_call 88; exact Calls.quiet_of_same (S.out _)))
   go_wp2
   go_ret
   exact ⟨ret_bool (by rw [Bool.eq_iff_iff]; simp; omega), _, rfl⟩
def andl (xs ys : List Int) : List Int := (List.range xs.length).map fun k => (((gb xs k).toNat &&& (gb ys k).toNat : Nat) : Int)
theorem andl_len (xs ys : List Int) : (andl xs ys).length = xs.length := by simp [andl]
theorem andl_gb (xs ys : List Int) (k : Nat) (h : k < xs.length) : gb (andl xs ys) k = (((gb xs k).toNat &&& (gb ys k).toNat : Nat) : Int) := by simp [gb, List.getD, andl, h]
theorem andl_ofb (xs ys : List Int) (hx : AllB xs) : andl xs ys = ofb xs.length fun i => hs xs i && hs ys i := by
 refine ext_gb (by rw [andl_len, ofb_len]) fun k hk => ?_
 rw [andl_len] at hk
 rw [andl_gb xs ys k hk, ofb_gb _ _ k hk, ands_ofb xs ys hx k]
theorem andl_all (xs ys : List Int) (hx : AllB xs) : AllB (andl xs ys) := by rw [andl_ofb xs ys hx]; exact ofb_all _ _
theorem andl_take (xs ys : List Int) (k : Nat) (hk : k < xs.length) : (andl xs ys).take (k + 1) = (andl xs ys).take k ++ [gb (andl xs ys) k] := by
 rw [List.take_succ_eq_append_getElem (by rw [andl_len]; exact hk)]
 simp [gb, List.getD, show k < (andl xs ys).length by rw [andl_len]; exact hk]
def prg (xs ys m : List Int) (fl : Bool) (N i : Nat) : Bool := hs xs i && !(due xs ys i && mk m i && !(fl && (i + 1 == lst xs ys N)))
def upb (F G : Nat → Bool) (k i : Nat) : Bool := if i < k then F i else G i
theorem upb_zero (F G : Nat → Bool) (n : Nat) : ofb n (upb F G 0) = ofb n G := ofb_congr n fun i _ => by unfold upb; rw [if_neg (by omega)]
theorem upb_end (F G : Nat → Bool) (n : Nat) : ofb n (upb F G (8 * n)) = ofb n F := ofb_congr n fun i hi => by unfold upb; rw [if_pos hi]
theorem upb_same (F G : Nat → Bool) (n k : Nat) (h : F k = G k) : ofb n (upb F G (k + 1)) = ofb n (upb F G k) := ofb_congr n fun i _ => by
 unfold upb
 by_cases h1 : i < k
 ·rw [if_pos h1, if_pos (by omega)]
 ·rw [if_neg h1]
  by_cases h2 : i = k
  ·subst h2; rw [if_pos (by omega), h]
  ·rw [if_neg (by omega)]
theorem upb_at (F G : Nat → Bool) (k : Nat) : upb F G k k = G k ∧ upb F G (k + 1) k = F k ∧ ∀ i, i ≠ k → upb F G k i = upb F G (k + 1) i := by
 unfold upb
 refine ⟨by rw [if_neg (by omega)], by rw [if_pos (by omega)], fun i hi => ?_⟩
 by_cases h1 : i < k
 ·rw [if_pos h1, if_pos (by omega)]
 ·rw [if_neg h1, if_neg (by omega)]
theorem bo_nat (m : List Int) (k : Nat) : bo m (k : Int) = mk m k := by unfold bo; rw [if_neg (by omega), Int.toNat_natCast]
theorem lst_succ (xs ys : List Int) (k : Nat) : lst xs ys (k + 1) = if due xs ys k then k + 1 else lst xs ys k := rfl
theorem mb_bit (m : List Int) (k t : Nat) (ht : t < 8) : bit (mb m k).toNat t = mk m (8 * k + t) := by
 rw [mb_mk, show (8 * k + t) / 8 = k by omega, show (8 * k + t) % 8 = t by omega]
theorem pgl_ofb (xs ys : List Int) (D : Nat → Int) (c : Nat → Bool) (hx : AllB xs) (hy : AllB ys) (hc : ∀ k t, k < xs.length → t < 8 → c (8 * k + t) = (hs xs (8 * k + t) && !(due xs ys (8 * k + t) && bit (D k).toNat t))) : pgl xs ys D = ofb xs.length c := by
 refine ext_gb (by rw [pgl_len, ofb_len]) fun k hk => ?_
 rw [pgl_len] at hk
 have b1 := hx k
 have b2 := tc_bd xs ys hx k
 have l1 : (tc xs ys k).toNat &&& (D k).toNat ≤ (tc xs ys k).toNat := Nat.and_le_left
 have l2 : (gb xs k).toNat &&& (255 - ((tc xs ys k).toNat &&& (D k).toNat)) ≤ (gb xs k).toNat := Nat.and_le_left
 rw [pgl_gb xs ys D k hk, ofb_gb _ _ k hk]
 have := byte_bits ((gb xs k).toNat &&& (255 - ((tc xs ys k).toNat &&& (D k).toNat))) (by omega) c k fun t ht => by
  rw [hc k t hk ht, bit_and, bit_not _ (by omega) t ht, bit_and, tc_bit xs ys hy k t ht, hs_at xs k t ht]
 rw [this]
theorem pgl_torn (xs ys m : List Int) (hx : AllB xs) (hy : AllB ys) : pgl xs ys (mb m) = ofb xs.length (torn xs ys m) :=
 pgl_ofb xs ys _ _ hx hy fun k t _ ht => by rw [mb_bit m k t ht]; rfl
theorem pgl_failed (xs ys m : List Int) (p z : Nat) (hx : AllB xs) (hy : AllB ys) (h : IsL xs ys p z) : pgl xs ys (dn m p z) = ofb xs.length (failed xs ys m (8 * xs.length)) :=
 pgl_ofb xs ys _ _ hx hy fun k t _ ht => by
  have key : bit (dn m p z k).toNat t = (mk m (8 * k + t) && !(8 * k + t + 1 == lst xs ys (8 * xs.length))) := by
   unfold dn
   rcases h with ⟨rfl, rfl, hl⟩ | ⟨t0, ht0, hp, rfl, hl⟩
   ·rw [hl]
    by_cases e : k = 0
    ·rw [if_pos e, Int.toNat_natCast, bit_and, bit_not 0 (by omega) t ht, bit_zero, mb_bit m k t ht]; simp
    ·rw [if_neg e, mb_bit m k t ht]; simp
   ·rw [hl]
    have l2 : 2 ^ t0 ≤ 128 := Nat.pow_le_pow_right (by omega) (show t0 ≤ 7 by omega)
    by_cases e : k = p
    ·subst e
     rw [if_pos rfl, Int.toNat_natCast, bit_and, bit_not _ (by omega) t ht, bit_pow t0 ht0 t ht, mb_bit m k t ht]
     congr 2
     rw [Bool.eq_iff_iff]
     simp
    ·rw [if_neg e, mb_bit m k t ht, show (8 * k + t + 1 == 8 * p + t0 + 1) = false by simp; omega]; simp
  rw [key]
  unfold failed
  cases hs xs (8 * k + t) <;> cases due xs ys (8 * k + t) <;> cases mk m (8 * k + t) <;> simp
theorem stl_erased (xs m : List Int) (hx : AllB xs) (hm : AllB m) : stl xs (mb m) = ofb xs.length (erased xs m) := by
 refine ext_gb (by rw [stl_len, ofb_len]) fun k hk => ?_
 rw [stl_len] at hk
 have b1 := hx k
 have b2 := mb_bd hm k
 have l := Nat.or_lt_two_pow (n := 8) (show (gb xs k).toNat < 2 ^ 8 by omega) (show (mb m k).toNat < 2 ^ 8 by omega)
 rw [stl_gb xs _ k hk, ofb_gb _ _ k hk]
 have := byte_bits ((gb xs k).toNat ||| (mb m k).toNat) (by omega) (erased xs m) k fun t ht => by
  rw [bit_or, mb_bit m k t ht]
  unfold erased
  rw [hs_at xs k t ht]
 rw [this]
theorem prg_torn (xs ys m : List Int) (N n : Nat) : ofb n (prg xs ys m false N) = ofb n (torn xs ys m) := ofb_congr n fun i _ => by unfold prg torn; simp
theorem prg_failed (xs ys m : List Int) (N n : Nat) : ofb n (prg xs ys m true N) = ofb n (failed xs ys m N) := ofb_congr n fun i _ => by unfold prg failed; simp
end Go.Proofs.Ytikcohjhhoiakaa.fa
