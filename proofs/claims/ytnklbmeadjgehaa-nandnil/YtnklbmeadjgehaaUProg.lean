/- What fault's toClear and programmed answer. No claim of its own. -/
import Derived.Test.YtnklbmeadjgehaaUHas
import Derived.Test.YtnklbmeadjgehaaUOwn
namespace Go.Proofs.Ytnklbmeadjgehaa.fa
open Go.RowKit
set_option maxRecDepth 20000

/-- the bits of byte i that a program is to clear -/
def tc (xs ys : List Int) (i : Nat) : Int := (((gb xs i).toNat &&& (255 - (gb ys i).toNat) : Nat) : Int)
theorem tc_bd (xs ys : List Int) (hx : AllB xs) (i : Nat) : 0 ≤ tc xs ys i ∧ tc xs ys i ≤ 255 := by
  have := hx i
  unfold tc
  have h : (gb xs i).toNat &&& (255 - (gb ys i).toNat) ≤ (gb xs i).toNat := Nat.and_le_left
  omega

set_option maxHeartbeats 1000000 in
theorem toClear_any (va vb : Value) (xs ys : List Int) (i : Nat) (w : World) (ha : Byt w va xs) (hb : Byt w vb ys) (hl : xs.length = ys.length) (hi : i < xs.length) :
    Calls Try.prog 96 #[va, vb, .int .i64 i] w fun e w' => e = .returned (.int .u8 (tc xs ys i)) ∧ ∃ n, w' = w.drewN n := by
  have a1 := ha.all i
  have a2 := hb.all i
  obtain ⟨ao, ca, rfl, ha1, ha2, -, -, ha5⟩ := ha
  obtain ⟨bo, cb, rfl, hb1, hb2, -, -, hb5⟩ := hb
  obtain ⟨b, off, rfl, hca⟩ := ha5 (by omega)
  obtain ⟨b', off', rfl, hcb⟩ := hb5 (by omega)
  have c1 := hca i hi
  have c2 := hcb i (by omega)
  have i0 : (0 : Int) ≤ (i : Int) := by omega
  have i1 : (i : Int) < (xs.length : Int) := by omega
  have i2 : (i : Int) < (ys.length : Int) := by omega
  have e : bits .andNot .u8 (gb xs i) (gb ys i) = tc xs ys i := u8_andNot _ _ a1.1 (by omega) a2.1 (by omega)
  generalize tc xs ys i = z at *
  generalize gb xs i = x at *
  generalize gb ys i = y at *
  clear hca hcb ha5 hb5 a1 a2 hl
  go_enter Try.func96, Try.ntmps96
  go_wp2
  go_quiet (fail)
  go_wp2
  go_ret
  exact ⟨rfl, _, rfl⟩

/-- the function v tells D of the first n bytes, now and later -/
def Tells (w : World) (v : Value) (D : Nat → Int) (n : Nat) : Prop := ∃ K caps, v = .func (.func K) #[] caps ∧ (∀ (q : Array Value) (w : World), (callFunc K q).run Try.prog w = .ok (.enter K q) w) ∧ (∀ i, 0 ≤ D i ∧ D i ≤ 255) ∧
  ∀ w', Below w.heap.size w w' → ∀ i, i < n → Calls Try.prog K (#[.int .i64 i] ++ caps) w' fun e w'' => e = .returned (.int .u8 (D i)) ∧ ∃ m, w'' = w'.drewN m

/-- what is there behind a program of which D tells what is done -/
def pgl (xs ys : List Int) (D : Nat → Int) : List Int := (List.range xs.length).map fun k => (((gb xs k).toNat &&& (255 - ((tc xs ys k).toNat &&& (D k).toNat)) : Nat) : Int)
theorem pgl_len (xs ys : List Int) (D : Nat → Int) : (pgl xs ys D).length = xs.length := by simp [pgl]
theorem pgl_gb (xs ys : List Int) (D : Nat → Int) (k : Nat) (h : k < xs.length) : gb (pgl xs ys D) k = (((gb xs k).toNat &&& (255 - ((tc xs ys k).toNat &&& (D k).toNat)) : Nat) : Int) := by simp [gb, List.getD, pgl, h]
theorem pgl_all (xs ys : List Int) (D : Nat → Int) (hx : AllB xs) : AllB (pgl xs ys D) := allB_mem fun z hz => by
  obtain ⟨k, hk, rfl⟩ := List.mem_map.1 hz
  have := hx k
  have h : (gb xs k).toNat &&& (255 - ((tc xs ys k).toNat &&& (D k).toNat)) ≤ (gb xs k).toNat := Nat.and_le_left
  omega
/-- zs, filled as far as place k -/
def prt (zs : List Int) (k : Nat) : List Int := zs.take k ++ List.replicate (zs.length - k) 0
theorem prt_zero (zs : List Int) : prt zs 0 = List.replicate zs.length 0 := by simp [prt]
theorem prt_end (zs : List Int) : prt zs zs.length = zs := by simp [prt]
theorem prt_set (zs : List Int) (k : Nat) (h : k < zs.length) : (prt zs k).set k (gb zs k) = prt zs (k + 1) := by
  unfold prt
  obtain ⟨d, hd⟩ : ∃ d, zs.length - k = d + 1 := ⟨zs.length - k - 1, by omega⟩
  have e : zs.length - (k + 1) = d := by omega
  have hm : min k zs.length = k := by omega
  rw [hd, e, List.set_append_right _ _ (by simp; omega), List.take_succ_eq_append_getElem h, List.append_assoc]
  simp only [List.length_take, hm, Nat.sub_self, List.replicate_succ, List.set_cons_zero, gb, List.getD, List.getElem?_eq_getElem h, Option.getD_some, List.cons_append, List.nil_append]

set_option maxHeartbeats 2000000 in
theorem prog_any (va vb vd : Value) (xs ys : List Int) (D : Nat → Int) (w : World) (ha : Byt w va xs) (hb : Byt w vb ys) (hl : xs.length = ys.length) (hmax : xs.length ≤ 1048576) (hD : Tells w vd D xs.length) :
    Calls Try.prog 93 #[va, vb, vd] w fun e w' => ∃ v, e = .returned v ∧ Byt w' v (pgl xs ys D) ∧ Below w.heap.size w w' := by
  obtain ⟨K, caps, rfl, hcf, hDb, hDc⟩ := hD
  have HA : Hid (Byt w va xs) := ha
  have HB : Hid (Byt w vb ys) := hb
  obtain ⟨ao, ca, rfl, ha1, ha2, ha3, -, ha5⟩ := ha
  have HA5 : Hid (0 < xs.length → ∃ b off, ao = some ⟨b, off, none⟩ ∧ ∀ t, t < xs.length → w.cell? ⟨b, off + t, none⟩ = some (.int .u8 (gb xs t))) := ha5
  have HL : Hid (xs.length = ys.length) := hl
  have HDB : Hid (∀ i, 0 ≤ D i ∧ D i ≤ 255) := hDb
  have HDC : Hid (∀ w', Below w.heap.size w w' → ∀ i, i < xs.length → Calls Try.prog K (#[.int .i64 i] ++ caps) w' fun e w'' => e = .returned (.int .u8 (D i)) ∧ ∃ m, w'' = w'.drewN m) := hDc
  clear ha5 ha3 hb hl hDb hDc
  have HZ : Hid ((pgl xs ys D).length = xs.length) := pgl_len xs ys D
  go_enter Try.func93, Try.ntmps93
  go_wp2_with (at_make; refine make_law _ rfl (.tmp 10) (.tmp 10) rfl w.heap.size (Nat.le_refl _) _ xs.length rfl rfl rfl (by omega) ?_; intro w1 hown hbel hlt)
  go_loopw [14] (fun i wr => ∃ k : Nat, k ≤ xs.length ∧ i = .int .i64 k ∧ OwnN w.heap.size wr w.heap.size xs.length (prt (pgl xs ys D) k) ∧ Below w.heap.size w wr) (fun i _ => xs.length - (intOf i).toNat)
  case atStart => exact ⟨0, Nat.zero_le _, rfl, by rw [prt_zero, HZ.out]; exact hown, hbel⟩
  case round =>
    clear hown hbel
    obtain ⟨k, hk, rfl, hown, hbel⟩ := hrel
    by_cases hlt' : k < xs.length
    · obtain ⟨b, off, rfl, hca⟩ := HA5.out (by omega)
      have n1 := World.block_lt_of_cell? w _ (hca k hlt')
      have c1 : wr.cell? ⟨b, off + k, none⟩ = some (.int .u8 (gb xs k)) := (hbel.cell n1).trans (hca k hlt')
      have lk : (k : Int) < (xs.length : Int) := by omega
      have lk0 : (0 : Int) ≤ (k : Int) := by omega
      have S1 : Hid (∀ n, Calls Try.prog 96 #[.slice (some ⟨b, off, none⟩) xs.length ca, vb, .int .i64 k] (wr.drewN n) fun e w' => e = .returned (.int .u8 (tc xs ys k)) ∧ ∃ m, w' = (wr.drewN n).drewN m) := fun n => toClear_any _ _ xs ys k _ (byt_drawn (HA.out.below hbel) n) (byt_drawn (HB.out.below hbel) n) HL.out hlt'
      have S2 : Hid (∀ n, Calls Try.prog K (#[.int .i64 k] ++ caps) (wr.drewN n) fun e w' => e = .returned (.int .u8 (D k)) ∧ ∃ m, w' = (wr.drewN n).drewN m) := fun n => HDC.out _ (below_drawn hbel n) k hlt'
      have HX : Hid (bits .andNot .u8 (gb xs k) (bits .and .u8 (tc xs ys k) (D k)) = gb (pgl xs ys D) k) := by
        show _ = _
        have b1 := HA.out.all k
        have b2 := tc_bd xs ys HA.out.all k
        have b3 := HDB.out k
        rw [pgl_gb xs ys D k hlt', u8_and _ _ b2.1 (by omega) b3.1 (by omega)]
        have h : (tc xs ys k).toNat &&& (D k).toNat ≤ (tc xs ys k).toNat := Nat.and_le_left
        rw [u8_andNot _ _ b1.1 (by omega) (by omega) (by omega), Int.toNat_natCast]
      have HO : Hid (OwnN w.heap.size wr w.heap.size xs.length (prt (pgl xs ys D) k)) := hown
      have HBL : Hid (Below w.heap.size w wr) := hbel
      clear hca hown hbel
      go_wp2
      refine wp_region_any (by kernel_rfl) ?_
      change wpAny _ _ _ _ _ _ _ (World.drew _)
      refine wpAny_quiet_then (C := fun w' => ∃ n, w' = wr.drewN n) 0 16 1 _ (by kernel_rfl) rfl (by kernel_rfl) (by kernel_rfl) ⟨1, rfl⟩ ?_
      simp only [List.take_succ_cons, List.take_zero, List.drop_zero]
      repeat (quiet_step (first
        | with_reducible exact Calls.quiet_of (S1.out _)
        | with_reducible exact Calls.quiet_of (S2.out _)))
      refine wpQuiet_nil ?_
      rintro f _ ⟨nq, rfl⟩
      have O1 : OwnN w.heap.size (wr.drewN nq) w.heap.size xs.length (prt (pgl xs ys D) k) := HO.out.drew nq
      have HS := O1.set k (gb (pgl xs ys D) k)
      rw [prt_set _ k (by rw [HZ.out]; exact hlt')] at HS
      have B2 : Below w.heap.size w ((wr.drewN nq).setCell ⟨w.heap.size, k, none⟩ (.int .u8 (gb (pgl xs ys D) k))) := (below_drawn HBL.out nq).setCell (Nat.le_refl _) _
      refine wpAny_ready (rs := [16]) (by kernel_rfl) (by simp) ?_
      refine AllReady.cons rfl (fun K hK => ?_) AllReady.nil
      refine step_set _ rfl none rfl (.tmp 32) (.tmp 31) 5 rfl .u8 (gb (pgl xs ys D) k) w.heap.size k rfl (by rw [← HX.out]; rfl) (by rw [O1.cell hlt']; rfl) (O1.free k) i_u8 (hK _ _ ?_)
      simp only [Act.put]
      clear O1 c1
      generalize (wr.drewN nq).setCell ⟨w.heap.size, k, none⟩ (.int .u8 (gb (pgl xs ys D) k)) = w6 at *
      refine wpAny_done (by kernel_rfl) ?_ _
      go_wp2
      go_roundw
      case rel => exact ⟨k + 1, by omega, by go_num, HS, B2⟩
      case measure => simp [intOf]; omega
    · have hks : k = xs.length := by omega
      subst hks
      have hown2 : OwnN w.heap.size wr w.heap.size xs.length (pgl xs ys D) := by
        have := hown; rw [← HZ.out, prt_end, HZ.out] at this; exact this
      go_wp2
      go_ret
      exact ⟨_, rfl, hown2.byt (pgl_all _ _ _ HA.out.all), hbel⟩
end Go.Proofs.Ytnklbmeadjgehaa.fa
