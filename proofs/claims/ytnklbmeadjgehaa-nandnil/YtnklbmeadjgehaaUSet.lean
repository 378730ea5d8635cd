/- What fault's Set and Clear answer. No claim of its own. -/
import Derived.Test.YtnklbmeadjgehaaUProg
namespace Go.Proofs.Ytnklbmeadjgehaa.fa
open Go.RowKit
set_option maxRecDepth 20000

theorem say_tells {w : World} {c : Nat} {m : List Int} (h : Say w c m) (hm : AllB m) (n : Nat) (hn : n ≤ 9223372036854775807) : Tells w (.func (.func 95) #[] #[.pointer (some ⟨c, 0, none⟩)]) (mb m) n :=
  ⟨95, #[.pointer (some ⟨c, 0, none⟩)], rfl, fun _ _ => rfl, mb_bd hm, fun _ hb i hi => said_any c m i _ (h.below hb) (by omega)⟩

/-- what is there behind an erase of which D tells what is done -/
def stl (xs : List Int) (D : Nat → Int) : List Int := (List.range xs.length).map fun k => (((gb xs k).toNat ||| (D k).toNat : Nat) : Int)
theorem stl_len (xs : List Int) (D : Nat → Int) : (stl xs D).length = xs.length := by simp [stl]
theorem stl_gb (xs : List Int) (D : Nat → Int) (k : Nat) (h : k < xs.length) : gb (stl xs D) k = (((gb xs k).toNat ||| (D k).toNat : Nat) : Int) := by simp [gb, List.getD, stl, h]
theorem stl_all (xs : List Int) (D : Nat → Int) (hx : AllB xs) (hD : ∀ i, 0 ≤ D i ∧ D i ≤ 255) : AllB (stl xs D) := allB_mem fun z hz => by
  obtain ⟨k, hk, rfl⟩ := List.mem_map.1 hz
  have := hx k
  have := hD k
  have h := Nat.or_lt_two_pow (n := 8) (show (gb xs k).toNat < 2 ^ 8 by omega) (show (D k).toNat < 2 ^ 8 by omega)
  omega

set_option maxHeartbeats 2000000 in
theorem fset_any (va vm : Value) (xs m : List Int) (w : World) (ha : Byt w va xs) (hm : Byt w vm m) (hmax : xs.length ≤ 1048576) :
    Calls Try.prog 79 #[va, vm] w fun e w' => ∃ v, e = .returned v ∧ Byt w' v (stl xs (mb m)) ∧ Below w.heap.size w w' := by
  have HA : Hid (Byt w va xs) := ha
  have SB : Hid (Calls Try.prog 90 #[vm] w fun e w' => e = .returned (.func (.func 95) #[] #[.pointer (some ⟨w.heap.size, 0, none⟩)]) ∧ Say w' w.heap.size m ∧ Below w.heap.size w w') := bitsOf_any vm m w hm
  have HMB : Hid (∀ i, 0 ≤ mb m i ∧ mb m i ≤ 255) := fun i => mb_bd hm.all i
  obtain ⟨ao, ca, rfl, ha1, ha2, ha3, -, ha5⟩ := ha
  have HA5 : Hid (0 < xs.length → ∃ b off, ao = some ⟨b, off, none⟩ ∧ ∀ t, t < xs.length → w.cell? ⟨b, off + t, none⟩ = some (.int .u8 (gb xs t))) := ha5
  clear ha5 ha3 hm
  have HZ : Hid ((stl xs (mb m)).length = xs.length) := stl_len xs (mb m)
  go_enter Try.func79, Try.ntmps79
  go_wp2_with (first
    | (go_at_call 90; refine SB.out.mono ?_; rintro e w0 ⟨rfl, y0, B0⟩; have Y0 : Hid (Say w0 w.heap.size m) := y0; clear y0; have l0 := Y0.out.lt)
    | (at_make; refine make_law _ rfl (.tmp 11) (.tmp 11) rfl w0.heap.size (Nat.le_refl _) _ xs.length rfl rfl rfl (by omega) ?_; intro w1 hown hbel hlt))
  go_loopw [15] (fun i wr => ∃ k : Nat, k ≤ xs.length ∧ i = .int .i64 k ∧ OwnN w0.heap.size wr w0.heap.size xs.length (prt (stl xs (mb m)) k) ∧ Below w0.heap.size w0 wr) (fun i _ => xs.length - (intOf i).toNat)
  case atStart => exact ⟨0, Nat.zero_le _, rfl, by rw [prt_zero, HZ.out]; exact hown, hbel⟩
  case round =>
    clear hown hbel
    obtain ⟨k, hk, rfl, hown, hbel⟩ := hrel
    by_cases hlt' : k < xs.length
    · obtain ⟨b, off, rfl, hca⟩ := HA5.out (by omega)
      have n1 : b < w.heap.size := World.block_lt_of_cell? w _ (hca k hlt')
      have c1 : wr.cell? ⟨b, off + k, none⟩ = some (.int .u8 (gb xs k)) := (hbel.cell (show b < w0.heap.size by omega)).trans ((B0.cell n1).trans (hca k hlt'))
      have lk : (k : Int) < (xs.length : Int) := by omega
      have lk0 : (0 : Int) ≤ (k : Int) := by omega
      have S2 : Hid (∀ n, Calls Try.prog 95 #[.int .i64 k, .pointer (some ⟨w.heap.size, 0, none⟩)] (wr.drewN n) fun e w' => e = .returned (.int .u8 (mb m k)) ∧ ∃ m, w' = (wr.drewN n).drewN m) := fun n => said_any _ m k _ (Y0.out.below (below_drawn hbel n)) (by omega)
      have HX : Hid (bits .or .u8 (gb xs k) (mb m k) = gb (stl xs (mb m)) k) := by
        show _ = _
        have b1 := HA.out.all k
        have b3 := HMB.out k
        rw [stl_gb xs (mb m) k hlt', u8_or _ _ b1.1 (by omega) b3.1 (by omega)]
      have HO : Hid (OwnN w0.heap.size wr w0.heap.size xs.length (prt (stl xs (mb m)) k)) := hown
      have HBL : Hid (Below w0.heap.size w0 wr) := hbel
      clear hca hown hbel
      go_wp2
      refine wp_region_any (by kernel_rfl) ?_
      change wpAny _ _ _ _ _ _ _ (World.drew _)
      refine wpAny_quiet_then (C := fun w' => ∃ n, w' = wr.drewN n) 0 11 1 _ (by kernel_rfl) rfl (by kernel_rfl) (by kernel_rfl) ⟨1, rfl⟩ ?_
      simp only [List.take_succ_cons, List.take_zero, List.drop_zero]
      repeat (quiet_step (with_reducible exact Calls.quiet_of (S2.out _)))
      refine wpQuiet_nil ?_
      rintro f _ ⟨nq, rfl⟩
      have O1 : OwnN w0.heap.size (wr.drewN nq) w0.heap.size xs.length (prt (stl xs (mb m)) k) := HO.out.drew nq
      have HS := O1.set k (gb (stl xs (mb m)) k)
      rw [prt_set _ k (by rw [HZ.out]; exact hlt')] at HS
      have B2 : Below w0.heap.size w0 ((wr.drewN nq).setCell ⟨w0.heap.size, k, none⟩ (.int .u8 (gb (stl xs (mb m)) k))) := (below_drawn HBL.out nq).setCell (Nat.le_refl _) _
      refine wpAny_ready (rs := [11]) (by kernel_rfl) (by simp) ?_
      refine AllReady.cons rfl (fun K hK => ?_) AllReady.nil
      refine step_set _ rfl none rfl (.tmp 28) (.tmp 27) 5 rfl .u8 (gb (stl xs (mb m)) k) w0.heap.size k rfl (by rw [← HX.out]; rfl) (by rw [O1.cell hlt']; rfl) (O1.free k) i_u8 (hK _ _ ?_)
      simp only [Act.put]
      clear O1 c1
      generalize (wr.drewN nq).setCell ⟨w0.heap.size, k, none⟩ (.int .u8 (gb (stl xs (mb m)) k)) = w6 at *
      refine wpAny_done (by kernel_rfl) ?_ _
      go_wp2
      go_roundw
      case rel => exact ⟨k + 1, by omega, by go_num, HS, B2⟩
      case measure => simp [intOf]; omega
    · have hks : k = xs.length := by omega
      subst hks
      have hown2 : OwnN w0.heap.size wr w0.heap.size xs.length (stl xs (mb m)) := by
        have := hown; rw [← HZ.out, prt_end, HZ.out] at this; exact this
      go_wp2
      go_ret
      exact ⟨_, rfl, hown2.byt (stl_all _ _ HA.out.all HMB.out), B0.trans (hbel.mono (by omega))⟩

set_option maxHeartbeats 2000000 in
theorem clear_any (va vb vm : Value) (xs ys m : List Int) (w : World) (ha : Byt w va xs) (hb : Byt w vb ys) (hm : Byt w vm m) (hl : xs.length = ys.length) (hmax : xs.length ≤ 1048576) :
    Calls Try.prog 89 #[va, vb, vm] w fun e w' => ∃ v, e = .returned (.tuple #[v, .int .i64 0]) ∧ Byt w' v (pgl xs ys (mb m)) ∧ Below w.heap.size w w' := by
  have SB : Hid (Calls Try.prog 90 #[vm] w fun e w' => e = .returned (.func (.func 95) #[] #[.pointer (some ⟨w.heap.size, 0, none⟩)]) ∧ Say w' w.heap.size m ∧ Below w.heap.size w w') := bitsOf_any vm m w hm
  have SP : Hid (∀ w1 c, Say w1 c m → Below w.heap.size w w1 → Calls Try.prog 93 #[va, vb, .func (.func 95) #[] #[.pointer (some ⟨c, 0, none⟩)]] w1 fun e w' => ∃ v, e = .returned v ∧ Byt w' v (pgl xs ys (mb m)) ∧ Below w1.heap.size w1 w') := fun w1 c h1 h2 => prog_any va vb _ xs ys (mb m) w1 (ha.below h2) (hb.below h2) hl hmax (say_tells h1 hm.all _ (by omega))
  obtain ⟨ao, ca, rfl, ha1, ha2, -⟩ := ha
  obtain ⟨bo, cb, rfl, hb1, hb2, -⟩ := hb
  rw [← hl] at hb1 SP ⊢
  generalize pgl xs ys (mb m) = zs at *
  clear hl hm
  go_enter Try.func89, Try.ntmps89
  go_wp2_with (first
    | (go_at_call 93; refine (SP.out _ _ Y0.out B0).mono ?_; rintro e w1 ⟨v1, rfl, y1, B1⟩; have Y1 : Hid (Byt w1 v1 zs) := y1; clear y1)
    | (go_at_call 90; refine SB.out.mono ?_; rintro e w0 ⟨rfl, y0, B0⟩; have Y0 : Hid (Say w0 w.heap.size m) := y0; clear y0))
  go_ret2
  exact ⟨_, rfl, Y1.out, B0.trans (B1.mono B0.size)⟩

set_option maxHeartbeats 2000000 in
theorem clear_no (va vb vm : Value) (xs ys : List Int) (w : World) (ha : Byt w va xs) (hb : Byt w vb ys) (hl : xs.length ≠ ys.length) :
    Calls Try.prog 89 #[va, vb, vm] w fun e w' => e = .returned (.tuple #[.slice none 0 0, .int .i64 2]) ∧ w' = w := by
  obtain ⟨ao, ca, rfl, ha1, ha2, -⟩ := ha
  obtain ⟨bo, cb, rfl, hb1, hb2, -⟩ := hb
  have h2 : ((xs.length : Int) != (ys.length : Int)) = true := by simp; omega
  go_enter Try.func89, Try.ntmps89
  go_wp2
  go_ret2
  exact ⟨rfl, rfl⟩
end Go.Proofs.Ytnklbmeadjgehaa.fa
