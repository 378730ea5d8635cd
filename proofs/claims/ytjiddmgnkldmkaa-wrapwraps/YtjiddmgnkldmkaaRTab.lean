/- What the reference's Table, Turned and put answer. No claim of its own. -/
import Derived.Test.YtjiddmgnkldmkaaAShf
import Derived.Test.YtjiddmgnkldmkaaSRef
import Derived.Test.YtjiddmgnkldmkaaNum
namespace Go.Proofs.Ytjiddmgnkldmkaa
open Go.RowKit

set_option maxRecDepth 20000 in
set_option maxHeartbeats 2000000 in
theorem rtable_any (w : World) :
    Calls Try.prog 12 #[] w fun e w' => ∃ v, e = .returned v ∧ Byt w' v ptab ∧ Below w.heap.size w w' := by
  have HG : Hid (∀ a, a < 256 → gb ptab a = (sb a : Int)) := gb_p
  have HL : Hid (ptab.length = 256) := ptab_len
  have HA : Hid (AllB ptab) := pAll
  have HS : Hid (∀ k, k < 256 → ptab.take (k + 1) = ptab.take k ++ [(sb k : Int)]) := fun k hk => by
    rw [take_snoc_gb ptab k (by rw [ptab_len]; exact hk), gb_p k hk]
  generalize ptab = tb at *
  go_enter Try.func12, Try.ntmps12
  go_wp2
  go_loopw [1, 2] (fun v i wr => ∃ k : Nat, k ≤ 256 ∧ i = .int .i64 k ∧ Own w.heap.size wr v (tb.take k) ∧ Below w.heap.size w wr) (fun _ i _ => 256 - (intOf i).toNat)
  case atStart => exact ⟨0, Nat.zero_le _, rfl, Own.empty w (Nat.le_refl _), (Below.refl _ _).alloc (Nat.le_refl _) _⟩
  case round =>
    obtain ⟨k, hk, rfl, hown, hbel⟩ := hrel
    have hsz := hbel.size
    have k0 : (0 : Int) ≤ (k : Int) := by omega
    by_cases hlt : k < 256
    · have k1 : (k : Int) < 256 := by omega
      have uw : IntKind.u8.wrap (k : Int) = (k : Int) := by rw [IntKind.wrap_u8']; omega
      have R1 : Hid (∀ w0, Calls Try.prog 24 #[.int .u8 k] w0 fun e w' => e = .returned (.int .u8 (sb k)) ∧ w' = w0) := fun w0 => rsub_any k w0 hlt
      have SN : Hid (tb.take (k + 1) = tb.take k ++ [(sb k : Int)]) := HS.out k hlt
      have LN : Hid ((tb.take k).length ≤ 1099511627776) := by show _ ≤ _; rw [List.length_take, HL.out]; omega
      have HO : Hid (Own w.heap.size wr u1 (tb.take k)) := hown
      clear hown
      generalize sb k = y at *
      go_wp2_with (first
        | (go_at_call 24; refine (R1.out _).mono ?_; rintro e w2 ⟨rfl, hw⟩; obtain rfl := hw.symm)
        | (at_builtin; refine push_law wr rfl (.tmp 8) (.tmp 12) rfl w.heap.size (by omega) _ _ (y : Int) rfl rfl HO.out LN.out ?_; intro v' w1 hown' hbel'))
      rw [← SN.out] at hown'
      go_roundw
      case rel => exact ⟨k + 1, by omega, by go_num, hown', hbel.trans hbel'⟩
      case measure => simp [intOf]; omega
    · have hk256 : k = 256 := by omega
      subst hk256
      rw [List.take_of_length_le (by rw [HL.out]; omega)] at hown
      go_wp2
      go_ret
      exact ⟨_, rfl, hown.byt HA.out, hbel⟩

/-- as far as the first k bytes are put back -/
def prb (k : Nat) : List Int := (List.range 256).map fun t => if sk t < k then (sk t : Int) else 0
theorem prb_len (k : Nat) : (prb k).length = 256 := by simp [prb]
theorem gb_prb (k t : Nat) (h : t < 256) : gb (prb k) t = if sk t < k then (sk t : Int) else 0 := range_gb _ _ _ h
theorem prb_zero : prb 0 = List.replicate 256 0 := ext_gb (by rw [prb_len, List.length_replicate]) fun t ht => by
  rw [prb_len] at ht
  rw [gb_prb _ _ ht, if_neg (by omega)]
  unfold gb
  rw [List.getD_eq_getElem?_getD, List.getElem?_replicate, if_pos ht]; rfl
theorem prb_end : prb 256 = btab := ext_gb (by rw [prb_len, btab_len]) fun t ht => by
  rw [prb_len] at ht
  rw [gb_prb _ _ ht, if_pos (sk_lt t ht), gb_b t ht]
theorem prb_set (k : Nat) (h : k < 256) : (prb k).set (sb k) (k : Int) = prb (k + 1) := ext_gb (by simp [prb]) fun t ht => by
  rw [List.length_set, prb_len] at ht
  rw [gb_set _ _ _ _ (by rw [prb_len]; exact ht), gb_prb _ _ ht, gb_prb _ _ ht]
  by_cases e : sb k = t
  · have : sk t = k := by rw [← e, sk_sb k h]
    rw [if_pos e, this, if_pos (by omega)]
  · rw [if_neg e]
    have : sk t ≠ k := fun h' => e (by rw [← h', sb_sk t ht])
    by_cases h1 : sk t < k
    · rw [if_pos h1, if_pos (by omega)]
    · rw [if_neg h1, if_neg (by omega)]

set_option maxRecDepth 20000 in
set_option maxHeartbeats 2000000 in
theorem rturnedT_any (v : Value) (w : World) (hv : Byt w v ptab) :
    Calls Try.prog 48 #[v] w fun e w' => ∃ v', e = .returned v' ∧ Byt w' v' btab ∧ Below w.heap.size w w' := by
  obtain ⟨ao, ca, rfl, ha1, ha2, ha3, -, ha5⟩ := hv
  rw [ptab_len] at ha1 ha5 ⊢
  obtain ⟨bb, bo, rfl, hcell⟩ := ha5 (by omega)
  have HC : Hid (∀ t, t < 256 → w.cell? ⟨bb, bo + t, none⟩ = some (.int .u8 (sb t : Int))) := fun t ht => by
    rw [hcell t ht, gb_p t ht]
  have hbw : bb < w.heap.size := World.block_lt_of_cell? w _ (hcell 0 (by omega))
  have HE : Hid (prb 256 = btab) := prb_end
  have HA : Hid (AllB btab ∧ btab.length = 256) := ⟨bAll, btab_len⟩
  generalize btab = tb at *
  clear hcell ha5 ha3
  go_enter Try.func48, Try.ntmps48
  go_wp2_with (at_make; refine make_law _ rfl _ _ rfl w.heap.size (Nat.le_refl _) 256 256 rfl rfl rfl (by omega) ?_; intro w1 hown B1 s1; have HO1 : Hid (Ar w1 w.heap.size 0 .u8 (List.replicate 256 0)) := hown.arG; clear hown)
  generalize hg0 : w.heap.size = g0 at *
  go_loopw [4] (fun i wr => ∃ k : Nat, k ≤ 256 ∧ i = .int .i64 k ∧ Ar wr g0 0 .u8 (prb k) ∧ Below g0 w wr) (fun i _ => 256 - (intOf i).toNat)
  case atStart => exact ⟨0, Nat.zero_le _, rfl, by rw [prb_zero]; exact HO1.out, B1⟩
  case round =>
    obtain ⟨k, hk, rfl, hA, hB⟩ := hrel
    have k0 : (0 : Int) ≤ (k : Int) := by omega
    by_cases hlt : k < 256
    · have k1 : (k : Int) < 256 := by omega
      have u1 : IntKind.u8.wrap (k : Int) = (k : Int) := by rw [IntKind.wrap_u8']; omega
      have s1 := sb_lt k hlt
      have s2 : (0 : Int) ≤ (sb k : Int) := by omega
      have s3 : (sb k : Int) < 256 := by omega
      have c1 : wr.cell? ⟨bb, bo + k, none⟩ = some (.int .u8 (sb k : Int)) := (hB.cell hbw).trans (HC.out k hlt)
      have c3 := hA.cell0 (sb k) (by rw [prb_len]; exact s1)
      have c4 := hA.free0 (sb k) (by rw [prb_len]; exact s1)
      have hA2 : Hid (Ar (wr.setCell ⟨g0, sb k, none⟩ (.int .u8 (k : Int))) g0 0 .u8 (prb (k + 1))) := by
        have h := hA.set0 (sb k) (by rw [prb_len]; exact s1) (k : Int)
        rw [prb_set k hlt] at h
        exact h
      have hB2 : Hid (Below g0 w (wr.setCell ⟨g0, sb k, none⟩ (.int .u8 (k : Int)))) := hB.setCell (Nat.le_refl _) _
      clear hA
      generalize sb k = y at *
      go_wp2
      go_roundw
      case rel => exact ⟨k + 1, by omega, by go_num, hA2.out, hB2.out⟩
      case measure => simp [intOf]; omega
    · have hk256 : k = 256 := by omega
      subst hk256
      rw [HE.out] at hA
      go_wp2
      go_ret
      exact ⟨_, rfl, hA.bytG HA.out.1 256 256 HA.out.2 (by omega) (by omega), by rw [hg0]; exact hB⟩

set_option maxRecDepth 20000 in
set_option maxHeartbeats 2000000 in
theorem rput_any (v tv : Value) (xs tab : List Int) (w : World) (hv : Byt w v xs) (ht : Byt w tv tab) (hl : tab.length = 256) (hmax : xs.length ≤ 1048576) :
    Calls Try.prog 42 #[v, tv] w fun e w' => ∃ v', e = .returned v' ∧ Byt w' v' (looked tab xs) ∧ Below w.heap.size w w' := by
  obtain ⟨ao, ca, rfl, ha1, ha2, ha3, -, ha5⟩ := hv
  obtain ⟨to_, ta, rfl, ht1, ht2, ht3, -, ht5⟩ := ht
  rw [hl] at ht1 ht5 ⊢
  obtain ⟨tb, tf, rfl, htc⟩ := ht5 (by omega)
  have HA5 : Hid (0 < xs.length → ∃ b off, ao = some ⟨b, off, none⟩ ∧ ∀ t, t < xs.length → w.cell? ⟨b, off + t, none⟩ = some (.int .u8 (gb xs t))) := ha5
  have HA : Hid (AllB xs) := ha3
  have HT : Hid (∀ t, t < 256 → w.cell? ⟨tb, tf + t, none⟩ = some (.int .u8 (gb tab t))) := htc
  have htw : tb < w.heap.size := World.block_lt_of_cell? w _ (htc 0 (by omega))
  have HZ : Hid ((looked tab xs).length = xs.length) := looked_len tab xs
  have HG : Hid (∀ k, k < xs.length → (looked tab xs).take (k + 1) = (looked tab xs).take k ++ [gb tab (gb xs k).toNat]) := fun k hk => by
    rw [take_snoc_gb _ k (by rw [looked_len]; exact hk), looked_gb tab xs k hk]
  have HZA : Hid (AllB (looked tab xs)) := looked_all tab xs ht3
  generalize looked tab xs = zs at *
  clear ha5 ha3 ht3 ht5 htc hl
  go_enter Try.func42, Try.ntmps42
  go_wp2
  go_loopw [5, 6] (fun v i wr => ∃ k : Nat, k ≤ xs.length ∧ i = .int .i64 k ∧ Own w.heap.size wr v (zs.take k) ∧ Below w.heap.size w wr) (fun _ i _ => xs.length - (intOf i).toNat)
  case atStart => exact ⟨0, Nat.zero_le _, rfl, Own.empty w (Nat.le_refl _), (Below.refl _ _).alloc (Nat.le_refl _) _⟩
  case round =>
    obtain ⟨k, hk, rfl, hown, hbel⟩ := hrel
    have hsz := hbel.size
    have k0 : (0 : Int) ≤ (k : Int) := by omega
    by_cases hlt : k < xs.length
    · obtain ⟨b, off, rfl, hca⟩ := HA5.out (by omega)
      have n1 := World.block_lt_of_cell? w _ (hca k hlt)
      have c1 : wr.cell? ⟨b, off + k, none⟩ = some (.int .u8 (gb xs k)) := (hbel.cell n1).trans (hca k hlt)
      obtain ⟨x, hx⟩ : ∃ x : Nat, gb xs k = (x : Int) := ⟨(gb xs k).toNat, by have := HA.out k; omega⟩
      have hx8 : x < 256 := by have := HA.out k; omega
      rw [hx] at c1
      have c2 : wr.cell? ⟨tb, tf + x, none⟩ = some (.int .u8 (gb tab x)) := (hbel.cell htw).trans (HT.out x hx8)
      have SN : Hid (zs.take (k + 1) = zs.take k ++ [gb tab x]) := by
        have := HG.out k hlt
        rw [hx, Int.toNat_natCast] at this
        exact this
      have lk : (k : Int) < (xs.length : Int) := by omega
      have x0 : (0 : Int) ≤ (x : Int) := by omega
      have x1 : (x : Int) < 256 := by omega
      have LN : Hid ((zs.take k).length ≤ 1099511627776) := by show _ ≤ _; rw [List.length_take, HZ.out]; omega
      have HO : Hid (Own w.heap.size wr u5 (zs.take k)) := hown
      clear hca hx hx8 hown
      generalize gb tab x = y at *
      go_wp2_with (at_builtin; refine push_law wr rfl (.tmp 14) (.tmp 22) rfl w.heap.size (by omega) _ _ y rfl rfl HO.out LN.out ?_; intro v' w1 hown' hbel')
      rw [← SN.out] at hown'
      go_roundw
      case rel => exact ⟨k + 1, by omega, by go_num, hown', hbel.trans hbel'⟩
      case measure => simp [intOf]; omega
    · have hks : k = xs.length := by omega
      rw [List.take_of_length_le (by rw [HZ.out]; omega)] at hown
      go_wp2
      go_ret
      exact ⟨_, rfl, hown.byt HZA.out, hbel⟩
end Go.Proofs.Ytjiddmgnkldmkaa
