/- What the reference's Sum answers. No claim of its own. -/
import Derived.Test.YtaplllonomdgeaaRefComp
namespace Go.Proofs.Ytaplllonomdgeaa
open Go.RowKit

theorem whole_blocks (n : Nat) : (n + (padl n).length) % 64 = 0 := by
  have := zn_mod n
  rw [padl_len]; omega
theorem upto_next (ps : List Int) (k : Nat) : upto ps (k + 1) = comp (upto ps k) ((ps.take (64 * k + 64)).drop (64 * k)) := by
  show comp (upto ps k) ((ps.drop (64 * k)).take 64) = _
  rw [List.drop_take, show 64 * k + 64 - 64 * k = 64 by omega]

theorem Own.mono {B B' : Nat} {w : World} {v : Value} {xs : List Int} (h : Own B w v xs) (hB : B' ≤ B) : Own B' w v xs :=
  ⟨h.1, h.2.imp id fun ⟨g, cap, cur, e, hg, rest⟩ => ⟨g, cap, cur, e, Nat.le_trans hB hg, rest⟩⟩

set_option maxRecDepth 100000 in
set_option maxHeartbeats 4000000 in
theorem rsum_own (w : World) (v : Value) (xs : List Int) (h : Byt w v xs) (hn : xs.length ≤ 1000000) :
    Calls Try.prog 27 #[v] w fun e w' => ∃ v', e = .returned v' ∧ Own w.heap.size w' v' (sumOf xs) ∧ Below w.heap.size w w' := by
  have HV : Hid (Byt w v xs) := h
  have HN : Hid (xs.length ≤ 1000000) := hn
  have HSO : Hid (sumOf xs = catw (upto (xs ++ padl xs.length) ((xs ++ padl xs.length).length / 64)) 8) := by show _ = _; rw [List.length_append]; rfl
  have HPL : Hid ((xs ++ padl xs.length).length % 64 = 0 ∧ (xs ++ padl xs.length).length ≤ 1001000) := by
    have h1 := whole_blocks xs.length
    have h2 := padl_len xs.length
    have h3 : zn xs.length < 64 := by unfold zn; omega
    rw [List.length_append]
    exact ⟨h1, by omega⟩
  have HRP : Hid (∀ w0, Byt w0 v xs → Calls Try.prog 37 #[v] w0 fun e w' => ∃ v', e = .returned v' ∧ Byt w' v' (xs ++ padl xs.length) ∧ Below w0.heap.size w0 w') := fun w0 h => rpad_any w0 v xs h hn
  generalize xs ++ padl xs.length = ps at *
  have HUL : Hid (∀ k, (upto ps k).length = 8) := upto_len ps
  have HUA : Hid (∀ k, AllW (upto ps k)) := upto_all ps
  have HUN : Hid (∀ k, upto ps (k + 1) = comp (upto ps k) ((ps.take (64 * k + 64)).drop (64 * k))) := upto_next ps
  have HU0 : Hid (upto ps 0 = fst8) := rfl
  generalize upto ps = U at *
  clear h hn
  go_enter Try.func27, Try.ntmps27
  go_wp2_with (first
    | (go_at_call 37; refine (HRP.out _ HV.out).mono ?_; rintro e w1 ⟨v1, rfl, hv1, B1⟩; have HV1 : Hid (Byt w1 v1 ps) := hv1; clear hv1; have s1 := B1.size)
    | (go_at_call 38; refine (rfirst_any _).mono ?_; rintro e w2 ⟨v2, rfl, hv2, B2⟩; have HV2 : Hid (Wrd w2 v2 fst8) := hv2; clear hv2))
  obtain ⟨ao, cap, rfl, hv1, hv2, -, -, -⟩ := id HV1.out
  obtain ⟨n, hnx⟩ : ∃ n, n = ps.length := ⟨_, rfl⟩
  rw [← hnx] at hv1 HV1 HPL HSO ⊢
  have HNX : Hid (n = ps.length) := hnx
  have n1 : n ≤ 1001000 := HPL.out.2
  have n2 : (n : Int) ≤ 1001000 := by omega
  clear hnx
  go_loopw [4, 5] (fun r i wr => ∃ k : Nat, 64 * k ≤ n ∧ i = .int .i64 (64 * (k : Int)) ∧ Wrd wr r (U k) ∧ Below w1.heap.size w1 wr) (fun _ i _ => n - (intOf i).toNat)
  case atStart => exact ⟨0, by omega, rfl, by rw [HU0.out]; exact HV2.out, B2⟩
  case round =>
    obtain ⟨k, hk, rfl, hv, hbel⟩ := hrel
    have hsz := hbel.size
    have k0 : (0 : Int) ≤ (k : Int) := by omega
    have k1 : 64 * (k : Int) ≤ 1001000 := by omega
    have q1 : IntKind.i64.wrap (64 * (k : Int)) = 64 * (k : Int) := by rw [IntKind.wrap_i64]; omega
    have q2 : IntKind.i64.wrap (64 * (k : Int) + 64) = 64 * (k : Int) + 64 := by rw [IntKind.wrap_i64]; omega
    by_cases hlt : 64 * k + 64 ≤ n
    · have k2 : 64 * (k : Int) + 64 ≤ (n : Int) := by omega
      have HVr : Hid (Byt wr (.slice ao n cap) ps) := HV1.out.below hbel
      have HR : Hid (Wrd wr u4 (U k)) := hv
      have HE : Hid (U (k + 1) = comp (U k) ((ps.take (64 * k + 64)).drop (64 * k))) := HUN.out k
      have HL64 : Hid (((ps.take (64 * k + 64)).drop (64 * k)).length = 64) := by show _ = _; have := HNX.out; simp; omega
      generalize hpk : (ps.take (64 * k + 64)).drop (64 * k) = pk at HE HL64
      have HPK : Hid ((ps.take (64 * k + 64)).drop (64 * k) = pk) := hpk
      clear hv hpk
      go_wp2_with (first
        | (refine cut_part _ rfl (.tmp 19) (.tmp 20) (.tmp 22) rfl _ ps _ _ (64 * k) (64 * k + 64) rfl rfl rfl (by omega) (by omega) (by omega) (by have := HNX.out; omega) HVr.out ?_; intro v' hv'; rw [HPK.out] at hv'; have HV' : Hid (Byt wr v' pk) := hv'; clear hv')
        | (go_at_call 39; refine (rcompress_any _ _ _ (U k) pk HR.out HV'.out (HUL.out k) HL64.out).mono ?_; rintro e w3 ⟨v3, rfl, hv3, b3⟩; rw [← HE.out] at hv3; have HV3 : Hid (Wrd w3 v3 (U (k + 1))) := hv3; clear hv3))
      go_roundw
      case rel => exact ⟨k + 1, by omega, by go_num, HV3.out, hbel.trans (b3.mono hsz)⟩
      case measure => simp [intOf]; omega
    · have hkn : k = n / 64 := by have := HPL.out.1; omega
      obtain ⟨wx, rfl⟩ : ∃ wx, wx = wr := ⟨_, rfl⟩
      obtain ⟨bv, ov, cv, rfl, v1', v2', v3', hcell⟩ := hv.opn 8 (HUL.out k) (by omega)
      have BX : Below w.heap.size w wx := B1.trans (hbel.mono s1)
      have HV8 : Hid (∀ t, t < 8 → wx.cell? ⟨bv, ov + t, none⟩ = some (.int .u32 (gb (U k) t))) := hcell
      have HWA : Hid (AllW (U k)) := HUA.out k
      rw [← hkn] at HSO
      have k2 : ¬ 64 * (k : Int) + 64 ≤ (n : Int) := by omega
      have HCN : Hid (∀ j, catw (U k) (j + 1) = catw (U k) j ++ be4 (gb (U k) j)) := fun j => rfl
      have HC0 : Hid (catw (U k) 0 = []) := rfl
      have HCL : Hid (∀ j, (catw (U k) j).length = 4 * j) := catw_len (U k)
      have HCA : Hid (AllB (catw (U k) 8)) := catw_all _ _
      generalize U k = u at *
      generalize catw u = cu at *
      clear hv hcell HUN HU0 HUL HUA HRP
      go_wp2
      go_loopw [6, 7] (fun o i wr => ∃ j : Nat, j ≤ 8 ∧ i = .int .i64 j ∧ Own wx.heap.size wr o (cu j) ∧ Below wx.heap.size wx wr) (fun _ i _ => 8 - (intOf i).toNat)
      case atStart => exact ⟨0, Nat.zero_le _, rfl, by rw [HC0.out]; exact Own.empty wx (Nat.le_refl _), (Below.refl _ _).alloc (Nat.le_refl _) _⟩
      case round =>
        obtain ⟨j, hj, rfl, hown, hbx⟩ := hrel
        have hsz2 := hbx.size
        have q3 : IntKind.i64.wrap (j : Int) = j := by rw [IntKind.wrap_i64]; omega
        have j0 : (0 : Int) ≤ (j : Int) := by omega
        by_cases hlt8 : j < 8
        · have j8 : (j : Int) < 8 := by omega
          have xv : wr.cell? ⟨bv, ov + j, none⟩ = some (.int .u32 (gb u j)) := (hbx.cell v3').trans (HV8.out j hlt8)
          have SN : Hid (cu (j + 1) = cu j ++ be4 (gb u j)) := HCN.out j
          have HLE : Hid ((cu j).length ≤ 1099511627776) := by have := HCL.out j; show _ ≤ _; omega
          obtain ⟨g1, g2⟩ : 0 ≤ gb u j ∧ gb u j ≤ 4294967295 := HWA.out j
          have HBE : Hid ((le (gb u j) (clamp 4 8)).reverse = be4 (gb u j)) := be4_of _
          have HBL : Hid ((be4 (gb u j)).length = 4) := be4_len _
          have HO : Hid (Own wx.heap.size wr u6 (cu j)) := hown
          generalize be4 (gb u j) = bu at *
          generalize gb u j = x at *
          generalize cu j = cj at *
          have y1 : IntKind.u64.wrap x = x := by rw [IntKind.wrap_u64]; omega
          clear hown
          go_wp2_with (first
            | (go_at_call 20; refine (rbig_any x 4 _ (by omega)).mono ?_; rintro e w5 ⟨v5, rfl, hv5, hb5⟩; rw [HBE.out] at hv5; have HV5 : Hid (Byt w5 v5 bu) := hv5; clear hv5; have s5 : wx.heap.size ≤ w5.heap.size := Nat.le_trans hsz2 hb5.size; have HO5 : Hid (Own wx.heap.size w5 u6 cj) := ownsRow_below HO.out hb5)
            | (refine pushs_law _ rfl (.tmp 30) (.tmp 36) rfl wx.heap.size s5 _ _ cj bu rfl rfl HO5.out HV5.out HLE.out (by rw [HBL.out]; omega) ?_; intro v6 w6 O6 b6; have HO6 : Hid (Own wx.heap.size w6 v6 (cj ++ bu)) := O6; clear O6))
          go_roundw
          case rel => exact ⟨j + 1, by omega, by go_num, by rw [SN.out]; exact HO6.out, hbx.trans ((hb5.mono hsz2).trans b6)⟩
          case measure => simp [intOf]; omega
        · have : j = 8 := by omega
          subst this
          go_wp2
          go_ret
          exact ⟨_, rfl, by rw [HSO.out]; exact hown.mono BX.size, BX.trans (hbx.mono BX.size)⟩

theorem sumOf_len (xs : List Int) : (sumOf xs).length = 32 := catw_len _ _
theorem sumOf_all (xs : List Int) : AllB (sumOf xs) := catw_all _ _
theorem rsum_any (w : World) (v : Value) (xs : List Int) (h : Byt w v xs) (hn : xs.length ≤ 1000000) :
    Calls Try.prog 27 #[v] w fun e w' => ∃ v', e = .returned v' ∧ Byt w' v' (sumOf xs) ∧ Below w.heap.size w w' :=
  (rsum_own w v xs h hn).mono fun _ _ ⟨v', he, ho, hbl⟩ => ⟨v', he, ho.byt (sumOf_all _), hbl⟩
end Go.Proofs.Ytaplllonomdgeaa
