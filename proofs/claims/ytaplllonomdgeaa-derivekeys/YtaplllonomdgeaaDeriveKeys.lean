/- P4.2: for every passphrase and salt and every number of rounds: Keys answers ErrShape and no bytes where the passphrase or the rounds are out of range, else the three keys: the first, the second and the third 32 of the 96 bytes that are derived as the reference has them; where the passphrase or the salt is longer than 100 bytes or there are more than 6 rounds it is said that the program answers at all. -/
import Derived.Test.YtaplllonomdgeaaBox2
import Derived.Test.YtaplllonomdgeaaCutG
namespace Go.Proofs.Ytaplllonomdgeaa.deriveKeys
open Go.ChangeShapes Go.WideShapes Go.ChangeAt Go.RowKit

set_option maxHeartbeats 4000000 in
theorem walk (va : Value) (xs : List Int) (vb : Value) (ss : List Int) (x : Int) (w : World) (ha : Byt w va xs) (hb : Byt w vb ss) (hx : -9223372036854775808 ≤ x ∧ x ≤ 9223372036854775807) :
    Calls Try.prog 5 #[va, vb, .int .i64 x] w fun e w' => e = .returned (.bool true) ∧ Below w.heap.size w w' := by
  have HA : Hid (Byt w va xs) := ha
  have HB : Hid (Byt w vb ss) := hb
  by_cases hl : xs.length ≤ 100 ∧ ss.length ≤ 100 ∧ x ≤ 6
  · have HLI : Hid (∀ w0, Byt w0 va xs → Byt w0 vb ss → Calls Try.prog 7 #[va, vb, .int .i64 x] w0 fun e w' => e = .returned (.bool true) ∧ w' = w0) := fun w0 h1 h2 => light_any w0 _ _ xs ss x h1 h2 true (by rw [decide_eq_true hl])
    by_cases hr : xs.length ≤ 64 ∧ 1 ≤ x ∧ x ≤ 1000
    · have HRI : Hid (∀ w0, Byt w0 va xs → Calls Try.prog 10 #[va, .int .i64 x] w0 fun e w' => e = .returned (.bool true) ∧ w' = w0) := fun w0 h1 => right_any w0 _ xs x h1 true (by rw [decide_eq_true hr])
      obtain ⟨c, rfl⟩ : ∃ c : Nat, x = c := ⟨x.toNat, by omega⟩
      have HDK : Hid (∀ w0, Byt w0 va xs → Byt w0 vb ss → Calls Try.prog 15 #[va, vb, .int .i64 c] w0 fun e w' => ∃ v1 v2 v3, e = .returned (.tuple #[v1, v2, v3, .int .i64 0]) ∧ Byt w' v1 (dblk (blk xs) ss c 1) ∧ Byt w' v2 (dblk (blk xs) ss c 2) ∧ Byt w' v3 (dblk (blk xs) ss c 3) ∧ Below w0.heap.size w0 w') := fun w0 h1 h2 => dkeys_any w0 _ _ xs ss c h1 h2 (by omega) (by omega) (by omega) (by omega)
      have HRB : Hid (∀ w0, Byt w0 va xs → Byt w0 vb ss → Calls Try.prog 12 #[va, vb, .int .i64 c, .int .i64 96] w0 fun e w' => ∃ v', e = .returned v' ∧ Byt w' v' (drv (blk xs) ss c 96) ∧ Below w0.heap.size w0 w') := fun w0 h1 h2 => rbytes_any w0 _ _ xs ss c 96 h1 h2 (by omega) (by omega) (by omega) (by omega) (by omega)
      have HKS : Hid ((drv (blk xs) ss c 96).take 32 = dblk (blk xs) ss c 1 ∧ ((drv (blk xs) ss c 96).take 64).drop 32 = dblk (blk xs) ss c 2 ∧ (drv (blk xs) ss c 96).drop 64 = dblk (blk xs) ss c 3 ∧ (drv (blk xs) ss c 96).length = 96) := by
        have h := drv_keys (blk xs) ss c
        exact ⟨h.1, h.2.1, h.2.2, drv_len _ _ _ _⟩
      generalize drv (blk xs) ss c 96 = R at *
      generalize dblk (blk xs) ss c 1 = D1 at *
      generalize dblk (blk xs) ss c 2 = D2 at *
      generalize dblk (blk xs) ss c 3 = D3 at *
      clear hl hr ha hb
      go_enter Try.func5, Try.ntmps5
      go_wp2_with (first
        | (go_at_call 8; have q := c8; refine (awake_any _).mono ?_; rintro e w9 ⟨rfl, b9⟩; have c9 : Below w.heap.size w w9 := c8.trans (b9.mono c8.size))
        | (go_at_call 11; have q := H3c; refine (same_true _ _ _ _ H37.out H3c.out).mono ?_; rintro e w8 ⟨rfl, b8⟩; have c8 : Below w.heap.size w w8 := c7.trans (b8.mono c7.size))
        | (refine cut_fromG _ (by rfl) (.tmp 67) _ rfl _ R _ 64 rfl rfl rfl (by rw [HKS.out.2.2.2]; omega) HR7.out ?_; intro v8 hv8; rw [HKS.out.2.2.1] at hv8; have H3c : Hid (Byt w7 v8 D3) := hv8; clear hv8)
        | (go_at_call 11; have q := H2c; refine (same_true _ _ _ _ H26.out H2c.out).mono ?_; rintro e w7 ⟨rfl, b7⟩; have c7 : Below w.heap.size w w7 := c6.trans (b7.mono c6.size); have HR7 : Hid (Byt w7 v5 R) := HR6.out.below b7; have H37 : Hid (Byt w7 v3 D3) := H36.out.below b7)
        | (refine cut_partG _ (by rfl) (.tmp 61) _ _ rfl _ R _ _ 32 64 rfl rfl rfl rfl rfl (by omega) (by rw [HKS.out.2.2.2]; omega) HR6.out ?_; intro v7 hv7; rw [HKS.out.2.1] at hv7; have H2c : Hid (Byt w6 v7 D2) := hv7; clear hv7)
        | (go_at_call 11; refine (same_true _ _ _ _ H15.out H1c.out).mono ?_; rintro e w6 ⟨rfl, b6⟩; have c6 : Below w.heap.size w w6 := c5.trans (b6.mono c5.size); have HR6 : Hid (Byt w6 v5 R) := HR5.out.below b6; have H26 : Hid (Byt w6 v2 D2) := H25.out.below b6; have H36 : Hid (Byt w6 v3 D3) := H35.out.below b6)
        | (refine cut_toG _ (by rfl) (.tmp 55) _ rfl _ R _ 32 rfl rfl rfl (by rw [HKS.out.2.2.2]; omega) HR5.out ?_; intro v6 hv6; rw [HKS.out.1] at hv6; have H1c : Hid (Byt w5 v6 D1) := hv6; clear hv6)
        | (go_at_call 12; refine (HRB.out _ HA4.out HB4.out).mono ?_; rintro e w5 ⟨v5, rfl, hv5, b5⟩; have HR5 : Hid (Byt w5 v5 R) := hv5; have H15 : Hid (Byt w5 v1 D1) := H14.out.below b5; have H25 : Hid (Byt w5 v2 D2) := H24.out.below b5; have H35 : Hid (Byt w5 v3 D3) := H34.out.below b5; have c5 : Below w.heap.size w w5 := b4.trans (b5.mono b4.size); clear hv5)
        | (go_at_call 10; refine (HRI.out _ HA4.out).mono ?_; rintro e w' ⟨rfl, hw⟩; obtain rfl := hw.symm)
        | (go_at_call 15; refine (HDK.out _ HA.out HB.out).mono ?_; rintro e w4 ⟨v1, v2, v3, rfl, hv1, hv2, hv3, b4⟩; have H14 : Hid (Byt w4 v1 D1) := hv1; have H24 : Hid (Byt w4 v2 D2) := hv2; have H34 : Hid (Byt w4 v3 D3) := hv3; have HA4 : Hid (Byt w4 va xs) := HA.out.below b4; have HB4 : Hid (Byt w4 vb ss) := HB.out.below b4; clear hv1 hv2 hv3)
        | (go_at_call 7; refine (HLI.out _ HA.out HB.out).mono ?_; rintro e w' ⟨rfl, hw⟩; obtain rfl := hw.symm))
      go_ret
      exact ⟨rfl, c9⟩
    · have HRI : Hid (∀ w0, Byt w0 va xs → Calls Try.prog 10 #[va, .int .i64 x] w0 fun e w' => e = .returned (.bool false) ∧ w' = w0) := fun w0 h1 => right_any w0 _ xs x h1 false (by rw [decide_eq_false hr])
      have HNO : Hid (∀ w0, Byt w0 va xs → Calls Try.prog 15 #[va, vb, .int .i64 x] w0 fun e w' => e = .returned (.tuple #[.slice none 0 0, .slice none 0 0, .slice none 0 0, .int .i64 2]) ∧ w' = w0) := fun w0 h1 => dkeys_no w0 _ _ xs x h1 hr
      clear hl hr ha hb
      go_enter Try.func5, Try.ntmps5
      go_wp2_with (first
        | (go_at_call 8; refine (awake_any _).mono ?_; rintro e w7 ⟨rfl, b7⟩)
        | (go_at_call 10; refine (HRI.out _ HA.out).mono ?_; rintro e w' ⟨rfl, hw⟩; obtain rfl := hw.symm)
        | (go_at_call 15; refine (HNO.out _ HA.out).mono ?_; rintro e w' ⟨rfl, hw⟩; obtain rfl := hw.symm)
        | (go_at_call 7; refine (HLI.out _ HA.out HB.out).mono ?_; rintro e w' ⟨rfl, hw⟩; obtain rfl := hw.symm))
      go_ret
      exact ⟨rfl, b7⟩
  · have HLI : Hid (∀ w0, Byt w0 va xs → Byt w0 vb ss → Calls Try.prog 7 #[va, vb, .int .i64 x] w0 fun e w' => e = .returned (.bool false) ∧ w' = w0) := fun w0 h1 h2 => light_any w0 _ _ xs ss x h1 h2 false (by rw [decide_eq_false hl])
    clear hl ha hb
    go_enter Try.func5, Try.ntmps5
    go_wp2_with (first
      | (go_at_call 8; refine (awake_any _).mono ?_; rintro e w7 ⟨rfl, b7⟩)
      | (go_at_call 7; refine (HLI.out _ HA.out HB.out).mono ?_; rintro e w' ⟨rfl, hw⟩; obtain rfl := hw.symm))
    go_ret
    exact ⟨rfl, b7⟩

theorem params : ∀ t ∈ Try.f5.params.toList, Try.prog.readableRec t = true ∧ t < Try.prog.types.size := by
  rw [Try.params5]
  intro t ht
  simp at ht
  rcases ht with rfl | rfl
  · exact ⟨by kernel_rfl, of_decide_eq_true (by kernel_rfl)⟩
  · exact ⟨by kernel_rfl, of_decide_eq_true (by kernel_rfl)⟩

theorem contract (H : Type) (enc : TypeId × Value → H) (W : World) (base : Nat) (args : Array Value) (ds gs : List (DataW H)) (before : List MemPlace)
    (hval : ∀ (j : Nat) t v, Try.f5.params[j]? = some t → args[j]? = some v → Value.okWide Try.prog W .any base t v)
    (hW : DataW.Whole enc Try.prog Try.f5.params.toList Rows.deriveKeysSpec.vars false W args.toList ds gs before) :
    Calls Try.prog 5 args W fun e W' => ∃ v, e = .returned v ∧ Rows.deriveKeysSpec.post enc Try.prog Try.f5 false true false false W args v W' := by
  have hW' := hW
  obtain ⟨p, q, hA0, hV, rfl, hfz, hnd⟩ := hW
  have hA : DataW.TrodAll enc Try.prog W 0 (fun _ => true) true Try.f5.params.toList args.toList ds p := hA0
  rw [Try.params5] at hA hval
  obtain ⟨v0, v1, v2, d0, d1, d2, p0, p1, p2, rfl, rfl, rfl, h0, h1, h2⟩ := trodAll_three hA
  obtain ⟨rfl, rfl⟩ := trodVars_none hV
  obtain ⟨xs0, b0⟩ := byt_open (hval 0 22 v0 rfl rfl) h0
  obtain ⟨xs1, b1⟩ := byt_open (hval 1 22 v1 rfl rfl) h1
  obtain ⟨x2, rfl, rfl, rfl, w2⟩ := open_int Try.underlying3 (hval 2 3 v2 rfl rfl) h2
  clear hA0
  refine (walk v0 xs0 v1 xs1 x2 W b0 b1 (bounds_i64 w2)).mono fun e W' ⟨he, hg⟩ => ?_
  subst he
  exact ⟨_, rfl, post_law rfl (by kernel_rfl) params rfl rfl rfl hW' hg⟩

theorem laid_met (os : Os) : laidMet Try.prog Rows.deriveKeysRow.laid ((World.holding Try.prog os ⟨#[], #[], []⟩).forCall (fun _ _ => 0) ⟨#[], #[.slice none 0 0, .slice none 0 0, .int .i64 0], []⟩).memory :=
  laidMet_of_run' 8 (by kernel_rfl) (by kernel_rfl)
theorem reads (os : Os) {H : Type} (enc : TypeId × Value → H) : ∃ places, DataW.whole enc Try.prog ((World.holding Try.prog os ⟨#[], #[], []⟩).forCall (fun _ _ => 0) ⟨#[], #[.slice none 0 0, .slice none 0 0, .int .i64 0], []⟩).memory Try.f5.params.toList Rows.deriveKeysSpec.vars false #[Value.slice none 0 0, Value.slice none 0 0, Value.int .i64 0].toList 8 = some ([.nil, .nil, .lit (.int .i64 0)], [], places) :=
  ⟨[], by kernel_rfl⟩

set_option maxRecDepth 100000 in
theorem lifted (os : Os) (started : os.Started) (H : Type) (enc : TypeId × Value → H) (F : Stop.Interp) :
    ReturnsInHanded {} Try.checked os 5 .any ((OpenSpec.ofChange Rows.deriveKeysSpec).preRow enc Try.prog Try.f5 Rows.deriveKeysRow.domain false Rows.deriveKeysRow.laid) (((OpenSpec.ofChange Rows.deriveKeysSpec).at F).post enc Try.prog Try.f5 false true false false) := by
  obtain ⟨places, hx⟩ := reads os enc
  refine returnsInHanded_of_row (C := Try.checked) (s := OpenSpec.ofChange Rows.deriveKeysSpec) own started (by kernel_rfl) Try.func5
    (witness_row_at (enc := enc) (C := Try.checked) false (World.holding Try.prog os ⟨#[], #[], []⟩) #[.slice none 0 0, .slice none 0 0, .int .i64 0] rfl (by kernel_rfl) (by kernel_rfl) (by kernel_rfl)
      (OpenSpec.preRow_of_cond 8 hx (by kernel_rfl) (fun k hk => by cases hk) (by kernel_rfl) (laid_met os))) ?_
  intro W base args ds gs before hval hW _ _ _ _ _ _
  exact contract H enc W base args ds gs before hval hW

theorem said : Rows.DeriveKeysSaid :=
  OpenClaim.holds_of_cond 5 Try.f5 rfl rfl rfl rfl rfl rfl rfl ⟨rfl, rfl, rfl, rfl, rfl⟩ rfl rfl rfl rfl rfl (by kernel_rfl) Try.func5 (by kernel_rfl)
    (of_decide_eq_true (by kernel_rfl)) (by unfold Func.isWrapper; first | (rw [if_pos (by decide +kernel)]; kernel_rfl) | (rw [if_neg (by decide +kernel)]; exact ⟨rfl, rfl⟩))
    (fun os started H enc _ F => by rw [OpenClaim.pre_eq_preRow]; exact lifted os started H enc F)
end Go.Proofs.Ytaplllonomdgeaa.deriveKeys

namespace Go.Proofs.Ytaplllonomdgeaa
theorem deriveKeys_said : Rows.DeriveKeysSaid := deriveKeys.said
#print axioms deriveKeys_said
end Go.Proofs.Ytaplllonomdgeaa
