/- P3.2, P3.3: for every key and every list of parts: a key made by New has as tag of the parts the tag of all of them, one behind the other, as the reference has it, and that tag fits; a nil key is that of no bytes; where the key is longer than 300 bytes, there are more than 8 parts or one is longer than 200 it is said that the program answers at all. -/
import Derived.Test.YtncmiacbgekjlaaMacAwake
namespace Go.Proofs.Ytncmiacbgekjlaa.macParts
open Go.ChangeShapes Go.WideShapes Go.ChangeAt Go.RowKit

theorem blk_nil : blk [] = z64 := by
  have h : kb [] = [] := if_pos (by simp)
  unfold blk
  rw [h]; rfl

set_option maxHeartbeats 4000000 in
theorem walk (va : Value) (xs : List Int) (vb : Value) (ls : List (List Int)) (w : World) (ha : Byt w va xs) (hb : Bts w vb ls) :
    Calls Try.prog 5 #[va, vb] w fun e w' => e = .returned (.bool true) ∧ Below w.heap.size w w' := by
  have HA : Hid (Byt w va xs) := ha
  have HB : Hid (Bts w vb ls) := hb
  have HXA : Hid (AllB xs) := ha.all
  have HFT : Hid (∀ k, k < ls.length → (ls.take (k + 1)).flatten = (ls.take k).flatten ++ ls.getD k []) := flat_take ls
  have HFA : Hid (∀ k, AllB (ls.take k).flatten) := flat_all ls hb.all
  have HF0 : Hid ((ls.take 0).flatten = []) := by show _ = _; simp
  have HFE : Hid ((ls.take ls.length).flatten = ls.flatten) := by show _ = _; rw [List.take_length]
  obtain ⟨ao, ca, rfl, ha1, ha2, -, -, -⟩ := ha
  obtain ⟨bo, cb, rfl, hb1, hb2, hb5, -⟩ := hb
  obtain ⟨n, hn⟩ : ∃ n, n = xs.length := ⟨_, rfl⟩
  obtain ⟨N, hN⟩ : ∃ N, N = ls.length := ⟨_, rfl⟩
  rw [← hn] at HA ha1 ⊢
  rw [← hN] at HB hb1 hb5 HFT HFE ⊢
  have HNX : Hid (n = xs.length) := hn
  have HB5 : Hid (0 < N → ∃ b off, bo = some ⟨b, off, none⟩ ∧ ∀ r, r < N → ∃ u, w.cell? ⟨b, off + r, none⟩ = some u ∧ Byt w u (ls.getD r [])) := hb5
  clear hb5 hn hN
  obtain ⟨FT, hFT⟩ : ∃ FT : Nat → List Int, FT = fun k => (ls.take k).flatten := ⟨_, rfl⟩
  have HFT' : Hid (∀ k, k < N → FT (k + 1) = FT k ++ ls.getD k []) := by rw [hFT]; exact HFT.out
  have HFA' : Hid (∀ k, AllB (FT k)) := by rw [hFT]; exact HFA.out
  have HF0' : Hid (FT 0 = []) := by rw [hFT]; exact HF0.out
  have HFE' : Hid (FT N = ls.flatten) := by rw [hFT]; exact HFE.out
  clear hFT HFT HFA HF0 HFE
  by_cases h3 : n ≤ 300
  · have l1 : ¬ 300 < (n : Int) := by omega
    by_cases h8 : N ≤ 8
    · have l2 : ¬ 8 < (N : Int) := by omega
      go_enter Try.func5, Try.ntmps5
      go_wp2
      go_loopw [5, 6] (fun r i wr => ∃ k : Nat, k ≤ N ∧ i = .int .i64 k ∧ Own w.heap.size wr r (FT k) ∧ (FT k).length ≤ 200 * k ∧ Below w.heap.size w wr) (fun _ i _ => N - (intOf i).toNat)
      case atStart => exact ⟨0, Nat.zero_le _, rfl, by rw [HF0'.out]; exact Own.empty w (Nat.le_refl _), by rw [HF0'.out]; simp, (Below.refl _ _).alloc (Nat.le_refl _) _⟩
      case round =>
        obtain ⟨k, hk, rfl, hown, hfl, hbel⟩ := hrel
        have k0 : (0 : Int) ≤ (k : Int) := by omega
        have q1 : IntKind.i64.wrap (k : Int) = k := by rw [IntKind.wrap_i64]; omega
        have hsz := hbel.size
        by_cases hlt : k < N
        · have k1 : (k : Int) < (N : Int) := by omega
          obtain ⟨bl, ol, rfl, hcl⟩ := HB5.out (by omega)
          obtain ⟨u, hu, hub⟩ := hcl k hlt
          have hul := World.block_lt_of_cell? w _ hu
          have xu : wr.cell? ⟨bl, ol + k, none⟩ = some u := (hbel.cell hul).trans hu
          have HU : Hid (Byt wr u (ls.getD k [])) := hub.below hbel
          have HE : Hid (FT (k + 1) = FT k ++ ls.getD k []) := HFT'.out k hlt
          obtain ⟨uo, uc, rfl, u1, u2, -, -, -⟩ := hub
          obtain ⟨m, hm⟩ : ∃ m, m = (ls.getD k []).length := ⟨_, rfl⟩
          rw [← hm] at HU u1 xu hu
          have HM : Hid (m = (ls.getD k []).length) := hm
          have HO : Hid (Own w.heap.size wr u5 (FT k)) := hown
          generalize ls.getD k [] = xk at *
          clear hcl hown hm
          by_cases h200 : m ≤ 200
          · have l3 : ¬ 200 < (m : Int) := by omega
            go_wp2_with (refine pushs_law _ rfl (.tmp 32) (.tmp 36) rfl w.heap.size hsz _ _ (FT k) xk rfl rfl HO.out HU.out (by omega) (by have := HM.out; omega) ?_; intro v2 w2 O2 b2; rw [← HE.out] at O2; have HO2 : Hid (Own w.heap.size w2 v2 (FT (k + 1))) := O2; clear O2)
            go_roundw
            case rel => exact ⟨k + 1, by omega, by go_num, HO2.out, by have := HM.out; rw [HE.out, List.length_append]; omega, hbel.trans b2⟩
            case measure => simp [intOf]; omega
          · have l3 : 200 < (m : Int) := by omega
            go_wp2_with (go_at_call 7; refine (awake_any _).mono ?_; rintro e w4 ⟨rfl, hb4⟩)
            go_ret
            exact ⟨rfl, hbel.trans (hb4.mono hsz)⟩
        · have hkN : k = N := by omega
          subst hkN
          obtain ⟨wx, rfl⟩ : ∃ wx, wx = wr := ⟨_, rfl⟩
          have HV : Hid (Byt wx u5 (FT k)) := hown.byt (HFA'.out k)
          have HAL : Hid (ls.flatten.length ≤ 1600) := by rw [← HFE'.out]; show _ ≤ _; omega
          rw [HFE'.out] at HV
          have HXL : Hid (xs.length ≤ 300) := by rw [← HNX.out]; exact h3
          have HRT : Hid (∀ w0, Byt w0 (.slice ao n ca) xs → Byt w0 u5 ls.flatten → Calls Try.prog 10 #[.slice ao n ca, u5] w0 fun e w' => ∃ v', e = .returned v' ∧ Byt w' v' (tagB (blk xs) ls.flatten) ∧ Below w0.heap.size w0 w') := fun w0 h1 h2 => rtag_any w0 _ _ xs _ h1 h2 (by have := HXL.out; omega) (by have := HAL.out; omega)
          have HRN : Hid (∀ w0, Byt w0 u5 ls.flatten → Calls Try.prog 10 #[.slice none 0 0, u5] w0 fun e w' => ∃ v', e = .returned v' ∧ Byt w' v' (tagB z64 ls.flatten) ∧ Below w0.heap.size w0 w') := fun w0 h2 => by
            have := rtag_any w0 _ u5 [] ls.flatten (Byt.nil w0) h2 (by simp) (by have := HAL.out; omega)
            rwa [blk_nil] at this
          have HMN : Hid (∀ w0, Byt w0 (.slice ao n ca) xs → Calls Try.prog 14 #[.slice ao n ca] w0 fun e w' => ∃ c, e = .returned (.pointer (some ⟨c, 0, none⟩)) ∧ KeyV w' (.pointer (some ⟨c, 0, none⟩)) (blk xs) ∧ Below w0.heap.size w0 w') := fun w0 h => (mnew_any w0 _ xs h (by have := HXL.out; omega)).mono fun _ _ ⟨c, he, _, hA, hb⟩ => ⟨c, he, blk_key hA HXA.out, hb⟩
          have HKT : Hid (∀ w0 kv, KeyV w0 kv (blk xs) → Bts w0 (.slice bo k cb) ls → Calls Try.prog 16 #[kv, .slice bo k cb] w0 fun e w' => ∃ v', e = .returned v' ∧ Byt w' v' (tagB (blk xs) ls.flatten) ∧ Below w0.heap.size w0 w') := fun w0 kv h1 h2 => ktag_any w0 kv (blk xs) _ ls h1 h2 (by have := HAL.out; omega)
          have HKN : Hid (∀ w0, Bts w0 (.slice bo k cb) ls → Calls Try.prog 16 #[.pointer none, .slice bo k cb] w0 fun e w' => ∃ v', e = .returned v' ∧ Byt w' v' (tagB z64 ls.flatten) ∧ Below w0.heap.size w0 w') := fun w0 h2 => ktag_any w0 _ z64 _ ls (Or.inl ⟨rfl, rfl⟩) h2 (by have := HAL.out; omega)
          have HKF : Hid (∀ w0 kv v, KeyV w0 kv (blk xs) → Byt w0 v (tagB (blk xs) ls.flatten) → Bts w0 (.slice bo k cb) ls → Calls Try.prog 15 #[kv, v, .slice bo k cb] w0 fun e w' => e = .returned (.bool true) ∧ Below w0.heap.size w0 w') := fun w0 kv v h1 h3 h2 => by
            have := kfits_any w0 kv (blk xs) v (tagB (blk xs) ls.flatten) _ ls h1 h3 h2 (by have := HAL.out; omega)
            rw [decide_eq_true rfl] at this
            exact this
          generalize tagB z64 ls.flatten = Z at *
          generalize tagB (blk xs) ls.flatten = T at *
          generalize blk xs = bx at *
          generalize ls.flatten = all at *
          have HA0 : Hid (Byt wx (.slice ao n ca) xs) := HA.out.below hbel
          have HB0 : Hid (Bts wx (.slice bo k cb) ls) := HB.out.below hbel
          clear hown hfl HB5 HFT' HFA' HF0' HFE'
          go_wp2_with (first
            | (go_at_call 7; refine (awake_any _).mono ?_; rintro e wa ⟨rfl, ba⟩; have ca' : Below wx.heap.size wx wa := c9.trans (ba.mono c9.size))
            | (go_at_call 8; refine (same_true _ _ _ _ H78.out H8.out).mono ?_; rintro e w9 ⟨rfl, b9⟩; have c9 : Below wx.heap.size wx w9 := c8.trans (b9.mono c8.size))
            | (go_at_call 10; refine (HRN.out _ HV7.out).mono ?_; rintro e w8 ⟨v8, rfl, h8', b8⟩; have H8 : Hid (Byt w8 v8 Z) := h8'; clear h8'; have H78 : Hid (Byt w8 v7 Z) := H7.out.below b8; have c8 : Below wx.heap.size wx w8 := c7.trans (b8.mono c7.size))
            | (go_at_call 16; refine (HKN.out _ HB6.out).mono ?_; rintro e w7 ⟨v7, rfl, h7, b7⟩; have H7 : Hid (Byt w7 v7 Z) := h7; clear h7; have c7 : Below wx.heap.size wx w7 := c6.trans (b7.mono c6.size); have HV7 : Hid (Byt w7 u5 all) := HV.out.below c7)
            | (go_at_call 15; refine (HKF.out _ _ _ HK5.out H15.out HB5'.out).mono ?_; rintro e w6 ⟨rfl, b6⟩; have c6 : Below wx.heap.size wx w6 := c5.trans (b6.mono c5.size); have HB6 : Hid (Bts w6 (.slice bo k cb) ls) := HB0.out.below c6)
            | (go_at_call 14; refine (HMN.out _ HA4.out).mono ?_; rintro e w5 ⟨c5', rfl, hk5, b5⟩; have HK5 : Hid (KeyV w5 (.pointer (some ⟨c5', 0, none⟩)) bx) := hk5; have c5 : Below wx.heap.size wx w5 := c4.trans (b5.mono c4.size); have H15 : Hid (Byt w5 v1 T) := H14.out.below b5; have HB5' : Hid (Bts w5 (.slice bo k cb) ls) := HB0.out.below c5; clear hk5)
            | (go_at_call 8; refine (same_true _ _ _ _ H3.out H13.out).mono ?_; rintro e w4 ⟨rfl, b4⟩; have c4 : Below wx.heap.size wx w4 := c3.trans (b4.mono c3.size); have H14 : Hid (Byt w4 v1 T) := H13.out.below b4; have HA4 : Hid (Byt w4 (.slice ao n ca) xs) := HA0.out.below c4)
            | (go_at_call 16; refine (HKT.out _ _ HK2.out HB2.out).mono ?_; rintro e w3 ⟨v3, rfl, h3', b3⟩; have H3 : Hid (Byt w3 v3 T) := h3'; clear h3'; have c3 : Below wx.heap.size wx w3 := c2.trans (b3.mono c2.size); have H13 : Hid (Byt w3 v1 T) := H12.out.below b3)
            | (go_at_call 14; refine (HMN.out _ HA1.out).mono ?_; rintro e w2 ⟨c2', rfl, hk2, b2⟩; have HK2 : Hid (KeyV w2 (.pointer (some ⟨c2', 0, none⟩)) bx) := hk2; have c2 : Below wx.heap.size wx w2 := b1.trans (b2.mono b1.size); have H12 : Hid (Byt w2 v1 T) := H1.out.below b2; have HB2 : Hid (Bts w2 (.slice bo k cb) ls) := HB0.out.below c2; clear hk2)
            | (go_at_call 10; refine (HRT.out _ HA0.out HV.out).mono ?_; rintro e w1 ⟨v1, rfl, h1, b1⟩; have H1 : Hid (Byt w1 v1 T) := h1; clear h1; have HA1 : Hid (Byt w1 (.slice ao n ca) xs) := HA0.out.below b1))
          go_ret
          exact ⟨rfl, hbel.trans (ca'.mono hsz)⟩
    · have l2 : 8 < (N : Int) := by omega
      go_enter Try.func5, Try.ntmps5
      go_wp2_with (go_at_call 7; refine (awake_any _).mono ?_; rintro e w4 ⟨rfl, hb4⟩)
      go_ret
      exact ⟨rfl, hb4⟩
  · have l1 : 300 < (n : Int) := by omega
    go_enter Try.func5, Try.ntmps5
    go_wp2_with (go_at_call 7; refine (awake_any _).mono ?_; rintro e w4 ⟨rfl, hb4⟩)
    go_ret
    exact ⟨rfl, hb4⟩

theorem params : ∀ t ∈ Try.f5.params.toList, Try.prog.readableRec t = true ∧ t < Try.prog.types.size := by
  rw [Try.params5]
  intro t ht
  simp at ht
  rcases ht with rfl | rfl
  · exact ⟨by kernel_rfl, of_decide_eq_true (by kernel_rfl)⟩
  · exact ⟨by kernel_rfl, of_decide_eq_true (by kernel_rfl)⟩

theorem contract (H : Type) (enc : TypeId × Value → H) (W : World) (base : Nat) (args : Array Value) (ds gs : List (DataW H)) (before : List MemPlace)
    (hval : ∀ (j : Nat) t v, Try.f5.params[j]? = some t → args[j]? = some v → Value.okWide Try.prog W .any base t v)
    (hW : DataW.Whole enc Try.prog Try.f5.params.toList Rows.macPartsSpec.vars false W args.toList ds gs before)
    (hsz : (DataW.weightsEach Try.prog (Try.f5.params.toList ++ (OpenSpec.ofChange Rows.macPartsSpec).bare.plain.varTypes Try.prog) (ds ++ gs)).all (· ≤ reachBytes) = true) :
    Calls Try.prog 5 args W fun e W' => ∃ v, e = .returned v ∧ Rows.macPartsSpec.post enc Try.prog Try.f5 false true false false W args v W' := by
  have hW' := hW
  obtain ⟨p, q, hA0, hV, rfl, hfz, hnd⟩ := hW
  have hA : DataW.TrodAll enc Try.prog W 0 (fun _ => true) true Try.f5.params.toList args.toList ds p := hA0
  rw [Try.params5] at hA hval
  obtain ⟨v0, v1, d0, d1, p0, p1, rfl, rfl, rfl, h0, h1⟩ := trodAll_two hA
  obtain ⟨rfl, rfl⟩ := trodVars_none hV
  obtain ⟨xs0, b0⟩ := byt_open (hval 0 22 v0 rfl rfl) h0
  obtain ⟨xs1, b1⟩ := bts_open (hval 1 31 v1 rfl rfl) h1 (fun n hn => by have := List.all_eq_true.1 hsz n (DataW.weights_mem_each (j := 1) (t := 31) (d := d1) (by rw [Try.params5]; rfl) rfl n hn); simpa using this)
  clear hA0
  refine (walk v0 xs0 v1 xs1 W b0 b1).mono fun e W' ⟨he, hg⟩ => ?_
  subst he
  exact ⟨_, rfl, post_law rfl (by kernel_rfl) params rfl rfl rfl hW' hg⟩

theorem laid_met (os : Os) : laidMet Try.prog Rows.macPartsRow.laid ((World.holding Try.prog os ⟨#[], #[], []⟩).forCall (fun _ _ => 0) ⟨#[], #[.slice none 0 0, .slice none 0 0], []⟩).memory :=
  laidMet_of_run' 8 (by kernel_rfl) (by kernel_rfl)
theorem reads (os : Os) {H : Type} (enc : TypeId × Value → H) : ∃ places, DataW.whole enc Try.prog ((World.holding Try.prog os ⟨#[], #[], []⟩).forCall (fun _ _ => 0) ⟨#[], #[.slice none 0 0, .slice none 0 0], []⟩).memory Try.f5.params.toList Rows.macPartsSpec.vars false #[Value.slice none 0 0, Value.slice none 0 0].toList 8 = some ([.nil, .nil], [], places) :=
  ⟨[], by kernel_rfl⟩

set_option maxRecDepth 100000 in
theorem lifted (os : Os) (started : os.Started) (H : Type) (enc : TypeId × Value → H) (F : Stop.Interp) :
    ReturnsInHanded {} Try.checked os 5 .any ((OpenSpec.ofChange Rows.macPartsSpec).preRow enc Try.prog Try.f5 Rows.macPartsRow.domain false Rows.macPartsRow.laid) (((OpenSpec.ofChange Rows.macPartsSpec).at F).post enc Try.prog Try.f5 false true false false) := by
  obtain ⟨places, hx⟩ := reads os enc
  refine returnsInHanded_of_row (C := Try.checked) (s := OpenSpec.ofChange Rows.macPartsSpec) own started (by kernel_rfl) Try.func5
    (witness_row_at (enc := enc) (C := Try.checked) false (World.holding Try.prog os ⟨#[], #[], []⟩) #[.slice none 0 0, .slice none 0 0] rfl (by kernel_rfl) (by kernel_rfl) (by kernel_rfl)
      (OpenSpec.preRow_of_cond 8 hx (by kernel_rfl) (fun k hk => by cases hk) (by kernel_rfl) (laid_met os))) ?_
  intro W base args ds gs before hval hW _ _ hsz _ _ _
  exact contract H enc W base args ds gs before hval hW hsz

theorem said : Rows.MacPartsSaid :=
  OpenClaim.holds_of_cond 5 Try.f5 rfl rfl rfl rfl rfl rfl rfl ⟨rfl, rfl, rfl, rfl, rfl⟩ rfl rfl rfl rfl rfl (by kernel_rfl) Try.func5 (by kernel_rfl)
    (of_decide_eq_true (by kernel_rfl)) (by unfold Func.isWrapper; first | (rw [if_pos (by decide +kernel)]; kernel_rfl) | (rw [if_neg (by decide +kernel)]; exact ⟨rfl, rfl⟩))
    (fun os started H enc _ F => by rw [OpenClaim.pre_eq_preRow]; exact lifted os started H enc F)
end Go.Proofs.Ytncmiacbgekjlaa.macParts

namespace Go.Proofs.Ytncmiacbgekjlaa
theorem macParts_said : Rows.MacPartsSaid := macParts.said
#print axioms macParts_said
end Go.Proofs.Ytncmiacbgekjlaa
