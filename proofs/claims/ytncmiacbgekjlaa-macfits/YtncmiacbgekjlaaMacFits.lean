/- P3.1: for every key, text and tag: mac.Fits(key, text, tag) tells whether tag is the text's tag under the key, as the reference has it; the reference's own tag fits, also under a key made by New; where the key is longer than 300 bytes, the text than 600 or the tag than 100 it is said that the program answers at all. -/
import Derived.Test.YtncmiacbgekjlaaMacAwake
namespace Go.Proofs.Ytncmiacbgekjlaa.macFits
open Go.ChangeShapes Go.WideShapes Go.ChangeAt Go.RowKit

set_option maxHeartbeats 4000000 in
theorem walk (va : Value) (xs : List Int) (vb : Value) (ts : List Int) (vc : Value) (gs : List Int) (w : World) (ha : Byt w va xs) (hb : Byt w vb ts) (hc : Byt w vc gs) :
    Calls Try.prog 4 #[va, vb, vc] w fun e w' => e = .returned (.bool true) ∧ Below w.heap.size w w' := by
  have HA : Hid (Byt w va xs) := ha
  have HB : Hid (Byt w vb ts) := hb
  have HC : Hid (Byt w vc gs) := hc
  have HXA : Hid (AllB xs) := ha.all
  obtain ⟨ao, ca, rfl, ha1, ha2, -, -, -⟩ := ha
  obtain ⟨bo, cb, rfl, hb1, hb2, -, -, -⟩ := hb
  obtain ⟨co, cc, rfl, hc1, hc2, -, -, -⟩ := hc
  by_cases h3 : xs.length ≤ 300
  · by_cases h6 : ts.length ≤ 600
    · by_cases h1 : gs.length ≤ 100
      · have HRT : Hid (∀ w0, Byt w0 (.slice ao xs.length ca) xs → Byt w0 (.slice bo ts.length cb) ts → Calls Try.prog 10 #[.slice ao xs.length ca, .slice bo ts.length cb] w0 fun e w' => ∃ v', e = .returned v' ∧ Byt w' v' (tagB (blk xs) ts) ∧ Below w0.heap.size w0 w') := fun w0 h1 h2 => rtag_any w0 _ _ xs ts h1 h2 (by omega) (by omega)
        have HMF : Hid (∀ w0, Byt w0 (.slice ao xs.length ca) xs → Byt w0 (.slice bo ts.length cb) ts → Byt w0 (.slice co gs.length cc) gs → Calls Try.prog 13 #[.slice ao xs.length ca, .slice bo ts.length cb, .slice co gs.length cc] w0 fun e w' => e = .returned (.bool (decide (gs = tagB (blk xs) ts))) ∧ Below w0.heap.size w0 w') := fun w0 h1 h2 h3 => mfits_any w0 _ _ _ xs ts gs h1 h2 h3 (by omega) (by omega)
        have HMT : Hid (∀ w0 v, Byt w0 (.slice ao xs.length ca) xs → Byt w0 (.slice bo ts.length cb) ts → Byt w0 v (tagB (blk xs) ts) → Calls Try.prog 13 #[.slice ao xs.length ca, .slice bo ts.length cb, v] w0 fun e w' => e = .returned (.bool true) ∧ Below w0.heap.size w0 w') := fun w0 v h1 h2 h3 => (mfits_any w0 _ _ v xs ts _ h1 h2 h3 (by omega) (by omega)).mono fun _ _ ⟨he, hb⟩ => ⟨by rw [he, decide_eq_true rfl], hb⟩
        have HMN : Hid (∀ w0, Byt w0 (.slice ao xs.length ca) xs → Calls Try.prog 14 #[.slice ao xs.length ca] w0 fun e w' => ∃ c, e = .returned (.pointer (some ⟨c, 0, none⟩)) ∧ KeyV w' (.pointer (some ⟨c, 0, none⟩)) (blk xs) ∧ Below w0.heap.size w0 w') := fun w0 h => (mnew_any w0 _ xs h (by omega)).mono fun _ _ ⟨c, he, _, hA, hb⟩ => ⟨c, he, blk_key hA HXA.out, hb⟩
        have HKF : Hid (∀ w0 kv v u, KeyV w0 kv (blk xs) → Byt w0 v (tagB (blk xs) ts) → Bts w0 u [ts] → Calls Try.prog 15 #[kv, v, u] w0 fun e w' => e = .returned (.bool true) ∧ Below w0.heap.size w0 w') := fun w0 kv v u h1 h3 h2 => by
          have e : [ts].flatten = ts := by simp
          have := kfits_any w0 kv (blk xs) v (tagB (blk xs) ts) u [ts] h1 h3 h2 (by rw [e]; omega)
          rw [e, decide_eq_true rfl] at this
          exact this
        have HSM : Hid (∀ w0 v, Byt w0 (.slice co gs.length cc) gs → Byt w0 v (tagB (blk xs) ts) → Calls Try.prog 8 #[.slice co gs.length cc, v] w0 fun e w' => e = .returned (.bool (decide (gs = tagB (blk xs) ts))) ∧ Below w0.heap.size w0 w') := fun w0 v h1 h2 => (same_any w0 _ v gs _ h1 h2).mono fun _ _ ⟨he, n, hw⟩ => ⟨he, by rw [hw]; exact below_drewN (Below.refl _ _) n⟩
        have HTL : Hid (ts.length ≤ 600) := h6
        generalize decide (gs = tagB (blk xs) ts) = D at *
        generalize tagB (blk xs) ts = T at *
        generalize blk xs = bx at *
        obtain ⟨n, hn⟩ : ∃ n, n = xs.length := ⟨_, rfl⟩
        obtain ⟨m, hm⟩ : ∃ m, m = ts.length := ⟨_, rfl⟩
        obtain ⟨k, hk⟩ : ∃ k, k = gs.length := ⟨_, rfl⟩
        rw [← hn] at HA h3 ha1 HRT HMF HMT HMN ⊢
        rw [← hm] at HB h6 hb1 HRT HMF HMT ⊢
        rw [← hk] at HC h1 hc1 HMF HSM ⊢
        clear hn hm hk
        have l1 : ¬ 300 < (n : Int) := by omega
        have l2 : ¬ 600 < (m : Int) := by omega
        have l3 : ¬ 100 < (k : Int) := by omega
        go_enter Try.func4, Try.ntmps4
        go_wp2_with (first
          | (go_at_call 7; refine (awake_any _).mono ?_; rintro e w7 ⟨rfl, b7⟩; have c7 : Below w.heap.size w w7 := c6.trans (b7.mono c6.size))
          | (go_at_call 15; refine (HKF.out _ _ _ _ HK5.out H15.out HB5.out).mono ?_; rintro e w6 ⟨rfl, b6⟩; have c6 : Below w.heap.size w w6 := C5.trans (b6.mono C5.size))
          | (go_at_call 14; refine (HMN.out _ HA4.out).mono ?_; rintro e w5 ⟨c, rfl, hk5, b5⟩; have c5 : Below w.heap.size w w5 := c4.trans (b5.mono c4.size); have B5 : Below w5.heap.size w5 (w5.alloc (.cells #[.slice bo m cb] 22)) := (Below.refl _ _).alloc (Nat.le_refl _) _; have HK5 : Hid (KeyV (w5.alloc (.cells #[.slice bo m cb] 22)) (.pointer (some ⟨c, 0, none⟩)) bx) := hk5.below B5; have C5 : Below w.heap.size w (w5.alloc (.cells #[.slice bo m cb] 22)) := c5.trans (B5.mono c5.size); have H15 : Hid (Byt (w5.alloc (.cells #[.slice bo m cb] 22)) v1 T) := (H14.out.below b5).below B5; have HB5 : Hid (Bts (w5.alloc (.cells #[.slice bo m cb] 22)) (.slice (some ⟨w5.heap.size, 0, none⟩) 1 1) [ts]) := bts_one (HB.out.below c5) (by have := HTL.out; omega); clear hk5)
          | (go_at_call 13; refine (HMT.out _ _ HA3.out HB3.out H13.out).mono ?_; rintro e w4 ⟨rfl, b4⟩; have c4 : Below w.heap.size w w4 := c3.trans (b4.mono c3.size); have H14 : Hid (Byt w4 v1 T) := H13.out.below b4; have HA4 : Hid (Byt w4 (.slice ao n ca) xs) := HA.out.below c4)
          | (go_at_call 8; refine (HSM.out _ _ HC2.out H12.out).mono ?_; rintro e w3 ⟨rfl, b3⟩; have c3 : Below w.heap.size w w3 := c2.trans (b3.mono c2.size); have H13 : Hid (Byt w3 v1 T) := H12.out.below b3; have HA3 : Hid (Byt w3 (.slice ao n ca) xs) := HA.out.below c3; have HB3 : Hid (Byt w3 (.slice bo m cb) ts) := HB.out.below c3)
          | (go_at_call 13; refine (HMF.out _ HA1.out HB1.out HC1.out).mono ?_; rintro e w2 ⟨rfl, b2⟩; have c2 : Below w.heap.size w w2 := b1.trans (b2.mono b1.size); have H12 : Hid (Byt w2 v1 T) := H1.out.below b2; have HC2 : Hid (Byt w2 (.slice co k cc) gs) := HC.out.below c2)
          | (go_at_call 10; refine (HRT.out _ HA.out HB.out).mono ?_; rintro e w1 ⟨v1, rfl, h1', b1⟩; have H1 : Hid (Byt w1 v1 T) := h1'; clear h1'; have HA1 : Hid (Byt w1 (.slice ao n ca) xs) := HA.out.below b1; have HB1 : Hid (Byt w1 (.slice bo m cb) ts) := HB.out.below b1; have HC1 : Hid (Byt w1 (.slice co k cc) gs) := HC.out.below b1))
        go_ret
        exact ⟨by simp, c7⟩
      · have l1 : ¬ 300 < (xs.length : Int) := by omega
        have l2 : ¬ 600 < (ts.length : Int) := by omega
        have l3 : 100 < (gs.length : Int) := by omega
        go_enter Try.func4, Try.ntmps4
        go_wp2_with (go_at_call 7; refine (awake_any _).mono ?_; rintro e w4 ⟨rfl, hb4⟩)
        go_ret
        exact ⟨rfl, hb4⟩
    · have l1 : ¬ 300 < (xs.length : Int) := by omega
      have l2 : 600 < (ts.length : Int) := by omega
      go_enter Try.func4, Try.ntmps4
      go_wp2_with (go_at_call 7; refine (awake_any _).mono ?_; rintro e w4 ⟨rfl, hb4⟩)
      go_ret
      exact ⟨rfl, hb4⟩
  · have l1 : 300 < (xs.length : Int) := by omega
    go_enter Try.func4, Try.ntmps4
    go_wp2_with (go_at_call 7; refine (awake_any _).mono ?_; rintro e w4 ⟨rfl, hb4⟩)
    go_ret
    exact ⟨rfl, hb4⟩

theorem params : ∀ t ∈ Try.f4.params.toList, Try.prog.readableRec t = true ∧ t < Try.prog.types.size := by
  rw [Try.params4]
  intro t ht
  simp at ht
  subst ht
  exact ⟨by kernel_rfl, of_decide_eq_true (by kernel_rfl)⟩

theorem contract (H : Type) (enc : TypeId × Value → H) (W : World) (base : Nat) (args : Array Value) (ds gs : List (DataW H)) (before : List MemPlace)
    (hval : ∀ (j : Nat) t v, Try.f4.params[j]? = some t → args[j]? = some v → Value.okWide Try.prog W .any base t v)
    (hW : DataW.Whole enc Try.prog Try.f4.params.toList Rows.macFitsSpec.vars false W args.toList ds gs before) :
    Calls Try.prog 4 args W fun e W' => ∃ v, e = .returned v ∧ Rows.macFitsSpec.post enc Try.prog Try.f4 false true false false W args v W' := by
  have hW' := hW
  obtain ⟨p, q, hA0, hV, rfl, hfz, hnd⟩ := hW
  have hA : DataW.TrodAll enc Try.prog W 0 (fun _ => true) true Try.f4.params.toList args.toList ds p := hA0
  rw [Try.params4] at hA hval
  obtain ⟨v0, v1, v2, d0, d1, d2, p0, p1, p2, rfl, rfl, rfl, h0, h1, h2⟩ := trodAll_three hA
  obtain ⟨rfl, rfl⟩ := trodVars_none hV
  obtain ⟨xs0, b0⟩ := byt_open (hval 0 22 v0 rfl rfl) h0
  obtain ⟨xs1, b1⟩ := byt_open (hval 1 22 v1 rfl rfl) h1
  obtain ⟨xs2, b2⟩ := byt_open (hval 2 22 v2 rfl rfl) h2
  clear hA0
  refine (walk v0 xs0 v1 xs1 v2 xs2 W b0 b1 b2).mono fun e W' ⟨he, hg⟩ => ?_
  subst he
  exact ⟨_, rfl, post_law rfl (by kernel_rfl) params rfl rfl rfl hW' hg⟩

theorem laid_met (os : Os) : laidMet Try.prog Rows.macFitsRow.laid ((World.holding Try.prog os ⟨#[], #[], []⟩).forCall (fun _ _ => 0) ⟨#[], #[.slice none 0 0, .slice none 0 0, .slice none 0 0], []⟩).memory :=
  laidMet_of_run' 8 (by kernel_rfl) (by kernel_rfl)
theorem reads (os : Os) {H : Type} (enc : TypeId × Value → H) : ∃ places, DataW.whole enc Try.prog ((World.holding Try.prog os ⟨#[], #[], []⟩).forCall (fun _ _ => 0) ⟨#[], #[.slice none 0 0, .slice none 0 0, .slice none 0 0], []⟩).memory Try.f4.params.toList Rows.macFitsSpec.vars false #[Value.slice none 0 0, Value.slice none 0 0, Value.slice none 0 0].toList 8 = some ([.nil, .nil, .nil], [], places) :=
  ⟨[], by kernel_rfl⟩

set_option maxRecDepth 100000 in
theorem lifted (os : Os) (started : os.Started) (H : Type) (enc : TypeId × Value → H) (F : Stop.Interp) :
    ReturnsInHanded {} Try.checked os 4 .any ((OpenSpec.ofChange Rows.macFitsSpec).preRow enc Try.prog Try.f4 Rows.macFitsRow.domain false Rows.macFitsRow.laid) (((OpenSpec.ofChange Rows.macFitsSpec).at F).post enc Try.prog Try.f4 false true false false) := by
  obtain ⟨places, hx⟩ := reads os enc
  refine returnsInHanded_of_row (C := Try.checked) (s := OpenSpec.ofChange Rows.macFitsSpec) own started (by kernel_rfl) Try.func4
    (witness_row_at (enc := enc) (C := Try.checked) false (World.holding Try.prog os ⟨#[], #[], []⟩) #[.slice none 0 0, .slice none 0 0, .slice none 0 0] rfl (by kernel_rfl) (by kernel_rfl) (by kernel_rfl)
      (OpenSpec.preRow_of_cond 8 hx (by kernel_rfl) (fun k hk => by cases hk) (by kernel_rfl) (laid_met os))) ?_
  intro W base args ds gs before hval hW _ _ _ _ _ _
  exact contract H enc W base args ds gs before hval hW

theorem said : Rows.MacFitsSaid :=
  OpenClaim.holds_of_cond 4 Try.f4 rfl rfl rfl rfl rfl rfl rfl ⟨rfl, rfl, rfl, rfl, rfl⟩ rfl rfl rfl rfl rfl (by kernel_rfl) Try.func4 (by kernel_rfl)
    (of_decide_eq_true (by kernel_rfl)) (by unfold Func.isWrapper; first | (rw [if_pos (by decide +kernel)]; kernel_rfl) | (rw [if_neg (by decide +kernel)]; exact ⟨rfl, rfl⟩))
    (fun os started H enc _ F => by rw [OpenClaim.pre_eq_preRow]; exact lifted os started H enc F)
end Go.Proofs.Ytncmiacbgekjlaa.macFits

namespace Go.Proofs.Ytncmiacbgekjlaa
theorem macFits_said : Rows.MacFitsSaid := macFits.said
#print axioms macFits_said
end Go.Proofs.Ytncmiacbgekjlaa
