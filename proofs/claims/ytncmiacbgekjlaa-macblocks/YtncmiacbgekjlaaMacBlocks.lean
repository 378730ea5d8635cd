/- P3.4: for every key of no more than 64 bytes and every text of no more than 600: mac.Tag(key, text) and mac.Tag(mac.Block(key), text) are the same; where the key or the text is longer it is said that the program answers at all. -/
import Derived.Test.YtncmiacbgekjlaaMacAwake
namespace Go.Proofs.Ytncmiacbgekjlaa.macBlocks
open Go.ChangeShapes Go.WideShapes Go.ChangeAt Go.RowKit

theorem blk_blk (xs : List Int) : blk (blk xs) = blk xs := by
  have h : kb (blk xs) = blk xs := if_pos (by rw [blk_len]; omega)
  show kb (blk xs) ++ List.replicate (64 - (kb (blk xs)).length) 0 = _
  rw [h, blk_len]
  simp

set_option maxHeartbeats 2000000 in
theorem walk (va : Value) (xs : List Int) (vb : Value) (ts : List Int) (w : World) (ha : Byt w va xs) (hb : Byt w vb ts) :
    Calls Try.prog 6 #[va, vb] w fun e w' => e = .returned (.bool true) ∧ Below w.heap.size w w' := by
  have HA : Hid (Byt w va xs) := ha
  have HB : Hid (Byt w vb ts) := hb
  have HXA : Hid (AllB xs) := ha.all
  obtain ⟨ao, ca, rfl, ha1, ha2, -, -, -⟩ := ha
  obtain ⟨bo, cb, rfl, hb1, hb2, -, -, -⟩ := hb
  by_cases h3 : xs.length ≤ 64
  · by_cases h6 : ts.length ≤ 600
    · have HT : Hid (∀ w0, Byt w0 (.slice ao xs.length ca) xs → Byt w0 (.slice bo ts.length cb) ts → Calls Try.prog 9 #[.slice ao xs.length ca, .slice bo ts.length cb] w0 fun e w' => ∃ v', e = .returned v' ∧ Byt w' v' (tagB (blk xs) ts) ∧ Below w0.heap.size w0 w') := fun w0 h1 h2 => mtag_any w0 _ _ xs ts h1 h2 (by omega) (by omega)
      have HT2 : Hid (∀ w0 v, Byt w0 v (blk xs) → Byt w0 (.slice bo ts.length cb) ts → Calls Try.prog 9 #[v, .slice bo ts.length cb] w0 fun e w' => ∃ v', e = .returned v' ∧ Byt w' v' (tagB (blk xs) ts) ∧ Below w0.heap.size w0 w') := fun w0 v h1 h2 => by
        have := mtag_any w0 v _ (blk xs) ts h1 h2 (by rw [blk_len]; omega) (by omega)
        rwa [blk_blk] at this
      generalize tagB (blk xs) ts = T at *
      have HMB : Hid (∀ w0, Byt w0 (.slice ao xs.length ca) xs → Calls Try.prog 11 #[.slice ao xs.length ca] w0 fun e w' => ∃ v', e = .returned v' ∧ Byt w' v' (blk xs) ∧ Below w0.heap.size w0 w') := fun w0 h1 => (mblock_any w0 _ xs h1 (by omega)).mono fun _ w' ⟨g, he, _, hA, hbl⟩ => ⟨_, he, by
        have := hA.byt (blk_all xs HXA.out) 0 64 64 (by omega) (by rw [blk_len]; omega) (by omega) (by omega)
        rwa [List.take_of_length_le (by rw [blk_len]; omega), List.drop_zero] at this, hbl⟩
      generalize blk xs = bx at *
      obtain ⟨n, hn⟩ : ∃ n, n = xs.length := ⟨_, rfl⟩
      obtain ⟨m, hm⟩ : ∃ m, m = ts.length := ⟨_, rfl⟩
      rw [← hn] at HA h3 ha1 HT HMB ⊢
      rw [← hm] at HB h6 hb1 HT HT2 ⊢
      clear hn hm
      have l1 : ¬ 64 < (n : Int) := by omega
      have l2 : ¬ 600 < (m : Int) := by omega
      go_enter Try.func6, Try.ntmps6
      go_wp2_with (first
        | (go_at_call 7; refine (awake_any _).mono ?_; rintro e w5 ⟨rfl, b5⟩; have c5 : Below w.heap.size w w5 := c4.trans (b5.mono c4.size))
        | (go_at_call 8; refine (same_true _ _ _ _ H13.out H3.out).mono ?_; rintro e w4 ⟨rfl, b4⟩; have c4 : Below w.heap.size w w4 := c3.trans (b4.mono c3.size))
        | (go_at_call_of 9 v2; refine (HT2.out _ _ H2.out HB2.out).mono ?_; rintro e w3 ⟨v3, rfl, h3', b3⟩; have H3 : Hid (Byt w3 v3 T) := h3'; clear h3'; have H13 : Hid (Byt w3 v1 T) := H1.out.below ((b2.trans (b3.mono b2.size))); have c3 : Below w.heap.size w w3 := c2.trans (b3.mono c2.size))
        | (go_at_call 11; refine (HMB.out _ HA1.out).mono ?_; rintro e w2 ⟨v2, rfl, h2, b2⟩; have H2 : Hid (Byt w2 v2 bx) := h2; clear h2; have c2 : Below w.heap.size w w2 := b1.trans (b2.mono b1.size); have HB2 : Hid (Byt w2 (.slice bo m cb) ts) := HB.out.below c2)
        | (go_at_call_of 9 (Value.slice ao n ca); refine (HT.out _ HA.out HB.out).mono ?_; rintro e w1 ⟨v1, rfl, h1, b1⟩; have H1 : Hid (Byt w1 v1 T) := h1; clear h1; have HA1 : Hid (Byt w1 (.slice ao n ca) xs) := HA.out.below b1))
      go_ret
      exact ⟨rfl, c5⟩
    · have l1 : ¬ 64 < (xs.length : Int) := by omega
      have l2 : 600 < (ts.length : Int) := by omega
      go_enter Try.func6, Try.ntmps6
      go_wp2_with (go_at_call 7; refine (awake_any _).mono ?_; rintro e w4 ⟨rfl, hb4⟩)
      go_ret
      exact ⟨rfl, hb4⟩
  · have l1 : 64 < (xs.length : Int) := by omega
    go_enter Try.func6, Try.ntmps6
    go_wp2_with (go_at_call 7; refine (awake_any _).mono ?_; rintro e w4 ⟨rfl, hb4⟩)
    go_ret
    exact ⟨rfl, hb4⟩

theorem params : ∀ t ∈ Try.f6.params.toList, Try.prog.readableRec t = true ∧ t < Try.prog.types.size := by
  rw [Try.params6]
  intro t ht
  simp at ht
  subst ht
  exact ⟨by kernel_rfl, of_decide_eq_true (by kernel_rfl)⟩

theorem contract (H : Type) (enc : TypeId × Value → H) (W : World) (base : Nat) (args : Array Value) (ds gs : List (DataW H)) (before : List MemPlace)
    (hval : ∀ (j : Nat) t v, Try.f6.params[j]? = some t → args[j]? = some v → Value.okWide Try.prog W .any base t v)
    (hW : DataW.Whole enc Try.prog Try.f6.params.toList Rows.macBlocksSpec.vars false W args.toList ds gs before) :
    Calls Try.prog 6 args W fun e W' => ∃ v, e = .returned v ∧ Rows.macBlocksSpec.post enc Try.prog Try.f6 false true false false W args v W' := by
  have hW' := hW
  obtain ⟨p, q, hA0, hV, rfl, hfz, hnd⟩ := hW
  have hA : DataW.TrodAll enc Try.prog W 0 (fun _ => true) true Try.f6.params.toList args.toList ds p := hA0
  rw [Try.params6] at hA hval
  obtain ⟨v0, v1, d0, d1, p0, p1, rfl, rfl, rfl, h0, h1⟩ := trodAll_two hA
  obtain ⟨rfl, rfl⟩ := trodVars_none hV
  obtain ⟨xs0, b0⟩ := byt_open (hval 0 22 v0 rfl rfl) h0
  obtain ⟨xs1, b1⟩ := byt_open (hval 1 22 v1 rfl rfl) h1
  clear hA0
  refine (walk v0 xs0 v1 xs1 W b0 b1).mono fun e W' ⟨he, hg⟩ => ?_
  subst he
  exact ⟨_, rfl, post_law rfl (by kernel_rfl) params rfl rfl rfl hW' hg⟩

theorem laid_met (os : Os) : laidMet Try.prog Rows.macBlocksRow.laid ((World.holding Try.prog os ⟨#[], #[], []⟩).forCall (fun _ _ => 0) ⟨#[], #[.slice none 0 0, .slice none 0 0], []⟩).memory :=
  laidMet_of_run' 8 (by kernel_rfl) (by kernel_rfl)
theorem reads (os : Os) {H : Type} (enc : TypeId × Value → H) : ∃ places, DataW.whole enc Try.prog ((World.holding Try.prog os ⟨#[], #[], []⟩).forCall (fun _ _ => 0) ⟨#[], #[.slice none 0 0, .slice none 0 0], []⟩).memory Try.f6.params.toList Rows.macBlocksSpec.vars false #[Value.slice none 0 0, Value.slice none 0 0].toList 8 = some ([.nil, .nil], [], places) :=
  ⟨[], by kernel_rfl⟩

set_option maxRecDepth 100000 in
theorem lifted (os : Os) (started : os.Started) (H : Type) (enc : TypeId × Value → H) (F : Stop.Interp) :
    ReturnsInHanded {} Try.checked os 6 .any ((OpenSpec.ofChange Rows.macBlocksSpec).preRow enc Try.prog Try.f6 Rows.macBlocksRow.domain false Rows.macBlocksRow.laid) (((OpenSpec.ofChange Rows.macBlocksSpec).at F).post enc Try.prog Try.f6 false true false false) := by
  obtain ⟨places, hx⟩ := reads os enc
  refine returnsInHanded_of_row (C := Try.checked) (s := OpenSpec.ofChange Rows.macBlocksSpec) own started (by kernel_rfl) Try.func6
    (witness_row_at (enc := enc) (C := Try.checked) false (World.holding Try.prog os ⟨#[], #[], []⟩) #[.slice none 0 0, .slice none 0 0] rfl (by kernel_rfl) (by kernel_rfl) (by kernel_rfl)
      (OpenSpec.preRow_of_cond 8 hx (by kernel_rfl) (fun k hk => by cases hk) (by kernel_rfl) (laid_met os))) ?_
  intro W base args ds gs before hval hW _ _ _ _ _ _
  exact contract H enc W base args ds gs before hval hW

theorem said : Rows.MacBlocksSaid :=
  OpenClaim.holds_of_cond 6 Try.f6 rfl rfl rfl rfl rfl rfl rfl ⟨rfl, rfl, rfl, rfl, rfl⟩ rfl rfl rfl rfl rfl (by kernel_rfl) Try.func6 (by kernel_rfl)
    (of_decide_eq_true (by kernel_rfl)) (by unfold Func.isWrapper; first | (rw [if_pos (by decide +kernel)]; kernel_rfl) | (rw [if_neg (by decide +kernel)]; exact ⟨rfl, rfl⟩))
    (fun os started H enc _ F => by rw [OpenClaim.pre_eq_preRow]; exact lifted os started H enc F)
end Go.Proofs.Ytncmiacbgekjlaa.macBlocks

namespace Go.Proofs.Ytncmiacbgekjlaa
theorem macBlocks_said : Rows.MacBlocksSaid := macBlocks.said
#print axioms macBlocks_said
end Go.Proofs.Ytncmiacbgekjlaa
