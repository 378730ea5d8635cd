/- P2.2: for every list of bytes b: a nil hash takes what is written to it, has no bytes, and its sum is that of no bytes; one that was not made by New is one of no bytes, and behind a Write of b its sum is b's; where b is longer than 1500 bytes it is said that the program answers at all. -/
import Derived.Test.YtigakkmoigfboaaLaw2
import Derived.Test.YtigakkmoigfboaaRefSum
namespace Go.Proofs.Ytigakkmoigfboaa.shaNil
open Go.ChangeShapes Go.WideShapes Go.ChangeAt Go.RowKit

set_option maxHeartbeats 4000000 in
theorem walk (va : Value) (xs : List Int) (w : World) (ha : Byt w va xs) :
    Calls Try.prog 6 #[va] w fun e w' => e = .returned (.bool true) ∧ Below w.heap.size w w' := by
  have HA : Hid (Byt w va xs) := ha
  have HXA : Hid (AllB xs) := ha.all
  obtain ⟨ao, ca, rfl, ha1, ha2, -, -, -⟩ := ha
  obtain ⟨n, hn⟩ : ∃ n, n = xs.length := ⟨_, rfl⟩
  rw [← hn] at HA ha1 ⊢
  have HN : Hid (n = xs.length) := hn
  clear hn
  by_cases h3 : n ≤ 1500
  · have l1 : ¬ 1500 < (n : Int) := by omega
    have HM : Hid (xs.length ≤ 1000000) := by have := HN.out; show _ ≤ _; omega
    have HEA : Hid (AllB []) := allB_mem (by simp)
    have HS0 : Hid (∀ w0 b, Has w0 b [] → Calls Try.prog 17 #[.pointer (some ⟨b, 0, none⟩)] w0 fun e w' => ∃ v, e = .returned v ∧ Byt w' v (sumOf []) ∧ (∃ g, v = .slice (some ⟨g, 0, none⟩) 32 32 ∧ w0.heap.size ≤ g ∧ Ar w' g 0 .u8 (sumOf [])) ∧ Below w0.heap.size w0 w') := fun w0 b h => hsum_any w0 b [] h HEA.out (by simp)
    have HSN : Hid (∀ w0, Calls Try.prog 17 #[.pointer none] w0 fun e w' => ∃ v, e = .returned v ∧ Byt w' v (sumOf []) ∧ Below w0.heap.size w0 w') := fun w0 => (hsum_nil w0).mono fun e w' ⟨v', he, hb, _, hbl⟩ => ⟨v', he, hb, hbl⟩
    have HR0 : Hid (∀ w0, Calls Try.prog 10 #[.slice none 0 0] w0 fun e w' => ∃ v, e = .returned v ∧ Byt w' v (sumOf []) ∧ Below w0.heap.size w0 w') := fun w0 => rsum_any w0 _ [] (Byt.nil w0) (by simp)
    have HSL : Hid ((sumOf []).length = 32 ∧ AllB (sumOf [])) := ⟨catw_len _ _, catw_all _ _⟩
    generalize sumOf [] = s0 at *
    have HSX : Hid (∀ w0 b, Has w0 b ([] ++ xs) → Calls Try.prog 17 #[.pointer (some ⟨b, 0, none⟩)] w0 fun e w' => ∃ v, e = .returned v ∧ Byt w' v (sumOf xs) ∧ Below w0.heap.size w0 w') := fun w0 b h => (hsum_any w0 b xs h HXA.out HM.out).mono fun e w' ⟨v', he, hb, _, hbl⟩ => ⟨v', he, hb, hbl⟩
    have HRX : Hid (∀ w0, Byt w0 (.slice ao n ca) xs → Calls Try.prog 10 #[.slice ao n ca] w0 fun e w' => ∃ v, e = .returned v ∧ Byt w' v (sumOf xs) ∧ Below w0.heap.size w0 w') := fun w0 h => rsum_any w0 _ xs h HM.out
    generalize sumOf xs = ss at *
    obtain ⟨w1, hw1⟩ : ∃ w1, w1 = w.alloc (.cells (hcells z8 z64 0).toArray 44) := ⟨_, rfl⟩
    have B1 : Below w.heap.size w w1 := by rw [hw1]; exact (Below.refl _ _).alloc (Nat.le_refl _) _
    have HH1 : Hid (Has w1 w.heap.size []) := by rw [hw1]; exact Has.new w
    have HW1 : Hid (w1 = w.alloc (.cells (hcells z8 z64 0).toArray 44)) := hw1
    have s1 : w.heap.size < w1.heap.size := by rw [hw1]; simp
    clear hw1
    go_enter Try.func6, Try.ntmps6
    go_wp2_with (first
      | (go_at_call_of 16 (Value.pointer none); refine (hwrite_nil _ _).mono ?_; rintro e w' ⟨rfl, hw⟩; obtain rfl := hw.symm)
      | (refine build_law _ rfl 44 _ rfl (.agg (hcells z8 z64 0).toArray) (by kernel_rfl) ?_)
      | (refine hbox_law _ rfl (.tmp 13) rfl rfl ?_; intro wx hwx; rw [← HW1.out] at hwx; subst hwx))
    go_wp2_with (go_at_call 17; refine (HS0.out _ _ HH1.out).mono ?_; rintro e w2 ⟨v2, rfl, -, ⟨g2, rfl, hg2, hA2⟩, B2⟩; have HA2 : Hid (Ar w2 g2 0 .u8 s0) := hA2; clear hA2; have s2 := B2.size; have HH2 : Hid (Has w2 w.heap.size []) := HH1.out.below B2 s1; have C2 : Below w.heap.size w w2 := B1.trans (B2.mono B1.size); have HK2 : Hid (Kept w.heap.size w2 (.slice ao n ca) xs) := HA.out.kept C2 (Nat.le_refl _))
    go_wp2_with (go_at_call 16; refine (write_any _ _ [] xs _ HH2.out HEA.out HK2.out (by have := HM.out; simp; omega)).mono ?_; rintro e w3 ⟨rfl, hH3, hB3⟩; have HH3 : Hid (Has w3 w.heap.size ([] ++ xs)) := hH3; have HB3 : Hid (But w.heap.size w2 w3) := hB3; clear hH3 hB3; have C3 : Below w.heap.size w w3 := C2.trans (HB3.out.below (Nat.le_refl _) C2.size); have s3 : w2.heap.size ≤ w3.heap.size := HB3.out.size)
    have H23 : Hid (Byt w3 (.slice (some ⟨g2, 0, none⟩) 32 32) s0) := by
      have := (HA2.out.kept HSL.out.2 (by rw [HSL.out.1]; omega) (by rw [HSL.out.1]; omega) (show g2 ≠ w.heap.size by omega)) w3 HB3.out
      rwa [HSL.out.1] at this
    go_wp2_with (first
      | (go_at_call 18; refine (hlen_nil _).mono ?_; rintro e w' ⟨rfl, hw⟩; obtain rfl := hw.symm)
      | (go_at_call 17; refine (HSN.out _).mono ?_; rintro e w4 ⟨v4, rfl, h4, B4⟩; have H4 : Hid (Byt w4 v4 s0) := h4; clear h4; have C4 : Below w3.heap.size w3 w4 := B4)
      | (go_at_call 10; refine (HR0.out _).mono ?_; rintro e w5 ⟨v5, rfl, h5, B5⟩; have H5 : Hid (Byt w5 v5 s0) := h5; have H45 : Hid (Byt w5 v4 s0) := H4.out.below B5; clear h5; have C5 : Below w3.heap.size w3 w5 := C4.trans (B5.mono C4.size))
      | (go_at_call_of 8 v4; refine (same_true _ _ _ _ H45.out H5.out).mono ?_; rintro e w6 ⟨rfl, B6⟩; have C6 : Below w3.heap.size w3 w6 := C5.trans (B6.mono C5.size)))
    go_wp2_with (first
      | (go_at_call 10; refine (HR0.out _).mono ?_; rintro e w7 ⟨v7, rfl, h7, B7⟩; have H7 : Hid (Byt w7 v7 s0) := h7; clear h7; have C7 : Below w3.heap.size w3 w7 := C6.trans (B7.mono C6.size); have H27 : Hid (Byt w7 (.slice (some ⟨g2, 0, none⟩) 32 32) s0) := H23.out.below C7)
      | (go_at_call 8; refine (same_true _ _ _ _ H27.out H7.out).mono ?_; rintro e w8 ⟨rfl, B8⟩; have C8 : Below w3.heap.size w3 w8 := C7.trans (B8.mono C7.size); have HH8 : Hid (Has w8 w.heap.size ([] ++ xs)) := HH3.out.below C8 (by omega); have D8 : Below w.heap.size w w8 := C3.trans (C8.mono C3.size)))
    go_wp2_with (first
      | (go_at_call 17; refine (HSX.out _ _ HH8.out).mono ?_; rintro e w9 ⟨v9, rfl, h9, B9⟩; have H9 : Hid (Byt w9 v9 ss) := h9; clear h9; have D9 : Below w.heap.size w w9 := D8.trans (B9.mono D8.size); have HA9 : Hid (Byt w9 (.slice ao n ca) xs) := HA.out.below D9)
      | (go_at_call 10; refine (HRX.out _ HA9.out).mono ?_; rintro e wa ⟨va, rfl, ha, Ba⟩; have Ha : Hid (Byt wa va ss) := ha; clear ha; have Da : Below w.heap.size w wa := D9.trans (Ba.mono D9.size); have H9a : Hid (Byt wa v9 ss) := H9.out.below Ba)
      | (go_at_call_of 8 v9; refine (same_true _ _ _ _ H9a.out Ha.out).mono ?_; rintro e wb ⟨rfl, Bb⟩; have Db : Below w.heap.size w wb := Da.trans (Bb.mono Da.size))
      | (go_at_call 7; refine (awake_any _).mono ?_; rintro e wc ⟨rfl, Bc⟩; have Dc : Below w.heap.size w wc := Db.trans (Bc.mono Db.size)))
    go_ret
    exact ⟨rfl, Dc⟩
  · have l1 : 1500 < (n : Int) := by omega
    go_enter Try.func6, Try.ntmps6
    go_wp2_with (go_at_call 7; refine (awake_any _).mono ?_; rintro e w4 ⟨rfl, hb4⟩)
    go_ret
    exact ⟨rfl, hb4⟩

theorem params : ∀ t ∈ Try.f6.params.toList, Try.prog.readableRec t = true ∧ t < Try.prog.types.size := by
  rw [Try.params6]
  intro t ht
  simp at ht
  subst ht
  exact ⟨by kernel_rfl, of_decide_eq_true (by kernel_rfl)⟩

theorem contract (H : Type) (enc : TypeId × Value → H) (W : World) (base : Nat) (args : Array Value) (ds gs : List (DataW H)) (before : List MemPlace)
    (hval : ∀ (j : Nat) t v, Try.f6.params[j]? = some t → args[j]? = some v → Value.okWide Try.prog W .any base t v)
    (hW : DataW.Whole enc Try.prog Try.f6.params.toList Rows.shaNilSpec.vars false W args.toList ds gs before) :
    Calls Try.prog 6 args W fun e W' => ∃ v, e = .returned v ∧ Rows.shaNilSpec.post enc Try.prog Try.f6 false true false false W args v W' := by
  have hW' := hW
  obtain ⟨p, q, hA0, hV, rfl, hfz, hnd⟩ := hW
  have hA : DataW.TrodAll enc Try.prog W 0 (fun _ => true) true Try.f6.params.toList args.toList ds p := hA0
  rw [Try.params6] at hA hval
  obtain ⟨v0, d0, rfl, rfl, h0⟩ := trodAll_one hA
  obtain ⟨rfl, rfl⟩ := trodVars_none hV
  obtain ⟨xs0, b0⟩ := byt_open (hval 0 22 v0 rfl rfl) h0
  clear hA0
  refine (walk v0 xs0 W b0).mono fun e W' ⟨he, hg⟩ => ?_
  subst he
  exact ⟨_, rfl, post_law rfl (by kernel_rfl) params rfl rfl rfl hW' hg⟩

theorem laid_met (os : Os) : laidMet Try.prog Rows.shaNilRow.laid ((World.holding Try.prog os ⟨#[], #[], []⟩).forCall (fun _ _ => 0) ⟨#[], #[.slice none 0 0], []⟩).memory :=
  laidMet_of_run' 8 (by kernel_rfl) (by kernel_rfl)
theorem reads (os : Os) {H : Type} (enc : TypeId × Value → H) : ∃ places, DataW.whole enc Try.prog ((World.holding Try.prog os ⟨#[], #[], []⟩).forCall (fun _ _ => 0) ⟨#[], #[.slice none 0 0], []⟩).memory Try.f6.params.toList Rows.shaNilSpec.vars false #[Value.slice none 0 0].toList 8 = some ([.nil], [], places) :=
  ⟨[], by kernel_rfl⟩

set_option maxRecDepth 100000 in
theorem lifted (os : Os) (started : os.Started) (H : Type) (enc : TypeId × Value → H) (F : Stop.Interp) :
    ReturnsInHanded {} Try.checked os 6 .any ((OpenSpec.ofChange Rows.shaNilSpec).preRow enc Try.prog Try.f6 Rows.shaNilRow.domain false Rows.shaNilRow.laid) (((OpenSpec.ofChange Rows.shaNilSpec).at F).post enc Try.prog Try.f6 false true false false) := by
  obtain ⟨places, hx⟩ := reads os enc
  refine returnsInHanded_of_row (C := Try.checked) (s := OpenSpec.ofChange Rows.shaNilSpec) own started (by kernel_rfl) Try.func6
    (witness_row_at (enc := enc) (C := Try.checked) false (World.holding Try.prog os ⟨#[], #[], []⟩) #[.slice none 0 0] rfl (by kernel_rfl) (by kernel_rfl) (by kernel_rfl)
      (OpenSpec.preRow_of_cond 8 hx (by kernel_rfl) (fun k hk => by cases hk) (by kernel_rfl) (laid_met os))) ?_
  intro W base args ds gs before hval hW _ _ _ _ _ _
  exact contract H enc W base args ds gs before hval hW

theorem said : Rows.ShaNilSaid :=
  OpenClaim.holds_of_cond 6 Try.f6 rfl rfl rfl rfl rfl rfl rfl ⟨rfl, rfl, rfl, rfl, rfl⟩ rfl rfl rfl rfl rfl (by kernel_rfl) Try.func6 (by kernel_rfl)
    (of_decide_eq_true (by kernel_rfl)) (by unfold Func.isWrapper; first | (rw [if_pos (by decide +kernel)]; kernel_rfl) | (rw [if_neg (by decide +kernel)]; exact ⟨rfl, rfl⟩))
    (fun os started H enc _ F => by rw [OpenClaim.pre_eq_preRow]; exact lifted os started H enc F)
end Go.Proofs.Ytigakkmoigfboaa.shaNil

namespace Go.Proofs.Ytigakkmoigfboaa
theorem shaNil_said : Rows.ShaNilSaid := shaNil.said
#print axioms shaNil_said
end Go.Proofs.Ytigakkmoigfboaa
