/- P4.1: for every passphrase and salt, every number of rounds and every n: Bytes answers ErrShape and no bytes where the passphrase, the rounds or n are out of range, else the n bytes that are derived as the reference has them; where the passphrase or the salt is longer than 100 bytes, there are more than 6 rounds, or n is from 101 to 1024 it is said that the program answers at all. -/
import Derived.Test.YtaplllonomdgeaaBox2
namespace Go.Proofs.Ytaplllonomdgeaa.deriveBytes
open Go.ChangeShapes Go.WideShapes Go.ChangeAt Go.RowKit

set_option maxHeartbeats 4000000 in
theorem walk (va : Value) (xs : List Int) (vb : Value) (ss : List Int) (x y : Int) (w : World) (ha : Byt w va xs) (hb : Byt w vb ss) (hx : -9223372036854775808 ≤ x ∧ x ≤ 9223372036854775807) (hy : -9223372036854775808 ≤ y ∧ y ≤ 9223372036854775807) :
    Calls Try.prog 3 #[.agg #[va, vb], .int .i64 x, .int .i64 y] w fun e w' => e = .returned (.bool true) ∧ Below w.heap.size w w' := by
  have HA : Hid (Byt w va xs) := ha
  have HB : Hid (Byt w vb ss) := hb
  obtain ⟨ao, ca, rfl, ha1, ha2, -, -, -⟩ := ha
  obtain ⟨bo, cb, rfl, hb1, hb2, -, -, -⟩ := hb
  obtain ⟨n, hn⟩ : ∃ n, n = xs.length := ⟨_, rfl⟩
  obtain ⟨m, hm⟩ : ∃ m, m = ss.length := ⟨_, rfl⟩
  rw [← hn] at HA ha1
  rw [← hm] at HB hb1
  rw [← hn, ← hm]
  have HN : Hid (n = xs.length) := hn
  have HM : Hid (m = ss.length) := hm
  clear hn hm
  by_cases hl : n ≤ 100 ∧ m ≤ 100 ∧ x ≤ 6
  · have HLI : Hid (∀ w0, Byt w0 (.slice ao n ca) xs → Byt w0 (.slice bo m cb) ss → Calls Try.prog 7 #[.slice ao n ca, .slice bo m cb, .int .i64 x] w0 fun e w' => e = .returned (.bool true) ∧ w' = w0) := fun w0 h1 h2 => light_any w0 _ _ xs ss x h1 h2 true (by rw [← HN.out, ← HM.out, decide_eq_true hl])
    by_cases hmid : 100 < y ∧ y ≤ 1024
    · obtain ⟨m1, m2⟩ := hmid
      clear hl
      go_enter Try.func3, Try.ntmps3
      go_wp2_with (first
        | (go_at_call 8; have q := HA1; refine (awake_any _).mono ?_; rintro e w7 ⟨rfl, b7⟩; have c7 : Below w.heap.size w w7 := b1.trans (b7.mono b1.size))
        | (go_at_call 7; refine (HLI.out _ HA1.out HB1.out).mono ?_; rintro e w' ⟨rfl, hw⟩; obtain rfl := hw.symm)
        | (refine box2_law _ rfl (.tmp 0) rfl _ _ _ _ _ _ rfl ?_; intro w1 p1 b1; obtain ⟨p1a, p1b⟩ := p1; have HA1 : Hid (Byt w1 (.slice ao n ca) xs) := HA.out.below b1; have HB1 : Hid (Byt w1 (.slice bo m cb) ss) := HB.out.below b1))
      go_ret
      exact ⟨rfl, c7⟩
    by_cases hr : n ≤ 64 ∧ 1 ≤ x ∧ x ≤ 1000
    · have HRI : Hid (∀ w0, Byt w0 (.slice ao n ca) xs → Calls Try.prog 10 #[.slice ao n ca, .int .i64 x] w0 fun e w' => e = .returned (.bool true) ∧ w' = w0) := fun w0 h1 => right_any w0 _ xs x h1 true (by rw [← HN.out, decide_eq_true hr])
      by_cases hi : 0 ≤ y ∧ y ≤ 1024
      · have i1 : ¬ y < 0 := by omega
        have i2 : ¬ 1024 < y := by omega
        have m1 : ¬ 100 < y := by omega
        clear hmid
        obtain ⟨c, rfl⟩ : ∃ c : Nat, x = c := ⟨x.toNat, by omega⟩
        obtain ⟨i, rfl⟩ : ∃ i : Nat, y = i := ⟨y.toNat, by omega⟩
        have HDB : Hid (∀ w0, Byt w0 (.slice ao n ca) xs → Byt w0 (.slice bo m cb) ss → Calls Try.prog 9 #[.slice ao n ca, .slice bo m cb, .int .i64 c, .int .i64 i] w0 fun e w' => ∃ v', e = .returned (.tuple #[v', .int .i64 0]) ∧ Byt w' v' (drv (blk xs) ss c i) ∧ Below w0.heap.size w0 w') := fun w0 h1 h2 => dbytes_any w0 _ _ xs ss c i h1 h2 (by rw [← HN.out]; omega) (by rw [← HM.out]; omega) (by omega) (by omega) (by omega)
        have HRB : Hid (∀ w0, Byt w0 (.slice ao n ca) xs → Byt w0 (.slice bo m cb) ss → Calls Try.prog 12 #[.slice ao n ca, .slice bo m cb, .int .i64 c, .int .i64 i] w0 fun e w' => ∃ v', e = .returned v' ∧ Byt w' v' (drv (blk xs) ss c i) ∧ Below w0.heap.size w0 w') := fun w0 h1 h2 => rbytes_any w0 _ _ xs ss c i h1 h2 (by rw [← HN.out]; omega) (by rw [← HM.out]; omega) (by omega) (by omega) (by omega)
        generalize drv (blk xs) ss c i = D at *
        clear hl hr hi
        go_enter Try.func3, Try.ntmps3
        go_wp2_with (first
          | (go_at_call 8; have q := c6; refine (awake_any _).mono ?_; rintro e w7 ⟨rfl, b7⟩; have c7 : Below w.heap.size w w7 := c6.trans (b7.mono c6.size))
          | (go_at_call 11; refine (same_true _ _ _ _ H45.out H5.out).mono ?_; rintro e w6 ⟨rfl, b6⟩; have c6 : Below w.heap.size w w6 := c5.trans (b6.mono c5.size))
          | (go_at_call 12; refine (HRB.out _ HA4.out HB4.out).mono ?_; rintro e w5 ⟨v5, rfl, hv5, b5⟩; have H5 : Hid (Byt w5 v5 D) := hv5; have H45 : Hid (Byt w5 v4 D) := H4.out.below b5; have c5 : Below w.heap.size w w5 := c4.trans (b5.mono c4.size); clear hv5)
          | (go_at_call 10; refine (HRI.out _ HA4.out).mono ?_; rintro e w' ⟨rfl, hw⟩; obtain rfl := hw.symm)
          | (go_at_call 9; refine (HDB.out _ HA1.out HB1.out).mono ?_; rintro e w4 ⟨v4, rfl, hv4, b4⟩; have H4 : Hid (Byt w4 v4 D) := hv4; have c4 : Below w.heap.size w w4 := b1.trans (b4.mono b1.size); have HA4 : Hid (Byt w4 (.slice ao n ca) xs) := HA.out.below c4; have HB4 : Hid (Byt w4 (.slice bo m cb) ss) := HB.out.below c4; have p4 := HP1.out.below b4; obtain ⟨p4a, p4b⟩ := p4; clear hv4)
          | (go_at_call 7; refine (HLI.out _ HA1.out HB1.out).mono ?_; rintro e w' ⟨rfl, hw⟩; obtain rfl := hw.symm)
          | (refine box2_law _ rfl (.tmp 0) rfl _ _ _ _ _ _ rfl ?_; intro w1 p1 b1; have HP1 : Hid (Prs w1 w.heap.size (.slice ao n ca) (.slice bo m cb)) := p1; obtain ⟨p1a, p1b⟩ := p1; have HA1 : Hid (Byt w1 (.slice ao n ca) xs) := HA.out.below b1; have HB1 : Hid (Byt w1 (.slice bo m cb) ss) := HB.out.below b1))
        go_ret
        exact ⟨rfl, c7⟩
      · have HNO : Hid (∀ w0, Byt w0 (.slice ao n ca) xs → Calls Try.prog 9 #[.slice ao n ca, .slice bo m cb, .int .i64 x, .int .i64 y] w0 fun e w' => e = .returned (.tuple #[.slice none 0 0, .int .i64 2]) ∧ w' = w0) := fun w0 h1 => dbytes_no w0 _ _ xs x y h1 (Or.inr (by omega))
        clear hl hr
        by_cases i1 : y < 0
        all_goals
          have i2 : y < 0 ∨ 1024 < y := by omega
          first
            | (have m1 : ¬ 100 < y := (by omega); clear hmid)
            | (have m1 : 100 < y := (by omega); have m2 : ¬ y ≤ 1024 := (by omega); clear hmid)
          first
            | (have i3 : 1024 < y := (by omega); clear i2 hi)
            | clear i2 hi
          go_enter Try.func3, Try.ntmps3
          go_wp2_with (first
            | (go_at_call 8; have q := HA1; refine (awake_any _).mono ?_; rintro e w7 ⟨rfl, b7⟩; have c7 : Below w.heap.size w w7 := b1.trans (b7.mono b1.size))
            | (go_at_call 10; refine (HRI.out _ HA1.out).mono ?_; rintro e w' ⟨rfl, hw⟩; obtain rfl := hw.symm)
            | (go_at_call 9; refine (HNO.out _ HA1.out).mono ?_; rintro e w' ⟨rfl, hw⟩; obtain rfl := hw.symm)
            | (go_at_call 7; refine (HLI.out _ HA1.out HB1.out).mono ?_; rintro e w' ⟨rfl, hw⟩; obtain rfl := hw.symm)
            | (refine box2_law _ rfl (.tmp 0) rfl _ _ _ _ _ _ rfl ?_; intro w1 p1 b1; obtain ⟨p1a, p1b⟩ := p1; have HA1 : Hid (Byt w1 (.slice ao n ca) xs) := HA.out.below b1; have HB1 : Hid (Byt w1 (.slice bo m cb) ss) := HB.out.below b1))
          go_ret
          exact ⟨rfl, c7⟩
    · have HRI : Hid (∀ w0, Byt w0 (.slice ao n ca) xs → Calls Try.prog 10 #[.slice ao n ca, .int .i64 x] w0 fun e w' => e = .returned (.bool false) ∧ w' = w0) := fun w0 h1 => right_any w0 _ xs x h1 false (by rw [← HN.out, decide_eq_false hr])
      have HNO : Hid (∀ w0, Byt w0 (.slice ao n ca) xs → Calls Try.prog 9 #[.slice ao n ca, .slice bo m cb, .int .i64 x, .int .i64 y] w0 fun e w' => e = .returned (.tuple #[.slice none 0 0, .int .i64 2]) ∧ w' = w0) := fun w0 h1 => dbytes_no w0 _ _ xs x y h1 (Or.inl (by rw [← HN.out]; exact hr))
      by_cases j1 : y ≤ 100
      all_goals first
        | (have m1 : ¬ 100 < y := (by omega); clear hmid j1)
        | (have m1 : 100 < y := (by omega); have m2 : ¬ y ≤ 1024 := (by omega); clear hmid j1)
      all_goals
        clear hl hr
        go_enter Try.func3, Try.ntmps3
        go_wp2_with (first
          | (go_at_call 8; have q := HA1; refine (awake_any _).mono ?_; rintro e w7 ⟨rfl, b7⟩; have c7 : Below w.heap.size w w7 := b1.trans (b7.mono b1.size))
          | (go_at_call 10; refine (HRI.out _ HA1.out).mono ?_; rintro e w' ⟨rfl, hw⟩; obtain rfl := hw.symm)
          | (go_at_call 9; refine (HNO.out _ HA1.out).mono ?_; rintro e w' ⟨rfl, hw⟩; obtain rfl := hw.symm)
          | (go_at_call 7; refine (HLI.out _ HA1.out HB1.out).mono ?_; rintro e w' ⟨rfl, hw⟩; obtain rfl := hw.symm)
          | (refine box2_law _ rfl (.tmp 0) rfl _ _ _ _ _ _ rfl ?_; intro w1 p1 b1; obtain ⟨p1a, p1b⟩ := p1; have HA1 : Hid (Byt w1 (.slice ao n ca) xs) := HA.out.below b1; have HB1 : Hid (Byt w1 (.slice bo m cb) ss) := HB.out.below b1))
        go_ret
        exact ⟨rfl, c7⟩
  · have HLI : Hid (∀ w0, Byt w0 (.slice ao n ca) xs → Byt w0 (.slice bo m cb) ss → Calls Try.prog 7 #[.slice ao n ca, .slice bo m cb, .int .i64 x] w0 fun e w' => e = .returned (.bool false) ∧ w' = w0) := fun w0 h1 h2 => light_any w0 _ _ xs ss x h1 h2 false (by rw [← HN.out, ← HM.out, decide_eq_false hl])
    clear hl
    go_enter Try.func3, Try.ntmps3
    go_wp2_with (first
      | (go_at_call 8; have q := HA1; refine (awake_any _).mono ?_; rintro e w7 ⟨rfl, b7⟩; have c7 : Below w.heap.size w w7 := b1.trans (b7.mono b1.size))
      | (go_at_call 7; refine (HLI.out _ HA1.out HB1.out).mono ?_; rintro e w' ⟨rfl, hw⟩; obtain rfl := hw.symm)
      | (refine box2_law _ rfl (.tmp 0) rfl _ _ _ _ _ _ rfl ?_; intro w1 p1 b1; obtain ⟨p1a, p1b⟩ := p1; have HA1 : Hid (Byt w1 (.slice ao n ca) xs) := HA.out.below b1; have HB1 : Hid (Byt w1 (.slice bo m cb) ss) := HB.out.below b1))
    go_ret
    exact ⟨rfl, c7⟩

theorem params : ∀ t ∈ Try.f3.params.toList, Try.prog.readableRec t = true ∧ t < Try.prog.types.size := by
  rw [Try.params3]
  intro t ht
  simp at ht
  rcases ht with rfl | rfl
  · exact ⟨by kernel_rfl, of_decide_eq_true (by kernel_rfl)⟩
  · exact ⟨by kernel_rfl, of_decide_eq_true (by kernel_rfl)⟩

theorem contract (H : Type) (enc : TypeId × Value → H) (W : World) (base : Nat) (args : Array Value) (ds gs : List (DataW H)) (before : List MemPlace)
    (hval : ∀ (j : Nat) t v, Try.f3.params[j]? = some t → args[j]? = some v → Value.okWide Try.prog W .any base t v)
    (hW : DataW.Whole enc Try.prog Try.f3.params.toList Rows.deriveBytesSpec.vars false W args.toList ds gs before) :
    Calls Try.prog 3 args W fun e W' => ∃ v, e = .returned v ∧ Rows.deriveBytesSpec.post enc Try.prog Try.f3 false true false false W args v W' := by
  have hW' := hW
  obtain ⟨p, q, hA0, hV, rfl, hfz, hnd⟩ := hW
  have hA : DataW.TrodAll enc Try.prog W 0 (fun _ => true) true Try.f3.params.toList args.toList ds p := hA0
  rw [Try.params3] at hA hval
  obtain ⟨v0, v1, v2, d0, d1, d2, p0, p1, p2, rfl, rfl, rfl, h0, h1, h2⟩ := trodAll_three hA
  obtain ⟨rfl, rfl⟩ := trodVars_none hV
  obtain ⟨va0, vb0, xs0, ys0, rfl, b0, c0⟩ := pair_open (hval 0 23 v0 rfl rfl) h0
  obtain ⟨x1, rfl, rfl, rfl, w1⟩ := open_int Try.underlying3 (hval 1 3 v1 rfl rfl) h1
  obtain ⟨x2, rfl, rfl, rfl, w2⟩ := open_int Try.underlying3 (hval 2 3 v2 rfl rfl) h2
  clear hA0
  refine (walk va0 xs0 vb0 ys0 x1 x2 W b0 c0 (bounds_i64 w1) (bounds_i64 w2)).mono fun e W' ⟨he, hg⟩ => ?_
  subst he
  exact ⟨_, rfl, post_law rfl (by kernel_rfl) params rfl rfl rfl hW' hg⟩

theorem laid_met (os : Os) : laidMet Try.prog Rows.deriveBytesRow.laid ((World.holding Try.prog os ⟨#[], #[], []⟩).forCall (fun _ _ => 0) ⟨#[], #[.agg #[.slice none 0 0, .slice none 0 0], .int .i64 0, .int .i64 0], []⟩).memory :=
  laidMet_of_run' 8 (by kernel_rfl) (by kernel_rfl)
theorem reads (os : Os) {H : Type} (enc : TypeId × Value → H) : ∃ places, DataW.whole enc Try.prog ((World.holding Try.prog os ⟨#[], #[], []⟩).forCall (fun _ _ => 0) ⟨#[], #[.agg #[.slice none 0 0, .slice none 0 0], .int .i64 0, .int .i64 0], []⟩).memory Try.f3.params.toList Rows.deriveBytesSpec.vars false #[Value.agg #[.slice none 0 0, .slice none 0 0], Value.int .i64 0, Value.int .i64 0].toList 8 = some ([.agg [.nil, .nil], .lit (.int .i64 0), .lit (.int .i64 0)], [], places) :=
  ⟨[], by kernel_rfl⟩

set_option maxRecDepth 100000 in
theorem lifted (os : Os) (started : os.Started) (H : Type) (enc : TypeId × Value → H) (F : Stop.Interp) :
    ReturnsInHanded {} Try.checked os 3 .any ((OpenSpec.ofChange Rows.deriveBytesSpec).preRow enc Try.prog Try.f3 Rows.deriveBytesRow.domain false Rows.deriveBytesRow.laid) (((OpenSpec.ofChange Rows.deriveBytesSpec).at F).post enc Try.prog Try.f3 false true false false) := by
  obtain ⟨places, hx⟩ := reads os enc
  refine returnsInHanded_of_row (C := Try.checked) (s := OpenSpec.ofChange Rows.deriveBytesSpec) own started (by kernel_rfl) Try.func3
    (witness_row_at (enc := enc) (C := Try.checked) false (World.holding Try.prog os ⟨#[], #[], []⟩) #[.agg #[.slice none 0 0, .slice none 0 0], .int .i64 0, .int .i64 0] rfl (by kernel_rfl) (by kernel_rfl) (by kernel_rfl)
      (OpenSpec.preRow_of_cond 8 hx (by kernel_rfl) (fun k hk => by cases hk) (by kernel_rfl) (laid_met os))) ?_
  intro W base args ds gs before hval hW _ _ _ _ _ _
  exact contract H enc W base args ds gs before hval hW

theorem said : Rows.DeriveBytesSaid :=
  OpenClaim.holds_of_cond 3 Try.f3 rfl rfl rfl rfl rfl rfl rfl ⟨rfl, rfl, rfl, rfl, rfl⟩ rfl rfl rfl rfl rfl (by kernel_rfl) Try.func3 (by kernel_rfl)
    (of_decide_eq_true (by kernel_rfl)) (by unfold Func.isWrapper; first | (rw [if_pos (by decide +kernel)]; kernel_rfl) | (rw [if_neg (by decide +kernel)]; exact ⟨rfl, rfl⟩))
    (fun os started H enc _ F => by rw [OpenClaim.pre_eq_preRow]; exact lifted os started H enc F)
end Go.Proofs.Ytaplllonomdgeaa.deriveBytes

namespace Go.Proofs.Ytaplllonomdgeaa
theorem deriveBytes_said : Rows.DeriveBytesSaid := deriveBytes.said
#print axioms deriveBytes_said
end Go.Proofs.Ytaplllonomdgeaa
