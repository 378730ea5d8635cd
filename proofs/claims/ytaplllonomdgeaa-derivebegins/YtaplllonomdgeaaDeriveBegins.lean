/- P4.3: for every passphrase and salt and all numbers n and more: what is derived with 2 rounds of n mod 80 bytes begins what is derived of n mod 80 + more mod 80 bytes, or both answer ErrShape where the passphrase is too long; where the passphrase or the salt is longer than 100 bytes it is said that the program answers at all. -/
import Derived.Test.YtaplllonomdgeaaBox2
import Derived.Test.YtaplllonomdgeaaCutG
namespace Go.Proofs.Ytaplllonomdgeaa.deriveBegins
open Go.ChangeShapes Go.WideShapes Go.ChangeAt Go.RowKit

set_option maxHeartbeats 4000000 in
theorem walk (va : Value) (xs : List Int) (vb : Value) (ss : List Int) (x y : Int) (w : World) (ha : Byt w va xs) (hb : Byt w vb ss) (hx : 0 ≤ x ∧ x ≤ 255) (hy : 0 ≤ y ∧ y ≤ 255) :
    Calls Try.prog 6 #[.agg #[va, vb], .int .u8 x, .int .u8 y] w fun e w' => e = .returned (.bool true) ∧ Below w.heap.size w w' := by
  have HA : Hid (Byt w va xs) := ha
  have HB : Hid (Byt w vb ss) := hb
  obtain ⟨ao, ca, rfl, ha1, ha2, -, -, -⟩ := ha
  obtain ⟨bo, cb, rfl, hb1, hb2, -, -, -⟩ := hb
  obtain ⟨n, hn⟩ : ∃ n, n = xs.length := ⟨_, rfl⟩
  obtain ⟨m, hm⟩ : ∃ m, m = ss.length := ⟨_, rfl⟩
  rw [← hn] at HA ha1
  rw [← hm] at HB hb1
  rw [← hn, ← hm]
  have HN : Hid (n = xs.length) := hn
  have HM : Hid (m = ss.length) := hm
  clear hn hm
  obtain ⟨p, hp⟩ : ∃ p : Nat, x % 80 = p := ⟨(x % 80).toNat, by omega⟩
  obtain ⟨q, hq⟩ : ∃ q : Nat, y % 80 = q := ⟨(y % 80).toNat, by omega⟩
  have hp2 : x.tmod 80 = p := by rw [Int.tmod_eq_emod_of_nonneg hx.1]; exact hp
  have hq2 : y.tmod 80 = q := by rw [Int.tmod_eq_emod_of_nonneg hy.1]; exact hq
  have p0 : (p : Int) < 80 := by omega
  have q0 : (q : Int) < 80 := by omega
  obtain ⟨hx1, hx2⟩ := hx
  obtain ⟨hy1, hy2⟩ := hy
  have p1 : IntKind.u8.wrap (p : Int) = p := by rw [IntKind.wrap_u8]; omega
  have q1 : IntKind.u8.wrap (q : Int) = q := by rw [IntKind.wrap_u8]; omega
  have p2 : IntKind.i64.wrap (p : Int) = p := by rw [IntKind.wrap_i64]; omega
  have q2 : IntKind.i64.wrap (q : Int) = q := by rw [IntKind.wrap_i64]; omega
  obtain ⟨r, hr0⟩ : ∃ r : Nat, r = p + q := ⟨_, rfl⟩
  have r1 : (p : Int) + (q : Int) = (r : Int) := by omega
  have r2 : IntKind.i64.wrap (r : Int) = r := by rw [IntKind.wrap_i64]; omega
  have r3 : (p : Int) ≤ (r : Int) := by omega
  have HR0 : Hid (r = p + q ∧ p < 80 ∧ q < 80) := ⟨hr0, by omega, by omega⟩
  clear hr0
  by_cases hl : n ≤ 100 ∧ m ≤ 100
  · have HLI : Hid (∀ w0, Byt w0 (.slice ao n ca) xs → Byt w0 (.slice bo m cb) ss → Calls Try.prog 7 #[.slice ao n ca, .slice bo m cb, .int .i64 2] w0 fun e w' => e = .returned (.bool true) ∧ w' = w0) := fun w0 h1 h2 => light_any w0 _ _ xs ss 2 h1 h2 true (by rw [← HN.out, ← HM.out, decide_eq_true ⟨hl.1, hl.2, by omega⟩])
    by_cases hr : n ≤ 64
    · have HRI : Hid (∀ w0, Byt w0 (.slice ao n ca) xs → Calls Try.prog 10 #[.slice ao n ca, .int .i64 2] w0 fun e w' => e = .returned (.bool true) ∧ w' = w0) := fun w0 h1 => right_any w0 _ xs 2 h1 true (by rw [← HN.out, decide_eq_true ⟨hr, by omega, by omega⟩])
      have HDP : Hid (∀ w0, Byt w0 (.slice ao n ca) xs → Byt w0 (.slice bo m cb) ss → Calls Try.prog 9 #[.slice ao n ca, .slice bo m cb, .int .i64 2, .int .i64 p] w0 fun e w' => ∃ v', e = .returned (.tuple #[v', .int .i64 0]) ∧ Byt w' v' (drv (blk xs) ss 2 p) ∧ Below w0.heap.size w0 w') := fun w0 h1 h2 => dbytes_any w0 _ _ xs ss 2 p h1 h2 (by rw [← HN.out]; omega) (by rw [← HM.out]; omega) (by omega) (by omega) (by omega)
      have HDR : Hid (∀ w0, Byt w0 (.slice ao n ca) xs → Byt w0 (.slice bo m cb) ss → Calls Try.prog 9 #[.slice ao n ca, .slice bo m cb, .int .i64 2, .int .i64 r] w0 fun e w' => ∃ v', e = .returned (.tuple #[v', .int .i64 0]) ∧ Byt w' v' (drv (blk xs) ss 2 r) ∧ Below w0.heap.size w0 w') := fun w0 h1 h2 => dbytes_any w0 _ _ xs ss 2 r h1 h2 (by rw [← HN.out]; omega) (by rw [← HM.out]; omega) (by omega) (by omega) (by have := HR0.out; omega)
      have HPL : Hid ((drv (blk xs) ss 2 p).length = p ∧ (drv (blk xs) ss 2 r).length = r ∧ (drv (blk xs) ss 2 r).take p = drv (blk xs) ss 2 p) := ⟨drv_len _ _ _ _, drv_len _ _ _ _, by rw [HR0.out.1]; exact drv_begins _ _ _ _ _⟩
      generalize drv (blk xs) ss 2 p = P at *
      generalize drv (blk xs) ss 2 r = R at *
      clear hl hr
      go_enter Try.func6, Try.ntmps6
      go_wp2_with (first
        | (go_at_call 8; have q := c6; refine (awake_any _).mono ?_; rintro e w7 ⟨rfl, b7⟩; have c7 : Below w.heap.size w w7 := c6.trans (b7.mono c6.size))
        | (go_at_call 11; refine (same_true _ _ _ _ H45.out H5c.out).mono ?_; rintro e w6 ⟨rfl, b6⟩; have c6 : Below w.heap.size w w6 := c5.trans (b6.mono c5.size))
        | (refine cut_toG _ (by rfl) (.tmp 72) (.tmp 74) rfl _ R _ p rfl rfl rfl (by rw [HPL.out.2.1]; omega) H5.out ?_; intro v6 hv6; rw [HPL.out.2.2] at hv6; have H5c : Hid (Byt w5 v6 P) := hv6; clear hv6)
        | (go_at_call 10; refine (HRI.out _ HA5.out).mono ?_; rintro e w' ⟨rfl, hw⟩; obtain rfl := hw.symm)
        | (go_at_call 9; have q := H4; refine (HDR.out _ HA4.out HB4.out).mono ?_; rintro e w5 ⟨v5, rfl, hv5, b5⟩; have H5 : Hid (Byt w5 v5 R) := hv5; obtain ⟨do5, dc5, hv5', d1, d2, -, -, -⟩ := hv5; subst hv5'; rw [HPL.out.2.1] at H5 d1 ⊢; have H45 : Hid (Byt w5 (.slice do4 p dc4) P) := H4.out.below b5; have c5 : Below w.heap.size w w5 := c4.trans (b5.mono c4.size); have HA5 : Hid (Byt w5 (.slice ao n ca) xs) := HA.out.below c5; have p5 := HP4.out.below b5; obtain ⟨p5a, p5b⟩ := p5)
        | (go_at_call 9; refine (HDP.out _ HA1.out HB1.out).mono ?_; rintro e w4 ⟨v4, rfl, hv4, b4⟩; have H4 : Hid (Byt w4 v4 P) := hv4; obtain ⟨do4, dc4, hv4', e1, e2, -, -, -⟩ := hv4; subst hv4'; rw [HPL.out.1] at H4 e1 ⊢; have c4 : Below w.heap.size w w4 := b1.trans (b4.mono b1.size); have HA4 : Hid (Byt w4 (.slice ao n ca) xs) := HA.out.below c4; have HB4 : Hid (Byt w4 (.slice bo m cb) ss) := HB.out.below c4; have p4 := HP1.out.below b4; have HP4 : Hid (Prs w4 w.heap.size (.slice ao n ca) (.slice bo m cb)) := p4; obtain ⟨p4a, p4b⟩ := p4)
        | (go_at_call 7; refine (HLI.out _ HA1.out HB1.out).mono ?_; rintro e w' ⟨rfl, hw⟩; obtain rfl := hw.symm)
        | (refine box2_law _ rfl (.tmp 0) rfl _ _ _ _ _ _ rfl ?_; intro w1 pp1 b1; have HP1 : Hid (Prs w1 w.heap.size (.slice ao n ca) (.slice bo m cb)) := pp1; obtain ⟨p1a, p1b⟩ := pp1; have HA1 : Hid (Byt w1 (.slice ao n ca) xs) := HA.out.below b1; have HB1 : Hid (Byt w1 (.slice bo m cb) ss) := HB.out.below b1))
      go_ret
      exact ⟨rfl, c7⟩
    · have HRI : Hid (∀ w0, Byt w0 (.slice ao n ca) xs → Calls Try.prog 10 #[.slice ao n ca, .int .i64 2] w0 fun e w' => e = .returned (.bool false) ∧ w' = w0) := fun w0 h1 => right_any w0 _ xs 2 h1 false (by rw [← HN.out, decide_eq_false (fun h => hr h.1)])
      have HNO : Hid (∀ w0 (z : Int), Byt w0 (.slice ao n ca) xs → Calls Try.prog 9 #[.slice ao n ca, .slice bo m cb, .int .i64 2, .int .i64 z] w0 fun e w' => e = .returned (.tuple #[.slice none 0 0, .int .i64 2]) ∧ w' = w0) := fun w0 z h1 => dbytes_no w0 _ _ xs 2 z h1 (Or.inl (by rw [← HN.out]; exact fun h => hr h.1))
      clear hl hr
      go_enter Try.func6, Try.ntmps6
      go_wp2_with (first
        | (go_at_call 8; have q := HA1; refine (awake_any _).mono ?_; rintro e w7 ⟨rfl, b7⟩; have c7 : Below w.heap.size w w7 := b1.trans (b7.mono b1.size))
        | (go_at_call 10; refine (HRI.out _ HA1.out).mono ?_; rintro e w' ⟨rfl, hw⟩; obtain rfl := hw.symm)
        | (go_at_call 9; refine (HNO.out _ _ HA1.out).mono ?_; rintro e w' ⟨rfl, hw⟩; obtain rfl := hw.symm)
        | (go_at_call 7; refine (HLI.out _ HA1.out HB1.out).mono ?_; rintro e w' ⟨rfl, hw⟩; obtain rfl := hw.symm)
        | (refine box2_law _ rfl (.tmp 0) rfl _ _ _ _ _ _ rfl ?_; intro w1 pp1 b1; obtain ⟨p1a, p1b⟩ := pp1; have HA1 : Hid (Byt w1 (.slice ao n ca) xs) := HA.out.below b1; have HB1 : Hid (Byt w1 (.slice bo m cb) ss) := HB.out.below b1))
      go_ret
      exact ⟨rfl, c7⟩
  · have HLI : Hid (∀ w0, Byt w0 (.slice ao n ca) xs → Byt w0 (.slice bo m cb) ss → Calls Try.prog 7 #[.slice ao n ca, .slice bo m cb, .int .i64 2] w0 fun e w' => e = .returned (.bool false) ∧ w' = w0) := fun w0 h1 h2 => light_any w0 _ _ xs ss 2 h1 h2 false (by rw [← HN.out, ← HM.out, decide_eq_false (fun h => hl ⟨h.1, h.2.1⟩)])
    clear hl
    go_enter Try.func6, Try.ntmps6
    go_wp2_with (first
      | (go_at_call 8; have q := HA1; refine (awake_any _).mono ?_; rintro e w7 ⟨rfl, b7⟩; have c7 : Below w.heap.size w w7 := b1.trans (b7.mono b1.size))
      | (go_at_call 7; refine (HLI.out _ HA1.out HB1.out).mono ?_; rintro e w' ⟨rfl, hw⟩; obtain rfl := hw.symm)
      | (refine box2_law _ rfl (.tmp 0) rfl _ _ _ _ _ _ rfl ?_; intro w1 pp1 b1; obtain ⟨p1a, p1b⟩ := pp1; have HA1 : Hid (Byt w1 (.slice ao n ca) xs) := HA.out.below b1; have HB1 : Hid (Byt w1 (.slice bo m cb) ss) := HB.out.below b1))
    go_ret
    exact ⟨rfl, c7⟩

theorem params : ∀ t ∈ Try.f6.params.toList, Try.prog.readableRec t = true ∧ t < Try.prog.types.size := by
  rw [Try.params6]
  intro t ht
  simp at ht
  rcases ht with rfl | rfl
  · exact ⟨by kernel_rfl, of_decide_eq_true (by kernel_rfl)⟩
  · exact ⟨by kernel_rfl, of_decide_eq_true (by kernel_rfl)⟩

theorem contract (H : Type) (enc : TypeId × Value → H) (W : World) (base : Nat) (args : Array Value) (ds gs : List (DataW H)) (before : List MemPlace)
    (hval : ∀ (j : Nat) t v, Try.f6.params[j]? = some t → args[j]? = some v → Value.okWide Try.prog W .any base t v)
    (hW : DataW.Whole enc Try.prog Try.f6.params.toList Rows.deriveBeginsSpec.vars false W args.toList ds gs before) :
    Calls Try.prog 6 args W fun e W' => ∃ v, e = .returned v ∧ Rows.deriveBeginsSpec.post enc Try.prog Try.f6 false true false false W args v W' := by
  have hW' := hW
  obtain ⟨p, q, hA0, hV, rfl, hfz, hnd⟩ := hW
  have hA : DataW.TrodAll enc Try.prog W 0 (fun _ => true) true Try.f6.params.toList args.toList ds p := hA0
  rw [Try.params6] at hA hval
  obtain ⟨v0, v1, v2, d0, d1, d2, p0, p1, p2, rfl, rfl, rfl, h0, h1, h2⟩ := trodAll_three hA
  obtain ⟨rfl, rfl⟩ := trodVars_none hV
  obtain ⟨va0, vb0, xs0, ys0, rfl, b0, c0⟩ := pair_open (hval 0 23 v0 rfl rfl) h0
  obtain ⟨x1, rfl, rfl, rfl, w1⟩ := open_int Try.underlying5 (hval 1 5 v1 rfl rfl) h1
  obtain ⟨x2, rfl, rfl, rfl, w2⟩ := open_int Try.underlying5 (hval 2 5 v2 rfl rfl) h2
  clear hA0
  refine (walk va0 xs0 vb0 ys0 x1 x2 W b0 c0 (bounds_u8 w1) (bounds_u8 w2)).mono fun e W' ⟨he, hg⟩ => ?_
  subst he
  exact ⟨_, rfl, post_law rfl (by kernel_rfl) params rfl rfl rfl hW' hg⟩

theorem laid_met (os : Os) : laidMet Try.prog Rows.deriveBeginsRow.laid ((World.holding Try.prog os ⟨#[], #[], []⟩).forCall (fun _ _ => 0) ⟨#[], #[.agg #[.slice none 0 0, .slice none 0 0], .int .u8 0, .int .u8 0], []⟩).memory :=
  laidMet_of_run' 8 (by kernel_rfl) (by kernel_rfl)
theorem reads (os : Os) {H : Type} (enc : TypeId × Value → H) : ∃ places, DataW.whole enc Try.prog ((World.holding Try.prog os ⟨#[], #[], []⟩).forCall (fun _ _ => 0) ⟨#[], #[.agg #[.slice none 0 0, .slice none 0 0], .int .u8 0, .int .u8 0], []⟩).memory Try.f6.params.toList Rows.deriveBeginsSpec.vars false #[Value.agg #[.slice none 0 0, .slice none 0 0], Value.int .u8 0, Value.int .u8 0].toList 8 = some ([.agg [.nil, .nil], .lit (.int .u8 0), .lit (.int .u8 0)], [], places) :=
  ⟨[], by kernel_rfl⟩

set_option maxRecDepth 100000 in
theorem lifted (os : Os) (started : os.Started) (H : Type) (enc : TypeId × Value → H) (F : Stop.Interp) :
    ReturnsInHanded {} Try.checked os 6 .any ((OpenSpec.ofChange Rows.deriveBeginsSpec).preRow enc Try.prog Try.f6 Rows.deriveBeginsRow.domain false Rows.deriveBeginsRow.laid) (((OpenSpec.ofChange Rows.deriveBeginsSpec).at F).post enc Try.prog Try.f6 false true false false) := by
  obtain ⟨places, hx⟩ := reads os enc
  refine returnsInHanded_of_row (C := Try.checked) (s := OpenSpec.ofChange Rows.deriveBeginsSpec) own started (by kernel_rfl) Try.func6
    (witness_row_at (enc := enc) (C := Try.checked) false (World.holding Try.prog os ⟨#[], #[], []⟩) #[.agg #[.slice none 0 0, .slice none 0 0], .int .u8 0, .int .u8 0] rfl (by kernel_rfl) (by kernel_rfl) (by kernel_rfl)
      (OpenSpec.preRow_of_cond 8 hx (by kernel_rfl) (fun k hk => by cases hk) (by kernel_rfl) (laid_met os))) ?_
  intro W base args ds gs before hval hW _ _ _ _ _ _
  exact contract H enc W base args ds gs before hval hW

theorem said : Rows.DeriveBeginsSaid :=
  OpenClaim.holds_of_cond 6 Try.f6 rfl rfl rfl rfl rfl rfl rfl ⟨rfl, rfl, rfl, rfl, rfl⟩ rfl rfl rfl rfl rfl (by kernel_rfl) Try.func6 (by kernel_rfl)
    (of_decide_eq_true (by kernel_rfl)) (by unfold Func.isWrapper; first | (rw [if_pos (by decide +kernel)]; kernel_rfl) | (rw [if_neg (by decide +kernel)]; exact ⟨rfl, rfl⟩))
    (fun os started H enc _ F => by rw [OpenClaim.pre_eq_preRow]; exact lifted os started H enc F)
end Go.Proofs.Ytaplllonomdgeaa.deriveBegins

namespace Go.Proofs.Ytaplllonomdgeaa
theorem deriveBegins_said : Rows.DeriveBeginsSaid := deriveBegins.said
#print axioms deriveBegins_said
end Go.Proofs.Ytaplllonomdgeaa
