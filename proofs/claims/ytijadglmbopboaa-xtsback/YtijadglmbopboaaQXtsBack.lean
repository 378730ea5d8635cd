/- P9.2: of any sector of at most 600 bytes, under any keys and tweak that may be, each of Encrypt and Decrypt undoes the other; else the program answers at all. -/
import Derived.Test.YtijadglmbopboaaPackE
namespace Go.Proofs.Ytijadglmbopboaa.xtsBack
open Go.ChangeShapes Go.WideShapes Go.ChangeAt Go.RowKit

open Go.Proofs.Ytijadglmbopboaa.xt

set_option maxHeartbeats 2000000 in
theorem walk_no (va : Value) (dk : List Int) (vb : Value) (tk : List Int) (vc : Value) (ab : List Int) (sv : Value) (s : List Int) (w : World) (h0 : Byt w va dk) (h1 : Byt w vb tk) (h2 : Byt w vc ab) (hs : Byt w sv s) (hn : ¬ (Ok dk tk ab s ∧ s.length ≤ 600)) :
    Calls Try.prog 5 #[.agg #[va, vb, vc], sv] w fun e w' => e = .returned (.bool true) ∧ Below w.heap.size w w' := by
  have S0 : Hid (∀ w0, Below w.heap.size w w0 → ∀ b : Bool, b = Okb dk tk ab s → Calls Try.prog 11 #[va, vb, vc, sv] w0 fun e w' => e = .returned (.bool b) ∧ w' = w0) := fun w0 hb b e => right_any w0 va vb vc sv dk tk ab s (h0.below hb) (h1.below hb) (h2.below hb) (hs.below hb) b e
  have AW : Hid (∀ w0, Calls Try.prog 8 #[] w0 fun e w' => e = .returned (.bool true) ∧ Below w0.heap.size w0 w') := awake_any
  clear h0 h1 h2
  obtain ⟨ao, ca, rfl, -, -, -, -, -⟩ := hs
  by_cases hok : Ok dk tk ab s
  · have S1 : Hid (∀ w0, Below w.heap.size w w0 → Calls Try.prog 11 #[va, vb, vc, .slice ao s.length ca] w0 fun e w' => e = .returned (.bool true) ∧ w' = w0) := fun w0 hb => S0.out w0 hb true (okb_yes hok)
    have l1 : (600 : Int) < (s.length : Int) := by have : ¬ s.length ≤ 600 := fun h => hn ⟨hok, h⟩; omega
    clear S0 hn hok
    generalize s.length = n at *
    go_enter Try.func5, Try.ntmps5
    go_wp2_with (first
      | (go_at_call 8; refine (AW.out _).mono ?_; rintro e w9 ⟨rfl, B9⟩)
      | (go_at_call 11; refine (S1.out _ B1).mono ?_; rintro e wx ⟨rfl, hw⟩; obtain rfl := hw.symm)
      | (refine box_keys _ rfl (.tmp 0) rfl va vb vc rfl ?_; intro w1 X1 B1; obtain ⟨e0, e1, e2⟩ := X1))
    go_ret
    exact ⟨rfl, B1.trans (B9.mono B1.size)⟩
  · have S1 : Hid (∀ w0, Below w.heap.size w w0 → Calls Try.prog 11 #[va, vb, vc, .slice ao s.length ca] w0 fun e w' => e = .returned (.bool false) ∧ w' = w0) := fun w0 hb => S0.out w0 hb false (okb_no hok)
    clear S0 hn hok
    generalize s.length = n at *
    go_enter Try.func5, Try.ntmps5
    go_wp2_with (first
      | (go_at_call 8; refine (AW.out _).mono ?_; rintro e w9 ⟨rfl, B9⟩)
      | (go_at_call 11; refine (S1.out _ B1).mono ?_; rintro e wx ⟨rfl, hw⟩; obtain rfl := hw.symm)
      | (refine box_keys _ rfl (.tmp 0) rfl va vb vc rfl ?_; intro w1 X1 B1; obtain ⟨e0, e1, e2⟩ := X1))
    go_ret
    exact ⟨rfl, B1.trans (B9.mono B1.size)⟩

set_option maxHeartbeats 4000000 in
theorem walk_yes (va : Value) (dk : List Int) (vb : Value) (tk : List Int) (vc : Value) (ab : List Int) (sv : Value) (s : List Int) (w : World) (h0 : Byt w va dk) (h1 : Byt w vb tk) (h2 : Byt w vc ab) (hs : Byt w sv s) (hok : Ok dk tk ab s) (h6 : s.length ≤ 600) :
    Calls Try.prog 5 #[.agg #[va, vb, vc], sv] w fun e w' => e = .returned (.bool true) ∧ Below w.heap.size w w' := by
  obtain ⟨hdl, htl, hal, hs1, hs2, hs3⟩ := id hok
  obtain ⟨N, hN⟩ : ∃ N, N = s.length / 16 := ⟨_, rfl⟩
  have hsl : s.length = 16 * N := by omega
  have hda := h0.all
  have hta := h1.all
  have hsa := hs.all
  have ke := keeps_e dk hdl hda
  have kd := keeps_d dk hdl hda
  obtain ⟨M, hM⟩ : ∃ M, M = nm16 (encr tk ab) := ⟨_, rfl⟩
  have el := run_len _ ke M s hsa N (by omega)
  have dl := run_len _ kd M s hsa N (by omega)
  have r1 : run (xd dk) M (run (xe dk) M s N) N = s := run_whole _ _ ke (fun m b hm hb => xd_xe dk hdl hda m b hm hb) M s hsa N hsl
  have r2 : run (xe dk) M (run (xd dk) M s N) N = s := run_whole _ _ kd (fun m b hm hb => xe_xd dk hdl hda m b hm hb) M s hsa N hsl
  have S0 : Hid (∀ w0, Below w.heap.size w w0 → Calls Try.prog 11 #[va, vb, vc, sv] w0 fun e w' => e = .returned (.bool true) ∧ w' = w0) := fun w0 hb => right_any w0 va vb vc sv dk tk ab s (h0.below hb) (h1.below hb) (h2.below hb) (hs.below hb) true (okb_yes hok)
  have S1 : Hid (∀ w0, Below w.heap.size w w0 → Calls Try.prog 9 #[va, vb] w0 fun e w' => ∃ c, e = .returned (.tuple #[.pointer (some ⟨c, 0, none⟩), .int .i64 0]) ∧ Cip w' c dk tk ∧ w0.heap.size ≤ c ∧ Below w0.heap.size w0 w') := fun w0 hb => xnew_any va vb dk tk w0 (h0.below hb) (h1.below hb) hdl htl
  have S2 : Hid (∀ c w0, Below w.heap.size w w0 → Cip w0 c dk tk → Calls Try.prog 10 #[.pointer (some ⟨c, 0, none⟩), vc, sv] w0 fun e w' => ∃ v', e = .returned (.tuple #[v', .int .i64 0]) ∧ Byt w' v' (run (xe dk) M s N) ∧ Below w0.heap.size w0 w') := fun c w0 hb hc => by
    have := xenc_any c vc sv dk tk ab s N w0 hc hdl hda htl hta (h2.below hb) hal (hs.below hb) hsl (by omega) (by omega)
    rwa [← hM] at this
  have S3 : Hid (∀ c u w0, Below w.heap.size w w0 → Cip w0 c dk tk → Byt w0 u (run (xe dk) M s N) → Calls Try.prog 15 #[.pointer (some ⟨c, 0, none⟩), vc, u] w0 fun e w' => ∃ v', e = .returned (.tuple #[v', .int .i64 0]) ∧ Byt w' v' s ∧ Below w0.heap.size w0 w') := fun c u w0 hb hc hu => by
    have := xdec_any c vc u dk tk ab _ N w0 hc hdl hda htl hta (h2.below hb) hal hu el (by omega) (by omega)
    rwa [← hM, r1] at this
  have S4 : Hid (∀ c w0, Below w.heap.size w w0 → Cip w0 c dk tk → Calls Try.prog 15 #[.pointer (some ⟨c, 0, none⟩), vc, sv] w0 fun e w' => ∃ v', e = .returned (.tuple #[v', .int .i64 0]) ∧ Byt w' v' (run (xd dk) M s N) ∧ Below w0.heap.size w0 w') := fun c w0 hb hc => by
    have := xdec_any c vc sv dk tk ab s N w0 hc hdl hda htl hta (h2.below hb) hal (hs.below hb) hsl (by omega) (by omega)
    rwa [← hM] at this
  have S5 : Hid (∀ c u w0, Below w.heap.size w w0 → Cip w0 c dk tk → Byt w0 u (run (xd dk) M s N) → Calls Try.prog 10 #[.pointer (some ⟨c, 0, none⟩), vc, u] w0 fun e w' => ∃ v', e = .returned (.tuple #[v', .int .i64 0]) ∧ Byt w' v' s ∧ Below w0.heap.size w0 w') := fun c u w0 hb hc hu => by
    have := xenc_any c vc u dk tk ab _ N w0 hc hdl hda htl hta (h2.below hb) hal hu dl (by omega) (by omega)
    rwa [← hM, r2] at this
  have S6 : Hid (∀ u w0, Below w.heap.size w w0 → Byt w0 u s → Calls Try.prog 12 #[u, sv] w0 fun e w' => e = .returned (.bool true) ∧ Below w0.heap.size w0 w') := fun u w0 hb hu => same_yes w0 u sv s hu (hs.below hb)
  have AW : Hid (∀ w0, Calls Try.prog 8 #[] w0 fun e w' => e = .returned (.bool true) ∧ Below w0.heap.size w0 w') := awake_any
  generalize run (xe dk) M s N = E at *
  generalize run (xd dk) M s N = D at *
  clear h0 h1 h2 hok hdl htl hal hs1 hs2 hs3 hN hsl hda hta hsa ke kd hM el dl r1 r2
  obtain ⟨ao, ca, rfl, -, -, -, -, -⟩ := hs
  have l1 : ¬ ((600 : Int) < (s.length : Int)) := by omega
  clear h6
  obtain ⟨n, hn⟩ : ∃ n, n = s.length := ⟨_, rfl⟩
  rw [← hn] at S0 S2 S4 S6 l1 ⊢
  clear hn
  go_enter Try.func5, Try.ntmps5
  go_wp2_with (first
    | (have q8 := t8; go_at_call 8; refine (AW.out _).mono ?_; rintro e w9 ⟨rfl, B9⟩; have BB : Hid (Below w.heap.size w w9) := BB.out.trans (B9.mono BB.out.size); clear B9)
    | (have q7 := t7; go_at_call 12; refine (S6.out _ _ BB.out Y7.out).mono ?_; rintro e w8 ⟨rfl, B8⟩; have BB : Hid (Below w.heap.size w w8) := BB.out.trans (B8.mono BB.out.size); have t8 : (0 : Nat) = 0 := rfl; clear B8)
    | (have q6 := t6; go_at_call 12; refine (S6.out _ _ BB.out Y4.out).mono ?_; rintro e w7 ⟨rfl, B7⟩; have BB : Hid (Below w.heap.size w w7) := BB.out.trans (B7.mono BB.out.size); have Y7 : Hid (Byt w7 v6 s) := Y6.out.below B7; have t7 : (0 : Nat) = 0 := rfl; clear B7)
    | (have q5 := t5; go_at_call 10; refine (S5.out _ _ _ BB.out C5.out Y5.out).mono ?_; rintro e w6 ⟨v6, rfl, y6, B6⟩; have BB : Hid (Below w.heap.size w w6) := BB.out.trans (B6.mono BB.out.size); have Y6 : Hid (Byt w6 v6 s) := y6; have Y4 : Hid (Byt w6 v4 s) := Y4.out.below B6; have t6 : (0 : Nat) = 0 := rfl; clear y6 B6)
    | (have q4 := t4; go_at_call 15; refine (S4.out _ _ BB.out C4.out).mono ?_; rintro e w5 ⟨v5, rfl, y5, B5⟩; have BB : Hid (Below w.heap.size w w5) := BB.out.trans (B5.mono BB.out.size); have Y5 : Hid (Byt w5 v5 D) := y5; have C5 : Hid (Cip w5 c2 dk tk) := C4.out.below B5; have Y4 : Hid (Byt w5 v4 s) := Y4.out.below B5; have XX : Hid (Bx w5 kb va vb vc) := XX.out.below B5; obtain ⟨f0, f1, f2⟩ := XX.out; have t5 : (0 : Nat) = 0 := rfl; clear y5 B5)
    | (have q3 := t3; go_at_call 15; refine (S3.out _ _ _ BB.out C3.out Y3.out).mono ?_; rintro e w4 ⟨v4, rfl, y4, B4⟩; have BB : Hid (Below w.heap.size w w4) := BB.out.trans (B4.mono BB.out.size); have Y4 : Hid (Byt w4 v4 s) := y4; have C4 : Hid (Cip w4 c2 dk tk) := C3.out.below B4; have XX : Hid (Bx w4 kb va vb vc) := XX.out.below B4; obtain ⟨f0, f1, f2⟩ := XX.out; have t4 : (0 : Nat) = 0 := rfl; clear y4 B4)
    | (have q2 := t2; go_at_call 10; refine (S2.out _ _ BB.out C2.out).mono ?_; rintro e w3 ⟨v3, rfl, y3, B3⟩; have BB : Hid (Below w.heap.size w w3) := BB.out.trans (B3.mono BB.out.size); have Y3 : Hid (Byt w3 v3 E) := y3; have C3 : Hid (Cip w3 c2 dk tk) := C2.out.below B3; have XX : Hid (Bx w3 kb va vb vc) := XX.out.below B3; obtain ⟨f0, f1, f2⟩ := XX.out; have t3 : (0 : Nat) = 0 := rfl; clear y3 B3)
    | (have q1 := t1; go_at_call 9; refine (S1.out _ BB.out).mono ?_; rintro e w2 ⟨c2, rfl, y2, L2, B2⟩; have BB : Hid (Below w.heap.size w w2) := BB.out.trans (B2.mono BB.out.size); have C2 : Hid (Cip w2 c2 dk tk) := y2; have XX : Hid (Bx w2 kb va vb vc) := XX.out.below B2; obtain ⟨f0, f1, f2⟩ := XX.out; have t2 : (0 : Nat) = 0 := rfl; clear y2 B2 L2)
    | (go_at_call 11; refine (S0.out _ BB.out).mono ?_; rintro e wx ⟨rfl, hw⟩; obtain rfl := hw.symm)
    | (refine box_keys _ rfl (.tmp 0) rfl va vb vc rfl ?_; intro w1 X1 B1; obtain ⟨kb, hkb⟩ : ∃ k, k = w.heap.size := ⟨_, rfl⟩; rw [← hkb] at X1; rw [← hkb]; have BB : Hid (Below w.heap.size w w1) := B1; have XX : Hid (Bx w1 kb va vb vc) := X1; obtain ⟨f0, f1, f2⟩ := X1; have t1 : (0 : Nat) = 0 := rfl; clear hkb B1))
  go_ret
  exact ⟨rfl, BB.out⟩

theorem walk (va : Value) (dk : List Int) (vb : Value) (tk : List Int) (vc : Value) (ab : List Int) (sv : Value) (s : List Int) (w : World) (h0 : Byt w va dk) (h1 : Byt w vb tk) (h2 : Byt w vc ab) (hs : Byt w sv s) :
    Calls Try.prog 5 #[.agg #[va, vb, vc], sv] w fun e w' => e = .returned (.bool true) ∧ Below w.heap.size w w' := by
  by_cases h : Ok dk tk ab s ∧ s.length ≤ 600
  · exact walk_yes va dk vb tk vc ab sv s w h0 h1 h2 hs h.1 h.2
  · exact walk_no va dk vb tk vc ab sv s w h0 h1 h2 hs h

theorem params : ∀ t ∈ Try.f5.params.toList, Try.prog.readableRec t = true ∧ t < Try.prog.types.size := by
  rw [Try.params5]
  intro t ht
  simp at ht
  rcases ht with rfl | rfl
  · exact ⟨by kernel_rfl, of_decide_eq_true (by kernel_rfl)⟩
  · exact ⟨by kernel_rfl, of_decide_eq_true (by kernel_rfl)⟩

theorem contract (H : Type) (enc : TypeId × Value → H) (W : World) (base : Nat) (args : Array Value) (ds gs : List (DataW H)) (before : List MemPlace)
    (hval : ∀ (j : Nat) t v, Try.f5.params[j]? = some t → args[j]? = some v → Value.okWide Try.prog W .any base t v)
    (hW : DataW.Whole enc Try.prog Try.f5.params.toList Rows.xtsBackSpec.vars false W args.toList ds gs before) :
    Calls Try.prog 5 args W fun e W' => ∃ v, e = .returned v ∧ Rows.xtsBackSpec.post enc Try.prog Try.f5 false true false false W args v W' := by
  have hW' := hW
  obtain ⟨p, q, hA0, hV, rfl, hfz, hnd⟩ := hW
  have hA : DataW.TrodAll enc Try.prog W 0 (fun _ => true) true Try.f5.params.toList args.toList ds p := hA0
  rw [Try.params5] at hA hval
  obtain ⟨v0, v1, d0, d1, p0, p1, rfl, rfl, rfl, h0, h1⟩ := trodAll_two hA
  obtain ⟨rfl, rfl⟩ := trodVars_none hV
  obtain ⟨va0, vb0, vc0, xs0, ys0, zs0, rfl, b0, c0, e0⟩ := keys_open (hval 0 24 v0 rfl rfl) h0
  obtain ⟨xs1, b1⟩ := byt_open (hval 1 22 v1 rfl rfl) h1
  clear hA0
  refine (walk va0 xs0 vb0 ys0 vc0 zs0 v1 xs1 W b0 c0 e0 b1).mono fun e W' ⟨he, hg⟩ => ?_
  subst he
  exact ⟨_, rfl, post_law rfl (by kernel_rfl) params rfl rfl rfl hW' hg⟩

theorem laid_met (os : Os) : laidMet Try.prog Rows.xtsBackRow.laid ((World.holding Try.prog os ⟨#[], #[], []⟩).forCall (fun _ _ => 0) ⟨#[], #[.agg #[.slice none 0 0, .slice none 0 0, .slice none 0 0], .slice none 0 0], []⟩).memory :=
  laidMet_of_run' 8 (by kernel_rfl) (by kernel_rfl)
theorem reads (os : Os) {H : Type} (enc : TypeId × Value → H) : ∃ places, DataW.whole enc Try.prog ((World.holding Try.prog os ⟨#[], #[], []⟩).forCall (fun _ _ => 0) ⟨#[], #[.agg #[.slice none 0 0, .slice none 0 0, .slice none 0 0], .slice none 0 0], []⟩).memory Try.f5.params.toList Rows.xtsBackSpec.vars false #[Value.agg #[.slice none 0 0, .slice none 0 0, .slice none 0 0], Value.slice none 0 0].toList 8 = some ([.agg [.nil, .nil, .nil], .nil], [], places) :=
  ⟨[], by kernel_rfl⟩

set_option maxRecDepth 100000 in
theorem lifted (os : Os) (started : os.Started) (H : Type) (enc : TypeId × Value → H) (F : Stop.Interp) :
    ReturnsInHanded {} Try.checked os 5 .any ((OpenSpec.ofChange Rows.xtsBackSpec).preRow enc Try.prog Try.f5 Rows.xtsBackRow.domain false Rows.xtsBackRow.laid) (((OpenSpec.ofChange Rows.xtsBackSpec).at F).post enc Try.prog Try.f5 false true false false) := by
  obtain ⟨places, hx⟩ := reads os enc
  refine returnsInHanded_of_row (C := Try.checked) (s := OpenSpec.ofChange Rows.xtsBackSpec) own started (by kernel_rfl) Try.func5
    (witness_row_at (enc := enc) (C := Try.checked) false (World.holding Try.prog os ⟨#[], #[], []⟩) #[.agg #[.slice none 0 0, .slice none 0 0, .slice none 0 0], .slice none 0 0] rfl (by kernel_rfl) (by kernel_rfl) (by kernel_rfl)
      (OpenSpec.preRow_of_cond 8 hx (by kernel_rfl) (fun k hk => by cases hk) (by kernel_rfl) (laid_met os))) ?_
  intro W base args ds gs before hval hW _ _ _ _ _ _
  exact contract H enc W base args ds gs before hval hW

theorem said : Rows.XtsBackSaid :=
  OpenClaim.holds_of_cond 5 Try.f5 rfl rfl rfl rfl rfl rfl rfl ⟨rfl, rfl, rfl, rfl, rfl⟩ rfl rfl rfl rfl rfl (by kernel_rfl) Try.func5 (by kernel_rfl)
    (of_decide_eq_true (by kernel_rfl)) (by unfold Func.isWrapper; first | (rw [if_pos (by decide +kernel)]; kernel_rfl) | (rw [if_neg (by decide +kernel)]; exact ⟨rfl, rfl⟩))
    (fun os started H enc _ F => by rw [OpenClaim.pre_eq_preRow]; exact lifted os started H enc F)
end Go.Proofs.Ytijadglmbopboaa.xtsBack

namespace Go.Proofs.Ytijadglmbopboaa
theorem xtsBack_said : Rows.XtsBackSaid := xtsBack.said
#print axioms xtsBack_said
end Go.Proofs.Ytijadglmbopboaa
