/- Behind any program that is torn, or fails, there is what the reference tells, or the lists are of unlike lengths, and then ErrShape is told; nothing was set; and the program answers. -/
import Derived.Test.YtkpnmandpmfhjaaUAwk
import Derived.Test.YtkpnmandpmfhjaaUJoin
import Derived.Test.YtkpnmandpmfhjaaSame
import Derived.Test.YtkpnmandpmfhjaaLawG
namespace Go.Proofs.Ytkpnmandpmfhjaa.faultClears
open Go.ChangeShapes Go.WideShapes Go.ChangeAt Go.RowKit

open Go.Proofs.Ytkpnmandpmfhjaa.fa

set_option maxRecDepth 20000 in
set_option maxHeartbeats 4000000 in
theorem walk_a (v0 v1 v2 : Value) (xs : List Int) (w : World) (h0 : Byt w v0 xs) (hg : 300 < xs.length) :
    Calls Try.prog 4 #[v0, v1, v2] w fun e w' => e = .returned (.bool true) ∧ Below w.heap.size w w' := by
  have AW : Hid (∀ w0, Calls Try.prog 10 #[] w0 fun e w' => e = .returned (.bool true) ∧ Below w0.heap.size w0 w') := awake_any
  obtain ⟨ao, ca, rfl, c1, c2, -⟩ := h0
  have l1 : (300 : Int) < (xs.length : Int) := by omega
  have BB : Hid (Below w.heap.size w w) := Below.refl _ _
  have BB0 := BB
  have t0 : (0 : Nat) = 0 := rfl
  go_enter Try.func4, Try.ntmps4
  go_wp2_with (first
    | (have q := t0; go_at_call 10; refine (AW.out _).mono ?_; rintro e w99 ⟨rfl, B99⟩; have BB : Hid (Below w.heap.size w w99) := BB.out.trans (B99.mono BB.out.size); clear t0 q; have t1 : (1 : Nat) = 1 := rfl))
  go_ret
  exact ⟨rfl, BB.out⟩

set_option maxRecDepth 20000 in
set_option maxHeartbeats 4000000 in
theorem walk_b (v0 v1 v2 : Value) (xs ys : List Int) (w : World) (h0 : Byt w v0 xs) (h1 : Byt w v1 ys) (hl : xs.length ≤ 300) (hg : 300 < ys.length) :
    Calls Try.prog 4 #[v0, v1, v2] w fun e w' => e = .returned (.bool true) ∧ Below w.heap.size w w' := by
  have AW : Hid (∀ w0, Calls Try.prog 10 #[] w0 fun e w' => e = .returned (.bool true) ∧ Below w0.heap.size w0 w') := awake_any
  obtain ⟨ao, ca, rfl, c1, c2, -⟩ := h0
  obtain ⟨bo', cb, rfl, d1, d2, -⟩ := h1
  have l1 : (300 : Int) < (ys.length : Int) := by omega
  have l2 : (xs.length : Int) ≤ 300 := by omega
  have BB : Hid (Below w.heap.size w w) := Below.refl _ _
  have BB0 := BB
  have t0 : (0 : Nat) = 0 := rfl
  go_enter Try.func4, Try.ntmps4
  go_wp2_with (first
    | (have q := t0; go_at_call 10; refine (AW.out _).mono ?_; rintro e w99 ⟨rfl, B99⟩; have BB : Hid (Below w.heap.size w w99) := BB.out.trans (B99.mono BB.out.size); clear t0 q; have t1 : (1 : Nat) = 1 := rfl))
  go_ret
  exact ⟨rfl, BB.out⟩

set_option maxRecDepth 20000 in
set_option maxHeartbeats 4000000 in
theorem walk_n (v0 v1 v2 : Value) (xs ys : List Int) (w : World) (h0 : Byt w v0 xs) (h1 : Byt w v1 ys) (hx : xs.length ≤ 300) (hy : ys.length ≤ 300) (hl : xs.length ≠ ys.length) :
    Calls Try.prog 4 #[v0, v1, v2] w fun e w' => e = .returned (.bool true) ∧ Below w.heap.size w w' := by
  have AW : Hid (∀ w0, Calls Try.prog 10 #[] w0 fun e w' => e = .returned (.bool true) ∧ Below w0.heap.size w0 w') := awake_any
  have S1 : Hid (Calls Try.prog 11 #[v0, v1, v2] w fun e w' => e = .returned (.tuple #[.slice none 0 0, .int .i64 2]) ∧ w' = w) := clear_no v0 v1 v2 xs ys w h0 h1 hl
  have S2 : Hid (Calls Try.prog 12 #[v0, v1, v2] w fun e w' => e = .returned (.tuple #[.slice none 0 0, .int .i64 2]) ∧ w' = w) := fail_no v0 v1 v2 xs ys w h0 h1 hl
  obtain ⟨ao, ca, rfl, c1, c2, -⟩ := h0
  obtain ⟨bo', cb, rfl, d1, d2, -⟩ := h1
  have l1 : (xs.length : Int) ≤ 300 := by omega
  have l2 : (ys.length : Int) ≤ 300 := by omega
  have l3 : ((xs.length : Int) != (ys.length : Int)) = true := by simp; omega
  go_enter Try.func4, Try.ntmps4
  go_wp2_with (first
    | (go_at_call 11; refine S1.out.mono ?_; rintro e w1 ⟨rfl, hw⟩; obtain rfl := hw.symm)
    | (go_at_call 12; refine S2.out.mono ?_; rintro e w1 ⟨rfl, hw⟩; obtain rfl := hw.symm)
    | (go_at_call 10; refine (AW.out _).mono ?_; rintro e w9 ⟨rfl, B9⟩))
  go_ret
  exact ⟨rfl, B9⟩

set_option maxRecDepth 20000 in
set_option maxHeartbeats 4000000 in
theorem walk_s (v0 : Value) (xs : List Int) (v1 : Value) (ys : List Int) (v2 : Value) (m : List Int) (w : World) (h0 : Byt w v0 xs) (h1 : Byt w v1 ys) (h2 : Byt w v2 m) (hl : xs.length = ys.length) (hg : xs.length ≤ 300) :
    Calls Try.prog 4 #[v0, v1, v2] w fun e w' => e = .returned (.bool true) ∧ Below w.heap.size w w' := by
  have AW : Hid (∀ w0, Calls Try.prog 10 #[] w0 fun e w' => e = .returned (.bool true) ∧ Below w0.heap.size w0 w') := awake_any
  have SS : Hid (∀ va vb (zs : List Int) w0, Byt w0 va zs → Byt w0 vb zs → Calls Try.prog 13 #[va, vb] w0 fun e w' => e = .returned (.bool true) ∧ ∃ n, w' = w0.drewN n) := fun va vb zs w0 h1 h2 => by
    have := same_any w0 va vb zs zs h1 h2
    rwa [decide_eq_true rfl] at this
  have ha := h0.all
  have hy := h1.all
  have ET := pgl_torn xs ys m ha hy
  have EN : ∀ c, (ofb xs.length c).length = xs.length := ofb_len _
  have SF : Hid (∀ w0, Below w.heap.size w w0 → Calls Try.prog 12 #[v0, v1, v2] w0 fun e w' => ∃ v, e = .returned (.tuple #[v, .int .i64 0]) ∧ Byt w' v (ofb xs.length (failed xs ys m (8 * xs.length))) ∧ Below w0.heap.size w0 w') := fun w0 hb => by
    refine (fail_any v0 v1 v2 xs ys m w0 (h0.below hb) (h1.below hb) (h2.below hb) hl (by omega)).mono ?_
    rintro e w' ⟨v, p, z, he, hz, hv, hbb⟩
    rw [pgl_failed xs ys m p z ha hy hz] at hv
    exact ⟨v, he, hv, hbb⟩
  have SC : Hid (Calls Try.prog 11 #[v0, v1, v2] w fun e w' => ∃ v, e = .returned (.tuple #[v, .int .i64 0]) ∧ Byt w' v (ofb xs.length (torn xs ys m)) ∧ Below w.heap.size w w') := by
    have := clear_any v0 v1 v2 xs ys m w h0 h1 h2 hl (by omega)
    rwa [ET] at this
  have P1 : Hid (∀ w0, Below w.heap.size w w0 → Calls Try.prog 14 #[v0, v1, v2, .bool false] w0 fun e w' => ∃ v, e = .returned v ∧ Byt w' v (ofb xs.length (torn xs ys m)) ∧ Below w0.heap.size w0 w') := fun w0 hb => by
    have := rprog_false v0 v1 v2 xs ys m w0 (h0.below hb) (h1.below hb) (h2.below hb) hl (by omega)
    rwa [prg_torn] at this
  have P2 : Hid (∀ w0, Below w.heap.size w w0 → Calls Try.prog 14 #[v0, v1, v2, .bool true] w0 fun e w' => ∃ v, e = .returned v ∧ Byt w' v (ofb xs.length (failed xs ys m (8 * xs.length))) ∧ Below w0.heap.size w0 w') := fun w0 hb => by
    have := rprog_true v0 v1 v2 xs ys m w0 (h0.below hb) (h1.below hb) (h2.below hb) hl (by omega)
    rwa [prg_failed] at this
  have A1 : Hid (∀ va w0, Byt w0 va (ofb xs.length (torn xs ys m)) → Below w.heap.size w w0 → Calls Try.prog 15 #[va, v0] w0 fun e w' => ∃ v, e = .returned v ∧ Byt w' v (ofb xs.length (torn xs ys m)) ∧ Below w0.heap.size w0 w') := fun va w0 hv hb => by
    have := rand_any va v0 _ xs w0 hv (h0.below hb) (EN _) (by rw [EN]; omega)
    rwa [and_sub _ xs _ (fun i _ => torn_sub xs ys m i)] at this
  have A2 : Hid (∀ va w0, Byt w0 va (ofb xs.length (failed xs ys m (8 * xs.length))) → Below w.heap.size w w0 → Calls Try.prog 15 #[va, v0] w0 fun e w' => ∃ v, e = .returned v ∧ Byt w' v (ofb xs.length (failed xs ys m (8 * xs.length))) ∧ Below w0.heap.size w0 w') := fun va w0 hv hb => by
    have := rand_any va v0 _ xs w0 hv (h0.below hb) (EN _) (by rw [EN]; omega)
    rwa [and_sub _ xs _ (fun i _ => failed_sub xs ys m _ i)] at this
  generalize ofb xs.length (failed xs ys m (8 * xs.length)) = G at *
  generalize ofb xs.length (torn xs ys m) = T at *
  obtain ⟨ao, ca, rfl, c1, c2, -⟩ := h0
  obtain ⟨bo', cb, rfl, d1, d2, -⟩ := h1
  rw [← hl] at *
  have l1 : (xs.length : Int) ≤ 300 := by omega
  clear ha hy ET EN h2
  have BB : Hid (Below w.heap.size w w) := Below.refl _ _
  have BB0 := BB
  have t0 : (0 : Nat) = 0 := rfl
  go_enter Try.func4, Try.ntmps4
  go_wp2_with (first
    | (have q := t10; go_at_call 10; refine (AW.out _).mono ?_; rintro e w99 ⟨rfl, B99⟩; have BB : Hid (Below w.heap.size w w99) := BB.out.trans (B99.mono BB.out.size); clear t10 q; have t11 : (11 : Nat) = 11 := rfl)
    | (have q := t9; go_at_call 13; refine (SS.out _ _ G _ YF.out YB.out).mono ?_; rintro e wx10 ⟨rfl, n10, hw⟩; obtain rfl := hw.symm; have YA : Hid (Byt (w9.drewN (n10)) a1 T) := YA.out; have YB : Hid (Byt (w9.drewN (n10)) b1 G) := YB.out; have YC : Hid (Byt (w9.drewN (n10)) c9 T) := YC.out; have YD : Hid (Byt (w9.drewN (n10)) d9 G) := YD.out; have YE : Hid (Byt (w9.drewN (n10)) e9 T) := YE.out; have YF : Hid (Byt (w9.drewN (n10)) f9 G) := YF.out; have BB : Hid (Below w.heap.size w (w9.drewN (n10))) := below_drawn BB0.out (n10); clear t9 q; have t10 : (10 : Nat) = 10 := rfl)
    | (have q := t8; go_at_call 15; refine (A2.out _ _ YB.out BB.out).mono ?_; rintro e w9 ⟨f9, rfl, y9, B9⟩; have YA : Hid (Byt w9 a1 T) := YA.out.below B9; have YB : Hid (Byt w9 b1 G) := YB.out.below B9; have YC : Hid (Byt w9 c9 T) := YC.out.below B9; have YD : Hid (Byt w9 d9 G) := YD.out.below B9; have YE : Hid (Byt w9 e9 T) := YE.out.below B9; have YF : Hid (Byt w9 f9 G) := y9; have BB : Hid (Below w.heap.size w w9) := BB.out.trans (B9.mono BB.out.size); have BB0 := BB; clear y9 B9; clear t8 q; have t9 : (9 : Nat) = 9 := rfl)
    | (have q := t7; go_at_call 13; refine (SS.out _ _ T _ YE.out YA.out).mono ?_; rintro e wx8 ⟨rfl, n8, hw⟩; obtain rfl := hw.symm; have YA : Hid (Byt (w7.drewN (n8)) a1 T) := YA.out; have YB : Hid (Byt (w7.drewN (n8)) b1 G) := YB.out; have YC : Hid (Byt (w7.drewN (n8)) c9 T) := YC.out; have YD : Hid (Byt (w7.drewN (n8)) d9 G) := YD.out; have YE : Hid (Byt (w7.drewN (n8)) e9 T) := YE.out; have BB : Hid (Below w.heap.size w (w7.drewN (n8))) := below_drawn BB0.out (n8); clear t7 q; have t8 : (8 : Nat) = 8 := rfl)
    | (have q := t6; go_at_call 15; refine (A1.out _ _ YA.out BB.out).mono ?_; rintro e w7 ⟨e9, rfl, y9, B7⟩; have YA : Hid (Byt w7 a1 T) := YA.out.below B7; have YB : Hid (Byt w7 b1 G) := YB.out.below B7; have YC : Hid (Byt w7 c9 T) := YC.out.below B7; have YD : Hid (Byt w7 d9 G) := YD.out.below B7; have YE : Hid (Byt w7 e9 T) := y9; have BB : Hid (Below w.heap.size w w7) := BB.out.trans (B7.mono BB.out.size); have BB0 := BB; clear y9 B7; clear t6 q; have t7 : (7 : Nat) = 7 := rfl)
    | (have q := t5; go_at_call 13; refine (SS.out _ _ G _ YB.out YD.out).mono ?_; rintro e wx6 ⟨rfl, n6, hw⟩; obtain rfl := hw.symm; have YA : Hid (Byt (w5.drewN (n6)) a1 T) := YA.out; have YB : Hid (Byt (w5.drewN (n6)) b1 G) := YB.out; have YC : Hid (Byt (w5.drewN (n6)) c9 T) := YC.out; have YD : Hid (Byt (w5.drewN (n6)) d9 G) := YD.out; have BB : Hid (Below w.heap.size w (w5.drewN (n6))) := below_drawn BB0.out (n6); clear t5 q; have t6 : (6 : Nat) = 6 := rfl)
    | (have q := t4; go_at_call 14; refine (P2.out _ BB.out).mono ?_; rintro e w5 ⟨d9, rfl, y9, B5⟩; have YA : Hid (Byt w5 a1 T) := YA.out.below B5; have YB : Hid (Byt w5 b1 G) := YB.out.below B5; have YC : Hid (Byt w5 c9 T) := YC.out.below B5; have YD : Hid (Byt w5 d9 G) := y9; have BB : Hid (Below w.heap.size w w5) := BB.out.trans (B5.mono BB.out.size); have BB0 := BB; clear y9 B5; clear t4 q; have t5 : (5 : Nat) = 5 := rfl)
    | (have q := t3; go_at_call 13; refine (SS.out _ _ T _ YA.out YC.out).mono ?_; rintro e wx4 ⟨rfl, n4, hw⟩; obtain rfl := hw.symm; have YA : Hid (Byt (w3.drewN (n4)) a1 T) := YA.out; have YB : Hid (Byt (w3.drewN (n4)) b1 G) := YB.out; have YC : Hid (Byt (w3.drewN (n4)) c9 T) := YC.out; have BB : Hid (Below w.heap.size w (w3.drewN (n4))) := below_drawn BB0.out (n4); clear t3 q; have t4 : (4 : Nat) = 4 := rfl)
    | (have q := t2; go_at_call 14; refine (P1.out _ BB.out).mono ?_; rintro e w3 ⟨c9, rfl, y9, B3⟩; have YA : Hid (Byt w3 a1 T) := YA.out.below B3; have YB : Hid (Byt w3 b1 G) := YB.out.below B3; have YC : Hid (Byt w3 c9 T) := y9; have BB : Hid (Below w.heap.size w w3) := BB.out.trans (B3.mono BB.out.size); have BB0 := BB; clear y9 B3; clear t2 q; have t3 : (3 : Nat) = 3 := rfl)
    | (have q := t1; go_at_call 12; refine (SF.out _ BB.out).mono ?_; rintro e w2 ⟨b1, rfl, y9, B2⟩; have YA : Hid (Byt w2 a1 T) := YA.out.below B2; have YB : Hid (Byt w2 b1 G) := y9; have BB : Hid (Below w.heap.size w w2) := BB.out.trans (B2.mono BB.out.size); have BB0 := BB; clear y9 B2; clear t1 q; have t2 : (2 : Nat) = 2 := rfl)
    | (have q := t0; go_at_call 11; refine (SC.out).mono ?_; rintro e w1 ⟨a1, rfl, y9, B1⟩; have YA : Hid (Byt w1 a1 T) := y9; have BB : Hid (Below w.heap.size w w1) := BB.out.trans (B1.mono BB.out.size); have BB0 := BB; clear y9 B1; clear t0 q; have t1 : (1 : Nat) = 1 := rfl))
  go_ret
  exact ⟨rfl, BB.out⟩

theorem walk (v0 : Value) (xs : List Int) (v1 : Value) (ys : List Int) (v2 : Value) (m : List Int) (w : World) (h0 : Byt w v0 xs) (h1 : Byt w v1 ys) (h2 : Byt w v2 m) :
    Calls Try.prog 4 #[v0, v1, v2] w fun e w' => e = .returned (.bool true) ∧ Below w.heap.size w w' := by
  by_cases hx : xs.length ≤ 300
  · by_cases hy : ys.length ≤ 300
    · by_cases hl : xs.length = ys.length
      · exact walk_s v0 xs v1 ys v2 m w h0 h1 h2 hl hx
      · exact walk_n v0 v1 v2 xs ys w h0 h1 hx hy hl
    · exact walk_b v0 v1 v2 xs ys w h0 h1 hx (by omega)
  · exact walk_a v0 v1 v2 xs w h0 (by omega)

theorem params : ∀ t ∈ Try.f4.params.toList, Try.prog.readableRec t = true ∧ t < Try.prog.types.size := by
  rw [Try.params4]
  intro t ht
  simp at ht
  subst ht
  exact ⟨by kernel_rfl, of_decide_eq_true (by kernel_rfl)⟩

theorem contract (H : Type) (enc : TypeId × Value → H) (W : World) (base : Nat) (args : Array Value) (ds gs : List (DataW H)) (before : List MemPlace)
    (hval : ∀ (j : Nat) t v, Try.f4.params[j]? = some t → args[j]? = some v → Value.okWide Try.prog W .any base t v)
    (hW : DataW.Whole enc Try.prog Try.f4.params.toList Rows.faultClearsSpec.vars false W args.toList ds gs before) :
    Calls Try.prog 4 args W fun e W' => ∃ v, e = .returned v ∧ Rows.faultClearsSpec.post enc Try.prog Try.f4 false true false false W args v W' := by
  have hW' := hW
  obtain ⟨p, q, hA0, hV, rfl, hfz, hnd⟩ := hW
  have hA : DataW.TrodAll enc Try.prog W 0 (fun _ => true) true Try.f4.params.toList args.toList ds p := hA0
  rw [Try.params4] at hA hval
  obtain ⟨v0, v1, v2, d0, d1, d2, p0, p1, p2, rfl, rfl, rfl, h0, h1, h2⟩ := trodAll_three hA
  obtain ⟨rfl, rfl⟩ := trodVars_none hV
  obtain ⟨xs0, b0⟩ := byt_open (hval 0 22 v0 rfl rfl) h0
  obtain ⟨xs1, b1⟩ := byt_open (hval 1 22 v1 rfl rfl) h1
  obtain ⟨xs2, b2⟩ := byt_open (hval 2 22 v2 rfl rfl) h2
  clear hA0
  refine (walk v0 xs0 v1 xs1 v2 xs2 W b0 b1 b2).mono fun e W' ⟨he, hg⟩ => ?_
  subst he
  exact ⟨_, rfl, post_law rfl (by kernel_rfl) params rfl rfl rfl hW' hg⟩

theorem laid_met (os : Os) : laidMet Try.prog Rows.faultClearsRow.laid ((World.holding Try.prog os ⟨#[], #[], []⟩).forCall (fun _ _ => 0) ⟨#[], #[.slice none 0 0, .slice none 0 0, .slice none 0 0], []⟩).memory :=
  laidMet_of_run' 8 (by kernel_rfl) (by kernel_rfl)
theorem reads (os : Os) {H : Type} (enc : TypeId × Value → H) : ∃ places, DataW.whole enc Try.prog ((World.holding Try.prog os ⟨#[], #[], []⟩).forCall (fun _ _ => 0) ⟨#[], #[.slice none 0 0, .slice none 0 0, .slice none 0 0], []⟩).memory Try.f4.params.toList Rows.faultClearsSpec.vars false #[Value.slice none 0 0, Value.slice none 0 0, Value.slice none 0 0].toList 8 = some ([.nil, .nil, .nil], [], places) :=
  ⟨[], by kernel_rfl⟩

set_option maxRecDepth 100000 in
theorem lifted (os : Os) (started : os.Started) (H : Type) (enc : TypeId × Value → H) (F : Stop.Interp) :
    ReturnsInHanded {} Try.checked os 4 .any ((OpenSpec.ofChange Rows.faultClearsSpec).preRow enc Try.prog Try.f4 Rows.faultClearsRow.domain false Rows.faultClearsRow.laid) (((OpenSpec.ofChange Rows.faultClearsSpec).at F).post enc Try.prog Try.f4 false true false false) := by
  obtain ⟨places, hx⟩ := reads os enc
  refine returnsInHanded_of_row (C := Try.checked) (s := OpenSpec.ofChange Rows.faultClearsSpec) own started (by kernel_rfl) Try.func4
    (witness_row_at (enc := enc) (C := Try.checked) false (World.holding Try.prog os ⟨#[], #[], []⟩) #[.slice none 0 0, .slice none 0 0, .slice none 0 0] rfl (by kernel_rfl) (by kernel_rfl) (by kernel_rfl)
      (OpenSpec.preRow_of_cond 8 hx (by kernel_rfl) (fun k hk => by cases hk) (by kernel_rfl) (laid_met os))) ?_
  intro W base args ds gs before hval hW _ _ _ _ _ _
  exact contract H enc W base args ds gs before hval hW

theorem said : Rows.FaultClearsSaid :=
  OpenClaim.holds_of_cond 4 Try.f4 rfl rfl rfl rfl rfl rfl rfl ⟨rfl, rfl, rfl, rfl, rfl⟩ rfl rfl rfl rfl rfl (by kernel_rfl) Try.func4 (by kernel_rfl)
    (of_decide_eq_true (by kernel_rfl)) (by unfold Func.isWrapper; first | (rw [if_pos (by decide +kernel)]; kernel_rfl) | (rw [if_neg (by decide +kernel)]; exact ⟨rfl, rfl⟩))
    (fun os started H enc _ F => by rw [OpenClaim.pre_eq_preRow]; exact lifted os started H enc F)
end Go.Proofs.Ytkpnmandpmfhjaa.faultClears

namespace Go.Proofs.Ytkpnmandpmfhjaa
theorem faultClears_said : Rows.FaultClearsSaid := faultClears.said
#print axioms faultClears_said
end Go.Proofs.Ytkpnmandpmfhjaa
