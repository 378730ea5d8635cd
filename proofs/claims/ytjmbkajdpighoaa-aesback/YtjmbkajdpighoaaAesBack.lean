/- P7.3: under any key of 32 bytes Decrypt undoes Encrypt, and Encrypt Decrypt, of any block of 16 bytes; the program answers at all. -/
import Derived.Test.YtjmbkajdpighoaaACalls
import Derived.Test.YtjmbkajdpighoaaArrO
namespace Go.Proofs.Ytjmbkajdpighoaa.aesBack
open Go.ChangeShapes Go.WideShapes Go.ChangeAt Go.RowKit

set_option maxHeartbeats 4000000 in
theorem walk (l0 l1 : List Nat) (w : World) (n0 : l0.length = 32) (b0 : ∀ x ∈ l0, x < 256) (n1 : l1.length = 16) (b1 : ∀ x ∈ l1, x < 256) :
    Calls Try.prog 7 #[.agg (l0.map fun x : Nat => Value.int .u8 (x : Int)).toArray, .agg (l1.map fun x : Nat => Value.int .u8 (x : Int)).toArray] w fun e w' => e = .returned (.bool true) ∧ Below w.heap.size w w' := by
  rw [arr_ints, arr_ints]
  have ka := arr_all l0 b0
  have ba := arr_all l1 b1
  have kl : (cI l0).length = 32 := by rw [cI_len]; exact n0
  have bl : (cI l1).length = 16 := by rw [cI_len]; exact n1
  generalize cI l0 = key at *
  generalize cI l1 = bs at *
  have hbb : Blk bs := ⟨bl, ba⟩
  have KA : Hid (AllB key ∧ key.length = 32) := ⟨ka, kl⟩
  have BA : Hid (AllB bs ∧ bs.length = 16) := ⟨ba, bl⟩
  have EB := encr_blk key kl ka bs hbb
  have DB := decr_blk key kl ka bs hbb
  have XB : Hid (AllB (encr key bs) ∧ (encr key bs).length = 16) := ⟨EB.2, EB.1⟩
  have UB : Hid (AllB (decr key bs) ∧ (decr key bs).length = 16) := ⟨DB.2, DB.1⟩
  have HN : Hid (∀ v w0, Byt w0 v key → Calls Try.prog 10 #[v] w0 fun e w' => ∃ kb, e = .returned (.tuple #[.pointer (some ⟨kb, 0, none⟩), .int .i64 0]) ∧ KeyA w' kb key ∧ w0.heap.size ≤ kb ∧ Below w0.heap.size w0 w') := fun v w0 h => new_any v key w0 h kl
  have E1 : Hid (∀ v kb w0, KeyA w0 kb key → Byt w0 v bs → Calls Try.prog 19 #[.pointer (some ⟨kb, 0, none⟩), v] w0 fun e w' => ∃ g, e = .returned (.tuple #[.slice (some ⟨g, 0, none⟩) 16 16, .int .i64 0]) ∧ Ar w' g 0 .u8 (encr key bs) ∧ w0.heap.size ≤ g ∧ Below w0.heap.size w0 w') := fun v kb w0 hk h => encrypt_any v bs key kb w0 hk kl ka h bl
  have D1 : Hid (∀ v kb w0, KeyA w0 kb key → Byt w0 v (encr key bs) → Calls Try.prog 21 #[.pointer (some ⟨kb, 0, none⟩), v] w0 fun e w' => ∃ g, e = .returned (.tuple #[.slice (some ⟨g, 0, none⟩) 16 16, .int .i64 0]) ∧ Ar w' g 0 .u8 bs ∧ w0.heap.size ≤ g ∧ Below w0.heap.size w0 w') := fun v kb w0 hk h => by
    have := decrypt_any v (encr key bs) key kb w0 hk kl ka h EB.1
    rw [decr_encr key kl ka bs hbb] at this
    exact this
  have D2 : Hid (∀ v kb w0, KeyA w0 kb key → Byt w0 v bs → Calls Try.prog 21 #[.pointer (some ⟨kb, 0, none⟩), v] w0 fun e w' => ∃ g, e = .returned (.tuple #[.slice (some ⟨g, 0, none⟩) 16 16, .int .i64 0]) ∧ Ar w' g 0 .u8 (decr key bs) ∧ w0.heap.size ≤ g ∧ Below w0.heap.size w0 w') := fun v kb w0 hk h => decrypt_any v bs key kb w0 hk kl ka h bl
  have E2 : Hid (∀ v kb w0, KeyA w0 kb key → Byt w0 v (decr key bs) → Calls Try.prog 19 #[.pointer (some ⟨kb, 0, none⟩), v] w0 fun e w' => ∃ g, e = .returned (.tuple #[.slice (some ⟨g, 0, none⟩) 16 16, .int .i64 0]) ∧ Ar w' g 0 .u8 bs ∧ w0.heap.size ≤ g ∧ Below w0.heap.size w0 w') := fun v kb w0 hk h => by
    have := encrypt_any v (decr key bs) key kb w0 hk kl ka h DB.1
    rw [encr_decr key kl ka bs hbb] at this
    exact this
  generalize encr key bs = xs at *
  generalize decr key bs = us at *
  clear n0 b0 n1 b1 ka ba kl bl hbb EB DB
  go_enter Try.func7, Try.ntmps7
  go_wp2_with (first
    | (go_at_call 11; refine (awake_any _).mono ?_; rintro e w9 ⟨rfl, B9⟩)
    | (go_at_call 17; refine (same_yes _ _ _ bs Va.out Ca.out).mono ?_; rintro e wb ⟨rfl, Bb⟩)
    | (go_at_call 17; refine (same_yes _ _ _ bs Y8.out C8.out).mono ?_; rintro e wa ⟨rfl, Ba⟩; have Va : Hid (Byt wa (.slice (some ⟨gv, 0, none⟩) 16 16) bs) := V8.out.below Ba; have Ca : Hid (Byt wa (.slice (some ⟨w1.heap.size, 0, none⟩) 16 16) bs) := C8.out.below Ba)
    | (go_at_call 19; have q := U7; refine (E2.out _ _ _ K7.out U7.out).mono ?_; rintro e w8 ⟨gv, rfl, A8, L8, B8⟩; have V8 : Hid (Byt w8 (.slice (some ⟨gv, 0, none⟩) 16 16) bs) := A8.bytG BA.out.1 16 16 BA.out.2 (by omega) (by omega); have Y8 : Hid (Byt w8 (.slice (some ⟨gy, 0, none⟩) 16 16) bs) := Y7.out.below B8; have C8 : Hid (Byt w8 (.slice (some ⟨w1.heap.size, 0, none⟩) 16 16) bs) := C7.out.below B8; clear A8)
    | (go_at_call 21; have q := Y6; refine (D2.out _ _ _ K6.out C6.out).mono ?_; rintro e w7 ⟨gu, rfl, A7, L7, B7⟩; have U7 : Hid (Byt w7 (.slice (some ⟨gu, 0, none⟩) 16 16) us) := A7.bytG UB.out.1 16 16 UB.out.2 (by omega) (by omega); have Y7 : Hid (Byt w7 (.slice (some ⟨gy, 0, none⟩) 16 16) bs) := Y6.out.below B7; have C7 : Hid (Byt w7 (.slice (some ⟨w1.heap.size, 0, none⟩) 16 16) bs) := C6.out.below B7; have K7 : Hid (KeyA w7 kb key) := K6.out.below B7 K6.out.lt; clear A7)
    | (go_at_call 21; have q := X5; refine (D1.out _ _ _ K5.out X5.out).mono ?_; rintro e w6 ⟨gy, rfl, A6, L6, B6⟩; have Y6 : Hid (Byt w6 (.slice (some ⟨gy, 0, none⟩) 16 16) bs) := A6.bytG BA.out.1 16 16 BA.out.2 (by omega) (by omega); have C6 : Hid (Byt w6 (.slice (some ⟨w1.heap.size, 0, none⟩) 16 16) bs) := C5.out.below B6; have K6 : Hid (KeyA w6 kb key) := K5.out.below B6 K5.out.lt; clear A6)
    | (go_at_call 19; have q := K4; refine (E1.out _ _ _ K4.out C4.out).mono ?_; rintro e w5 ⟨gx, rfl, A5, L5, B5⟩; have X5 : Hid (Byt w5 (.slice (some ⟨gx, 0, none⟩) 16 16) xs) := A5.bytG XB.out.1 16 16 XB.out.2 (by omega) (by omega); have C5 : Hid (Byt w5 (.slice (some ⟨w1.heap.size, 0, none⟩) 16 16) bs) := C4.out.below B5; have K5 : Hid (KeyA w5 kb key) := K4.out.below B5 K4.out.lt; clear A5)
    | (go_at_call 10; refine (HN.out _ _ Y2.out).mono ?_; rintro e w4 ⟨kb, rfl, k4, L4, B4⟩; have K4 : Hid (KeyA w4 kb key) := k4; have C4 : Hid (Byt w4 (.slice (some ⟨w1.heap.size, 0, none⟩) 16 16) bs) := C2.out.below B4; clear k4)
    | (have q1 := s1; refine box_lawF _ rfl (.tmp 1) 44 rfl .u8 bs rfl ?_; intro w2 A2 B2 s2; have C2 : Hid (Byt w2 (.slice (some ⟨w1.heap.size, 0, none⟩) 16 16) bs) := A2.bytG BA.out.1 16 16 BA.out.2 (by omega) (by omega); have Y2 : Hid (Byt w2 (.slice (some ⟨w.heap.size, 0, none⟩) 32 32) key) := Y1.out.below B2; clear A2)
    | (refine box_lawF _ rfl (.tmp 0) 43 rfl .u8 key rfl ?_; intro w1 A1 B1 s1; have Y1 : Hid (Byt w1 (.slice (some ⟨w.heap.size, 0, none⟩) 32 32) key) := A1.bytG KA.out.1 32 32 KA.out.2 (by omega) (by omega); clear A1))
  go_ret
  have z1 := B1.size
  have z2 := B2.size
  have z4 := B4.size
  have z5 := B5.size
  have z6 := B6.size
  have z7 := B7.size
  have z8 := B8.size
  have za := Ba.size
  have zb := Bb.size
  exact ⟨rfl, (((((((((B1.trans (B2.mono z1)).trans (B4.mono (by omega))).trans (B5.mono (by omega))).trans (B6.mono (by omega))).trans (B7.mono (by omega))).trans (B8.mono (by omega))).trans (Ba.mono (by omega))).trans (Bb.mono (by omega))).trans (B9.mono (by omega)))⟩

theorem params : ∀ t ∈ Try.f7.params.toList, Try.prog.readableRec t = true ∧ t < Try.prog.types.size := by
  rw [Try.params7]
  intro t ht
  simp at ht
  rcases ht with rfl | rfl
  · exact ⟨by kernel_rfl, of_decide_eq_true (by kernel_rfl)⟩
  · exact ⟨by kernel_rfl, of_decide_eq_true (by kernel_rfl)⟩

theorem contract (H : Type) (enc : TypeId × Value → H) (W : World) (base : Nat) (args : Array Value) (ds gs : List (DataW H)) (before : List MemPlace)
    (hval : ∀ (j : Nat) t v, Try.f7.params[j]? = some t → args[j]? = some v → Value.okWide Try.prog W .any base t v)
    (hW : DataW.Whole enc Try.prog Try.f7.params.toList Rows.aesBackSpec.vars false W args.toList ds gs before) :
    Calls Try.prog 7 args W fun e W' => ∃ v, e = .returned v ∧ Rows.aesBackSpec.post enc Try.prog Try.f7 false true false false W args v W' := by
  have hW' := hW
  obtain ⟨p, q, hA0, hV, rfl, hfz, hnd⟩ := hW
  have hA : DataW.TrodAll enc Try.prog W 0 (fun _ => true) true Try.f7.params.toList args.toList ds p := hA0
  rw [Try.params7] at hA hval
  obtain ⟨v0, v1, d0, d1, p0, p1, rfl, rfl, rfl, h0, h1⟩ := trodAll_two hA
  obtain ⟨rfl, rfl⟩ := trodVars_none hV
  obtain ⟨l0, rfl, n0, b0⟩ := arr_open Try.underlying43 cells_arr32 (hval 0 43 v0 rfl rfl) h0
  obtain ⟨l1, rfl, n1, b1⟩ := arr_open Try.underlying44 cells_arr16 (hval 1 44 v1 rfl rfl) h1
  clear hA0
  refine (walk l0 l1 W n0 b0 n1 b1).mono fun e W' ⟨he, hg⟩ => ?_
  subst he
  exact ⟨_, rfl, post_law rfl (by kernel_rfl) params rfl rfl rfl hW' hg⟩

theorem laid_met (os : Os) : laidMet Try.prog Rows.aesBackRow.laid ((World.holding Try.prog os ⟨#[], #[], []⟩).forCall (fun _ _ => 0) ⟨#[], #[.agg #[.int .u8 0, .int .u8 0, .int .u8 0, .int .u8 0, .int .u8 0, .int .u8 0, .int .u8 0, .int .u8 0, .int .u8 0, .int .u8 0, .int .u8 0, .int .u8 0, .int .u8 0, .int .u8 0, .int .u8 0, .int .u8 0, .int .u8 0, .int .u8 0, .int .u8 0, .int .u8 0, .int .u8 0, .int .u8 0, .int .u8 0, .int .u8 0, .int .u8 0, .int .u8 0, .int .u8 0, .int .u8 0, .int .u8 0, .int .u8 0, .int .u8 0, .int .u8 0], .agg #[.int .u8 0, .int .u8 0, .int .u8 0, .int .u8 0, .int .u8 0, .int .u8 0, .int .u8 0, .int .u8 0, .int .u8 0, .int .u8 0, .int .u8 0, .int .u8 0, .int .u8 0, .int .u8 0, .int .u8 0, .int .u8 0]], []⟩).memory :=
  laidMet_of_run' 8 (by kernel_rfl) (by kernel_rfl)
theorem reads (os : Os) {H : Type} (enc : TypeId × Value → H) : ∃ places, DataW.whole enc Try.prog ((World.holding Try.prog os ⟨#[], #[], []⟩).forCall (fun _ _ => 0) ⟨#[], #[.agg #[.int .u8 0, .int .u8 0, .int .u8 0, .int .u8 0, .int .u8 0, .int .u8 0, .int .u8 0, .int .u8 0, .int .u8 0, .int .u8 0, .int .u8 0, .int .u8 0, .int .u8 0, .int .u8 0, .int .u8 0, .int .u8 0, .int .u8 0, .int .u8 0, .int .u8 0, .int .u8 0, .int .u8 0, .int .u8 0, .int .u8 0, .int .u8 0, .int .u8 0, .int .u8 0, .int .u8 0, .int .u8 0, .int .u8 0, .int .u8 0, .int .u8 0, .int .u8 0], .agg #[.int .u8 0, .int .u8 0, .int .u8 0, .int .u8 0, .int .u8 0, .int .u8 0, .int .u8 0, .int .u8 0, .int .u8 0, .int .u8 0, .int .u8 0, .int .u8 0, .int .u8 0, .int .u8 0, .int .u8 0, .int .u8 0]], []⟩).memory Try.f7.params.toList Rows.aesBackSpec.vars false #[Value.agg #[.int .u8 0, .int .u8 0, .int .u8 0, .int .u8 0, .int .u8 0, .int .u8 0, .int .u8 0, .int .u8 0, .int .u8 0, .int .u8 0, .int .u8 0, .int .u8 0, .int .u8 0, .int .u8 0, .int .u8 0, .int .u8 0, .int .u8 0, .int .u8 0, .int .u8 0, .int .u8 0, .int .u8 0, .int .u8 0, .int .u8 0, .int .u8 0, .int .u8 0, .int .u8 0, .int .u8 0, .int .u8 0, .int .u8 0, .int .u8 0, .int .u8 0, .int .u8 0], Value.agg #[.int .u8 0, .int .u8 0, .int .u8 0, .int .u8 0, .int .u8 0, .int .u8 0, .int .u8 0, .int .u8 0, .int .u8 0, .int .u8 0, .int .u8 0, .int .u8 0, .int .u8 0, .int .u8 0, .int .u8 0, .int .u8 0]].toList 8 = some ([.agg [.lit (.int .u8 0), .lit (.int .u8 0), .lit (.int .u8 0), .lit (.int .u8 0), .lit (.int .u8 0), .lit (.int .u8 0), .lit (.int .u8 0), .lit (.int .u8 0), .lit (.int .u8 0), .lit (.int .u8 0), .lit (.int .u8 0), .lit (.int .u8 0), .lit (.int .u8 0), .lit (.int .u8 0), .lit (.int .u8 0), .lit (.int .u8 0), .lit (.int .u8 0), .lit (.int .u8 0), .lit (.int .u8 0), .lit (.int .u8 0), .lit (.int .u8 0), .lit (.int .u8 0), .lit (.int .u8 0), .lit (.int .u8 0), .lit (.int .u8 0), .lit (.int .u8 0), .lit (.int .u8 0), .lit (.int .u8 0), .lit (.int .u8 0), .lit (.int .u8 0), .lit (.int .u8 0), .lit (.int .u8 0)], .agg [.lit (.int .u8 0), .lit (.int .u8 0), .lit (.int .u8 0), .lit (.int .u8 0), .lit (.int .u8 0), .lit (.int .u8 0), .lit (.int .u8 0), .lit (.int .u8 0), .lit (.int .u8 0), .lit (.int .u8 0), .lit (.int .u8 0), .lit (.int .u8 0), .lit (.int .u8 0), .lit (.int .u8 0), .lit (.int .u8 0), .lit (.int .u8 0)]], [], places) :=
  ⟨[], by kernel_rfl⟩

set_option maxRecDepth 100000 in
theorem lifted (os : Os) (started : os.Started) (H : Type) (enc : TypeId × Value → H) (F : Stop.Interp) :
    ReturnsInHanded {} Try.checked os 7 .any ((OpenSpec.ofChange Rows.aesBackSpec).preRow enc Try.prog Try.f7 Rows.aesBackRow.domain false Rows.aesBackRow.laid) (((OpenSpec.ofChange Rows.aesBackSpec).at F).post enc Try.prog Try.f7 false true false false) := by
  obtain ⟨places, hx⟩ := reads os enc
  refine returnsInHanded_of_row (C := Try.checked) (s := OpenSpec.ofChange Rows.aesBackSpec) own started (by kernel_rfl) Try.func7
    (witness_row_at (enc := enc) (C := Try.checked) false (World.holding Try.prog os ⟨#[], #[], []⟩) #[.agg #[.int .u8 0, .int .u8 0, .int .u8 0, .int .u8 0, .int .u8 0, .int .u8 0, .int .u8 0, .int .u8 0, .int .u8 0, .int .u8 0, .int .u8 0, .int .u8 0, .int .u8 0, .int .u8 0, .int .u8 0, .int .u8 0, .int .u8 0, .int .u8 0, .int .u8 0, .int .u8 0, .int .u8 0, .int .u8 0, .int .u8 0, .int .u8 0, .int .u8 0, .int .u8 0, .int .u8 0, .int .u8 0, .int .u8 0, .int .u8 0, .int .u8 0, .int .u8 0], .agg #[.int .u8 0, .int .u8 0, .int .u8 0, .int .u8 0, .int .u8 0, .int .u8 0, .int .u8 0, .int .u8 0, .int .u8 0, .int .u8 0, .int .u8 0, .int .u8 0, .int .u8 0, .int .u8 0, .int .u8 0, .int .u8 0]] rfl (by kernel_rfl) (by kernel_rfl) (by kernel_rfl)
      (OpenSpec.preRow_of_cond 8 hx (by kernel_rfl) (fun k hk => by cases hk) (by kernel_rfl) (laid_met os))) ?_
  intro W base args ds gs before hval hW _ _ _ _ _ _
  exact contract H enc W base args ds gs before hval hW

theorem said : Rows.AesBackSaid :=
  OpenClaim.holds_of_cond 7 Try.f7 rfl rfl rfl rfl rfl rfl rfl ⟨rfl, rfl, rfl, rfl, rfl⟩ rfl rfl rfl rfl rfl (by kernel_rfl) Try.func7 (by kernel_rfl)
    (of_decide_eq_true (by kernel_rfl)) (by unfold Func.isWrapper; first | (rw [if_pos (by decide +kernel)]; kernel_rfl) | (rw [if_neg (by decide +kernel)]; exact ⟨rfl, rfl⟩))
    (fun os started H enc _ F => by rw [OpenClaim.pre_eq_preRow]; exact lifted os started H enc F)
end Go.Proofs.Ytjmbkajdpighoaa.aesBack

namespace Go.Proofs.Ytjmbkajdpighoaa
theorem aesBack_said : Rows.AesBackSaid := aesBack.said
#print axioms aesBack_said
end Go.Proofs.Ytjmbkajdpighoaa
