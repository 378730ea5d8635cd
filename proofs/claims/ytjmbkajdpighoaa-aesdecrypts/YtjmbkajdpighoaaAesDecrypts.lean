/- P7.2: any block, decrypted under any key, is as by definition, or ErrShape where the key is not 32 bytes or the block not 16; the program answers at all. -/
import Derived.Test.YtjmbkajdpighoaaACalls
import Derived.Test.YtjmbkajdpighoaaArrO
import Derived.Test.YtjmbkajdpighoaaRCry
namespace Go.Proofs.Ytjmbkajdpighoaa.aesDecrypts
open Go.ChangeShapes Go.WideShapes Go.ChangeAt Go.RowKit

set_option maxHeartbeats 4000000 in
theorem walk_key (v : Value) (key : List Int) (bv : Value) (bs : List Int) (w : World) (hk : Byt w v key) (hb : Byt w bv bs) (hl : ¬ key.length = 32) :
    Calls Try.prog 6 #[v, bv] w fun e w' => e = .returned (.bool true) ∧ Below w.heap.size w w' := by
  have S1 : Hid (Calls Try.prog 10 #[v] w fun e w' => e = .returned (.tuple #[.pointer none, .int .i64 2]) ∧ w' = w) := new_no v key w hk hl
  have S2 : Hid (Calls Try.prog 21 #[.pointer none, bv] w fun e w' => e = .returned (.tuple #[.slice none 0 0, .int .i64 2]) ∧ w' = w) := decrypt_no _ _ w (takes_nil bv w)
  obtain ⟨ao, ca, rfl, h1, h2, -, -, -⟩ := hk
  obtain ⟨ab, cb, rfl, h3, h4, -, -, -⟩ := hb
  have h5 : ¬ ((key.length : Int) = 32) := by omega
  clear hl
  generalize key.length = n at *
  generalize bs.length = m at *
  go_enter Try.func6, Try.ntmps6
  go_wp2_with (first
    | (go_at_call 11; refine (awake_any _).mono ?_; rintro e w9 ⟨rfl, B9⟩)
    | (go_at_call 21; refine (S2.out).mono ?_; rintro e wx ⟨rfl, hw⟩; obtain rfl := hw.symm)
    | (go_at_call 10; refine (S1.out).mono ?_; rintro e wx ⟨rfl, hw⟩; obtain rfl := hw.symm))
  go_ret
  exact ⟨rfl, B9⟩

set_option maxHeartbeats 4000000 in
theorem walk_blk (v : Value) (key : List Int) (bv : Value) (bs : List Int) (w : World) (hk : Byt w v key) (hb : Byt w bv bs) (hl : key.length = 32) (hbl : ¬ bs.length = 16) :
    Calls Try.prog 6 #[v, bv] w fun e w' => e = .returned (.bool true) ∧ Below w.heap.size w w' := by
  have S1 : Hid (Calls Try.prog 10 #[v] w fun e w' => ∃ kb, e = .returned (.tuple #[.pointer (some ⟨kb, 0, none⟩), .int .i64 0]) ∧ KeyA w' kb key ∧ w.heap.size ≤ kb ∧ Below w.heap.size w w') := new_any v key w hk hl
  have S2 : Hid (∀ kb w0, KeyA w0 kb key → Byt w0 bv bs → Calls Try.prog 21 #[.pointer (some ⟨kb, 0, none⟩), bv] w0 fun e w' => e = .returned (.tuple #[.slice none 0 0, .int .i64 2]) ∧ w' = w0) := fun kb w0 hK h => decrypt_no _ _ w0 (takes_len bv bs key kb w0 hK h hbl)
  have HB : Hid (Byt w bv bs) := hb
  obtain ⟨ao, ca, rfl, h1, h2, -, -, -⟩ := hk
  obtain ⟨ab, cb, rfl, h3, h4, -, -, -⟩ := hb
  have h5 : ¬ ((bs.length : Int) = 16) := by omega
  rw [hl] at S1 ⊢
  clear hl hbl h1 h2
  generalize bs.length = m at *
  go_enter Try.func6, Try.ntmps6
  go_wp2_with (first
    | (go_at_call 11; refine (awake_any _).mono ?_; rintro e w9 ⟨rfl, B9⟩)
    | (go_at_call 21; refine (S2.out _ _ K1.out (HB.out.below B1)).mono ?_; rintro e wx ⟨rfl, hw⟩; obtain rfl := hw.symm)
    | (go_at_call 10; refine (S1.out).mono ?_; rintro e w1 ⟨kb, rfl, k1, L1, B1⟩; have K1 : Hid (KeyA w1 kb key) := k1; clear k1))
  go_ret
  exact ⟨rfl, B1.trans (B9.mono B1.size)⟩

set_option maxHeartbeats 4000000 in
theorem walk_yes (v : Value) (key : List Int) (bv : Value) (bs : List Int) (w : World) (hk : Byt w v key) (hb : Byt w bv bs) (hl : key.length = 32) (hbl : bs.length = 16) :
    Calls Try.prog 6 #[v, bv] w fun e w' => e = .returned (.bool true) ∧ Below w.heap.size w w' := by
  have hka := hk.all
  have zb := decr_blk key hl hka bs ⟨hbl, hb.all⟩
  have S1 : Hid (Calls Try.prog 10 #[v] w fun e w' => ∃ kb, e = .returned (.tuple #[.pointer (some ⟨kb, 0, none⟩), .int .i64 0]) ∧ KeyA w' kb key ∧ w.heap.size ≤ kb ∧ Below w.heap.size w w') := new_any v key w hk hl
  have S2 : Hid (∀ kb w0, KeyA w0 kb key → Byt w0 bv bs → Calls Try.prog 21 #[.pointer (some ⟨kb, 0, none⟩), bv] w0 fun e w' => ∃ g, e = .returned (.tuple #[.slice (some ⟨g, 0, none⟩) 16 16, .int .i64 0]) ∧ Ar w' g 0 .u8 (decr key bs) ∧ w0.heap.size ≤ g ∧ Below w0.heap.size w0 w') := fun kb w0 hK h => decrypt_any bv bs key kb w0 hK hl hka h hbl
  have S3 : Hid (∀ w0, Calls Try.prog 13 #[] w0 fun e w' => ∃ v, e = .returned v ∧ Byt w' v ptab ∧ Below w0.heap.size w0 w') := rtable_any
  have S4 : Hid (∀ tv w0, Byt w0 v key → Byt w0 bv bs → Byt w0 tv ptab → Calls Try.prog 22 #[v, bv, tv] w0 fun e w' => ∃ v', e = .returned v' ∧ Byt w' v' (decr key bs) ∧ Below w0.heap.size w0 w') := fun tv w0 h1 h2 h3 => rdecrypt_any v bv tv key bs w0 h1 hl h2 hbl h3
  have HK : Hid (Byt w v key) := hk
  have HB : Hid (Byt w bv bs) := hb
  have ZB : Hid ((decr key bs).length = 16 ∧ AllB (decr key bs)) := ⟨zb.1, zb.2⟩
  generalize decr key bs = zs at *
  generalize ptab = tab at *
  obtain ⟨ao, ca, rfl, h1, h2, -, -, -⟩ := hk
  obtain ⟨ab, cb, rfl, h3, h4, -, -, -⟩ := hb
  rw [hl] at S1 S4 HK ⊢
  rw [hbl] at S2 S4 HB ⊢
  clear hl hbl h1 h2 h3 h4 hka zb
  go_enter Try.func6, Try.ntmps6
  go_wp2_with (first
    | (go_at_call 11; refine (awake_any _).mono ?_; rintro e w9 ⟨rfl, B9⟩; have BB : Hid (Below w.heap.size w w9) := BB.out.trans (B9.mono BB.out.size); clear B9)
    | (go_at_call 17; refine (same_yes _ _ _ zs X4.out R4.out).mono ?_; rintro e w5 ⟨rfl, B5⟩; have BB : Hid (Below w.heap.size w w5) := BB.out.trans (B5.mono BB.out.size); clear B5)
    | (go_at_call 22; refine (S4.out _ _ (HK.out.below BB.out) (HB.out.below BB.out) T3.out).mono ?_; rintro e w4 ⟨v4, rfl, y4, B4⟩; have R4 : Hid (Byt w4 v4 zs) := y4; have X4 : Hid (Byt w4 (.slice (some ⟨gx, 0, none⟩) 16 16) zs) := X3.out.below B4; have BB : Hid (Below w.heap.size w w4) := BB.out.trans (B4.mono BB.out.size); clear y4 B4)
    | (go_at_call 13; refine (S3.out _).mono ?_; rintro e w3 ⟨tv, rfl, y3, B3⟩; have T3 : Hid (Byt w3 tv tab) := y3; have X3 : Hid (Byt w3 (.slice (some ⟨gx, 0, none⟩) 16 16) zs) := X2.out.below B3; have BB : Hid (Below w.heap.size w w3) := BB.out.trans (B3.mono BB.out.size); clear y3 B3)
    | (go_at_call 21; refine (S2.out _ _ K1.out (HB.out.below BB.out)).mono ?_; rintro e w2 ⟨gx, rfl, a2, L2, B2⟩; have X2 : Hid (Byt w2 (.slice (some ⟨gx, 0, none⟩) 16 16) zs) := a2.bytG ZB.out.2 16 16 ZB.out.1 (by omega) (by omega); have BB : Hid (Below w.heap.size w w2) := BB.out.trans (B2.mono BB.out.size); clear a2 B2)
    | (go_at_call 10; refine (S1.out).mono ?_; rintro e w1 ⟨kb, rfl, k1, L1, B1⟩; have K1 : Hid (KeyA w1 kb key) := k1; have BB : Hid (Below w.heap.size w w1) := B1; clear k1 B1))
  go_ret
  exact ⟨rfl, BB.out⟩

theorem walk (v : Value) (key : List Int) (bv : Value) (bs : List Int) (w : World) (hk : Byt w v key) (hb : Byt w bv bs) :
    Calls Try.prog 6 #[v, bv] w fun e w' => e = .returned (.bool true) ∧ Below w.heap.size w w' := by
  by_cases hl : key.length = 32
  · by_cases hbl : bs.length = 16
    · exact walk_yes v key bv bs w hk hb hl hbl
    · exact walk_blk v key bv bs w hk hb hl hbl
  · exact walk_key v key bv bs w hk hb hl

theorem params : ∀ t ∈ Try.f6.params.toList, Try.prog.readableRec t = true ∧ t < Try.prog.types.size := by
  rw [Try.params6]
  intro t ht
  simp at ht
  subst ht
  exact ⟨by kernel_rfl, of_decide_eq_true (by kernel_rfl)⟩

theorem contract (H : Type) (enc : TypeId × Value → H) (W : World) (base : Nat) (args : Array Value) (ds gs : List (DataW H)) (before : List MemPlace)
    (hval : ∀ (j : Nat) t v, Try.f6.params[j]? = some t → args[j]? = some v → Value.okWide Try.prog W .any base t v)
    (hW : DataW.Whole enc Try.prog Try.f6.params.toList Rows.aesDecryptsSpec.vars false W args.toList ds gs before) :
    Calls Try.prog 6 args W fun e W' => ∃ v, e = .returned v ∧ Rows.aesDecryptsSpec.post enc Try.prog Try.f6 false true false false W args v W' := by
  have hW' := hW
  obtain ⟨p, q, hA0, hV, rfl, hfz, hnd⟩ := hW
  have hA : DataW.TrodAll enc Try.prog W 0 (fun _ => true) true Try.f6.params.toList args.toList ds p := hA0
  rw [Try.params6] at hA hval
  obtain ⟨v0, v1, d0, d1, p0, p1, rfl, rfl, rfl, h0, h1⟩ := trodAll_two hA
  obtain ⟨rfl, rfl⟩ := trodVars_none hV
  obtain ⟨xs0, b0⟩ := byt_open (hval 0 22 v0 rfl rfl) h0
  obtain ⟨xs1, b1⟩ := byt_open (hval 1 22 v1 rfl rfl) h1
  clear hA0
  refine (walk v0 xs0 v1 xs1 W b0 b1).mono fun e W' ⟨he, hg⟩ => ?_
  subst he
  exact ⟨_, rfl, post_law rfl (by kernel_rfl) params rfl rfl rfl hW' hg⟩

theorem laid_met (os : Os) : laidMet Try.prog Rows.aesDecryptsRow.laid ((World.holding Try.prog os ⟨#[], #[], []⟩).forCall (fun _ _ => 0) ⟨#[], #[.slice none 0 0, .slice none 0 0], []⟩).memory :=
  laidMet_of_run' 8 (by kernel_rfl) (by kernel_rfl)
theorem reads (os : Os) {H : Type} (enc : TypeId × Value → H) : ∃ places, DataW.whole enc Try.prog ((World.holding Try.prog os ⟨#[], #[], []⟩).forCall (fun _ _ => 0) ⟨#[], #[.slice none 0 0, .slice none 0 0], []⟩).memory Try.f6.params.toList Rows.aesDecryptsSpec.vars false #[Value.slice none 0 0, Value.slice none 0 0].toList 8 = some ([.nil, .nil], [], places) :=
  ⟨[], by kernel_rfl⟩

set_option maxRecDepth 100000 in
theorem lifted (os : Os) (started : os.Started) (H : Type) (enc : TypeId × Value → H) (F : Stop.Interp) :
    ReturnsInHanded {} Try.checked os 6 .any ((OpenSpec.ofChange Rows.aesDecryptsSpec).preRow enc Try.prog Try.f6 Rows.aesDecryptsRow.domain false Rows.aesDecryptsRow.laid) (((OpenSpec.ofChange Rows.aesDecryptsSpec).at F).post enc Try.prog Try.f6 false true false false) := by
  obtain ⟨places, hx⟩ := reads os enc
  refine returnsInHanded_of_row (C := Try.checked) (s := OpenSpec.ofChange Rows.aesDecryptsSpec) own started (by kernel_rfl) Try.func6
    (witness_row_at (enc := enc) (C := Try.checked) false (World.holding Try.prog os ⟨#[], #[], []⟩) #[.slice none 0 0, .slice none 0 0] rfl (by kernel_rfl) (by kernel_rfl) (by kernel_rfl)
      (OpenSpec.preRow_of_cond 8 hx (by kernel_rfl) (fun k hk => by cases hk) (by kernel_rfl) (laid_met os))) ?_
  intro W base args ds gs before hval hW _ _ _ _ _ _
  exact contract H enc W base args ds gs before hval hW

theorem said : Rows.AesDecryptsSaid :=
  OpenClaim.holds_of_cond 6 Try.f6 rfl rfl rfl rfl rfl rfl rfl ⟨rfl, rfl, rfl, rfl, rfl⟩ rfl rfl rfl rfl rfl (by kernel_rfl) Try.func6 (by kernel_rfl)
    (of_decide_eq_true (by kernel_rfl)) (by unfold Func.isWrapper; first | (rw [if_pos (by decide +kernel)]; kernel_rfl) | (rw [if_neg (by decide +kernel)]; exact ⟨rfl, rfl⟩))
    (fun os started H enc _ F => by rw [OpenClaim.pre_eq_preRow]; exact lifted os started H enc F)
end Go.Proofs.Ytjmbkajdpighoaa.aesDecrypts

namespace Go.Proofs.Ytjmbkajdpighoaa
theorem aesDecrypts_said : Rows.AesDecryptsSaid := aesDecrypts.said
#print axioms aesDecrypts_said
end Go.Proofs.Ytjmbkajdpighoaa
