/- P6.1: what is put for any word's bytes is as by definition; the program answers at all. -/
import Derived.Test.YtdchelbobmdmpaaSWord
import Derived.Test.YtdchelbobmdmpaaSRef
namespace Go.Proofs.Ytdchelbobmdmpaa.sboxWords
open Go.ChangeShapes Go.WideShapes Go.ChangeAt Go.RowKit

set_option maxRecDepth 20000 in
set_option maxHeartbeats 2000000 in
theorem walk (y : Int) (w : World) (hy : 0 ≤ y ∧ y ≤ 4294967295) :
    Calls Try.prog 5 #[.int .u32 y] w fun e w' => e = .returned (.bool true) ∧ Below w.heap.size w w' := by
  obtain ⟨x, rfl, hx⟩ : ∃ a : Nat, y = a ∧ a < 4294967296 := ⟨y.toNat, by omega, by omega⟩
  have HX : Hid (x < 4294967296) := hx
  have HWD : Hid (∀ w, Calls Try.prog 12 #[.int .u32 x] w fun e w' => e = .returned (.int .u32 (wsum x 4)) ∧ Below w.heap.size w w') := fun w => word_any x w
  clear hy
  go_enter Try.func5, Try.ntmps5
  go_wp2
  go_loop [3, 4, 5] (fun s p i => ∃ k q : Nat, k ≤ 4 ∧ i = .int .i64 k ∧ p = .int .u32 q ∧ q = 256 ^ k % 4294967296 ∧ s = .int .u32 (wsum x k)) (fun _ _ i => 4 - (intOf i).toNat)
  case atStart => exact ⟨0, 1, Nat.zero_le _, rfl, rfl, rfl, rfl⟩
  case round =>
    obtain ⟨k, q, hk, rfl, rfl, hq, rfl⟩ := hrel
    by_cases hlt : k < 4
    · have hp : 256 ^ k ≤ 16777216 := (show 256 ^ k ≤ 256 ^ 3 from Nat.pow_le_pow_right (by omega) (by omega))
      have hp0 : 0 < 256 ^ k := Nat.pow_pos (by omega)
      have hqp : q = 256 ^ k := by rw [hq]; omega
      have hw := wsum_lt x k
      rw [← hqp] at hw hp hp0
      have HQ : Hid (q = 256 ^ k) := hqp
      have HB : Hid (wb x k = x / q % 256) := by rw [hqp]; exact rfl
      have HS : Hid (wsum x (k + 1) = wsum x k + q * sb (wb x k)) := by rw [hqp]; exact rfl
      have hs := sb_lt _ (wb_lt x k)
      have HC : Hid (∀ w, Calls Try.prog 7 #[.int .u8 (wb x k)] w fun e w' => e = .returned (.int .u8 (sb (wb x k))) ∧ w' = w) := fun w => rsub_any _ w (wb_lt x k)
      have hb : (x : Int) / (q : Int) % 256 = (wb x k : Int) := by rw [HB.out]; simp
      have hb' : IntKind.u8.wrap (wb x k : Int) = (wb x k : Int) := by rw [IntKind.wrap_u8']; have := wb_lt x k; omega
      obtain ⟨m, hm⟩ : ∃ m, m = q * sb (wb x k) := ⟨_, rfl⟩
      have hqs : (q : Int) * (sb (wb x k) : Int) = (m : Int) := by rw [← Int.natCast_mul, hm]
      have hm1 : wsum x k + m < 4294967296 := by
        have h1 : q * sb (wb x k) ≤ q * 255 := Nat.mul_le_mul_left _ (by omega)
        omega
      rw [← hm] at HS
      have HN : Hid (q * 256 % 4294967296 = 256 ^ (k + 1) % 4294967296) := by
        show _ = _
        rw [hqp, Nat.pow_succ]
      clear hq hqp HB hm
      generalize sb (wb x k) = s at *
      generalize wb x k = b at *
      generalize wsum x k = t at *
      go_wp2_with (go_at_call 7; refine (HC.out _).mono ?_; rintro e w' ⟨rfl, hw⟩; obtain rfl := hw.symm)
      go_round
      case rel => exact ⟨k + 1, q * 256 % 4294967296, by omega, by go_num, by simp, HN.out, by rw [HS.out]; simp⟩
      case measure => simp [intOf]; omega
    · have hk4 : k = 4 := by omega
      subst hk4
      clear hq
      generalize wsum x 4 = t at *
      go_wp2_with (first
        | (go_at_call 9; refine (awake_any _).mono ?_; rintro e w2 ⟨rfl, B2⟩)
        | (go_at_call 12; refine (HWD.out _).mono ?_; rintro e w1 ⟨rfl, B1⟩))
      go_ret
      exact ⟨rfl, B1.trans (B2.mono B1.size)⟩

theorem params : ∀ t ∈ Try.f5.params.toList, Try.prog.readableRec t = true ∧ t < Try.prog.types.size := by
  rw [Try.params5]
  intro t ht
  simp at ht
  subst ht
  exact ⟨by kernel_rfl, of_decide_eq_true (by kernel_rfl)⟩

theorem contract (H : Type) (enc : TypeId × Value → H) (W : World) (base : Nat) (args : Array Value) (ds gs : List (DataW H)) (before : List MemPlace)
    (hval : ∀ (j : Nat) t v, Try.f5.params[j]? = some t → args[j]? = some v → Value.okWide Try.prog W .any base t v)
    (hW : DataW.Whole enc Try.prog Try.f5.params.toList Rows.sboxWordsSpec.vars false W args.toList ds gs before) :
    Calls Try.prog 5 args W fun e W' => ∃ v, e = .returned v ∧ Rows.sboxWordsSpec.post enc Try.prog Try.f5 false true false false W args v W' := by
  have hW' := hW
  obtain ⟨p, q, hA0, hV, rfl, hfz, hnd⟩ := hW
  have hA : DataW.TrodAll enc Try.prog W 0 (fun _ => true) true Try.f5.params.toList args.toList ds p := hA0
  rw [Try.params5] at hA hval
  obtain ⟨v0, d0, rfl, rfl, h0⟩ := trodAll_one hA
  obtain ⟨rfl, rfl⟩ := trodVars_none hV
  obtain ⟨x0, rfl, rfl, rfl, w0⟩ := open_int Try.underlying28 (hval 0 28 v0 rfl rfl) h0
  clear hA0
  refine (walk x0 W (bounds_u32 w0)).mono fun e W' ⟨he, hg⟩ => ?_
  subst he
  exact ⟨_, rfl, post_law rfl (by kernel_rfl) params rfl rfl rfl hW' hg⟩

theorem laid_met (os : Os) : laidMet Try.prog Rows.sboxWordsRow.laid ((World.holding Try.prog os ⟨#[], #[], []⟩).forCall (fun _ _ => 0) ⟨#[], #[.int .u32 0], []⟩).memory :=
  laidMet_of_run' 8 (by kernel_rfl) (by kernel_rfl)
theorem reads (os : Os) {H : Type} (enc : TypeId × Value → H) : ∃ places, DataW.whole enc Try.prog ((World.holding Try.prog os ⟨#[], #[], []⟩).forCall (fun _ _ => 0) ⟨#[], #[.int .u32 0], []⟩).memory Try.f5.params.toList Rows.sboxWordsSpec.vars false #[Value.int .u32 0].toList 8 = some ([.lit (.int .u32 0)], [], places) :=
  ⟨[], by kernel_rfl⟩

set_option maxRecDepth 100000 in
theorem lifted (os : Os) (started : os.Started) (H : Type) (enc : TypeId × Value → H) (F : Stop.Interp) :
    ReturnsInHanded {} Try.checked os 5 .any ((OpenSpec.ofChange Rows.sboxWordsSpec).preRow enc Try.prog Try.f5 Rows.sboxWordsRow.domain false Rows.sboxWordsRow.laid) (((OpenSpec.ofChange Rows.sboxWordsSpec).at F).post enc Try.prog Try.f5 false true false false) := by
  obtain ⟨places, hx⟩ := reads os enc
  refine returnsInHanded_of_row (C := Try.checked) (s := OpenSpec.ofChange Rows.sboxWordsSpec) own started (by kernel_rfl) Try.func5
    (witness_row_at (enc := enc) (C := Try.checked) false (World.holding Try.prog os ⟨#[], #[], []⟩) #[.int .u32 0] rfl (by kernel_rfl) (by kernel_rfl) (by kernel_rfl)
      (OpenSpec.preRow_of_cond 8 hx (by kernel_rfl) (fun k hk => by cases hk) (by kernel_rfl) (laid_met os))) ?_
  intro W base args ds gs before hval hW _ _ _ _ _ _
  exact contract H enc W base args ds gs before hval hW

theorem said : Rows.SboxWordsSaid :=
  OpenClaim.holds_of_cond 5 Try.f5 rfl rfl rfl rfl rfl rfl rfl ⟨rfl, rfl, rfl, rfl, rfl⟩ rfl rfl rfl rfl rfl (by kernel_rfl) Try.func5 (by kernel_rfl)
    (of_decide_eq_true (by kernel_rfl)) (by unfold Func.isWrapper; first | (rw [if_pos (by decide +kernel)]; kernel_rfl) | (rw [if_neg (by decide +kernel)]; exact ⟨rfl, rfl⟩))
    (fun os started H enc _ F => by rw [OpenClaim.pre_eq_preRow]; exact lifted os started H enc F)
end Go.Proofs.Ytdchelbobmdmpaa.sboxWords

namespace Go.Proofs.Ytdchelbobmdmpaa
theorem sboxWords_said : Rows.SboxWordsSaid := sboxWords.said
#print axioms sboxWords_said
end Go.Proofs.Ytdchelbobmdmpaa
