/- P8.1: any bytes and their doubles, n of them: ErrShape where the bytes are not sixteen, or n is below 0 or above 256; else each is what the definition says. -/
import Derived.Test.YtjojimffolagmaaTAwk
namespace Go.Proofs.Ytjojimffolagmaa.twiceLists
open Go.ChangeShapes Go.WideShapes Go.ChangeAt Go.RowKit

set_option maxHeartbeats 4000000 in
theorem walk_no (v : Value) (xs : List Int) (n : Int) (w : World) (hb : Byt w v xs) (h : xs.length ≠ 16 ∨ n < 0 ∨ 256 < n) :
    Calls Try.prog 4 #[v, .int .i64 n] w fun e w' => e = .returned (.bool true) ∧ Below w.heap.size w w' := by
  have S1 : Hid (Calls Try.prog 14 #[v, .int .i64 n] w fun e w' => e = .returned (.tuple #[.slice none 0 0, .int .i64 2]) ∧ w' = w) := list_no v xs n w hb h
  obtain ⟨ao, ca, rfl, h1, h2, -, -, -⟩ := hb
  by_cases hl : xs.length = 16
  · rw [hl] at S1 h1 ⊢
    by_cases h0 : n < 0
    · clear h
      go_enter Try.func4, Try.ntmps4
      go_wp2_with (first
        | (go_at_call 8; refine (awake_any _).mono ?_; rintro e w9 ⟨rfl, B9⟩)
        | (go_at_call 14; refine (S1.out).mono ?_; rintro e wx ⟨rfl, hw⟩; obtain rfl := hw.symm))
      go_ret
      exact ⟨rfl, B9⟩
    · have c1 : 256 < n := by omega
      clear h
      go_enter Try.func4, Try.ntmps4
      go_wp2_with (first
        | (go_at_call 8; refine (awake_any _).mono ?_; rintro e w9 ⟨rfl, B9⟩)
        | (go_at_call 14; refine (S1.out).mono ?_; rintro e wx ⟨rfl, hw⟩; obtain rfl := hw.symm))
      go_ret
      exact ⟨rfl, B9⟩
  · have h5 : ((xs.length : Int) != 16) = true := by simp; omega
    clear h hl
    generalize xs.length = m at *
    go_enter Try.func4, Try.ntmps4
    go_wp2_with (first
      | (go_at_call 8; refine (awake_any _).mono ?_; rintro e w9 ⟨rfl, B9⟩)
      | (go_at_call 14; refine (S1.out).mono ?_; rintro e wx ⟨rfl, hw⟩; obtain rfl := hw.symm))
    go_ret
    exact ⟨rfl, B9⟩

set_option linter.unusedSimpArgs false in
set_option maxRecDepth 20000 in
set_option maxHeartbeats 4000000 in
theorem walk_yes (v : Value) (xs : List Int) (n : Nat) (w : World) (hb : Byt w v xs) (hn : n ≤ 256) (hl : xs.length = 16) :
    Calls Try.prog 4 #[v, .int .i64 (n : Int)] w fun e w' => e = .returned (.bool true) ∧ Below w.heap.size w w' := by
  have S1 : Hid (Calls Try.prog 14 #[v, .int .i64 (n : Int)] w fun e w' => ∃ g, e = .returned (.tuple #[.slice (some ⟨g, 0, none⟩) n n, .int .i64 0]) ∧ (∃ p, Rw w' g p n n (fun k => bt16 (tdn (nm16 xs) k))) ∧ g < w'.heap.size ∧ w.heap.size ≤ g ∧ Below w.heap.size w w') := list_any v xs n w hb hl hn
  have S2 : Hid (∀ k u w', Byt w' u (bt16 (tdn (nm16 xs) k)) → Calls Try.prog 12 #[u] w' fun e w'' => ∃ v', e = .returned v' ∧ Byt w'' v' (bt16 (tdn (nm16 xs) (k + 1))) ∧ Below w'.heap.size w' w'') := fun k u w' h => by
    have := rdouble_any u _ w' h (bt16_len _)
    rwa [nm_bt _ (tdn_lt _ k (nm16_lt xs hb.all))] at this
  have HV : Hid (Byt w v (bt16 (tdn (nm16 xs) 0))) := by show Byt _ _ _; rw [tdn, bt_nm xs ⟨hl, hb.all⟩]; exact hb
  have HLN : Hid (∀ k, (bt16 (tdn (nm16 xs) k)).length = 16 ∧ AllB (bt16 (tdn (nm16 xs) k))) := fun k => ⟨bt16_len _, bt16_all _⟩
  obtain ⟨ao, ca, rfl, h1, h2, -, -, -⟩ := hb
  rw [hl] at S1 HV h1 ⊢
  clear hl
  obtain ⟨f, hf⟩ : ∃ f : Nat → List Int, f = fun k => bt16 (tdn (nm16 xs) k) := ⟨_, rfl⟩
  have ef : ∀ k, bt16 (tdn (nm16 xs) k) = f k := fun k => by rw [hf]
  rw [← hf] at S1
  simp only [ef] at S2 HV HLN
  clear ef hf
  have n0 : (0 : Int) ≤ (n : Int) := by omega
  have n1 : (n : Int) ≤ 256 := by omega
  go_enter Try.func4, Try.ntmps4
  go_wp2_with (go_at_call 14; refine (S1.out).mono ?_; rintro e w1 ⟨g, rfl, ⟨p, r1⟩, L1, G1, B1⟩; have R1 : Hid (Rw w1 g p n n f) := r1; have HB1 : Hid (Below w.heap.size w w1) := B1; have HV1 : Hid (Byt w1 (.slice ao 16 ca) (f 0)) := HV.out.below B1; clear r1 B1)
  go_loopw [7, 8] (fun u i wr => ∃ k : Nat, k ≤ n ∧ i = .int .i64 k ∧ Byt wr u (f k) ∧ Rw wr g p n n f ∧ g < wr.heap.size ∧ Below w.heap.size w wr) (fun _ i _ => n - (intOf i).toNat)
  case atStart => exact ⟨0, Nat.zero_le _, rfl, HV1.out, R1.out, L1, HB1.out⟩
  case round =>
    obtain ⟨k, hk, rfl, hA, hR, hG, hB⟩ := hrel
    obtain ⟨wa, rfl⟩ : ∃ wx, wx = wr := ⟨_, rfl⟩
    have k0 : (0 : Int) ≤ (k : Int) := by omega
    have q1 : IntKind.i64.wrap (k : Int) = k := by rw [IntKind.wrap_i64]; omega
    have HA : Hid (Byt wa u7 (f k)) := hA
    have HR : Hid (Rw wa g p n n f) := hR
    have HB : Hid (Below w.heap.size w wa) := hB
    clear hA hB hR HV1 R1 HB1
    by_cases hlt : k < n
    · have k1 : (k : Int) < (n : Int) := by omega
      obtain ⟨gk, -, ck, ak⟩ := HR.out.2 k hlt
      have HK : Hid (Byt wa (.slice (some ⟨gk, 0, none⟩) 16 16) (f k)) := ak.bytG (HLN.out k).2 16 16 (HLN.out k).1 (by omega) (by omega)
      clear ak
      go_wp2_with (first
        | (go_at_call 12; refine (S2.out k _ _ HA5.out).mono ?_; rintro e w6 ⟨v6, rfl, y6, B6⟩; have HA6 : Hid (Byt w6 v6 (f (k + 1))) := y6; have HR6 : Hid (Rw w6 g p n n f) := HR5.out.below B6 o5 (fun i => (HLN.out i).1); have o6 : g < w6.heap.size := Nat.lt_of_lt_of_le o5 B6.size; have HB6 : Hid (Below w.heap.size w w6) := HB5.out.trans (B6.mono HB5.out.size); clear y6 B6)
        | (go_at_call 11; refine (same_yes _ _ _ (f k) HK.out HA.out).mono ?_; rintro e w5 ⟨rfl, B5⟩; have HA5 : Hid (Byt w5 u7 (f k)) := HA.out.below B5; have HR5 : Hid (Rw w5 g p n n f) := HR.out.below B5 hG (fun i => (HLN.out i).1); have o5 : g < w5.heap.size := Nat.lt_of_lt_of_le hG B5.size; have HB5 : Hid (Below w.heap.size w w5) := HB.out.trans (B5.mono HB.out.size); clear B5))
      go_roundw
      case rel => exact ⟨k + 1, by omega, by go_num, HA6.out, HR6.out, o6, HB6.out⟩
      case measure => simp [intOf]; omega
    · have hkn : k = n := by omega
      subst hkn
      go_wp2_with (go_at_call 8; refine (awake_any _).mono ?_; rintro e w9 ⟨rfl, B9⟩)
      go_ret
      exact ⟨rfl, HB.out.trans (B9.mono HB.out.size)⟩

theorem walk (v : Value) (xs : List Int) (n : Int) (w : World) (hb : Byt w v xs) (_hn : -9223372036854775808 ≤ n ∧ n ≤ 9223372036854775807) :
    Calls Try.prog 4 #[v, .int .i64 n] w fun e w' => e = .returned (.bool true) ∧ Below w.heap.size w w' := by
  by_cases h : xs.length ≠ 16 ∨ n < 0 ∨ 256 < n
  · exact walk_no v xs n w hb h
  · have := walk_yes v xs n.toNat w hb (by omega) (by omega)
    rwa [show ((n.toNat : Nat) : Int) = n by omega] at this

theorem params : ∀ t ∈ Try.f4.params.toList, Try.prog.readableRec t = true ∧ t < Try.prog.types.size := by
  rw [Try.params4]
  intro t ht
  simp at ht
  rcases ht with rfl | rfl
  · exact ⟨by kernel_rfl, of_decide_eq_true (by kernel_rfl)⟩
  · exact ⟨by kernel_rfl, of_decide_eq_true (by kernel_rfl)⟩

theorem contract (H : Type) (enc : TypeId × Value → H) (W : World) (base : Nat) (args : Array Value) (ds gs : List (DataW H)) (before : List MemPlace)
    (hval : ∀ (j : Nat) t v, Try.f4.params[j]? = some t → args[j]? = some v → Value.okWide Try.prog W .any base t v)
    (hW : DataW.Whole enc Try.prog Try.f4.params.toList Rows.twiceListsSpec.vars false W args.toList ds gs before) :
    Calls Try.prog 4 args W fun e W' => ∃ v, e = .returned v ∧ Rows.twiceListsSpec.post enc Try.prog Try.f4 false true false false W args v W' := by
  have hW' := hW
  obtain ⟨p, q, hA0, hV, rfl, hfz, hnd⟩ := hW
  have hA : DataW.TrodAll enc Try.prog W 0 (fun _ => true) true Try.f4.params.toList args.toList ds p := hA0
  rw [Try.params4] at hA hval
  obtain ⟨v0, v1, d0, d1, p0, p1, rfl, rfl, rfl, h0, h1⟩ := trodAll_two hA
  obtain ⟨rfl, rfl⟩ := trodVars_none hV
  obtain ⟨xs0, b0⟩ := byt_open (hval 0 22 v0 rfl rfl) h0
  obtain ⟨x1, rfl, rfl, rfl, w1⟩ := open_int Try.underlying3 (hval 1 3 v1 rfl rfl) h1
  clear hA0
  refine (walk v0 xs0 x1 W b0 (bounds_i64 w1)).mono fun e W' ⟨he, hg⟩ => ?_
  subst he
  exact ⟨_, rfl, post_law rfl (by kernel_rfl) params rfl rfl rfl hW' hg⟩

theorem laid_met (os : Os) : laidMet Try.prog Rows.twiceListsRow.laid ((World.holding Try.prog os ⟨#[], #[], []⟩).forCall (fun _ _ => 0) ⟨#[], #[.slice none 0 0, .int .i64 0], []⟩).memory :=
  laidMet_of_run' 8 (by kernel_rfl) (by kernel_rfl)
theorem reads (os : Os) {H : Type} (enc : TypeId × Value → H) : ∃ places, DataW.whole enc Try.prog ((World.holding Try.prog os ⟨#[], #[], []⟩).forCall (fun _ _ => 0) ⟨#[], #[.slice none 0 0, .int .i64 0], []⟩).memory Try.f4.params.toList Rows.twiceListsSpec.vars false #[Value.slice none 0 0, Value.int .i64 0].toList 8 = some ([.nil, .lit (.int .i64 0)], [], places) :=
  ⟨[], by kernel_rfl⟩

set_option maxRecDepth 100000 in
theorem lifted (os : Os) (started : os.Started) (H : Type) (enc : TypeId × Value → H) (F : Stop.Interp) :
    ReturnsInHanded {} Try.checked os 4 .any ((OpenSpec.ofChange Rows.twiceListsSpec).preRow enc Try.prog Try.f4 Rows.twiceListsRow.domain false Rows.twiceListsRow.laid) (((OpenSpec.ofChange Rows.twiceListsSpec).at F).post enc Try.prog Try.f4 false true false false) := by
  obtain ⟨places, hx⟩ := reads os enc
  refine returnsInHanded_of_row (C := Try.checked) (s := OpenSpec.ofChange Rows.twiceListsSpec) own started (by kernel_rfl) Try.func4
    (witness_row_at (enc := enc) (C := Try.checked) false (World.holding Try.prog os ⟨#[], #[], []⟩) #[.slice none 0 0, .int .i64 0] rfl (by kernel_rfl) (by kernel_rfl) (by kernel_rfl)
      (OpenSpec.preRow_of_cond 8 hx (by kernel_rfl) (fun k hk => by cases hk) (by kernel_rfl) (laid_met os))) ?_
  intro W base args ds gs before hval hW _ _ _ _ _ _
  exact contract H enc W base args ds gs before hval hW

theorem said : Rows.TwiceListsSaid :=
  OpenClaim.holds_of_cond 4 Try.f4 rfl rfl rfl rfl rfl rfl rfl ⟨rfl, rfl, rfl, rfl, rfl⟩ rfl rfl rfl rfl rfl (by kernel_rfl) Try.func4 (by kernel_rfl)
    (of_decide_eq_true (by kernel_rfl)) (by unfold Func.isWrapper; first | (rw [if_pos (by decide +kernel)]; kernel_rfl) | (rw [if_neg (by decide +kernel)]; exact ⟨rfl, rfl⟩))
    (fun os started H enc _ F => by rw [OpenClaim.pre_eq_preRow]; exact lifted os started H enc F)
end Go.Proofs.Ytjojimffolagmaa.twiceLists

namespace Go.Proofs.Ytjojimffolagmaa
theorem twiceLists_said : Rows.TwiceListsSaid := twiceLists.said
#print axioms twiceLists_said
end Go.Proofs.Ytjojimffolagmaa
