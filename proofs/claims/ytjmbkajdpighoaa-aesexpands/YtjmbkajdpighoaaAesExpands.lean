/- P7.1: any key's words are as by definition, or ErrShape, and no key from New, where it is not 32 bytes; the program answers at all. -/
import Derived.Test.YtjmbkajdpighoaaACalls
import Derived.Test.YtjmbkajdpighoaaRExp
import Derived.Test.YtjmbkajdpighoaaRefNumbers
namespace Go.Proofs.Ytjmbkajdpighoaa.aesExpands
open Go.ChangeShapes Go.WideShapes Go.ChangeAt Go.RowKit

/-- the address of a slice of slices' element -/
theorem run_size_bytes (w : World) : (sizeOf 22).run Try.prog w = .ok 1 w := by
  obtain ⟨i0, hi, hz0, hz1, hz2⟩ := info_parts info_bytes
  simp [sizeOf, typeInfo, hi, hz1]
theorem exec_idxS {ev : Operand → Value} {o : Oper} (x y : Operand) (hop : o.op = Op.indexAddr 31 x y) (b n cap i : Nat) (hx : ev x = .slice (some ⟨b, 0, none⟩) n cap) (hy : ev y = .int .i64 (i : Int)) (hi : i < n) (w : World) : (execOp ev o).run Try.prog w = .ok (.value (.pointer (some ⟨b, i, none⟩))) w := by
  have hr : (Instr.indexAt 31 (.slice (some ⟨b, 0, none⟩) n cap) (.int .i64 (i : Int))).run Try.prog w = .ok (.pointer (some ⟨b, i, none⟩)) w := by
    rw [run_indexAt_slice _ _ _ _ _ _ _ und_bytess, if_pos (by omega), elem_bytess, run_size_bytes]
    simp only [Result.andThen, Int.toNat_natCast, Nat.mul_one, Addr.add_mid, Nat.zero_add]
  unfold execOp
  simp only [hop, hx, hy, Sem.run_bind, Sem.run_pure, Result.andThen_ok, hr]
theorem run_loadS (w : World) (b p : Nat) (u : Value) (h : w.cell? ⟨b, p, none⟩ = some u) : (Instr.loadAt 22 (.pointer (some ⟨b, p, none⟩))).run Try.prog w = .ok u w := by
  simp [Instr.loadAt, Instr.sureAddr, loadVar, isAgg, run_underlying Try.underlying22, h]

set_option maxHeartbeats 4000000 in
theorem walk_no (v : Value) (xs : List Int) (w : World) (hv : Byt w v xs) (hl : ¬ xs.length = 32) :
    Calls Try.prog 3 #[v] w fun e w' => e = .returned (.bool true) ∧ Below w.heap.size w w' := by
  have S1 : Hid (Calls Try.prog 9 #[v] w fun e w' => e = .returned (.tuple #[.slice none 0 0, .int .i64 2]) ∧ w' = w) := exp_no v xs w hv hl
  have S2 : Hid (Calls Try.prog 10 #[v] w fun e w' => e = .returned (.tuple #[.pointer none, .int .i64 2]) ∧ w' = w) := new_no v xs w hv hl
  obtain ⟨ao, ca, rfl, h1, h2, -, -, -⟩ := hv
  have h3 : ¬ ((xs.length : Int) = 32) := by omega
  clear hl
  generalize xs.length = n at *
  go_enter Try.func3, Try.ntmps3
  go_wp2_with (first
    | (go_at_call 11; refine (awake_any _).mono ?_; rintro e w9 ⟨rfl, B9⟩)
    | (go_at_call 10; refine (S2.out).mono ?_; rintro e wx ⟨rfl, hw⟩; obtain rfl := hw.symm)
    | (go_at_call 9; refine (S1.out).mono ?_; rintro e wx ⟨rfl, hw⟩; obtain rfl := hw.symm))
  go_ret
  exact ⟨rfl, B9⟩

set_option linter.unusedSimpArgs false in
set_option maxRecDepth 20000 in
set_option maxHeartbeats 8000000 in
theorem walk_yes (v : Value) (key : List Int) (w : World) (hv : Byt w v key) (hl : key.length = 32) :
    Calls Try.prog 3 #[v] w fun e w' => e = .returned (.bool true) ∧ Below w.heap.size w w' := by
  have hka := hv.all
  have HV : Hid (Byt w v key) := hv
  have S1 : Hid (∀ v w0, Byt w0 v key → Calls Try.prog 9 #[v] w0 fun e w' => ∃ g, e = .returned (.tuple #[.slice (some ⟨g, 0, none⟩) 60 60, .int .i64 0]) ∧ Ar w' g 0 .u32 (prw key 60) ∧ w0.heap.size ≤ g ∧ Below w0.heap.size w0 w') := fun v w0 h => exp_any v key w0 h hl
  have S2 : Hid (∀ v w0, Byt w0 v key → Calls Try.prog 10 #[v] w0 fun e w' => ∃ kb, e = .returned (.tuple #[.pointer (some ⟨kb, 0, none⟩), .int .i64 0]) ∧ KeyA w' kb key ∧ w0.heap.size ≤ kb ∧ Below w0.heap.size w0 w') := fun v w0 h => new_any v key w0 h hl
  have S3 : Hid (∀ v tv w0, Byt w0 v key → Byt w0 tv ptab → Calls Try.prog 12 #[v, tv] w0 fun e w' => ∃ v', e = .returned v' ∧ Wds w' v' key ∧ Below w0.heap.size w0 w') := fun v tv w0 h h' => rexpand_any v tv key w0 h hl h'
  have S4 : Hid (∀ w0, Calls Try.prog 13 #[] w0 fun e w' => ∃ v, e = .returned v ∧ Byt w' v ptab ∧ Below w0.heap.size w0 w') := rtable_any
  have HW : Hid (∀ i, Wd (wd key i)) := wd_wd key hl hka
  have HWL : Hid (∀ i, wn key i < 4294967296) := wn_lt key hl hka
  have HNum0 : Hid (∀ k u w0, Byt w0 u (wd key k) → Calls Try.prog 14 #[u] w0 fun e w' => e = .returned (.int .u64 (wn key k : Int)) ∧ Below w0.heap.size w0 w') := fun k u w0 h => by
    have h4 := wd_wd key hl hka k
    have := rnum_any u (wd key k) w0 h (by rw [h4.1]; omega)
    rw [num4 _ h4] at this
    exact this
  obtain ⟨ao, ca, rfl, h1, h2, -, -, -⟩ := hv
  rw [hl] at HV ⊢
  have BB : Hid (Below w.heap.size w w) := Below.refl _ _
  generalize ptab = tab at *
  clear hl hka h1 h2
  go_enter Try.func3, Try.ntmps3
  go_wp2_with (first
    | (go_at_call 12; refine (S3.out _ _ _ (HV.out.below BB.out) T3.out).mono ?_; rintro e w4 ⟨v4, rfl, D4, B4⟩; obtain ⟨gx, cx, rfl, hx1, hx2, hx3⟩ := D4; have HD : Hid (∀ t, t < 60 → ∃ u, w4.cell? ⟨gx, t, none⟩ = some u ∧ Byt w4 u (wd key t)) := hx3; have A4 : Hid (Ar w4 gw 0 .u32 (prw key 60)) := A3.out.below B4 lg3; have lg4 : gw < w4.heap.size := Nat.lt_of_lt_of_le lg3 B4.size; have BB : Hid (Below w.heap.size w w4) := BB.out.trans (B4.mono BB.out.size); clear hx3 B4)
    | (go_at_call 13; refine (S4.out _).mono ?_; rintro e w3 ⟨tv, rfl, y3, B3⟩; have T3 : Hid (Byt w3 tv tab) := y3; have A3 : Hid (Ar w3 gw 0 .u32 (prw key 60)) := A2.out.below B3 lg2; have lg3 : gw < w3.heap.size := Nat.lt_of_lt_of_le lg2 B3.size; have BB : Hid (Below w.heap.size w w3) := BB.out.trans (B3.mono BB.out.size); clear y3 B3)
    | (go_at_call 10; refine (S2.out _ _ (HV.out.below BB.out)).mono ?_; rintro e w2 ⟨kb, rfl, k2, L2, B2⟩; have A2 : Hid (Ar w2 gw 0 .u32 (prw key 60)) := A1.out.below B2 lg1; have lg2 : gw < w2.heap.size := Nat.lt_of_lt_of_le lg1 B2.size; have BB : Hid (Below w.heap.size w w2) := BB.out.trans (B2.mono BB.out.size); clear k2 B2)
    | (go_at_call 9; refine (S1.out _ _ HV.out).mono ?_; rintro e w1 ⟨gw, rfl, a1, L1, B1⟩; have A1 : Hid (Ar w1 gw 0 .u32 (prw key 60)) := a1; have lg1 : gw < w1.heap.size := a1.lt (by rw [prw_len]; omega); have BB : Hid (Below w.heap.size w w1) := B1; clear a1 B1))
  clear HV S1 S2 S3 S4 T3 A1 A2 A3
  go_loopw [8] (fun i wr => ∃ k : Nat, k ≤ 60 ∧ i = .int .i64 k ∧ Below w4.heap.size w4 wr) (fun i _ => 60 - (intOf i).toNat)
  case atStart => exact ⟨0, Nat.zero_le _, rfl, Below.refl _ _⟩
  case round =>
    obtain ⟨k, hk, rfl, hB⟩ := hrel
    have k0 : (0 : Int) ≤ (k : Int) := by omega
    have q1 : IntKind.i64.wrap (k : Int) = k := by rw [IntKind.wrap_i64]; omega
    by_cases hlt : k < 60
    · have k1 : (k : Int) < 60 := by omega
      obtain ⟨u, hu1, hu2⟩ := HD.out k hlt
      have lgx : gx < w4.heap.size := World.block_lt_of_cell? w4 _ hu1
      have CX : Hid (∀ w', Below wr.heap.size wr w' → w'.cell? ⟨gw, k, none⟩ = some (.int .u32 (wn key k : Int))) := fun w' h => by
        have c := ((A4.out.below hB lg4).below h (Nat.lt_of_lt_of_le lg4 hB.size)).cell0 k (by rw [prw_len]; omega)
        rw [gb_prw _ _ _ hlt, if_pos hlt] at c
        exact c
      have CU : Hid (∀ w', Below wr.heap.size wr w' → w'.cell? ⟨gx, k, none⟩ = some u) := fun w' h => by
        rw [h.cell (show gx < wr.heap.size from Nat.lt_of_lt_of_le lgx hB.size), hB.cell lgx]; exact hu1
      have HNum : Hid (∀ w', Below wr.heap.size wr w' → Calls Try.prog 14 #[u] w' fun e w'' => e = .returned (.int .u64 (wn key k : Int)) ∧ Below wr.heap.size wr w'') := fun w' h =>
        (HNum0.out k u w' ((hu2.below hB).below h)).mono fun _ _ h' => ⟨h'.1, h.trans (h'.2.mono h.size)⟩
      have ux : IntKind.u64.wrap (wn key k : Int) = (wn key k : Int) := by have := HWL.out k; rw [IntKind.wrap_u64]; omega
      clear hu1 hu2
      generalize wn key k = x at *
      go_wp2
      refine region_quietC (C := fun w' => Below wr.heap.size wr w') (by kernel_rfl) (by kernel_rfl) (Below.refl _ _).drew ?_
      refine wpQuiet_step (fun K hK => ?_)
      refine q_val (by rfl) (some 58) rfl (.slice (some ⟨gw, 0, none⟩) 60 60) (fun w' _ => by rfl) (hK _ ?_)
      simp only [Act.put, List.setIfInBounds_toArray, List.set_cons_zero, List.set_cons_succ]
      clear hK K
      refine wpQuiet_step (fun K hK => ?_)
      refine q_val (by rfl) (some 59) rfl (.int .i64 (k : Int)) (fun w' _ => by rfl) (hK _ ?_)
      simp only [Act.put, List.setIfInBounds_toArray, List.set_cons_zero, List.set_cons_succ]
      clear hK K
      refine wpQuiet_step (fun K hK => ?_)
      refine q_idxW (by rfl) (some 60) rfl (.tmp 58) (.tmp 59) rfl gw 0 60 60 k rfl rfl hlt k (by omega) (hK _ ?_)
      simp only [Act.put, List.setIfInBounds_toArray, List.set_cons_zero, List.set_cons_succ]
      clear hK K
      refine wpQuiet_step (fun K hK => ?_)
      refine q_get (by rfl) (some 61) rfl (.tmp 60) 35 rfl .u32 (x : Int) gw k rfl Try.underlying35 CX.out (hK _ ?_)
      simp only [Act.put, List.setIfInBounds_toArray, List.set_cons_zero, List.set_cons_succ]
      clear hK K
      refine wpQuiet_step (fun K hK => ?_)
      refine q_val (by rfl) (some 62) rfl (.int .u64 (x : Int)) (fun w' _ => by go_simp) (hK _ ?_)
      simp only [Act.put, List.setIfInBounds_toArray, List.set_cons_zero, List.set_cons_succ]
      clear hK K
      refine wpQuiet_step (fun K hK => ?_)
      refine q_val (by rfl) (some 63) rfl (.slice (some ⟨gx, 0, none⟩) 60 cx) (fun w' _ => by rfl) (hK _ ?_)
      simp only [Act.put, List.setIfInBounds_toArray, List.set_cons_zero, List.set_cons_succ]
      clear hK K
      refine wpQuiet_step (fun K hK => ?_)
      refine q_val (by rfl) (some 64) rfl (.int .i64 (k : Int)) (fun w' _ => by rfl) (hK _ ?_)
      simp only [Act.put, List.setIfInBounds_toArray, List.set_cons_zero, List.set_cons_succ]
      clear hK K
      refine wpQuiet_step (fun K hK => ?_)
      refine q_val (by rfl) (some 65) rfl (.pointer (some ⟨gx, k, none⟩)) (fun w' _ => by exact exec_idxS (.tmp 63) (.tmp 64) rfl gx 60 cx k rfl rfl hlt w') (hK _ ?_)
      simp only [Act.put, List.setIfInBounds_toArray, List.set_cons_zero, List.set_cons_succ]
      clear hK K
      refine wpQuiet_step (fun K hK => ?_)
      refine q_val (by rfl) (some 66) rfl (u) (fun w' hC => by (exact exec_load 22 (.tmp 65) rfl _ rfl _ _ (run_loadS w' gx k u (CU.out w' hC)))) (hK _ ?_)
      simp only [Act.put, List.setIfInBounds_toArray, List.set_cons_zero, List.set_cons_succ]
      clear hK K
      refine wpQuiet_step (fun K hK => ?_)
      refine q_call (by rfl) (some 67) rfl 14 #[.tmp 66] #[22] rfl (fun q w' => by rfl) #[u] (by simp only [List.map_toArray, List.map_cons, List.map_nil]; rfl) (.int .u64 (x : Int)) HNum.out (hK _ ?_)
      simp only [Act.put, List.setIfInBounds_toArray, List.set_cons_zero, List.set_cons_succ]
      clear hK K
      refine wpQuiet_step (fun K hK => ?_)
      refine q_neq (by rfl) (some 68) rfl (.tmp 62) (.tmp 67) 34 _ rfl .u64 (x : Int) rfl rfl (hK _ ?_)
      simp only [Act.put, List.setIfInBounds_toArray, List.set_cons_zero, List.set_cons_succ]
      clear hK K
      refine wpQuiet_nil ?_
      intro w6 B6
      have HB6 : Hid (Below w4.heap.size w4 w6) := hB.trans (B6.mono hB.size)
      clear B6
      go_wp2
      go_roundw
      case rel => exact ⟨k + 1, by omega, by go_num, HB6.out⟩
      case measure => simp [intOf]; omega
    · have hk60 : k = 60 := by omega
      subst hk60
      go_wp2_with (go_at_call 11; refine (awake_any _).mono ?_; rintro e w9 ⟨rfl, B9⟩)
      go_ret
      have z1 := BB.out.size
      have z2 := hB.size
      exact ⟨rfl, (BB.out.trans (hB.mono z1)).trans (B9.mono (by omega))⟩

theorem walk (v : Value) (xs : List Int) (w : World) (hv : Byt w v xs) :
    Calls Try.prog 3 #[v] w fun e w' => e = .returned (.bool true) ∧ Below w.heap.size w w' := by
  by_cases hl : xs.length = 32
  · exact walk_yes v xs w hv hl
  · exact walk_no v xs w hv hl

theorem params : ∀ t ∈ Try.f3.params.toList, Try.prog.readableRec t = true ∧ t < Try.prog.types.size := by
  rw [Try.params3]
  intro t ht
  simp at ht
  subst ht
  exact ⟨by kernel_rfl, of_decide_eq_true (by kernel_rfl)⟩

theorem contract (H : Type) (enc : TypeId × Value → H) (W : World) (base : Nat) (args : Array Value) (ds gs : List (DataW H)) (before : List MemPlace)
    (hval : ∀ (j : Nat) t v, Try.f3.params[j]? = some t → args[j]? = some v → Value.okWide Try.prog W .any base t v)
    (hW : DataW.Whole enc Try.prog Try.f3.params.toList Rows.aesExpandsSpec.vars false W args.toList ds gs before) :
    Calls Try.prog 3 args W fun e W' => ∃ v, e = .returned v ∧ Rows.aesExpandsSpec.post enc Try.prog Try.f3 false true false false W args v W' := by
  have hW' := hW
  obtain ⟨p, q, hA0, hV, rfl, hfz, hnd⟩ := hW
  have hA : DataW.TrodAll enc Try.prog W 0 (fun _ => true) true Try.f3.params.toList args.toList ds p := hA0
  rw [Try.params3] at hA hval
  obtain ⟨v0, d0, rfl, rfl, h0⟩ := trodAll_one hA
  obtain ⟨rfl, rfl⟩ := trodVars_none hV
  obtain ⟨xs0, b0⟩ := byt_open (hval 0 22 v0 rfl rfl) h0
  clear hA0
  refine (walk v0 xs0 W b0).mono fun e W' ⟨he, hg⟩ => ?_
  subst he
  exact ⟨_, rfl, post_law rfl (by kernel_rfl) params rfl rfl rfl hW' hg⟩

theorem laid_met (os : Os) : laidMet Try.prog Rows.aesExpandsRow.laid ((World.holding Try.prog os ⟨#[], #[], []⟩).forCall (fun _ _ => 0) ⟨#[], #[.slice none 0 0], []⟩).memory :=
  laidMet_of_run' 8 (by kernel_rfl) (by kernel_rfl)
theorem reads (os : Os) {H : Type} (enc : TypeId × Value → H) : ∃ places, DataW.whole enc Try.prog ((World.holding Try.prog os ⟨#[], #[], []⟩).forCall (fun _ _ => 0) ⟨#[], #[.slice none 0 0], []⟩).memory Try.f3.params.toList Rows.aesExpandsSpec.vars false #[Value.slice none 0 0].toList 8 = some ([.nil], [], places) :=
  ⟨[], by kernel_rfl⟩

set_option maxRecDepth 100000 in
theorem lifted (os : Os) (started : os.Started) (H : Type) (enc : TypeId × Value → H) (F : Stop.Interp) :
    ReturnsInHanded {} Try.checked os 3 .any ((OpenSpec.ofChange Rows.aesExpandsSpec).preRow enc Try.prog Try.f3 Rows.aesExpandsRow.domain false Rows.aesExpandsRow.laid) (((OpenSpec.ofChange Rows.aesExpandsSpec).at F).post enc Try.prog Try.f3 false true false false) := by
  obtain ⟨places, hx⟩ := reads os enc
  refine returnsInHanded_of_row (C := Try.checked) (s := OpenSpec.ofChange Rows.aesExpandsSpec) own started (by kernel_rfl) Try.func3
    (witness_row_at (enc := enc) (C := Try.checked) false (World.holding Try.prog os ⟨#[], #[], []⟩) #[.slice none 0 0] rfl (by kernel_rfl) (by kernel_rfl) (by kernel_rfl)
      (OpenSpec.preRow_of_cond 8 hx (by kernel_rfl) (fun k hk => by cases hk) (by kernel_rfl) (laid_met os))) ?_
  intro W base args ds gs before hval hW _ _ _ _ _ _
  exact contract H enc W base args ds gs before hval hW

theorem said : Rows.AesExpandsSaid :=
  OpenClaim.holds_of_cond 3 Try.f3 rfl rfl rfl rfl rfl rfl rfl ⟨rfl, rfl, rfl, rfl, rfl⟩ rfl rfl rfl rfl rfl (by kernel_rfl) Try.func3 (by kernel_rfl)
    (of_decide_eq_true (by kernel_rfl)) (by unfold Func.isWrapper; first | (rw [if_pos (by decide +kernel)]; kernel_rfl) | (rw [if_neg (by decide +kernel)]; exact ⟨rfl, rfl⟩))
    (fun os started H enc _ F => by rw [OpenClaim.pre_eq_preRow]; exact lifted os started H enc F)
end Go.Proofs.Ytjmbkajdpighoaa.aesExpands

namespace Go.Proofs.Ytjmbkajdpighoaa
theorem aesExpands_said : Rows.AesExpandsSaid := aesExpands.said
#print axioms aesExpands_said
end Go.Proofs.Ytjmbkajdpighoaa
