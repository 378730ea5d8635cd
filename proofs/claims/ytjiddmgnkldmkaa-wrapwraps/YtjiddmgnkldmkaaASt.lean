/- What aes' cut, stateOf and list answer: a state is a row of sixteen bytes. No claim of its own. -/
import Derived.Test.YtjiddmgnkldmkaaAMath
import Derived.Test.YtjiddmgnkldmkaaStepG
import Derived.Test.YtjiddmgnkldmkaaFMix
namespace Go.Proofs.Ytjiddmgnkldmkaa
open Go.RowKit

def z16 : List Int := List.replicate 16 0
theorem z16_len : z16.length = 16 := List.length_replicate
theorem z_st : (Try.prog.info? 50).map (fun i => (i.zero, i.size)) = some (some (.agg (ints .u8 z16)), z16.length) := by kernel_rfl
theorem i_st : (Try.prog.info? 50).map (·.size) = some 16 := by kernel_rfl
theorem ua_st : Try.prog.underlying 50 = some (.array (Try.prog.arrayLen 50) (Try.prog.elem 50)) := by kernel_rfl
theorem la_st : Try.prog.arrayLen 50 = 4 := by kernel_rfl
theorem ia_st : (Try.prog.info? (Try.prog.elem 50)).map (·.size) = some 4 := by kernel_rfl
theorem ua_arr4 : Try.prog.underlying 48 = some (.array (Try.prog.arrayLen 48) (Try.prog.elem 48)) := by kernel_rfl
theorem la_arr4 : Try.prog.arrayLen 48 = 4 := by kernel_rfl
theorem ia_arr4 : (Try.prog.info? (Try.prog.elem 48)).map (·.size) = some 1 := by kernel_rfl

theorem cut4_len (xs : List Int) (i : Nat) (h : 4 * i + 4 ≤ xs.length) : (cut4 xs i).length = 4 := by simp [cut4]; omega
theorem cut4_all (xs : List Int) (i : Nat) (ha : AllB xs) : AllB (cut4 xs i) := allB_mem fun x hx => by
  obtain ⟨j, hj, rfl⟩ := mem_gb (List.mem_of_mem_take (List.mem_of_mem_drop hx))
  exact ha j
/-- an element of a state: a column -/
theorem idx_st {ops : Array Oper} {rest : List Oper} {o : Oper} {a : Act} {Q : Exit → Act → World → Prop} (w : World) (hg : o.guard = none) (x y : Operand) (hop : o.op = Op.index 50 x y) (xs : List Int) (I : Int) (i : Nat) (hx : a.eval x = .agg (ints .u8 xs)) (hy : a.eval y = .int .i64 I) (hI : I = (i : Int)) (hi : i < 4)
    (ys : List Int) (hq : ys = cut4 xs i) (hK : wpList Try.prog ops Q rest (a.put o.dst (.agg (ints .u8 ys))) w) : wpList Try.prog ops Q (o :: rest) a w := by
  subst hq
  subst hI
  refine wpList_plain hg fun K hK' => ?_
  have hu := Try.underlying50
  have hu2 := Try.underlying48
  have e : (ints .u8 xs).extract (i * 4) (i * 4 + 4) = ints .u8 (cut4 xs i) := by
    apply Array.ext'
    simp [ints, cut4, Nat.mul_comm 4 i, List.drop_take, List.map_take, List.map_drop]
  have hsz : (sizeOf 48).run Try.prog w = .ok 4 w := by
    cases hqq : Try.prog.info? 48 with
    | none => have := i_arr4; simp [hqq] at this
    | some i0 =>
      have : i0.size = 4 := by have := i_arr4; simpa [hqq] using this
      simp [sizeOf, typeInfo, hqq, this]
  have hr : (Instr.index 50 (.agg (ints .u8 xs)) (.int .i64 i)).run Try.prog w = .ok (.agg (ints .u8 (cut4 xs i))) w := by
    simp [Instr.index, asIntOf, run_underlying hu, run_underlying hu2, Go.part, isAgg, hsz, e]
    intro h; omega
  unfold Oper.wp execOp
  simp only [hop, hx, hy, Sem.run_bind, Sem.run_pure, Result.andThen_ok, hr]
  exact hK' _ _ hK

set_option maxHeartbeats 1000000 in
theorem cut_any (b off n cap i : Nat) (w : World) (hi : 4 * i + 4 ≤ n) (hn : n ≤ cap) (hs : i ≤ 1000) :
    Calls Try.prog 50 #[.slice (some ⟨b, off, none⟩) n cap, .int .i64 i] w fun e w' => e = .returned (.slice (some ⟨b, off + 4 * i, none⟩) 4 4) ∧ w' = w := by
  have k1 : IntKind.i64.wrap (4 * (i : Int)) = 4 * (i : Int) := by rw [IntKind.wrap_i64]; omega
  have k2 : IntKind.i64.wrap (4 * (i : Int) + 4) = 4 * (i : Int) + 4 := by rw [IntKind.wrap_i64]; omega
  have k3 : (0 : Int) ≤ 4 * (i : Int) := by omega
  have k4 : 4 * (i : Int) + 4 ≤ (cap : Int) := by omega
  have k5 : 4 * (i : Int) ≤ 4 * (i : Int) + 4 := by omega
  go_enter Try.func50, Try.ntmps50
  go_wp2
  go_ret
  refine ⟨?_, rfl⟩
  show Ending.returned (Value.slice (some ⟨b, off + 4 * i, none⟩) (4 * i + 4 - 4 * i) (4 * i + 4 - 4 * i)) = _
  rw [show 4 * i + 4 - 4 * i = 4 by omega]

theorem gb_filled (zs : List Int) (k t : Nat) (h : t < zs.length) : gb (filled zs k) t = if t < k then gb zs t else 0 := by
  unfold filled
  by_cases hk : t < k
  · rw [if_pos hk]
    simp only [gb, List.getD, List.getElem?_append, List.length_take, show t < min k zs.length by omega, if_true, List.getElem?_take, hk]
  · rw [if_neg hk]
    simp only [gb, List.getD, List.getElem?_append, List.length_take, show ¬ t < min k zs.length by omega, if_false, List.getElem?_replicate]
    split <;> rfl
theorem filled_len (zs : List Int) (k : Nat) : (filled zs k).length = zs.length := by simp [filled]; omega
/-- four more bytes -/
theorem filled_cut (xs : List Int) (k : Nat) (h : 4 * k + 4 ≤ xs.length) : laid (filled xs (4 * k)) (4 * k) (cut4 xs k) = filled xs (4 * (k + 1)) := by
  have hc := cut4_len xs k h
  refine ext_gb (by rw [laid_len _ _ _ (by rw [filled_len, hc]; exact h), filled_len, filled_len]) fun t ht => ?_
  rw [laid_len _ _ _ (by rw [filled_len, hc]; exact h), filled_len] at ht
  rw [gb_laid _ _ _ (by rw [filled_len, hc]; exact h), gb_filled _ _ _ ht, gb_filled _ _ _ ht, hc]
  by_cases h1 : t < 4 * k
  · rw [if_pos h1, if_pos h1, if_pos (by omega)]
  · rw [if_neg h1, if_neg h1]
    by_cases h2 : t < 4 * k + 4
    · rw [if_pos h2, if_pos (by omega), cut4_gb _ _ _ (by omega), show 4 * k + (t - 4 * k) = t by omega]
    · rw [if_neg h2, if_neg (by omega)]
theorem filled16 (xs : List Int) (h : xs.length = 16) : filled xs 0 = z16 ∧ filled xs 16 = xs := by
  refine ⟨by rw [filled_zero, h]; rfl, ?_⟩
  have := filled_end xs
  rwa [h] at this

set_option linter.unusedSimpArgs false in
set_option maxRecDepth 20000 in
set_option maxHeartbeats 2000000 in
theorem of_any (v : Value) (xs : List Int) (w : World) (hv : Byt w v xs) (hl : xs.length = 16) :
    Calls Try.prog 54 #[v] w fun e w' => e = .returned (.agg (ints .u8 xs)) ∧ Below w.heap.size w w' := by
  have HX : Hid (AllB xs) := hv.all
  obtain ⟨ao, ca, rfl, ha1, ha2, ha3, -, ha5⟩ := hv
  obtain ⟨bb, bo, rfl, hcell⟩ := ha5 (by omega)
  have HC : Hid (∀ t, t < xs.length → w.cell? ⟨bb, bo + t, none⟩ = some (.int .u8 (gb xs t))) := hcell
  have HL : Hid (xs.length = 16) := hl
  have HF : Hid (filled xs 0 = z16 ∧ filled xs 16 = xs) := filled16 xs hl
  have hbw : bb < w.heap.size := World.block_lt_of_cell? w _ (hcell 0 (by omega))
  rw [hl] at ha1 ⊢
  clear hcell ha5 hl ha3
  go_enter Try.func54, Try.ntmps54
  go_wp2_with (first
    | (have q1 := s1; refine new_lawF _ rfl 50 rfl .u8 z16 z_st ?_; intro w2 A2 B2 s2; have HA2 : Hid (Ar w2 w1.heap.size 0 .u8 z16) := A2; clear A2)
    | (refine new_lawF _ rfl 50 rfl .u8 z16 z_st ?_; intro w1 A1 B1 s1; have HA1 : Hid (Ar w1 w.heap.size 0 .u8 z16) := A1; clear A1))
  have o1 : w.heap.size < w1.heap.size := s1
  have BW : Below w.heap.size w w1 := B1
  generalize w1.heap.size = g3 at *
  go_loopw [5] (fun i wr => ∃ k : Nat, k ≤ 4 ∧ i = .int .i64 k ∧ Ar wr g3 0 .u8 (filled xs (4 * k)) ∧ Below g3 w1 wr) (fun i _ => 4 - (intOf i).toNat)
  case atStart => exact ⟨0, Nat.zero_le _, rfl, by rw [Nat.mul_zero, HF.out.1]; exact HA2.out, B2⟩
  case round =>
    obtain ⟨k, hk, rfl, hA, hB⟩ := hrel
    have k0 : (0 : Int) ≤ (k : Int) := by omega
    have q1 : IntKind.i64.wrap (k : Int) = k := by rw [IntKind.wrap_i64]; omega
    by_cases hlt : k < 4
    · have k1 : (k : Int) < 4 := by omega
      have HCut : Hid (∀ w0, Calls Try.prog 50 #[.slice (some ⟨bb, bo, none⟩) 16 ca, .int .i64 k] w0 fun e w' => e = .returned (.slice (some ⟨bb, bo + 4 * k, none⟩) 4 4) ∧ w' = w0) := fun w0 => cut_any bb bo 16 ca k w0 (by omega) ha1 (by omega)
      have HA : Hid (Ar wr g3 0 .u8 (filled xs (4 * k))) := hA
      have HB : Hid (Below g3 w1 wr) := hB
      have HY : Hid (∀ nq, Byt (wr.drewN nq) (.slice (some ⟨bb, bo + 4 * k, none⟩) 4 4) (cut4 xs k)) := fun nq => by
        have hln := cut4_len xs k (by rw [HL.out]; omega)
        refine ⟨some ⟨bb, bo + 4 * k, none⟩, 4, by rw [hln], by omega, by omega, cut4_all xs k HX.out, (by intro h; cases h), fun _ => ⟨bb, bo + 4 * k, rfl, fun t ht => ?_⟩⟩
        have c := HC.out (4 * k + t) (by rw [HL.out]; omega)
        rw [cut4_gb _ _ _ (by omega), Nat.add_assoc]
        show wr.cell? _ = _
        rw [((BW.trans (HB.out.mono (by omega))).cell hbw)]
        exact c
      clear hA hB
      go_wp2
      refine wp_region_any (by kernel_rfl) ?_
      change wpAny _ _ _ _ _ _ _ (World.drew _)
      refine wpAny_quiet_then (C := fun w' => ∃ n, w' = wr.drewN n) 0 6 1 _ (by kernel_rfl) rfl (by kernel_rfl) (by kernel_rfl) ⟨1, rfl⟩ ?_
      simp only [List.take_succ_cons, List.take_zero, List.drop_zero]
      repeat (quiet_step (with_reducible exact Calls.quiet_of_same (HCut.out _)))
      refine wpQuiet_nil ?_
      rintro f _ ⟨nq, rfl⟩
      refine wpAny_ready (rs := [6]) (by kernel_rfl) (by simp) ?_
      refine AllReady.cons rfl (fun K hK => ?_) AllReady.nil
      refine step_copyG _ rfl (some 14) rfl (.tmp 10) (.tmp 13) rfl g3 (4 * k) 4 4 _ _ _ (by rw [Nat.mul_comm]; rfl) rfl (HY.out nq) (HA.out.drewN nq) (cut4_len xs k (by rw [HL.out]; omega)) (by rw [filled_len, HL.out]; omega) fun w3 A3 B3 => hK _ _ ?_
      rw [filled_cut xs k (by rw [HL.out]; omega)] at A3
      have HA3 : Hid (Ar w3 g3 0 .u8 (filled xs (4 * (k + 1)))) := A3
      have HB3 : Hid (Below g3 w1 w3) := (below_drewN HB.out nq).trans B3
      clear A3 B3
      simp only [Act.put, List.setIfInBounds_toArray, List.set_cons_zero, List.set_cons_succ]
      refine wpAny_done (by kernel_rfl) ?_ _
      go_wp2
      go_roundw
      case rel => exact ⟨k + 1, by omega, by go_num, HA3.out, HB3.out⟩
      case measure => simp [intOf]; omega
    · have hk4 : k = 4 := by omega
      subst hk4
      rw [show 4 * 4 = 16 from rfl, HF.out.2] at hA
      have HA : Hid (Ar wr g3 0 .u8 xs) := hA
      have D1 : Hid (Ar wr w.heap.size 0 .u8 z16) := HA1.out.below hB o1
      clear hA
      go_wp2_with (first
        | (refine load_lawN _ rfl (.tmp 3) 50 rfl .u8 xs g3 0 rfl HA.out 4 16 48 Try.underlying50 i_st HL.out ?_)
        | (refine store_lawF _ rfl (.tmp 2) (.tmp 16) 50 rfl .u8 z16 xs w.heap.size rfl rfl D1.out 16 i_st z16_len HL.out ?_; intro w7 A7 B7))
      refine bodyPost_ret (v := .agg (ints .u8 xs)) (results_arN rfl _ _ w.heap.size 0 .u8 xs rfl A7 4 16 48 Try.underlying50 i_st HL.out) rfl ⟨rfl, ?_⟩
      exact (BW.trans (hB.mono (by omega))).trans B7
end Go.Proofs.Ytjiddmgnkldmkaa
