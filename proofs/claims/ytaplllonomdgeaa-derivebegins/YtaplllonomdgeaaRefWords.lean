/- What the reference's words answers: a block's sixty-four words. No claim of its own. -/
import Derived.Test.YtaplllonomdgeaaRefPad
import Derived.Test.YtaplllonomdgeaaQuiet2
namespace Go.Proofs.Ytaplllonomdgeaa
open Go.RowKit

theorem ownsRow_belowW {B : Nat} {w w' : World} {v : Value} {xs : List Int} (h : OwnW B w v xs) (hb : Below w.heap.size w w') : OwnW B w' v xs :=
  World.ownsRow.kept (row := none) h ⟨hb.os, hb.tape, hb.output, hb.size, fun j hj _ => hb.block j hj⟩ (by cases hv : v.ownBlock <;> simp)
section
variable {ops : Array Oper} {o : Oper} {a : Act} {Q : Exit → Act → World → Prop} {K : Act → World → Prop} {E : Prop}
theorem step_build1W (w : World) (hg : o.guard = none) (d : Option Tmp) (hd : o.dst = d) (x : Operand) (hop : o.op = Op.buildSlice 56 1 #[(0, x)]) (c : Int) (hx : a.eval x = .int .u32 c)
    (hK : K (a.put d (.slice (some ⟨w.heap.size, 0, none⟩) 1 1)) (w.alloc (.cells #[.int .u32 c] 59))) : if Region.wanted o (yielded ops a.tmps) = true then Oper.wp Try.prog o a w K Q else E := by
  have hw : Region.wanted o (yielded ops a.tmps) = true := by simp [Region.wanted, hg]
  rw [if_pos hw]
  subst hd
  have hrun : (Instr.buildSlice 56 1 #[(0, .int .u32 c)]).run Try.prog w = .ok (.slice (some ⟨w.heap.size, 0, none⟩) 1 1) (w.alloc (.cells #[.int .u32 c] 59)) := by kernel_rfl
  unfold Oper.wp execOp
  simp only [hop, List.map_toArray, List.map_cons, List.map_nil, hx, Sem.run_bind, Sem.run_pure, Result.andThen_ok, hrun]
  exact hK
theorem step_assign (w : World) (hg : o.guard = none) (d : Option Tmp) (hd : o.dst = d) (x : Operand) (hop : o.op = Op.assign x) (v : Value) (hx : a.eval x = v)
    (hK : K (a.put d v) w) : if Region.wanted o (yielded ops a.tmps) = true then Oper.wp Try.prog o a w K Q else E := by
  have hw : Region.wanted o (yielded ops a.tmps) = true := by simp [Region.wanted, hg]
  rw [if_pos hw]
  subst hd
  unfold Oper.wp execOp
  simp only [hop, hx, Sem.run_pure]
  exact hK
end
theorem sched_lo (bs : List Int) (k : Nat) (h : k < 16) : sched bs (k + 1) = sched bs k ++ [w0 bs k] := by
  show sched bs k ++ [if k < 16 then w0 bs k else wnext (sched bs k) k] = _
  rw [if_pos h]
theorem sched_hi (bs : List Int) (k : Nat) (h : ¬ k < 16) : sched bs (k + 1) = sched bs k ++ [wnext (sched bs k) k] := by
  show sched bs k ++ [if k < 16 then w0 bs k else wnext (sched bs k) k] = _
  rw [if_neg h]

set_option linter.unusedSimpArgs false in
set_option maxRecDepth 100000 in
set_option maxHeartbeats 4000000 in
theorem rwords_any (w : World) (v : Value) (bs : List Int) (hb : Byt w v bs) (hl : bs.length = 64) :
    Calls Try.prog 44 #[v] w fun e w' => ∃ r, e = .returned r ∧ Wrd w' r (sched bs 64) ∧ Below w.heap.size w w' := by
  have HV : Hid (Byt w v bs) := hb
  have HL : Hid (bs.length = 64) := hl
  clear hb hl
  go_enter Try.func44, Try.ntmps44
  go_wp2
  go_loopw [3, 4] (fun r i wr => ∃ k : Nat, k ≤ 64 ∧ i = .int .i64 k ∧ OwnW w.heap.size wr r (sched bs k) ∧ Below w.heap.size w wr) (fun _ i _ => 64 - (intOf i).toNat)
  case atStart => exact ⟨0, Nat.zero_le _, rfl, OwnW.empty w (Nat.le_refl _), (Below.refl _ _).alloc (Nat.le_refl _) _⟩
  case round =>
    obtain ⟨k, hk, rfl, hown, hbel⟩ := hrel
    have hsz := hbel.size
    have HSL : Hid ((sched bs k).length = k) := sched_len bs k
    have q1 : IntKind.i64.wrap (k : Int) = k := by rw [IntKind.wrap_i64]; omega
    have k0 : (0 : Int) ≤ (k : Int) := by omega
    have k64 : (k : Int) ≤ 64 := by omega
    by_cases hlt : k < 64
    · by_cases h16 : k < 16
      · have SN : Hid (sched bs (k + 1) = sched bs k ++ [w0 bs k]) := sched_lo bs k h16
        have HVr : Hid (Byt wr v bs) := HV.out.below hbel
        have E0 : Hid (num (last8 ((bs.take (4 * k + 4)).drop (4 * k))) % 4294967296 = w0 bs k) := rfl
        have HO : Hid (OwnW w.heap.size wr u3 (sched bs k)) := hown
        clear hown
        obtain ⟨scx, hscx⟩ : ∃ s, s = sched bs k := ⟨_, rfl⟩
        rw [← hscx] at HO HSL SN
        clear hscx
        go_wp2_with (first
          | (refine cut_part _ rfl (.tmp 15) (.tmp 17) (.tmp 20) rfl _ bs _ _ (4 * k) (4 * k + 4) rfl rfl rfl (by omega) (by omega) (by omega) (by rw [HL.out]; omega) HVr.out ?_; intro v' hv'; have HV' : Hid (Byt wr v' ((bs.take (4 * k + 4)).drop (4 * k))) := hv'; clear hv')
          | (go_at_call 54; refine (rnum_any _ _ _ HV'.out (by have := HL.out; simp; omega)).mono ?_; rintro e w1 ⟨rfl, hb1⟩; have e1 := E0.out; generalize num (last8 ((bs.take (4 * k + 4)).drop (4 * k))) = nm at *; have HO1 := ownsRow_belowW HO.out hb1; have HO1' : Hid (OwnW w.heap.size w1 u3 scx) := HO1; clear HO1; have s1 : w.heap.size ≤ w1.heap.size := Nat.le_trans hsz hb1.size)
          | (refine push_lawW _ rfl (.tmp 14) (.tmp 24) rfl w.heap.size s1 _ scx _ rfl rfl HO1'.out (by rw [HSL.out]; omega) ?_; intro v2 w2 O2 b2; have HO2 : Hid (OwnW w.heap.size w2 v2 (scx ++ [_])) := O2; clear O2))

        go_roundw
        case rel => exact ⟨k + 1, by omega, by go_num, by rw [SN.out]; exact HO2.out, hbel.trans ((hb1.mono hsz).trans b2)⟩
        case measure => simp [intOf]; omega
      · have SN : Hid (sched bs (k + 1) = sched bs k ++ [wnext (sched bs k) k]) := sched_hi bs k h16
        have HW := hown.wrd (sched_all bs k)
        obtain ⟨ao, cap, rfl, hc1, hc2, hwa, -, h5⟩ := HW
        obtain ⟨b, off, rfl, hcell⟩ := h5 (by rw [HSL.out]; omega)
        have HO : Hid (OwnW w.heap.size wr (.slice (some ⟨b, off, none⟩) (sched bs k).length cap) (sched bs k)) := hown
        rw [HSL.out] at hc1 hcell HO ⊢
        have d2 := hcell (k - 2) (by omega)
        have d7 := hcell (k - 7) (by omega)
        have d15 := hcell (k - 15) (by omega)
        have d16 := hcell (k - 16) (by omega)
        have W2 : Hid (W32 (gb (sched bs k) (k - 2))) := hwa _
        have W15 : Hid (W32 (gb (sched bs k) (k - 15))) := hwa _
        have EN : Hid (wnext (sched bs k) k = (((sg1 (gb (sched bs k) (k - 2)) + gb (sched bs k) (k - 7)) % 4294967296 + sg0 (gb (sched bs k) (k - 15))) % 4294967296 + gb (sched bs k) (k - 16)) % 4294967296) := rfl
        clear hown hcell hwa
        generalize wnext (sched bs k) k = nx at *
        generalize gb (sched bs k) (k - 2) = x2 at *
        generalize gb (sched bs k) (k - 7) = x7 at *
        generalize gb (sched bs k) (k - 15) = x15 at *
        generalize gb (sched bs k) (k - 16) = x16 at *
        obtain ⟨scx, hscx⟩ : ∃ s, s = sched bs k := ⟨_, rfl⟩
        rw [← hscx] at HO HSL SN
        clear hscx
        obtain ⟨j2, e2⟩ : ∃ j, j = k - 2 := ⟨_, rfl⟩
        rw [← e2] at d2
        have s2 : (k : Int) - 2 = (j2 : Int) := by omega
        have t2 : (j2 : Int) < (k : Int) := by omega
        have p2 : IntKind.i64.wrap (j2 : Int) = j2 := by rw [IntKind.wrap_i64]; omega
        have z2 : (0 : Int) ≤ j2 := by omega
        clear e2
        obtain ⟨j7, e7⟩ : ∃ j, j = k - 7 := ⟨_, rfl⟩
        rw [← e7] at d7
        have s7 : (k : Int) - 7 = (j7 : Int) := by omega
        have t7 : (j7 : Int) < (k : Int) := by omega
        have p7 : IntKind.i64.wrap (j7 : Int) = j7 := by rw [IntKind.wrap_i64]; omega
        have z7 : (0 : Int) ≤ j7 := by omega
        clear e7
        obtain ⟨j15, e15⟩ : ∃ j, j = k - 15 := ⟨_, rfl⟩
        rw [← e15] at d15
        have s15 : (k : Int) - 15 = (j15 : Int) := by omega
        have t15 : (j15 : Int) < (k : Int) := by omega
        have p15 : IntKind.i64.wrap (j15 : Int) = j15 := by rw [IntKind.wrap_i64]; omega
        have z15 : (0 : Int) ≤ j15 := by omega
        clear e15
        obtain ⟨j16, e16⟩ : ∃ j, j = k - 16 := ⟨_, rfl⟩
        rw [← e16] at d16
        have s16 : (k : Int) - 16 = (j16 : Int) := by omega
        have t16 : (j16 : Int) < (k : Int) := by omega
        have p16 : IntKind.i64.wrap (j16 : Int) = j16 := by rw [IntKind.wrap_i64]; omega
        have z16 : (0 : Int) ≤ j16 := by omega
        clear e16
        have R17 : Hid (∀ w0, Calls Try.prog 46 #[.int .u32 x2, .int .i64 17] w0 fun e w' => e = .returned (.int .u32 (rr x2 17)) ∧ ∃ d, w' = w0.drewN d) := fun w0 => rotr_any x2 17 w0 W2.out (by omega)
        have R19 : Hid (∀ w0, Calls Try.prog 46 #[.int .u32 x2, .int .i64 19] w0 fun e w' => e = .returned (.int .u32 (rr x2 19)) ∧ ∃ d, w' = w0.drewN d) := fun w0 => rotr_any x2 19 w0 W2.out (by omega)
        have R7 : Hid (∀ w0, Calls Try.prog 46 #[.int .u32 x15, .int .i64 7] w0 fun e w' => e = .returned (.int .u32 (rr x15 7)) ∧ ∃ d, w' = w0.drewN d) := fun w0 => rotr_any x15 7 w0 W15.out (by omega)
        have R18 : Hid (∀ w0, Calls Try.prog 46 #[.int .u32 x15, .int .i64 18] w0 fun e w' => e = .returned (.int .u32 (rr x15 18)) ∧ ∃ d, w' = w0.drewN d) := fun w0 => rotr_any x15 18 w0 W15.out (by omega)
        have P10 : Hid (∀ w0, Calls Try.prog 55 #[.int .i64 10] w0 fun e w' => e = .returned (.int .u32 1024) ∧ w' = w0) := fun w0 => power_any 10 w0 (by omega)
        have P3 : Hid (∀ w0, Calls Try.prog 55 #[.int .i64 3] w0 fun e w' => e = .returned (.int .u32 8) ∧ w' = w0) := fun w0 => power_any 3 w0 (by omega)
        have EG1 : Hid (sg1 x2 = bits .xor .u32 (bits .xor .u32 (rr x2 17) (rr x2 19)) (x2 / 1024)) := rfl
        have EG0 : Hid (sg0 x15 = bits .xor .u32 (bits .xor .u32 (rr x15 7) (rr x15 18)) (x15 / 8)) := rfl
        generalize sg1 x2 = S1 at *
        generalize sg0 x15 = S0 at *
        generalize rr x2 17 = y17 at *
        generalize rr x2 19 = y19 at *
        generalize rr x15 7 = y7 at *
        generalize rr x15 18 = y18 at *
        obtain ⟨b1, b2⟩ : 0 ≤ x2 ∧ x2 ≤ 4294967295 := W2.out
        obtain ⟨b3, b4⟩ : 0 ≤ x15 ∧ x15 ≤ 4294967295 := W15.out
        go_wp2
        refine wp_region_any (by kernel_rfl) ?_
        change wpAny _ _ _ _ _ _ _ (World.drew _)
        refine take_law0 0 (some 36) (.slice (some ⟨b, off, none⟩) k cap) rfl rfl (by kernel_rfl) (by kernel_rfl) (by kernel_rfl) (fun _ _ _ h => h) (Or.inl ⟨by rfl, fun w => by rfl⟩) ?_
        simp only [Act.put, List.setIfInBounds_toArray, List.set_cons_zero, List.set_cons_succ]
        refine wpAny_quiet_then (C := fun w' => ∃ n, w' = wr.drewN n) 1 32 3 _ (by kernel_rfl) rfl (by kernel_rfl) (by kernel_rfl) ⟨1, rfl⟩ ?_
        simp only [List.take_succ_cons, List.take_zero, List.drop_succ_cons, List.drop_zero]
        repeat (quiet_step (first
          | with_reducible exact Calls.quiet_of (R17.out _)
          | with_reducible exact Calls.quiet_of (R19.out _)
          | with_reducible exact Calls.quiet_of_same (P10.out _)
          | with_reducible exact Calls.quiet_of (R7.out _)
          | with_reducible exact Calls.quiet_of (R18.out _)
          | with_reducible exact Calls.quiet_of_same (P3.out _)))
        refine wpQuiet_nil ?_
        rintro f _ ⟨nq, rfl⟩
        have EV : nx = IntKind.u32.wrap (IntKind.u32.wrap (IntKind.u32.wrap (bits .xor .u32 (bits .xor .u32 y17 y19) (IntKind.u32.wrap (x2.tdiv 1024)) + x7) + bits .xor .u32 (bits .xor .u32 y7 y18) (IntKind.u32.wrap (x15.tdiv 8))) + x16) := by
          have t1 : IntKind.u32.wrap (x2.tdiv 1024) = x2 / 1024 := by rw [Int.tdiv_eq_ediv_of_nonneg b1, IntKind.wrap_u32]; omega
          have t2 : IntKind.u32.wrap (x15.tdiv 8) = x15 / 8 := by rw [Int.tdiv_eq_ediv_of_nonneg b3, IntKind.wrap_u32]; omega
          rw [EN.out, EG1.out, EG0.out, t1, t2]
          simp only [IntKind.wrap_u32]
        have HEV : Hid (nx = IntKind.u32.wrap (IntKind.u32.wrap (IntKind.u32.wrap (bits .xor .u32 (bits .xor .u32 y17 y19) (IntKind.u32.wrap (x2.tdiv 1024)) + x7) + bits .xor .u32 (bits .xor .u32 y7 y18) (IntKind.u32.wrap (x15.tdiv 8))) + x16)) := EV
        clear EV
        refine wpAny_ready (rs := [32]) (by kernel_rfl) (by simp) ?_
        refine AllReady.cons rfl (fun K hK => ?_) AllReady.nil
        refine step_build1W _ rfl (some 68) rfl (.tmp 67) rfl nx (by rw [HEV.out]; rfl) (hK _ _ ?_)
        simp only [Act.put, List.setIfInBounds_toArray, List.set_cons_zero, List.set_cons_succ]
        refine wpAny_ready (rs := [33]) (by kernel_rfl) (by simp) ?_
        refine AllReady.cons rfl (fun K hK => ?_) AllReady.nil
        refine step_push1W (wr.drewN nq) rfl (.tmp 36) (.tmp 68) rfl w.heap.size (by simpa using hsz) _ scx nx rfl rfl (HO.out.drew nq) (by rw [HSL.out]; omega) ?_
        intro v2 w2 O2 b2
        refine hK _ _ ?_
        have HO2 : Hid (OwnW w.heap.size w2 v2 (scx ++ [nx])) := O2
        clear O2
        simp only [Act.put, List.setIfInBounds_toArray, List.set_cons_zero, List.set_cons_succ]
        refine wpAny_ready (rs := [34]) (by kernel_rfl) (by simp) ?_
        refine AllReady.cons rfl (fun K hK => ?_) AllReady.nil
        refine step_assign _ rfl (some 3) rfl (.tmp 69) rfl v2 rfl (hK _ _ ?_)
        simp only [Act.put, List.setIfInBounds_toArray, List.set_cons_zero, List.set_cons_succ]
        refine wpAny_done (by kernel_rfl) ?_ _
        go_wp2
        go_roundw
        case rel => exact ⟨k + 1, by omega, by go_num, by rw [SN.out]; exact HO2.out, (below_drewN hbel nq).trans b2⟩
        case measure => simp [intOf]; omega
    · have : k = 64 := by omega
      subst this
      go_wp2
      go_ret
      exact ⟨_, rfl, hown.wrd (sched_all bs 64), hbel⟩
end Go.Proofs.Ytaplllonomdgeaa
