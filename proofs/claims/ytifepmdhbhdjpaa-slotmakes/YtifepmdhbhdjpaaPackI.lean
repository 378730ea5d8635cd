/- Texts put together (a claim holds few files). No claim of its own. -/
import Derived.Test.YtifepmdhbhdjpaaPackH
import Derived.Deep.DeepCutAuto
import Derived.Test.YtifepmdhbhdjpaaPackD
/- What aes' Encrypt answers. No claim of its own. -/
namespace Go.Proofs.Ytifepmdhbhdjpaa
open Go.RowKit
set_option maxRecDepth 20000

/-- what a load yields -/
theorem exec_load {ev : Operand → Value} {o : Oper} (t : TypeId) (x : Operand) (hop : o.op = Op.load t x) (p : Value) (hx : ev x = p) (v : Value) (w : World) (hr : (Instr.loadAt t p).run Try.prog w = .ok v w) : (execOp ev o).run Try.prog w = .ok (.value v) w := by
  unfold execOp
  simp only [hop, hx, Sem.run_bind, Sem.run_pure, Result.andThen_ok, hr]
/-- a call's contract, in a class of worlds -/
theorem in_class {f : FuncId} {vs : Array Value} {v : Value} {wr : World} (h : ∀ w0, Calls Try.prog f vs w0 fun e w' => e = .returned v ∧ Below w0.heap.size w0 w') :
    ∀ w', Below wr.heap.size wr w' → Calls Try.prog f vs w' fun e w'' => e = .returned v ∧ Below wr.heap.size wr w'' := fun w' hb =>
  (h w').mono fun _ _ h' => ⟨h'.1, hb.trans (h'.2.mono hb.size)⟩

set_option linter.unusedSimpArgs false in
set_option maxRecDepth 20000 in
set_option maxHeartbeats 8000000 in
theorem encrypt_any (v : Value) (xs key : List Int) (kb : Nat) (w : World) (hk : KeyA w kb key) (hkl : key.length = 32) (hka : AllB key) (hv : Byt w v xs) (hl : xs.length = 16) :
    Calls Try.prog 56 #[.pointer (some ⟨kb, 0, none⟩), v] w fun e w' => ∃ g, e = .returned (.tuple #[.slice (some ⟨g, 0, none⟩) 16 16, .int .i64 0]) ∧ Ar w' g 0 .u8 (encr key xs) ∧ w.heap.size ≤ g ∧ Below w.heap.size w w' := by
  have HKB : Hid (∀ r, Blk (rk key r)) := fun r => rk_blk key hkl hka r
  have HKR : Hid (∀ w', KeyA w' kb key → ∀ r, r < 15 → Ar w' kb (1 + 16 * r) .u8 (rk key r)) := fun w' h r hr => h.round hkl hka r hr
  have HK : Hid (KeyA w kb key) := hk
  have HV : Hid (Byt w v xs) := hv
  have hkw : kb < w.heap.size := hk.lt
  have HO : Hid (∀ w0, Byt w0 v xs → Calls Try.prog 69 #[v] w0 fun e w' => e = .returned (.agg (ints .u8 xs)) ∧ Below w0.heap.size w0 w') := fun w0 h => of_any v xs w0 h hl
  have HT : Hid (Calls Try.prog 68 #[.pointer (some ⟨kb, 0, none⟩), v] w fun e w' => e = .returned (.bool true) ∧ w' = w) := takes_yes v xs key kb w hk hv hl
  have hxb : Blk xs := ⟨hl, hv.all⟩
  have HEB : Hid (∀ r, Blk (enc key xs r)) := fun r => enc_blk key hkl hka xs hxb r
  have HES : Hid (∀ r, r < 13 → enc key xs (r + 1) = xorl (mixb (shl16 (looked ptab (enc key xs r)) 1) mixW) (rk key (r + 1))) := fun r hr => by
    rw [enc, fw, mx, if_pos (by omega)]
  have HEL : Hid (encr key xs = xorl (shl16 (looked ptab (enc key xs 13)) 1) (rk key 14)) := by
    show _ = _
    rw [encr, enc, fw, mx, if_neg (by omega)]
  have HX0 : Hid (∀ w0, Calls Try.prog 70 #[.agg (ints .u8 xs), .agg (ints .u8 (rk key 0))] w0 fun e w' => e = .returned (.agg (ints .u8 (enc key xs 0))) ∧ Below w0.heap.size w0 w') := fun w0 => xored_any xs (rk key 0) w0 hxb (HKB.out 0)
  have HE0 : Hid ((enc key xs 0).length = 16) := (HEB.out 0).1
  have RD0 : Hid (∀ w', Below w.heap.size w w' → (Instr.loadAt 79 (.pointer (some ⟨kb, 1, none⟩))).run Try.prog w' = .ok (.agg (ints .u8 (rk key 0))) w') := fun w' h => by
    have hA := HKR.out w' (HK.out.below h hkw) 0 (by omega)
    have := run_loadVar_mid (P := Try.prog) w' kb 1 79 _ _ hA.1 Try.underlying79 rfl (by rw [i_st]; simp [(HKB.out 0).1])
    simp only [Instr.loadAt, Instr.sureAddr, Sem.run_bind, Sem.run_pure, Result.andThen_ok, this]
    rfl
  obtain ⟨ao, ca, rfl, ha1, -, -, -, ha5⟩ := hv
  obtain ⟨bb, bo, rfl, -⟩ := ha5 (by omega)
  rw [hl] at HV HO HT ha1 ⊢
  obtain ⟨e0, he0⟩ : ∃ e, e = enc key xs 0 := ⟨_, rfl⟩
  obtain ⟨k0, hk0⟩ : ∃ e, e = rk key 0 := ⟨_, rfl⟩
  have HEE : Hid (e0 = enc key xs 0) := he0
  rw [← he0, ← hk0] at HX0
  rw [← he0] at HE0
  rw [← hk0] at RD0
  have ZB : Hid (Blk (encr key xs)) := HEB.out 14
  generalize encr key xs = zs at *
  clear ha5 hl hk hkl hka hxb he0 hk0
  go_enter Try.func56, Try.ntmps56
  go_wp2_with (go_at_call 68; refine (HT.out).mono ?_; rintro e w1 ⟨rfl, hw⟩; obtain rfl := hw.symm)
  go_cut [6] (fun r6 wc => ∃ c : Nat, r6 = .pointer (some ⟨c, 0, none⟩) ∧ w.heap.size ≤ c ∧ Ar wc c 0 .u8 e0 ∧ Below w.heap.size w wc)
  case first =>
    refine wp_region_held_drew (S := fun w' => Below w.heap.size w w') (by kernel_rfl) (Below.refl _ _).drew (fun hS => ?_)
    refine take_lawH 0 (some 12) (.slice (some ⟨bb, bo, none⟩) 16 ca) rfl rfl (by kernel_rfl) (by kernel_rfl) (by kernel_rfl) (fun _ _ _ h => h) (Or.inl ⟨by rfl, fun w' hw' => by rfl⟩) hS ?_
    simp only [Act.put, List.setIfInBounds_toArray, List.set_cons_zero, List.set_cons_succ]
    refine take_lawH 2 (some 14) (.pointer (some ⟨kb, 0, none⟩)) rfl rfl (by kernel_rfl) (by kernel_rfl) (by kernel_rfl) (fun _ _ _ h => h) (Or.inl ⟨by rfl, fun w' hw' => by rfl⟩) hS ?_
    simp only [Act.put, List.setIfInBounds_toArray, List.set_cons_zero, List.set_cons_succ]
    refine take_lawH 3 (some 15) (.pointer (some ⟨kb, 0, none⟩)) rfl rfl (by kernel_rfl) (by kernel_rfl) (by kernel_rfl) (fun _ _ _ h => h) (Or.inl ⟨by rfl, fun w' hw' => by rfl⟩) hS ?_
    simp only [Act.put, List.setIfInBounds_toArray, List.set_cons_zero, List.set_cons_succ]
    refine take_lawH 4 (some 16) (.pointer (some ⟨kb, 1, none⟩)) rfl rfl (by kernel_rfl) (by kernel_rfl) (by kernel_rfl) (fun _ _ _ h => h) (Or.inl ⟨by rfl, fun w' hw' => by rfl⟩) hS ?_
    simp only [Act.put, List.setIfInBounds_toArray, List.set_cons_zero, List.set_cons_succ]
    refine take_lawH 5 (some 17) (.pointer (some ⟨kb, 1, none⟩)) rfl rfl (by kernel_rfl) (by kernel_rfl) (by kernel_rfl) (fun _ _ _ h => h) (Or.inl ⟨by rfl, fun w' hw' => by go_simp⟩) hS ?_
    simp only [Act.put, List.setIfInBounds_toArray, List.set_cons_zero, List.set_cons_succ]
    refine take_lawH 6 (some 18) (.agg (ints .u8 k0)) rfl rfl (by kernel_rfl) (by kernel_rfl) (by kernel_rfl) (fun _ _ _ h => h) (Or.inl ⟨by rfl, fun w' hw' => by exact exec_load 79 (.tmp 17) rfl _ rfl _ _ (RD0.out w' hw')⟩) hS ?_
    simp only [Act.put, List.setIfInBounds_toArray, List.set_cons_zero, List.set_cons_succ]
    obtain ⟨x0, hx0⟩ : ∃ x, x = w.drew := ⟨_, rfl⟩
    rw [← hx0] at hS ⊢
    have b0 := hS
    clear hx0
    refine wpAnyH_ready (rs := [1, 8]) (by kernel_rfl) (by simp) ?_
    refine AllReadyH.cons rfl (fun K hK => ?_) (AllReadyH.cons rfl (fun K hK => ?_) AllReadyH.nil)
    · refine step_callD _ rfl (some 13) rfl 69 #[.tmp 12] #[22] rfl (fun q w' => by rfl) #[.slice (some ⟨bb, bo, none⟩) 16 ca] (by simp only [List.map_toArray, List.map_cons, List.map_nil]; rfl) (.agg (ints .u8 xs)) _ (HO.out x0 (HV.out.below b0)) fun x1 c1 => ?_
      have b1 : Below w.heap.size w x1 := b0.trans (c1.mono b0.size)
      refine hK.out _ _ b1 (fun _ => ?_)
      simp only [Act.put, List.setIfInBounds_toArray, List.set_cons_zero, List.set_cons_succ]
      refine wpAnyH_ready (rs := [7, 8]) (by kernel_rfl) (by simp) ?_
      refine AllReadyH.cons rfl (fun K hK => ?_) (AllReadyH.cons rfl (fun K hK => ?_) AllReadyH.nil)
      · refine step_callD _ rfl (some 19) rfl 70 #[.tmp 13, .tmp 18] #[79, 79] rfl (fun q w' => by rfl) #[.agg (ints .u8 xs), .agg (ints .u8 k0)] (by simp only [List.map_toArray, List.map_cons, List.map_nil]; rfl) (.agg (ints .u8 e0)) _ (HX0.out x1) fun x2 c2 => ?_
        have b2 : Below w.heap.size w x2 := b1.trans (c2.mono b1.size)
        refine hK.out _ _ b2 (fun _ => ?_)
        simp only [Act.put, List.setIfInBounds_toArray, List.set_cons_zero, List.set_cons_succ]
        refine wpAnyH_ready (rs := [8]) (by kernel_rfl) (by simp) ?_
        refine AllReadyH.cons rfl (fun K hK => ?_) AllReadyH.nil
        refine step_newG _ rfl (some 6) rfl 79 rfl .u8 z16 z_st fun x3 a3 c3 l3 => ?_
        have b3 : Below w.heap.size w x3 := b2.trans (c3.mono b2.size)
        have gl := b2.size
        refine hK.out _ _ b3 (fun _ => ?_)
        simp only [Act.put, List.setIfInBounds_toArray, List.set_cons_zero, List.set_cons_succ]
        generalize x2.heap.size = gg at *
        refine wpAnyH_ready (rs := [9]) (by kernel_rfl) (by simp) ?_
        refine AllReadyH.cons rfl (fun K hK => ?_) AllReadyH.nil
        refine step_storeG _ rfl none rfl (.tmp 6) (.tmp 19) 79 rfl .u8 z16 e0 gg rfl rfl a3 16 i_st z16_len HE0.out fun x4 a4 c4 => ?_
        have b4 : Below w.heap.size w x4 := b3.trans (c4.mono gl)
        refine hK.out _ _ b4 (fun _ => ?_)
        simp only [Act.put, List.setIfInBounds_toArray, List.set_cons_zero, List.set_cons_succ]
        refine wpAnyH_done (by kernel_rfl) ?_ _
        go_wp2_with fail
        go_meet
        exact ⟨gg, rfl, gl, a4, b4⟩
      · refine step_newG _ rfl (some 6) rfl 79 rfl .u8 z16 z_st fun x5 a5 c5 l5 => ?_
        have b5 : Below w.heap.size w x5 := b1.trans (c5.mono b1.size)
        have gl := b1.size
        refine hK.out _ _ b5 (fun _ => ?_)
        simp only [Act.put, List.setIfInBounds_toArray, List.set_cons_zero, List.set_cons_succ]
        generalize x1.heap.size = gg at *
        refine wpAnyH_ready (rs := [7]) (by kernel_rfl) (by simp) ?_
        refine AllReadyH.cons rfl (fun K hK => ?_) AllReadyH.nil
        refine step_callD _ rfl (some 19) rfl 70 #[.tmp 13, .tmp 18] #[79, 79] rfl (fun q w' => by rfl) #[.agg (ints .u8 xs), .agg (ints .u8 k0)] (by simp only [List.map_toArray, List.map_cons, List.map_nil]; rfl) (.agg (ints .u8 e0)) _ (HX0.out x5) fun x6 c6 => ?_
        have b6 : Below w.heap.size w x6 := b5.trans (c6.mono b5.size)
        have a6 : Ar x6 gg 0 .u8 z16 := a5.below c6 l5
        have l6 : gg < x6.heap.size := Nat.lt_of_lt_of_le l5 c6.size
        refine hK.out _ _ b6 (fun _ => ?_)
        simp only [Act.put, List.setIfInBounds_toArray, List.set_cons_zero, List.set_cons_succ]
        refine wpAnyH_ready (rs := [9]) (by kernel_rfl) (by simp) ?_
        refine AllReadyH.cons rfl (fun K hK => ?_) AllReadyH.nil
        refine step_storeG _ rfl none rfl (.tmp 6) (.tmp 19) 79 rfl .u8 z16 e0 gg rfl rfl a6 16 i_st z16_len HE0.out fun x7 a7 c7 => ?_
        have b7 : Below w.heap.size w x7 := b6.trans (c7.mono gl)
        refine hK.out _ _ b7 (fun _ => ?_)
        simp only [Act.put, List.setIfInBounds_toArray, List.set_cons_zero, List.set_cons_succ]
        refine wpAnyH_done (by kernel_rfl) ?_ _
        go_wp2_with fail
        go_meet
        exact ⟨gg, rfl, gl, a7, b7⟩
    · refine step_newG _ rfl (some 6) rfl 79 rfl .u8 z16 z_st fun x8 a8 c8 l8 => ?_
      have b8 : Below w.heap.size w x8 := b0.trans (c8.mono b0.size)
      have gl := b0.size
      refine hK.out _ _ b8 (fun _ => ?_)
      simp only [Act.put, List.setIfInBounds_toArray, List.set_cons_zero, List.set_cons_succ]
      generalize x0.heap.size = gg at *
      refine wpAnyH_ready (rs := [1]) (by kernel_rfl) (by simp) ?_
      refine AllReadyH.cons rfl (fun K hK => ?_) AllReadyH.nil
      refine step_callD _ rfl (some 13) rfl 69 #[.tmp 12] #[22] rfl (fun q w' => by rfl) #[.slice (some ⟨bb, bo, none⟩) 16 ca] (by simp only [List.map_toArray, List.map_cons, List.map_nil]; rfl) (.agg (ints .u8 xs)) _ (HO.out x8 (HV.out.below b8)) fun x9 c9 => ?_
      have b9 : Below w.heap.size w x9 := b8.trans (c9.mono b8.size)
      have a9 : Ar x9 gg 0 .u8 z16 := a8.below c9 l8
      have l9 : gg < x9.heap.size := Nat.lt_of_lt_of_le l8 c9.size
      refine hK.out _ _ b9 (fun _ => ?_)
      simp only [Act.put, List.setIfInBounds_toArray, List.set_cons_zero, List.set_cons_succ]
      refine wpAnyH_ready (rs := [7]) (by kernel_rfl) (by simp) ?_
      refine AllReadyH.cons rfl (fun K hK => ?_) AllReadyH.nil
      refine step_callD _ rfl (some 19) rfl 70 #[.tmp 13, .tmp 18] #[79, 79] rfl (fun q w' => by rfl) #[.agg (ints .u8 xs), .agg (ints .u8 k0)] (by simp only [List.map_toArray, List.map_cons, List.map_nil]; rfl) (.agg (ints .u8 e0)) _ (HX0.out x9) fun x10 c10 => ?_
      have b10 : Below w.heap.size w x10 := b9.trans (c10.mono b9.size)
      have a10 : Ar x10 gg 0 .u8 z16 := a9.below c10 l9
      have l10 : gg < x10.heap.size := Nat.lt_of_lt_of_le l9 c10.size
      refine hK.out _ _ b10 (fun _ => ?_)
      simp only [Act.put, List.setIfInBounds_toArray, List.set_cons_zero, List.set_cons_succ]
      refine wpAnyH_ready (rs := [9]) (by kernel_rfl) (by simp) ?_
      refine AllReadyH.cons rfl (fun K hK => ?_) AllReadyH.nil
      refine step_storeG _ rfl none rfl (.tmp 6) (.tmp 19) 79 rfl .u8 z16 e0 gg rfl rfl a10 16 i_st z16_len HE0.out fun x11 a11 c11 => ?_
      have b11 : Below w.heap.size w x11 := b10.trans (c11.mono gl)
      refine hK.out _ _ b11 (fun _ => ?_)
      simp only [Act.put, List.setIfInBounds_toArray, List.set_cons_zero, List.set_cons_succ]
      refine wpAnyH_done (by kernel_rfl) ?_ _
      go_wp2_with fail
      go_meet
      exact ⟨gg, rfl, gl, a11, b11⟩
  case rest =>
    obtain ⟨g6, rfl, hg6, hA0, hB0⟩ := hcut
    clear HX0 RD0 HE0
    rw [HEE.out] at hA0
    go_wp2
    go_loopw [7] (fun i wr => ∃ r : Nat, 1 ≤ r ∧ r ≤ 14 ∧ i = .int .i64 r ∧ Ar wr g6 0 .u8 (enc key xs (r - 1)) ∧ Below w.heap.size w wr) (fun i _ => 14 - (intOf i).toNat)
    case atStart => exact ⟨1, Nat.le_refl _, by omega, rfl, hA0, hB0⟩
    case round =>
      obtain ⟨r, hr1, hr, rfl, hA, hB⟩ := hrel
      have q0 : (0 : Int) ≤ (r : Int) := by omega
      have q1 : IntKind.i64.wrap (r : Int) = r := by rw [IntKind.wrap_i64]; omega
      have hgw : g6 < wr.heap.size := hA.lt (by rw [(HEB.out _).1]; omega)
      have hkk : kb < wr.heap.size := by have := hB.size; omega
      have LS : Hid (∀ w', Below wr.heap.size wr w' → Ar w' g6 0 .u8 (enc key xs (r - 1))) := fun w' h => hA.below h hgw
      have LL : Hid ((enc key xs (r - 1)).length = 16) := (HEB.out _).1
      have sb1 := HEB.out (r - 1)
      have sb2 := looked_blk ptab _ pAll sb1.1
      have sb3 := shl16_blk _ 1 sb2
      have P1 : Hid (∀ w', Below wr.heap.size wr w' → Calls Try.prog 71 #[.agg (ints .u8 (enc key xs (r - 1))), .func (.func 72) #[] #[]] w' fun e w'' => e = .returned (.agg (ints .u8 (looked ptab (enc key xs (r - 1))))) ∧ Below wr.heap.size wr w'') := in_class fun w0 => put_subs _ w0 sb1
      have P2 : Hid (∀ w', Below wr.heap.size wr w' → Calls Try.prog 73 #[.agg (ints .u8 (looked ptab (enc key xs (r - 1)))), .int .i64 1] w' fun e w'' => e = .returned (.agg (ints .u8 (shl16 (looked ptab (enc key xs (r - 1))) 1))) ∧ Below wr.heap.size wr w'') := in_class fun w0 => shifted_any _ 1 1 w0 sb2 stp_one
      by_cases hlt : r < 14
      · have k1 : (r : Int) < 14 := by omega
        have P3 : Hid (∀ w', Below wr.heap.size wr w' → Calls Try.prog 74 #[.agg (ints .u8 (shl16 (looked ptab (enc key xs (r - 1))) 1)), .func (.func 75) #[] #[]] w' fun e w'' => e = .returned (.agg (ints .u8 (mixb (shl16 (looked ptab (enc key xs (r - 1))) 1) mixW))) ∧ Below wr.heap.size wr w'') := in_class fun w0 => mixed_mix _ w0 sb3
        have P4 : Hid (∀ w', Below wr.heap.size wr w' → Calls Try.prog 70 #[.agg (ints .u8 (mixb (shl16 (looked ptab (enc key xs (r - 1))) 1) mixW)), .agg (ints .u8 (rk key r))] w' fun e w'' => e = .returned (.agg (ints .u8 (enc key xs r))) ∧ Below wr.heap.size wr w'') := in_class fun w0 => by
          have e := HES.out (r - 1) (by omega)
          rw [show r - 1 + 1 = r by omega] at e
          rw [e]
          exact xored_any _ _ w0 (mixb_blk _ _ mixW_col) (HKB.out r)
        have LK : Hid (∀ w', Below wr.heap.size wr w' → Ar w' kb (1 + 16 * r) .u8 (rk key r)) := fun w' h => HKR.out w' ((HK.out.below hB hkw).below h hkk) r (by omega)
        have KL : Hid ((rk key r).length = 16) := (HKB.out r).1
        have EL : Hid ((enc key xs r).length = 16) := (HEB.out r).1
        have HA : Hid (Ar wr g6 0 .u8 (enc key xs (r - 1))) := hA
        have HB : Hid (Below w.heap.size w wr) := hB
        have HN : Hid (enc key xs (r + 1 - 1) = enc key xs r) := rfl
        clear hA hB sb1 sb2 sb3
        generalize enc key xs r = s4 at *
        generalize mixb (shl16 (looked ptab (enc key xs (r - 1))) 1) mixW = s3 at *
        generalize shl16 (looked ptab (enc key xs (r - 1))) 1 = s2 at *
        generalize looked ptab (enc key xs (r - 1)) = s1 at *
        generalize enc key xs (r - 1) = ss at *
        generalize rk key r = kr at *
        go_wp2
        refine wp_region_any (by kernel_rfl) ?_
        refine wpAny_quiet_then (C := fun w' => Below wr.heap.size wr w') 0 11 1 _ (by kernel_rfl) rfl (by kernel_rfl) (by kernel_rfl) (Below.refl _ _).drew ?_
        simp only [List.take_succ_cons, List.take_zero, List.drop_zero]
        refine wpQuiet_step (fun K hK => ?_)
        refine q_loadA (by rfl) (some 24) rfl (.tmp 6) 79 rfl .u8 ss g6 0 rfl LS.out 4 16 73 Try.underlying79 i_st LL.out (hK _ ?_)
        simp only [Act.put, List.setIfInBounds_toArray, List.set_cons_zero, List.set_cons_succ]
        clear hK K
        refine wpQuiet_step (fun K hK => ?_)
        refine q_call (by rfl) (some 25) rfl 71 #[.tmp 24, .func 72] #[79, 66] rfl (fun q w' => by rfl) #[.agg (ints .u8 ss), .func (.func 72) #[] #[]] (by simp only [List.map_toArray, List.map_cons, List.map_nil]; rfl) (.agg (ints .u8 s1)) P1.out (hK _ ?_)
        simp only [Act.put, List.setIfInBounds_toArray, List.set_cons_zero, List.set_cons_succ]
        clear hK K
        refine wpQuiet_step (fun K hK => ?_)
        refine q_call (by rfl) (some 26) rfl 73 #[.tmp 25, .const (.int .i64 1)] #[79, 3] rfl (fun q w' => by rfl) #[.agg (ints .u8 s1), .int .i64 1] (by simp only [List.map_toArray, List.map_cons, List.map_nil]; rfl) (.agg (ints .u8 s2)) P2.out (hK _ ?_)
        simp only [Act.put, List.setIfInBounds_toArray, List.set_cons_zero, List.set_cons_succ]
        clear hK K
        refine wpQuiet_step (fun K hK => ?_)
        refine q_call (by rfl) (some 27) rfl 74 #[.tmp 26, .func 75] #[79, 99] rfl (fun q w' => by rfl) #[.agg (ints .u8 s2), .func (.func 75) #[] #[]] (by simp only [List.map_toArray, List.map_cons, List.map_nil]; rfl) (.agg (ints .u8 s3)) P3.out (hK _ ?_)
        simp only [Act.put, List.setIfInBounds_toArray, List.set_cons_zero, List.set_cons_succ]
        clear hK K
        refine wpQuiet_step (fun K hK => ?_)
        refine q_val (by rfl) (some 28) rfl (.pointer (some ⟨kb, 0, none⟩)) (fun w' _ => by rfl) (hK _ ?_)
        simp only [Act.put, List.setIfInBounds_toArray, List.set_cons_zero, List.set_cons_succ]
        clear hK K
        refine wpQuiet_step (fun K hK => ?_)
        refine q_val (by rfl) (some 29) rfl (.int .i64 (r : Int)) (fun w' _ => by rfl) (hK _ ?_)
        simp only [Act.put, List.setIfInBounds_toArray, List.set_cons_zero, List.set_cons_succ]
        clear hK K
        refine wpQuiet_step (fun K hK => ?_)
        refine q_val (by rfl) (some 30) rfl (.pointer (some ⟨kb, 0, none⟩)) (fun w' _ => by rfl) (hK _ ?_)
        simp only [Act.put, List.setIfInBounds_toArray, List.set_cons_zero, List.set_cons_succ]
        clear hK K
        refine wpQuiet_step (fun K hK => ?_)
        refine q_val (by rfl) (some 31) rfl (.pointer (some ⟨kb, 1, none⟩)) (fun w' _ => by rfl) (hK _ ?_)
        simp only [Act.put, List.setIfInBounds_toArray, List.set_cons_zero, List.set_cons_succ]
        clear hK K
        refine wpQuiet_step (fun K hK => ?_)
        refine q_idxA (by rfl) (some 32) rfl (.tmp 31) (.tmp 29) 80 rfl kb 1 (1 + 16 * r) 15 16 r ua_sts la_sts ia_sts rfl rfl (by omega) (by omega) (hK _ ?_)
        simp only [Act.put, List.setIfInBounds_toArray, List.set_cons_zero, List.set_cons_succ]
        clear hK K
        refine wpQuiet_step (fun K hK => ?_)
        refine q_loadA (by rfl) (some 33) rfl (.tmp 32) 79 rfl .u8 kr kb (1 + 16 * r) rfl LK.out 4 16 73 Try.underlying79 i_st KL.out (hK _ ?_)
        simp only [Act.put, List.setIfInBounds_toArray, List.set_cons_zero, List.set_cons_succ]
        clear hK K
        refine wpQuiet_step (fun K hK => ?_)
        refine q_call (by rfl) (some 34) rfl 70 #[.tmp 27, .tmp 33] #[79, 79] rfl (fun q w' => by rfl) #[.agg (ints .u8 s3), .agg (ints .u8 kr)] (by simp only [List.map_toArray, List.map_cons, List.map_nil]; rfl) (.agg (ints .u8 s4)) P4.out (hK _ ?_)
        simp only [Act.put, List.setIfInBounds_toArray, List.set_cons_zero, List.set_cons_succ]
        clear hK K
        refine wpQuiet_nil ?_
        intro f w3 B3
        refine wpAny_ready (rs := [11]) (by kernel_rfl) (by simp) ?_
        refine AllReady.cons rfl (fun K hK => ?_) AllReady.nil
        refine step_storeG _ rfl none rfl (.tmp 6) (.tmp 34) 79 rfl .u8 ss s4 g6 rfl rfl (LS.out _ B3) 16 i_st LL.out EL.out fun w4 A4 B4 => hK _ _ ?_
        simp only [Act.put, List.setIfInBounds_toArray, List.set_cons_zero, List.set_cons_succ]
        have HA4 : Hid (Ar w4 g6 0 .u8 (enc key xs (r + 1 - 1))) := by show Ar _ _ _ _ _; rw [HN.out]; exact A4
        have HB4 : Hid (Below w.heap.size w w4) := (HB.out.trans (B3.mono HB.out.size)).trans (B4.mono hg6)
        clear A4 B4 B3
        refine wpAny_done (by kernel_rfl) ?_ _
        go_wp2
        go_roundw
        case rel => exact ⟨r + 1, by omega, by omega, by go_num, HA4.out, HB4.out⟩
        case measure => simp [intOf]; omega
      · have hr14 : r = 14 := by omega
        subst hr14
        have P4 : Hid (∀ w', Below wr.heap.size wr w' → Calls Try.prog 70 #[.agg (ints .u8 (shl16 (looked ptab (enc key xs (14 - 1))) 1)), .agg (ints .u8 (rk key 14))] w' fun e w'' => e = .returned (.agg (ints .u8 zs)) ∧ Below wr.heap.size wr w'') := in_class fun w0 => by
          rw [HEL.out]
          exact xored_any _ _ w0 sb3 (HKB.out 14)
        have LK : Hid (∀ w', Below wr.heap.size wr w' → Ar w' kb 225 .u8 (rk key 14)) := fun w' h => HKR.out w' ((HK.out.below hB hkw).below h hkk) 14 (by omega)
        have KL : Hid ((rk key 14).length = 16) := (HKB.out 14).1
        have EB : Blk zs := ZB.out
        have HLi : Hid (∀ w0, Calls Try.prog 76 #[.agg (ints .u8 zs)] w0 fun e w' => ∃ v, e = .returned v ∧ ∃ g, v = .slice (some ⟨g, 0, none⟩) 16 16 ∧ Ar w' g 0 .u8 zs ∧ w0.heap.size ≤ g ∧ Below w0.heap.size w0 w') := fun w0 => (list_any _ w0 EB.1 EB.2).mono fun _ _ ⟨g, he, h⟩ => ⟨_, he, g, rfl, h⟩
        clear sb1 sb2 sb3 EB hA
        generalize shl16 (looked ptab (enc key xs (14 - 1))) 1 = s2 at *
        generalize looked ptab (enc key xs (14 - 1)) = s1 at *
        generalize enc key xs (14 - 1) = ss at *
        generalize rk key 14 = kr at *
        go_wp2
        refine wp_region_any (by kernel_rfl) ?_
        refine wpAny_quiet_then (C := fun w' => Below wr.heap.size wr w') 0 9 3 _ (by kernel_rfl) rfl (by kernel_rfl) (by kernel_rfl) (Below.refl _ _).drew ?_
        simp only [List.take_succ_cons, List.take_zero, List.drop_zero]
        refine wpQuiet_step (fun K hK => ?_)
        refine q_loadA (by rfl) (some 35) rfl (.tmp 6) 79 rfl .u8 ss g6 0 rfl LS.out 4 16 73 Try.underlying79 i_st LL.out (hK _ ?_)
        simp only [Act.put, List.setIfInBounds_toArray, List.set_cons_zero, List.set_cons_succ]
        clear hK K
        refine wpQuiet_step (fun K hK => ?_)
        refine q_call (by rfl) (some 36) rfl 71 #[.tmp 35, .func 72] #[79, 66] rfl (fun q w' => by rfl) #[.agg (ints .u8 ss), .func (.func 72) #[] #[]] (by simp only [List.map_toArray, List.map_cons, List.map_nil]; rfl) (.agg (ints .u8 s1)) P1.out (hK _ ?_)
        simp only [Act.put, List.setIfInBounds_toArray, List.set_cons_zero, List.set_cons_succ]
        clear hK K
        refine wpQuiet_step (fun K hK => ?_)
        refine q_call (by rfl) (some 37) rfl 73 #[.tmp 36, .const (.int .i64 1)] #[79, 3] rfl (fun q w' => by rfl) #[.agg (ints .u8 s1), .int .i64 1] (by simp only [List.map_toArray, List.map_cons, List.map_nil]; rfl) (.agg (ints .u8 s2)) P2.out (hK _ ?_)
        simp only [Act.put, List.setIfInBounds_toArray, List.set_cons_zero, List.set_cons_succ]
        clear hK K
        refine wpQuiet_step (fun K hK => ?_)
        refine q_val (by rfl) (some 38) rfl (.pointer (some ⟨kb, 0, none⟩)) (fun w' _ => by rfl) (hK _ ?_)
        simp only [Act.put, List.setIfInBounds_toArray, List.set_cons_zero, List.set_cons_succ]
        clear hK K
        refine wpQuiet_step (fun K hK => ?_)
        refine q_val (by rfl) (some 39) rfl (.pointer (some ⟨kb, 0, none⟩)) (fun w' _ => by rfl) (hK _ ?_)
        simp only [Act.put, List.setIfInBounds_toArray, List.set_cons_zero, List.set_cons_succ]
        clear hK K
        refine wpQuiet_step (fun K hK => ?_)
        refine q_val (by rfl) (some 40) rfl (.pointer (some ⟨kb, 1, none⟩)) (fun w' _ => by rfl) (hK _ ?_)
        simp only [Act.put, List.setIfInBounds_toArray, List.set_cons_zero, List.set_cons_succ]
        clear hK K
        refine wpQuiet_step (fun K hK => ?_)
        refine q_idxA (by rfl) (some 41) rfl (.tmp 40) (.const (.int .i64 14)) 80 rfl kb 1 225 15 16 14 ua_sts la_sts ia_sts rfl rfl (by omega) (by omega) (hK _ ?_)
        simp only [Act.put, List.setIfInBounds_toArray, List.set_cons_zero, List.set_cons_succ]
        clear hK K
        refine wpQuiet_step (fun K hK => ?_)
        refine q_loadA (by rfl) (some 42) rfl (.tmp 41) 79 rfl .u8 kr kb 225 rfl LK.out 4 16 73 Try.underlying79 i_st KL.out (hK _ ?_)
        simp only [Act.put, List.setIfInBounds_toArray, List.set_cons_zero, List.set_cons_succ]
        clear hK K
        refine wpQuiet_step (fun K hK => ?_)
        refine q_call (by rfl) (some 43) rfl 70 #[.tmp 37, .tmp 42] #[79, 79] rfl (fun q w' => by rfl) #[.agg (ints .u8 s2), .agg (ints .u8 kr)] (by simp only [List.map_toArray, List.map_cons, List.map_nil]; rfl) (.agg (ints .u8 zs)) P4.out (hK _ ?_)
        simp only [Act.put, List.setIfInBounds_toArray, List.set_cons_zero, List.set_cons_succ]
        clear hK K
        refine wpQuiet_nil ?_
        intro f w3 B3
        refine wpAny_ready (rs := [9]) (by kernel_rfl) (by simp) ?_
        refine AllReady.cons rfl (fun K hK => ?_) AllReady.nil
        refine step_callG _ rfl (some 44) rfl 76 #[.tmp 43] #[79] rfl (fun q w' => by rfl) #[.agg (ints .u8 zs)] (by simp only [List.map_toArray, List.map_cons, List.map_nil]; rfl) _ (HLi.out _) fun v4 w4 h4 => hK _ _ ?_
        obtain ⟨g, rfl, A4, L4, B4⟩ := h4
        simp only [Act.put, List.setIfInBounds_toArray, List.set_cons_zero, List.set_cons_succ]
        refine wpAny_ready (rs := [10]) (by kernel_rfl) (by simp) ?_
        refine AllReady.cons rfl (fun K hK => ?_) AllReady.nil
        refine step_movG _ rfl (some 4) rfl (.tmp 44) rfl _ rfl (hK _ _ ?_)
        simp only [Act.put, List.setIfInBounds_toArray, List.set_cons_zero, List.set_cons_succ]
        refine wpAny_ready (rs := [11]) (by kernel_rfl) (by simp) ?_
        refine AllReady.cons rfl (fun K hK => ?_) AllReady.nil
        refine step_movG _ rfl (some 5) rfl _ rfl _ rfl (hK _ _ ?_)
        simp only [Act.put, List.setIfInBounds_toArray, List.set_cons_zero, List.set_cons_succ]
        refine wpAny_done (by kernel_rfl) ?_ _
        have BT := (hB.trans (B3.mono hB.size)).trans (B4.mono (Nat.le_trans hB.size B3.size))
        have LT : w.heap.size ≤ g := Nat.le_trans (Nat.le_trans hB.size B3.size) L4
        go_wp2
        go_ret2
        exact ⟨g, rfl, A4, LT, BT⟩
end Go.Proofs.Ytifepmdhbhdjpaa

/- What aes' Decrypt answers. No claim of its own. -/
namespace Go.Proofs.Ytifepmdhbhdjpaa
open Go.RowKit
set_option maxRecDepth 20000

set_option linter.unusedSimpArgs false in
set_option maxRecDepth 20000 in
set_option maxHeartbeats 8000000 in
theorem decrypt_any (v : Value) (xs key : List Int) (kb : Nat) (w : World) (hk : KeyA w kb key) (hkl : key.length = 32) (hka : AllB key) (hv : Byt w v xs) (hl : xs.length = 16) :
    Calls Try.prog 58 #[.pointer (some ⟨kb, 0, none⟩), v] w fun e w' => ∃ g, e = .returned (.tuple #[.slice (some ⟨g, 0, none⟩) 16 16, .int .i64 0]) ∧ Ar w' g 0 .u8 (decr key xs) ∧ w.heap.size ≤ g ∧ Below w.heap.size w w' := by
  have HKB : Hid (∀ r, Blk (rk key r)) := fun r => rk_blk key hkl hka r
  have HKR : Hid (∀ w', KeyA w' kb key → ∀ r, r < 15 → Ar w' kb (1 + 16 * r) .u8 (rk key r)) := fun w' h r hr => h.round hkl hka r hr
  have HK : Hid (KeyA w kb key) := hk
  have HV : Hid (Byt w v xs) := hv
  have hkw : kb < w.heap.size := hk.lt
  have HO : Hid (∀ w0, Byt w0 v xs → Calls Try.prog 69 #[v] w0 fun e w' => e = .returned (.agg (ints .u8 xs)) ∧ Below w0.heap.size w0 w') := fun w0 h => of_any v xs w0 h hl
  have HT : Hid (Calls Try.prog 68 #[.pointer (some ⟨kb, 0, none⟩), v] w fun e w' => e = .returned (.bool true) ∧ w' = w) := takes_yes v xs key kb w hk hv hl
  have hxb : Blk xs := ⟨hl, hv.all⟩
  have HEB : Hid (∀ k, Blk (dec key xs k)) := fun k => dec_blk key xs hxb k
  have HES : Hid (∀ r, 1 ≤ r → r < 14 → dec key xs (14 - (r - 1)) = looked btab (shl16 (mixb (xorl (dec key xs (14 - r)) (rk key r)) unmW) 3)) := fun r hr1 hr => by
    rw [show 14 - (r - 1) = (14 - r) + 1 by omega, dec, show 14 - (14 - r) = r by omega, bw, um, if_pos hr]
  have HEF : Hid (dec key xs 1 = looked btab (shl16 (xorl xs (rk key 14)) 3)) := by
    show _ = _
    rw [dec, bw, um, if_neg (by omega)]
    rfl
  have HEL : Hid (decr key xs = xorl (dec key xs 14) (rk key 0)) := rfl
  have yb1 := xorl_blk xs _ hxb (HKB.out 14)
  have yb2 := shl16_blk _ 3 yb1
  have HX0 : Hid (∀ w0, Calls Try.prog 70 #[.agg (ints .u8 xs), .agg (ints .u8 (rk key 14))] w0 fun e w' => e = .returned (.agg (ints .u8 (xorl xs (rk key 14)))) ∧ Below w0.heap.size w0 w') := fun w0 => xored_any xs (rk key 14) w0 hxb (HKB.out 14)
  have HX1 : Hid (∀ w0, Calls Try.prog 73 #[.agg (ints .u8 (xorl xs (rk key 14))), .int .i64 (-1)] w0 fun e w' => e = .returned (.agg (ints .u8 (shl16 (xorl xs (rk key 14)) 3))) ∧ Below w0.heap.size w0 w') := fun w0 => shifted_any _ (-1) 3 w0 yb1 stp_neg
  have HX2 : Hid (∀ w0, Calls Try.prog 71 #[.agg (ints .u8 (shl16 (xorl xs (rk key 14)) 3)), .func (.func 78) #[] #[]] w0 fun e w' => e = .returned (.agg (ints .u8 (dec key xs 1))) ∧ Below w0.heap.size w0 w') := fun w0 => by
    rw [HEF.out]; exact put_backsl _ w0 yb2
  have HE0 : Hid ((dec key xs 1).length = 16) := (HEB.out 1).1
  have RD0 : Hid (∀ w', Below w.heap.size w w' → (Instr.loadAt 79 (.pointer (some ⟨kb, 225, none⟩))).run Try.prog w' = .ok (.agg (ints .u8 (rk key 14))) w') := fun w' h => by
    have hA := HKR.out w' (HK.out.below h hkw) 14 (by omega)
    have := run_loadVar_mid (P := Try.prog) w' kb 225 79 _ _ hA.1 Try.underlying79 rfl (by rw [i_st]; simp [(HKB.out 14).1])
    simp only [Instr.loadAt, Instr.sureAddr, Sem.run_bind, Sem.run_pure, Result.andThen_ok, this]
    rfl
  obtain ⟨ao, ca, rfl, ha1, -, -, -, ha5⟩ := hv
  obtain ⟨bb, bo, rfl, -⟩ := ha5 (by omega)
  rw [hl] at HV HO HT ha1 ⊢
  obtain ⟨e0, he0⟩ : ∃ e, e = dec key xs 1 := ⟨_, rfl⟩
  obtain ⟨y2, hy2⟩ : ∃ e, e = shl16 (xorl xs (rk key 14)) 3 := ⟨_, rfl⟩
  obtain ⟨y1, hy1⟩ : ∃ e, e = xorl xs (rk key 14) := ⟨_, rfl⟩
  obtain ⟨k0, hk0⟩ : ∃ e, e = rk key 14 := ⟨_, rfl⟩
  have HEE : Hid (e0 = dec key xs 1) := he0
  rw [← he0, ← hy2] at HX2
  rw [← hy2, ← hy1] at HX1
  rw [← hy1, ← hk0] at HX0
  rw [← he0] at HE0
  rw [← hk0] at RD0
  have ZB : Hid (Blk (decr key xs)) := decr_blk key hkl hka xs hxb
  generalize decr key xs = zs at *
  clear ha5 hl hk hkl hka hxb he0 hk0 hy1 hy2 yb1 yb2 HEF
  go_enter Try.func58, Try.ntmps58
  go_wp2_with (go_at_call 68; refine (HT.out).mono ?_; rintro e w1 ⟨rfl, hw⟩; obtain rfl := hw.symm)
  go_cut [6] (fun r6 wc => ∃ c : Nat, r6 = .pointer (some ⟨c, 0, none⟩) ∧ w.heap.size ≤ c ∧ Ar wc c 0 .u8 e0 ∧ Below w.heap.size w wc)
  case first =>
    refine wp_region_held_drew (S := fun w' => Below w.heap.size w w') (by kernel_rfl) (Below.refl _ _).drew (fun hS => ?_)
    refine take_lawH 0 (some 12) (.slice (some ⟨bb, bo, none⟩) 16 ca) rfl rfl (by kernel_rfl) (by kernel_rfl) (by kernel_rfl) (fun _ _ _ h => h) (Or.inl ⟨by rfl, fun w' hw' => by rfl⟩) hS ?_
    simp only [Act.put, List.setIfInBounds_toArray, List.set_cons_zero, List.set_cons_succ]
    refine take_lawH 2 (some 14) (.pointer (some ⟨kb, 0, none⟩)) rfl rfl (by kernel_rfl) (by kernel_rfl) (by kernel_rfl) (fun _ _ _ h => h) (Or.inl ⟨by rfl, fun w' hw' => by rfl⟩) hS ?_
    simp only [Act.put, List.setIfInBounds_toArray, List.set_cons_zero, List.set_cons_succ]
    refine take_lawH 3 (some 15) (.pointer (some ⟨kb, 0, none⟩)) rfl rfl (by kernel_rfl) (by kernel_rfl) (by kernel_rfl) (fun _ _ _ h => h) (Or.inl ⟨by rfl, fun w' hw' => by rfl⟩) hS ?_
    simp only [Act.put, List.setIfInBounds_toArray, List.set_cons_zero, List.set_cons_succ]
    refine take_lawH 4 (some 16) (.pointer (some ⟨kb, 1, none⟩)) rfl rfl (by kernel_rfl) (by kernel_rfl) (by kernel_rfl) (fun _ _ _ h => h) (Or.inl ⟨by rfl, fun w' hw' => by rfl⟩) hS ?_
    simp only [Act.put, List.setIfInBounds_toArray, List.set_cons_zero, List.set_cons_succ]
    refine take_lawH 5 (some 17) (.pointer (some ⟨kb, 225, none⟩)) rfl rfl (by kernel_rfl) (by kernel_rfl) (by kernel_rfl) (fun _ _ _ h => h) (Or.inl ⟨by rfl, fun w' hw' => by go_simp⟩) hS ?_
    simp only [Act.put, List.setIfInBounds_toArray, List.set_cons_zero, List.set_cons_succ]
    refine take_lawH 6 (some 18) (.agg (ints .u8 k0)) rfl rfl (by kernel_rfl) (by kernel_rfl) (by kernel_rfl) (fun _ _ _ h => h) (Or.inl ⟨by rfl, fun w' hw' => by exact exec_load 79 (.tmp 17) rfl _ rfl _ _ (RD0.out w' hw')⟩) hS ?_
    simp only [Act.put, List.setIfInBounds_toArray, List.set_cons_zero, List.set_cons_succ]
    obtain ⟨x0, hx0⟩ : ∃ x, x = w.drew := ⟨_, rfl⟩
    rw [← hx0] at hS ⊢
    have b0 := hS
    clear hx0
    refine wpAnyH_ready (rs := [1, 10]) (by kernel_rfl) (by simp) ?_
    refine AllReadyH.cons rfl (fun K hK => ?_) (AllReadyH.cons rfl (fun K hK => ?_) AllReadyH.nil)
    · refine step_callD _ rfl (some 13) rfl 69 #[.tmp 12] #[22] rfl (fun q w' => by rfl) #[.slice (some ⟨bb, bo, none⟩) 16 ca] (by simp only [List.map_toArray, List.map_cons, List.map_nil]; rfl) (.agg (ints .u8 xs)) _ (HO.out x0 (HV.out.below b0)) fun x1 c1 => ?_
      have b1 : Below w.heap.size w x1 := b0.trans (c1.mono b0.size)
      refine hK.out _ _ b1 (fun _ => ?_)
      simp only [Act.put, List.setIfInBounds_toArray, List.set_cons_zero, List.set_cons_succ]
      refine wpAnyH_ready (rs := [7, 10]) (by kernel_rfl) (by simp) ?_
      refine AllReadyH.cons rfl (fun K hK => ?_) (AllReadyH.cons rfl (fun K hK => ?_) AllReadyH.nil)
      · refine step_callD _ rfl (some 19) rfl 70 #[.tmp 13, .tmp 18] #[79, 79] rfl (fun q w' => by rfl) #[.agg (ints .u8 xs), .agg (ints .u8 k0)] (by simp only [List.map_toArray, List.map_cons, List.map_nil]; rfl) (.agg (ints .u8 y1)) _ (HX0.out x1) fun x2 c2 => ?_
        have b2 : Below w.heap.size w x2 := b1.trans (c2.mono b1.size)
        refine hK.out _ _ b2 (fun _ => ?_)
        simp only [Act.put, List.setIfInBounds_toArray, List.set_cons_zero, List.set_cons_succ]
        refine wpAnyH_ready (rs := [8, 10]) (by kernel_rfl) (by simp) ?_
        refine AllReadyH.cons rfl (fun K hK => ?_) (AllReadyH.cons rfl (fun K hK => ?_) AllReadyH.nil)
        · refine step_callD _ rfl (some 20) rfl 73 #[.tmp 19, .const (.int .i64 (-1))] #[79, 3] rfl (fun q w' => by rfl) #[.agg (ints .u8 y1), .int .i64 (-1)] (by simp only [List.map_toArray, List.map_cons, List.map_nil]; rfl) (.agg (ints .u8 y2)) _ (HX1.out x2) fun x3 c3 => ?_
          have b3 : Below w.heap.size w x3 := b2.trans (c3.mono b2.size)
          refine hK.out _ _ b3 (fun _ => ?_)
          simp only [Act.put, List.setIfInBounds_toArray, List.set_cons_zero, List.set_cons_succ]
          refine wpAnyH_ready (rs := [9, 10]) (by kernel_rfl) (by simp) ?_
          refine AllReadyH.cons rfl (fun K hK => ?_) (AllReadyH.cons rfl (fun K hK => ?_) AllReadyH.nil)
          · refine step_callD _ rfl (some 21) rfl 71 #[.tmp 20, .func 78] #[79, 66] rfl (fun q w' => by rfl) #[.agg (ints .u8 y2), .func (.func 78) #[] #[]] (by simp only [List.map_toArray, List.map_cons, List.map_nil]; rfl) (.agg (ints .u8 e0)) _ (HX2.out x3) fun x4 c4 => ?_
            have b4 : Below w.heap.size w x4 := b3.trans (c4.mono b3.size)
            refine hK.out _ _ b4 (fun _ => ?_)
            simp only [Act.put, List.setIfInBounds_toArray, List.set_cons_zero, List.set_cons_succ]
            refine wpAnyH_ready (rs := [10]) (by kernel_rfl) (by simp) ?_
            refine AllReadyH.cons rfl (fun K hK => ?_) AllReadyH.nil
            refine step_newG _ rfl (some 6) rfl 79 rfl .u8 z16 z_st fun x5 a5 c5 l5 => ?_
            have b5 : Below w.heap.size w x5 := b4.trans (c5.mono b4.size)
            have gl := b4.size
            refine hK.out _ _ b5 (fun _ => ?_)
            simp only [Act.put, List.setIfInBounds_toArray, List.set_cons_zero, List.set_cons_succ]
            generalize x4.heap.size = gg at *
            refine wpAnyH_ready (rs := [11]) (by kernel_rfl) (by simp) ?_
            refine AllReadyH.cons rfl (fun K hK => ?_) AllReadyH.nil
            refine step_storeG _ rfl none rfl (.tmp 6) (.tmp 21) 79 rfl .u8 z16 e0 gg rfl rfl a5 16 i_st z16_len HE0.out fun x6 a6 c6 => ?_
            have b6 : Below w.heap.size w x6 := b5.trans (c6.mono gl)
            refine hK.out _ _ b6 (fun _ => ?_)
            simp only [Act.put, List.setIfInBounds_toArray, List.set_cons_zero, List.set_cons_succ]
            refine wpAnyH_done (by kernel_rfl) ?_ _
            go_wp2_with fail
            go_meet
            exact ⟨gg, rfl, gl, a6, b6⟩
          · refine step_newG _ rfl (some 6) rfl 79 rfl .u8 z16 z_st fun x7 a7 c7 l7 => ?_
            have b7 : Below w.heap.size w x7 := b3.trans (c7.mono b3.size)
            have gl := b3.size
            refine hK.out _ _ b7 (fun _ => ?_)
            simp only [Act.put, List.setIfInBounds_toArray, List.set_cons_zero, List.set_cons_succ]
            generalize x3.heap.size = gg at *
            refine wpAnyH_ready (rs := [9]) (by kernel_rfl) (by simp) ?_
            refine AllReadyH.cons rfl (fun K hK => ?_) AllReadyH.nil
            refine step_callD _ rfl (some 21) rfl 71 #[.tmp 20, .func 78] #[79, 66] rfl (fun q w' => by rfl) #[.agg (ints .u8 y2), .func (.func 78) #[] #[]] (by simp only [List.map_toArray, List.map_cons, List.map_nil]; rfl) (.agg (ints .u8 e0)) _ (HX2.out x7) fun x8 c8 => ?_
            have b8 : Below w.heap.size w x8 := b7.trans (c8.mono b7.size)
            have a8 : Ar x8 gg 0 .u8 z16 := a7.below c8 l7
            have l8 : gg < x8.heap.size := Nat.lt_of_lt_of_le l7 c8.size
            refine hK.out _ _ b8 (fun _ => ?_)
            simp only [Act.put, List.setIfInBounds_toArray, List.set_cons_zero, List.set_cons_succ]
            refine wpAnyH_ready (rs := [11]) (by kernel_rfl) (by simp) ?_
            refine AllReadyH.cons rfl (fun K hK => ?_) AllReadyH.nil
            refine step_storeG _ rfl none rfl (.tmp 6) (.tmp 21) 79 rfl .u8 z16 e0 gg rfl rfl a8 16 i_st z16_len HE0.out fun x9 a9 c9 => ?_
            have b9 : Below w.heap.size w x9 := b8.trans (c9.mono gl)
            refine hK.out _ _ b9 (fun _ => ?_)
            simp only [Act.put, List.setIfInBounds_toArray, List.set_cons_zero, List.set_cons_succ]
            refine wpAnyH_done (by kernel_rfl) ?_ _
            go_wp2_with fail
            go_meet
            exact ⟨gg, rfl, gl, a9, b9⟩
        · refine step_newG _ rfl (some 6) rfl 79 rfl .u8 z16 z_st fun x10 a10 c10 l10 => ?_
          have b10 : Below w.heap.size w x10 := b2.trans (c10.mono b2.size)
          have gl := b2.size
          refine hK.out _ _ b10 (fun _ => ?_)
          simp only [Act.put, List.setIfInBounds_toArray, List.set_cons_zero, List.set_cons_succ]
          generalize x2.heap.size = gg at *
          refine wpAnyH_ready (rs := [8]) (by kernel_rfl) (by simp) ?_
          refine AllReadyH.cons rfl (fun K hK => ?_) AllReadyH.nil
          refine step_callD _ rfl (some 20) rfl 73 #[.tmp 19, .const (.int .i64 (-1))] #[79, 3] rfl (fun q w' => by rfl) #[.agg (ints .u8 y1), .int .i64 (-1)] (by simp only [List.map_toArray, List.map_cons, List.map_nil]; rfl) (.agg (ints .u8 y2)) _ (HX1.out x10) fun x11 c11 => ?_
          have b11 : Below w.heap.size w x11 := b10.trans (c11.mono b10.size)
          have a11 : Ar x11 gg 0 .u8 z16 := a10.below c11 l10
          have l11 : gg < x11.heap.size := Nat.lt_of_lt_of_le l10 c11.size
          refine hK.out _ _ b11 (fun _ => ?_)
          simp only [Act.put, List.setIfInBounds_toArray, List.set_cons_zero, List.set_cons_succ]
          refine wpAnyH_ready (rs := [9]) (by kernel_rfl) (by simp) ?_
          refine AllReadyH.cons rfl (fun K hK => ?_) AllReadyH.nil
          refine step_callD _ rfl (some 21) rfl 71 #[.tmp 20, .func 78] #[79, 66] rfl (fun q w' => by rfl) #[.agg (ints .u8 y2), .func (.func 78) #[] #[]] (by simp only [List.map_toArray, List.map_cons, List.map_nil]; rfl) (.agg (ints .u8 e0)) _ (HX2.out x11) fun x12 c12 => ?_
          have b12 : Below w.heap.size w x12 := b11.trans (c12.mono b11.size)
          have a12 : Ar x12 gg 0 .u8 z16 := a11.below c12 l11
          have l12 : gg < x12.heap.size := Nat.lt_of_lt_of_le l11 c12.size
          refine hK.out _ _ b12 (fun _ => ?_)
          simp only [Act.put, List.setIfInBounds_toArray, List.set_cons_zero, List.set_cons_succ]
          refine wpAnyH_ready (rs := [11]) (by kernel_rfl) (by simp) ?_
          refine AllReadyH.cons rfl (fun K hK => ?_) AllReadyH.nil
          refine step_storeG _ rfl none rfl (.tmp 6) (.tmp 21) 79 rfl .u8 z16 e0 gg rfl rfl a12 16 i_st z16_len HE0.out fun x13 a13 c13 => ?_
          have b13 : Below w.heap.size w x13 := b12.trans (c13.mono gl)
          refine hK.out _ _ b13 (fun _ => ?_)
          simp only [Act.put, List.setIfInBounds_toArray, List.set_cons_zero, List.set_cons_succ]
          refine wpAnyH_done (by kernel_rfl) ?_ _
          go_wp2_with fail
          go_meet
          exact ⟨gg, rfl, gl, a13, b13⟩
      · refine step_newG _ rfl (some 6) rfl 79 rfl .u8 z16 z_st fun x14 a14 c14 l14 => ?_
        have b14 : Below w.heap.size w x14 := b1.trans (c14.mono b1.size)
        have gl := b1.size
        refine hK.out _ _ b14 (fun _ => ?_)
        simp only [Act.put, List.setIfInBounds_toArray, List.set_cons_zero, List.set_cons_succ]
        generalize x1.heap.size = gg at *
        refine wpAnyH_ready (rs := [7]) (by kernel_rfl) (by simp) ?_
        refine AllReadyH.cons rfl (fun K hK => ?_) AllReadyH.nil
        refine step_callD _ rfl (some 19) rfl 70 #[.tmp 13, .tmp 18] #[79, 79] rfl (fun q w' => by rfl) #[.agg (ints .u8 xs), .agg (ints .u8 k0)] (by simp only [List.map_toArray, List.map_cons, List.map_nil]; rfl) (.agg (ints .u8 y1)) _ (HX0.out x14) fun x15 c15 => ?_
        have b15 : Below w.heap.size w x15 := b14.trans (c15.mono b14.size)
        have a15 : Ar x15 gg 0 .u8 z16 := a14.below c15 l14
        have l15 : gg < x15.heap.size := Nat.lt_of_lt_of_le l14 c15.size
        refine hK.out _ _ b15 (fun _ => ?_)
        simp only [Act.put, List.setIfInBounds_toArray, List.set_cons_zero, List.set_cons_succ]
        refine wpAnyH_ready (rs := [8]) (by kernel_rfl) (by simp) ?_
        refine AllReadyH.cons rfl (fun K hK => ?_) AllReadyH.nil
        refine step_callD _ rfl (some 20) rfl 73 #[.tmp 19, .const (.int .i64 (-1))] #[79, 3] rfl (fun q w' => by rfl) #[.agg (ints .u8 y1), .int .i64 (-1)] (by simp only [List.map_toArray, List.map_cons, List.map_nil]; rfl) (.agg (ints .u8 y2)) _ (HX1.out x15) fun x16 c16 => ?_
        have b16 : Below w.heap.size w x16 := b15.trans (c16.mono b15.size)
        have a16 : Ar x16 gg 0 .u8 z16 := a15.below c16 l15
        have l16 : gg < x16.heap.size := Nat.lt_of_lt_of_le l15 c16.size
        refine hK.out _ _ b16 (fun _ => ?_)
        simp only [Act.put, List.setIfInBounds_toArray, List.set_cons_zero, List.set_cons_succ]
        refine wpAnyH_ready (rs := [9]) (by kernel_rfl) (by simp) ?_
        refine AllReadyH.cons rfl (fun K hK => ?_) AllReadyH.nil
        refine step_callD _ rfl (some 21) rfl 71 #[.tmp 20, .func 78] #[79, 66] rfl (fun q w' => by rfl) #[.agg (ints .u8 y2), .func (.func 78) #[] #[]] (by simp only [List.map_toArray, List.map_cons, List.map_nil]; rfl) (.agg (ints .u8 e0)) _ (HX2.out x16) fun x17 c17 => ?_
        have b17 : Below w.heap.size w x17 := b16.trans (c17.mono b16.size)
        have a17 : Ar x17 gg 0 .u8 z16 := a16.below c17 l16
        have l17 : gg < x17.heap.size := Nat.lt_of_lt_of_le l16 c17.size
        refine hK.out _ _ b17 (fun _ => ?_)
        simp only [Act.put, List.setIfInBounds_toArray, List.set_cons_zero, List.set_cons_succ]
        refine wpAnyH_ready (rs := [11]) (by kernel_rfl) (by simp) ?_
        refine AllReadyH.cons rfl (fun K hK => ?_) AllReadyH.nil
        refine step_storeG _ rfl none rfl (.tmp 6) (.tmp 21) 79 rfl .u8 z16 e0 gg rfl rfl a17 16 i_st z16_len HE0.out fun x18 a18 c18 => ?_
        have b18 : Below w.heap.size w x18 := b17.trans (c18.mono gl)
        refine hK.out _ _ b18 (fun _ => ?_)
        simp only [Act.put, List.setIfInBounds_toArray, List.set_cons_zero, List.set_cons_succ]
        refine wpAnyH_done (by kernel_rfl) ?_ _
        go_wp2_with fail
        go_meet
        exact ⟨gg, rfl, gl, a18, b18⟩
    · refine step_newG _ rfl (some 6) rfl 79 rfl .u8 z16 z_st fun x19 a19 c19 l19 => ?_
      have b19 : Below w.heap.size w x19 := b0.trans (c19.mono b0.size)
      have gl := b0.size
      refine hK.out _ _ b19 (fun _ => ?_)
      simp only [Act.put, List.setIfInBounds_toArray, List.set_cons_zero, List.set_cons_succ]
      generalize x0.heap.size = gg at *
      refine wpAnyH_ready (rs := [1]) (by kernel_rfl) (by simp) ?_
      refine AllReadyH.cons rfl (fun K hK => ?_) AllReadyH.nil
      refine step_callD _ rfl (some 13) rfl 69 #[.tmp 12] #[22] rfl (fun q w' => by rfl) #[.slice (some ⟨bb, bo, none⟩) 16 ca] (by simp only [List.map_toArray, List.map_cons, List.map_nil]; rfl) (.agg (ints .u8 xs)) _ (HO.out x19 (HV.out.below b19)) fun x20 c20 => ?_
      have b20 : Below w.heap.size w x20 := b19.trans (c20.mono b19.size)
      have a20 : Ar x20 gg 0 .u8 z16 := a19.below c20 l19
      have l20 : gg < x20.heap.size := Nat.lt_of_lt_of_le l19 c20.size
      refine hK.out _ _ b20 (fun _ => ?_)
      simp only [Act.put, List.setIfInBounds_toArray, List.set_cons_zero, List.set_cons_succ]
      refine wpAnyH_ready (rs := [7]) (by kernel_rfl) (by simp) ?_
      refine AllReadyH.cons rfl (fun K hK => ?_) AllReadyH.nil
      refine step_callD _ rfl (some 19) rfl 70 #[.tmp 13, .tmp 18] #[79, 79] rfl (fun q w' => by rfl) #[.agg (ints .u8 xs), .agg (ints .u8 k0)] (by simp only [List.map_toArray, List.map_cons, List.map_nil]; rfl) (.agg (ints .u8 y1)) _ (HX0.out x20) fun x21 c21 => ?_
      have b21 : Below w.heap.size w x21 := b20.trans (c21.mono b20.size)
      have a21 : Ar x21 gg 0 .u8 z16 := a20.below c21 l20
      have l21 : gg < x21.heap.size := Nat.lt_of_lt_of_le l20 c21.size
      refine hK.out _ _ b21 (fun _ => ?_)
      simp only [Act.put, List.setIfInBounds_toArray, List.set_cons_zero, List.set_cons_succ]
      refine wpAnyH_ready (rs := [8]) (by kernel_rfl) (by simp) ?_
      refine AllReadyH.cons rfl (fun K hK => ?_) AllReadyH.nil
      refine step_callD _ rfl (some 20) rfl 73 #[.tmp 19, .const (.int .i64 (-1))] #[79, 3] rfl (fun q w' => by rfl) #[.agg (ints .u8 y1), .int .i64 (-1)] (by simp only [List.map_toArray, List.map_cons, List.map_nil]; rfl) (.agg (ints .u8 y2)) _ (HX1.out x21) fun x22 c22 => ?_
      have b22 : Below w.heap.size w x22 := b21.trans (c22.mono b21.size)
      have a22 : Ar x22 gg 0 .u8 z16 := a21.below c22 l21
      have l22 : gg < x22.heap.size := Nat.lt_of_lt_of_le l21 c22.size
      refine hK.out _ _ b22 (fun _ => ?_)
      simp only [Act.put, List.setIfInBounds_toArray, List.set_cons_zero, List.set_cons_succ]
      refine wpAnyH_ready (rs := [9]) (by kernel_rfl) (by simp) ?_
      refine AllReadyH.cons rfl (fun K hK => ?_) AllReadyH.nil
      refine step_callD _ rfl (some 21) rfl 71 #[.tmp 20, .func 78] #[79, 66] rfl (fun q w' => by rfl) #[.agg (ints .u8 y2), .func (.func 78) #[] #[]] (by simp only [List.map_toArray, List.map_cons, List.map_nil]; rfl) (.agg (ints .u8 e0)) _ (HX2.out x22) fun x23 c23 => ?_
      have b23 : Below w.heap.size w x23 := b22.trans (c23.mono b22.size)
      have a23 : Ar x23 gg 0 .u8 z16 := a22.below c23 l22
      have l23 : gg < x23.heap.size := Nat.lt_of_lt_of_le l22 c23.size
      refine hK.out _ _ b23 (fun _ => ?_)
      simp only [Act.put, List.setIfInBounds_toArray, List.set_cons_zero, List.set_cons_succ]
      refine wpAnyH_ready (rs := [11]) (by kernel_rfl) (by simp) ?_
      refine AllReadyH.cons rfl (fun K hK => ?_) AllReadyH.nil
      refine step_storeG _ rfl none rfl (.tmp 6) (.tmp 21) 79 rfl .u8 z16 e0 gg rfl rfl a23 16 i_st z16_len HE0.out fun x24 a24 c24 => ?_
      have b24 : Below w.heap.size w x24 := b23.trans (c24.mono gl)
      refine hK.out _ _ b24 (fun _ => ?_)
      simp only [Act.put, List.setIfInBounds_toArray, List.set_cons_zero, List.set_cons_succ]
      refine wpAnyH_done (by kernel_rfl) ?_ _
      go_wp2_with fail
      go_meet
      exact ⟨gg, rfl, gl, a24, b24⟩
  case rest =>
    obtain ⟨g6, rfl, hg6, hA0, hB0⟩ := hcut
    clear HX0 HX1 HX2 RD0 HE0
    rw [HEE.out] at hA0
    go_wp2
    go_loopw [7] (fun i wr => ∃ r : Nat, r ≤ 13 ∧ i = .int .i64 r ∧ Ar wr g6 0 .u8 (dec key xs (14 - r)) ∧ Below w.heap.size w wr) (fun i _ => (intOf i).toNat)
    case atStart => exact ⟨13, Nat.le_refl _, rfl, hA0, hB0⟩
    case round =>
      obtain ⟨r, hr, rfl, hA, hB⟩ := hrel
      have q0 : (0 : Int) ≤ (r : Int) := by omega
      have q1 : IntKind.i64.wrap (r : Int) = r := by rw [IntKind.wrap_i64]; omega
      have hgw : g6 < wr.heap.size := hA.lt (by rw [(HEB.out _).1]; omega)
      have hkk : kb < wr.heap.size := by have := hB.size; omega
      by_cases hlt : 1 ≤ r
      · have k1 : (0 : Int) < (r : Int) := by omega
        have LS : Hid (∀ w', Below wr.heap.size wr w' → Ar w' g6 0 .u8 (dec key xs (14 - r))) := fun w' h => hA.below h hgw
        have LL : Hid ((dec key xs (14 - r)).length = 16) := (HEB.out _).1
        have sb1 := xorl_blk _ _ (HEB.out (14 - r)) (HKB.out r)
        have sb2 := mixb_blk (xorl (dec key xs (14 - r)) (rk key r)) unmW unmW_col
        have sb3 := shl16_blk _ 3 sb2
        have P1 : Hid (∀ w', Below wr.heap.size wr w' → Calls Try.prog 70 #[.agg (ints .u8 (dec key xs (14 - r))), .agg (ints .u8 (rk key r))] w' fun e w'' => e = .returned (.agg (ints .u8 (xorl (dec key xs (14 - r)) (rk key r)))) ∧ Below wr.heap.size wr w'') := in_class fun w0 => xored_any _ _ w0 (HEB.out _) (HKB.out r)
        have P2 : Hid (∀ w', Below wr.heap.size wr w' → Calls Try.prog 74 #[.agg (ints .u8 (xorl (dec key xs (14 - r)) (rk key r))), .func (.func 79) #[] #[]] w' fun e w'' => e = .returned (.agg (ints .u8 (mixb (xorl (dec key xs (14 - r)) (rk key r)) unmW))) ∧ Below wr.heap.size wr w'') := in_class fun w0 => mixed_unmix _ w0 sb1
        have P3 : Hid (∀ w', Below wr.heap.size wr w' → Calls Try.prog 73 #[.agg (ints .u8 (mixb (xorl (dec key xs (14 - r)) (rk key r)) unmW)), .int .i64 (-1)] w' fun e w'' => e = .returned (.agg (ints .u8 (shl16 (mixb (xorl (dec key xs (14 - r)) (rk key r)) unmW) 3))) ∧ Below wr.heap.size wr w'') := in_class fun w0 => shifted_any _ (-1) 3 w0 sb2 stp_neg
        have P4 : Hid (∀ w', Below wr.heap.size wr w' → Calls Try.prog 71 #[.agg (ints .u8 (shl16 (mixb (xorl (dec key xs (14 - r)) (rk key r)) unmW) 3)), .func (.func 78) #[] #[]] w' fun e w'' => e = .returned (.agg (ints .u8 (dec key xs (14 - (r - 1))))) ∧ Below wr.heap.size wr w'') := in_class fun w0 => by
          rw [HES.out r hlt (by omega)]
          exact put_backsl _ w0 sb3
        have LK : Hid (∀ w', Below wr.heap.size wr w' → Ar w' kb (1 + 16 * r) .u8 (rk key r)) := fun w' h => HKR.out w' ((HK.out.below hB hkw).below h hkk) r (by omega)
        have KL : Hid ((rk key r).length = 16) := (HKB.out r).1
        have EL : Hid ((dec key xs (14 - (r - 1))).length = 16) := (HEB.out _).1
        have HB : Hid (Below w.heap.size w wr) := hB
        obtain ⟨s4, hs4⟩ : ∃ s, s = dec key xs (14 - (r - 1)) := ⟨_, rfl⟩
        have HN : Hid (s4 = dec key xs (14 - (r - 1))) := hs4
        rw [← hs4] at P4 EL
        clear hA hB sb1 sb2 sb3 hs4
        generalize shl16 (mixb (xorl (dec key xs (14 - r)) (rk key r)) unmW) 3 = s3 at *
        generalize mixb (xorl (dec key xs (14 - r)) (rk key r)) unmW = s2 at *
        generalize xorl (dec key xs (14 - r)) (rk key r) = s1 at *
        generalize dec key xs (14 - r) = ss at *
        generalize rk key r = kr at *
        go_wp2
        refine wp_region_any (by kernel_rfl) ?_
        refine wpAny_quiet_then (C := fun w' => Below wr.heap.size wr w') 0 11 1 _ (by kernel_rfl) rfl (by kernel_rfl) (by kernel_rfl) (Below.refl _ _).drew ?_
        simp only [List.take_succ_cons, List.take_zero, List.drop_zero]
        refine wpQuiet_step (fun K hK => ?_)
        refine q_loadA (by rfl) (some 26) rfl (.tmp 6) 79 rfl .u8 ss g6 0 rfl LS.out 4 16 73 Try.underlying79 i_st LL.out (hK _ ?_)
        simp only [Act.put, List.setIfInBounds_toArray, List.set_cons_zero, List.set_cons_succ]
        clear hK K
        refine wpQuiet_step (fun K hK => ?_)
        refine q_val (by rfl) (some 27) rfl (.pointer (some ⟨kb, 0, none⟩)) (fun w' _ => by rfl) (hK _ ?_)
        simp only [Act.put, List.setIfInBounds_toArray, List.set_cons_zero, List.set_cons_succ]
        clear hK K
        refine wpQuiet_step (fun K hK => ?_)
        refine q_val (by rfl) (some 28) rfl (.int .i64 (r : Int)) (fun w' _ => by rfl) (hK _ ?_)
        simp only [Act.put, List.setIfInBounds_toArray, List.set_cons_zero, List.set_cons_succ]
        clear hK K
        refine wpQuiet_step (fun K hK => ?_)
        refine q_val (by rfl) (some 29) rfl (.pointer (some ⟨kb, 0, none⟩)) (fun w' _ => by rfl) (hK _ ?_)
        simp only [Act.put, List.setIfInBounds_toArray, List.set_cons_zero, List.set_cons_succ]
        clear hK K
        refine wpQuiet_step (fun K hK => ?_)
        refine q_val (by rfl) (some 30) rfl (.pointer (some ⟨kb, 1, none⟩)) (fun w' _ => by rfl) (hK _ ?_)
        simp only [Act.put, List.setIfInBounds_toArray, List.set_cons_zero, List.set_cons_succ]
        clear hK K
        refine wpQuiet_step (fun K hK => ?_)
        refine q_idxA (by rfl) (some 31) rfl (.tmp 30) (.tmp 28) 80 rfl kb 1 (1 + 16 * r) 15 16 r ua_sts la_sts ia_sts rfl rfl (by omega) (by omega) (hK _ ?_)
        simp only [Act.put, List.setIfInBounds_toArray, List.set_cons_zero, List.set_cons_succ]
        clear hK K
        refine wpQuiet_step (fun K hK => ?_)
        refine q_loadA (by rfl) (some 32) rfl (.tmp 31) 79 rfl .u8 kr kb (1 + 16 * r) rfl LK.out 4 16 73 Try.underlying79 i_st KL.out (hK _ ?_)
        simp only [Act.put, List.setIfInBounds_toArray, List.set_cons_zero, List.set_cons_succ]
        clear hK K
        refine wpQuiet_step (fun K hK => ?_)
        refine q_call (by rfl) (some 33) rfl 70 #[.tmp 26, .tmp 32] #[79, 79] rfl (fun q w' => by rfl) #[.agg (ints .u8 ss), .agg (ints .u8 kr)] (by simp only [List.map_toArray, List.map_cons, List.map_nil]; rfl) (.agg (ints .u8 s1)) P1.out (hK _ ?_)
        simp only [Act.put, List.setIfInBounds_toArray, List.set_cons_zero, List.set_cons_succ]
        clear hK K
        refine wpQuiet_step (fun K hK => ?_)
        refine q_call (by rfl) (some 34) rfl 74 #[.tmp 33, .func 79] #[79, 99] rfl (fun q w' => by rfl) #[.agg (ints .u8 s1), .func (.func 79) #[] #[]] (by simp only [List.map_toArray, List.map_cons, List.map_nil]; rfl) (.agg (ints .u8 s2)) P2.out (hK _ ?_)
        simp only [Act.put, List.setIfInBounds_toArray, List.set_cons_zero, List.set_cons_succ]
        clear hK K
        refine wpQuiet_step (fun K hK => ?_)
        refine q_call (by rfl) (some 35) rfl 73 #[.tmp 34, .const (.int .i64 (-1))] #[79, 3] rfl (fun q w' => by rfl) #[.agg (ints .u8 s2), .int .i64 (-1)] (by simp only [List.map_toArray, List.map_cons, List.map_nil]; rfl) (.agg (ints .u8 s3)) P3.out (hK _ ?_)
        simp only [Act.put, List.setIfInBounds_toArray, List.set_cons_zero, List.set_cons_succ]
        clear hK K
        refine wpQuiet_step (fun K hK => ?_)
        refine q_call (by rfl) (some 36) rfl 71 #[.tmp 35, .func 78] #[79, 66] rfl (fun q w' => by rfl) #[.agg (ints .u8 s3), .func (.func 78) #[] #[]] (by simp only [List.map_toArray, List.map_cons, List.map_nil]; rfl) (.agg (ints .u8 s4)) P4.out (hK _ ?_)
        simp only [Act.put, List.setIfInBounds_toArray, List.set_cons_zero, List.set_cons_succ]
        clear hK K
        refine wpQuiet_nil ?_
        intro f w3 B3
        refine wpAny_ready (rs := [11]) (by kernel_rfl) (by simp) ?_
        refine AllReady.cons rfl (fun K hK => ?_) AllReady.nil
        refine step_storeG _ rfl none rfl (.tmp 6) (.tmp 36) 79 rfl .u8 ss s4 g6 rfl rfl (LS.out _ B3) 16 i_st LL.out EL.out fun w4 A4 B4 => hK _ _ ?_
        simp only [Act.put, List.setIfInBounds_toArray, List.set_cons_zero, List.set_cons_succ]
        have HA4 : Hid (Ar w4 g6 0 .u8 (dec key xs (14 - (r - 1)))) := by show Ar _ _ _ _ _; rw [← HN.out]; exact A4
        have HB4 : Hid (Below w.heap.size w w4) := (HB.out.trans (B3.mono HB.out.size)).trans (B4.mono hg6)
        clear A4 B4 B3
        obtain ⟨r1, hr1⟩ : ∃ q, q = r - 1 := ⟨_, rfl⟩
        rw [← hr1] at HA4
        have t1 : (r : Int) - 1 = (r1 : Int) := by omega
        have t2 : IntKind.i64.wrap (r1 : Int) = r1 := by rw [IntKind.wrap_i64]; omega
        refine wpAny_done (by kernel_rfl) ?_ _
        go_wp2
        go_roundw
        case rel => exact ⟨r1, by omega, by rw [hr1], HA4.out, HB4.out⟩
        case measure => simp [intOf]; omega
      · have hr0 : r = 0 := by omega
        subst hr0
        have LS : Hid (∀ w', Below wr.heap.size wr w' → Ar w' g6 0 .u8 (dec key xs 14)) := fun w' h => hA.below h hgw
        have LL : Hid ((dec key xs 14).length = 16) := (HEB.out _).1
        have P4 : Hid (∀ w', Below wr.heap.size wr w' → Calls Try.prog 70 #[.agg (ints .u8 (dec key xs 14)), .agg (ints .u8 (rk key 0))] w' fun e w'' => e = .returned (.agg (ints .u8 zs)) ∧ Below wr.heap.size wr w'') := in_class fun w0 => by
          rw [HEL.out]
          exact xored_any _ _ w0 (HEB.out 14) (HKB.out 0)
        have LK : Hid (∀ w', Below wr.heap.size wr w' → Ar w' kb 1 .u8 (rk key 0)) := fun w' h => HKR.out w' ((HK.out.below hB hkw).below h hkk) 0 (by omega)
        have KL : Hid ((rk key 0).length = 16) := (HKB.out 0).1
        have EB : Blk zs := ZB.out
        have HLi : Hid (∀ w0, Calls Try.prog 76 #[.agg (ints .u8 zs)] w0 fun e w' => ∃ v, e = .returned v ∧ ∃ g, v = .slice (some ⟨g, 0, none⟩) 16 16 ∧ Ar w' g 0 .u8 zs ∧ w0.heap.size ≤ g ∧ Below w0.heap.size w0 w') := fun w0 => (list_any _ w0 EB.1 EB.2).mono fun _ _ ⟨g, he, h⟩ => ⟨_, he, g, rfl, h⟩
        clear EB hA
        generalize dec key xs 14 = ss at *
        generalize rk key 0 = kr at *
        go_wp2
        refine wp_region_any (by kernel_rfl) ?_
        refine wpAny_quiet_then (C := fun w' => Below wr.heap.size wr w') 0 7 3 _ (by kernel_rfl) rfl (by kernel_rfl) (by kernel_rfl) (Below.refl _ _).drew ?_
        simp only [List.take_succ_cons, List.take_zero, List.drop_zero]
        refine wpQuiet_step (fun K hK => ?_)
        refine q_loadA (by rfl) (some 37) rfl (.tmp 6) 79 rfl .u8 ss g6 0 rfl LS.out 4 16 73 Try.underlying79 i_st LL.out (hK _ ?_)
        simp only [Act.put, List.setIfInBounds_toArray, List.set_cons_zero, List.set_cons_succ]
        clear hK K
        refine wpQuiet_step (fun K hK => ?_)
        refine q_val (by rfl) (some 38) rfl (.pointer (some ⟨kb, 0, none⟩)) (fun w' _ => by rfl) (hK _ ?_)
        simp only [Act.put, List.setIfInBounds_toArray, List.set_cons_zero, List.set_cons_succ]
        clear hK K
        refine wpQuiet_step (fun K hK => ?_)
        refine q_val (by rfl) (some 39) rfl (.pointer (some ⟨kb, 0, none⟩)) (fun w' _ => by rfl) (hK _ ?_)
        simp only [Act.put, List.setIfInBounds_toArray, List.set_cons_zero, List.set_cons_succ]
        clear hK K
        refine wpQuiet_step (fun K hK => ?_)
        refine q_val (by rfl) (some 40) rfl (.pointer (some ⟨kb, 1, none⟩)) (fun w' _ => by rfl) (hK _ ?_)
        simp only [Act.put, List.setIfInBounds_toArray, List.set_cons_zero, List.set_cons_succ]
        clear hK K
        refine wpQuiet_step (fun K hK => ?_)
        refine q_idxA (by rfl) (some 41) rfl (.tmp 40) (.const (.int .i64 0)) 80 rfl kb 1 1 15 16 0 ua_sts la_sts ia_sts rfl rfl (by omega) (by omega) (hK _ ?_)
        simp only [Act.put, List.setIfInBounds_toArray, List.set_cons_zero, List.set_cons_succ]
        clear hK K
        refine wpQuiet_step (fun K hK => ?_)
        refine q_loadA (by rfl) (some 42) rfl (.tmp 41) 79 rfl .u8 kr kb 1 rfl LK.out 4 16 73 Try.underlying79 i_st KL.out (hK _ ?_)
        simp only [Act.put, List.setIfInBounds_toArray, List.set_cons_zero, List.set_cons_succ]
        clear hK K
        refine wpQuiet_step (fun K hK => ?_)
        refine q_call (by rfl) (some 43) rfl 70 #[.tmp 37, .tmp 42] #[79, 79] rfl (fun q w' => by rfl) #[.agg (ints .u8 ss), .agg (ints .u8 kr)] (by simp only [List.map_toArray, List.map_cons, List.map_nil]; rfl) (.agg (ints .u8 zs)) P4.out (hK _ ?_)
        simp only [Act.put, List.setIfInBounds_toArray, List.set_cons_zero, List.set_cons_succ]
        clear hK K
        refine wpQuiet_nil ?_
        intro f w3 B3
        refine wpAny_ready (rs := [7]) (by kernel_rfl) (by simp) ?_
        refine AllReady.cons rfl (fun K hK => ?_) AllReady.nil
        refine step_callG _ rfl (some 44) rfl 76 #[.tmp 43] #[79] rfl (fun q w' => by rfl) #[.agg (ints .u8 zs)] (by simp only [List.map_toArray, List.map_cons, List.map_nil]; rfl) _ (HLi.out _) fun v4 w4 h4 => hK _ _ ?_
        obtain ⟨g, rfl, A4, L4, B4⟩ := h4
        simp only [Act.put, List.setIfInBounds_toArray, List.set_cons_zero, List.set_cons_succ]
        refine wpAny_ready (rs := [8]) (by kernel_rfl) (by simp) ?_
        refine AllReady.cons rfl (fun K hK => ?_) AllReady.nil
        refine step_movG _ rfl (some 4) rfl (.tmp 44) rfl _ rfl (hK _ _ ?_)
        simp only [Act.put, List.setIfInBounds_toArray, List.set_cons_zero, List.set_cons_succ]
        refine wpAny_ready (rs := [9]) (by kernel_rfl) (by simp) ?_
        refine AllReady.cons rfl (fun K hK => ?_) AllReady.nil
        refine step_movG _ rfl (some 5) rfl _ rfl _ rfl (hK _ _ ?_)
        simp only [Act.put, List.setIfInBounds_toArray, List.set_cons_zero, List.set_cons_succ]
        refine wpAny_done (by kernel_rfl) ?_ _
        have BT := (hB.trans (B3.mono hB.size)).trans (B4.mono (Nat.le_trans hB.size B3.size))
        have LT : w.heap.size ≤ g := Nat.le_trans (Nat.le_trans hB.size B3.size) L4
        go_wp2
        go_ret2
        exact ⟨g, rfl, A4, LT, BT⟩
end Go.Proofs.Ytifepmdhbhdjpaa

/- What aes' Encrypt and Decrypt answer where they take not. No claim of its own. -/
namespace Go.Proofs.Ytifepmdhbhdjpaa
open Go.RowKit
set_option maxRecDepth 20000

set_option maxHeartbeats 1000000 in
theorem encrypt_no (p v : Value) (w : World) (ht : Calls Try.prog 68 #[p, v] w fun e w' => e = .returned (.bool false) ∧ w' = w) :
    Calls Try.prog 56 #[p, v] w fun e w' => e = .returned (.tuple #[.slice none 0 0, .int .i64 2]) ∧ w' = w := by
  have H : Hid (Calls Try.prog 68 #[p, v] w fun e w' => e = .returned (.bool false) ∧ w' = w) := ht
  clear ht
  go_enter Try.func56, Try.ntmps56
  go_wp2_with (go_at_call 68; refine H.out.mono ?_; rintro e w1 ⟨rfl, hw⟩; obtain rfl := hw.symm)
  go_ret2
  exact ⟨rfl, rfl⟩
set_option maxHeartbeats 1000000 in
theorem decrypt_no (p v : Value) (w : World) (ht : Calls Try.prog 68 #[p, v] w fun e w' => e = .returned (.bool false) ∧ w' = w) :
    Calls Try.prog 58 #[p, v] w fun e w' => e = .returned (.tuple #[.slice none 0 0, .int .i64 2]) ∧ w' = w := by
  have H : Hid (Calls Try.prog 68 #[p, v] w fun e w' => e = .returned (.bool false) ∧ w' = w) := ht
  clear ht
  go_enter Try.func58, Try.ntmps58
  go_wp2_with (go_at_call 68; refine H.out.mono ?_; rintro e w1 ⟨rfl, hw⟩; obtain rfl := hw.symm)
  go_ret2
  exact ⟨rfl, rfl⟩

theorem repl_all (n : Nat) : AllB (List.replicate n (0 : Int)) := allB_mem fun x hx => by
  have := List.eq_of_mem_replicate hx
  omega
end Go.Proofs.Ytifepmdhbhdjpaa

