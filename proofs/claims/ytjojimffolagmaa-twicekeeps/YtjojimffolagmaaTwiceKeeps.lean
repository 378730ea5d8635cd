/- P8.3: of any two lists of sixteen bytes, doubled n times (n up to 255): they are the same just when they were. -/
import Derived.Test.YtjojimffolagmaaTAwk
namespace Go.Proofs.Ytjojimffolagmaa.twiceKeeps
open Go.ChangeShapes Go.WideShapes Go.ChangeAt Go.RowKit

theorem cells_arr16 : Try.prog.cellsOf 37 = 16 := by kernel_rfl
theorem i_a16 : (Try.prog.info? 37).map (·.size) = some 16 := by kernel_rfl

theorem all_gb (xs ys : List Int) (n : Nat) (hx : xs.length = n) (hy : ys.length = n) : ((List.range' 0 n 1).all fun i => decide (gb xs i = gb ys i)) = decide (xs = ys) := by
  rw [Bool.eq_iff_iff, List.all_eq_true, decide_eq_true_iff]
  constructor
  · intro h
    refine ext_gb (by rw [hx, hy]) fun t ht => ?_
    have := h t (by rw [List.mem_range'_1]; omega)
    simpa using this
  · rintro rfl i _
    simp

/-- two arrays of numbers: are they the same? -/
theorem run_eqlD (w : World) (t e : TypeId) (n : Nat) (k : IntKind) (xs ys : List Int) (hx : xs.length = n) (hy : ys.length = n)
    (hu : Try.prog.underlying t = some (.array n e)) (he : Try.prog.underlying e = some (.int k)) (hsz : ∀ w, (sizeOf e).run Try.prog w = .ok 1 w) :
    (Op.equalIn 10000 t (.agg (ints k xs)) (.agg (ints k ys))).run Try.prog w = .ok (decide (xs = ys)) w := by
  rw [← all_gb xs ys n hx hy, show (10000 : Nat) = 9998 + 1 + 1 from rfl, Op.equalIn]
  simp only [Sem.run_bind, run_underlying hu, Result.andThen_ok, hsz, Std.Legacy.Range.forIn_eq_forIn_range', Std.Legacy.Range.size, Nat.sub_zero, Nat.add_sub_cancel, Nat.div_one]
  have hl' : ∀ i ∈ List.range' 0 n 1, i < n := fun i hi => by simpa using (List.mem_range'_1.1 hi).2
  generalize List.range' 0 n 1 = l at hl' ⊢
  induction l with
  | nil => simp
  | cons i l ih =>
    have hi : i < n := hl' i (by simp)
    have px : (Go.part e (ints k xs) (i * 1)).run Try.prog w = .ok (.int k (gb xs i)) w := by
      simp [Go.part, isAgg, run_underlying he, ints, gb, List.getD, List.getElem?_eq_getElem (show i < xs.length by omega)]
    have py : (Go.part e (ints k ys) (i * 1)).run Try.prog w = .ok (.int k (gb ys i)) w := by
      simp [Go.part, isAgg, run_underlying he, ints, gb, List.getD, List.getElem?_eq_getElem (show i < ys.length by omega)]
    have pe : (Op.equalIn (9998 + 1) e (.int k (gb xs i)) (.int k (gb ys i))).run Try.prog w = .ok (decide (gb xs i = gb ys i)) w := by
      rw [run_equalIn_int w 9998 e k k _ _ he]; congr 1
    simp only [List.forIn_cons, Sem.run_bind, px, py, pe, Result.andThen_ok, List.all_cons]
    cases hb : decide (gb xs i = gb ys i)
    · simp
    · simp only [Bool.not_true, Bool.false_eq_true, if_false, Sem.run_pure, Bool.true_and]
      exact ih fun j hj => hl' j (by simp [hj])
theorem q_eqlD {ops : Array Oper} {C : World → Prop} {K : Act → Prop} {o : Oper} {a : Act} (hw : Region.wanted o (yielded ops a.tmps) = true) (d : Option Tmp) (hd : o.dst = d) (x y : Operand) (t e t' : TypeId) (n : Nat) (hop : o.op = Op.binOp .eql t x y t') (k : IntKind) (xs ys : List Int) (hx : a.eval x = .agg (ints k xs)) (hy : a.eval y = .agg (ints k ys)) (hl : xs.length = n) (hm : ys.length = n)
    (hu : Try.prog.underlying t = some (.array n e)) (he : Try.prog.underlying e = some (.int k)) (hsz : ∀ w, (sizeOf e).run Try.prog w = .ok 1 w) (hg : Try.prog.eqGuardType Try.prog.depth t = false) (D : Bool) (hD : D = decide (xs = ys)) (hK : K (a.put d (.bool D))) :
    if Region.wanted o (yielded ops a.tmps) = true then o.quiet Try.prog a C K else K (a.put o.dst undef) := by
  subst hD
  refine q_val hw d hd _ (fun w _ => ?_) hK
  unfold execOp
  simp only [hop, hx, hy, Sem.run_bind, run_eqGuard_agg w .eql t x y _ _ hg, Result.andThen_ok, run_eql_struct, run_eqlD w t e n k xs ys hl hm hu he hsz]
  rfl
/-- unlike ones stay unlike -/
theorem keeps (xs ys : List Int) (hx : B16 xs) (hy : B16 ys) (n : Nat) : decide (bt16 (tdn (nm16 xs) n) = bt16 (tdn (nm16 ys) n)) = decide (xs = ys) := by
  rw [Bool.eq_iff_iff, decide_eq_true_iff, decide_eq_true_iff]
  constructor
  · intro h
    have h1 := nm16_lt xs hx.2
    have h2 := nm16_lt ys hy.2
    have := congrArg nm16 h
    rw [nm_bt _ (tdn_lt _ n h1), nm_bt _ (tdn_lt _ n h2)] at this
    exact nm_only xs ys hx hy (tdn_only _ _ n h1 h2 this)
  · rintro rfl; rfl

set_option maxRecDepth 20000 in
set_option maxHeartbeats 4000000 in
theorem walk (l0 l1 : List Nat) (x : Int) (w : World) (n0 : l0.length = 16) (b0 : ∀ x ∈ l0, x < 256) (n1 : l1.length = 16) (b1 : ∀ x ∈ l1, x < 256) (hx : 0 ≤ x ∧ x ≤ 255) :
    Calls Try.prog 7 #[.agg (l0.map fun x : Nat => Value.int .u8 (x : Int)).toArray, .agg (l1.map fun x : Nat => Value.int .u8 (x : Int)).toArray, .int .u8 x] w fun e w' => e = .returned (.bool true) ∧ Below w.heap.size w w' := by
  rw [arr_ints, arr_ints]
  have ka := arr_all l0 b0
  have ba := arr_all l1 b1
  have kl : (cI l0).length = 16 := by rw [cI_len]; exact n0
  have bl : (cI l1).length = 16 := by rw [cI_len]; exact n1
  generalize cI l0 = us at *
  generalize cI l1 = bs at *
  clear n0 b0 n1 b1
  obtain ⟨n, rfl⟩ : ∃ n : Nat, x = (n : Int) := ⟨x.toNat, by omega⟩
  have HK := keeps us bs ⟨kl, ka⟩ ⟨bl, ba⟩ n
  have AA : Hid (AllB us ∧ us.length = 16) := ⟨ka, kl⟩
  have BA : Hid (AllB bs ∧ bs.length = 16) := ⟨ba, bl⟩
  have S1 : Hid (∀ v w0, Byt w0 v us → Calls Try.prog 10 #[v, .int .i64 (n : Int)] w0 fun e w' => ∃ g, e = .returned (.tuple #[.slice (some ⟨g, 0, none⟩) 16 16, .int .i64 0]) ∧ Ar w' g 0 .u8 (bt16 (tdn (nm16 us) n)) ∧ w0.heap.size ≤ g ∧ Below w0.heap.size w0 w') := fun v w0 h => times_any v us n w0 h kl (by omega)
  have S2 : Hid (∀ v w0, Byt w0 v bs → Calls Try.prog 10 #[v, .int .i64 (n : Int)] w0 fun e w' => ∃ g, e = .returned (.tuple #[.slice (some ⟨g, 0, none⟩) 16 16, .int .i64 0]) ∧ Ar w' g 0 .u8 (bt16 (tdn (nm16 bs) n)) ∧ w0.heap.size ≤ g ∧ Below w0.heap.size w0 w') := fun v w0 h => times_any v bs n w0 h bl (by omega)
  have XB : Hid ((bt16 (tdn (nm16 us) n)).length = 16 ∧ AllB (bt16 (tdn (nm16 us) n))) := ⟨bt16_len _, bt16_all _⟩
  have YB : Hid ((bt16 (tdn (nm16 bs) n)).length = 16 ∧ AllB (bt16 (tdn (nm16 bs) n))) := ⟨bt16_len _, bt16_all _⟩
  generalize bt16 (tdn (nm16 us) n) = xs at *
  generalize bt16 (tdn (nm16 bs) n) = ys at *
  obtain ⟨D, hD⟩ : ∃ D, D = decide (us = bs) := ⟨_, rfl⟩
  rw [← hD] at HK
  have HD : Hid (D = decide (us = bs) ∧ decide (xs = ys) = D) := ⟨hD, HK⟩
  clear ka ba kl bl HK hD
  go_enter Try.func7, Try.ntmps7
  go_wp2_with (first
    | (go_at_call 10; have q := X3; refine (S2.out _ _ C3.out).mono ?_; rintro e w4 ⟨gy, rfl, A4, L4, B4⟩; have Y4 : Hid (Byt w4 (.slice (some ⟨gy, 0, none⟩) 16 16) ys) := A4.bytG YB.out.2 16 16 YB.out.1 (by omega) (by omega); have X4 : Hid (Byt w4 (.slice (some ⟨gx, 0, none⟩) 16 16) xs) := X3.out.below B4; clear A4)
    | (go_at_call 10; refine (S1.out _ _ D2.out).mono ?_; rintro e w3 ⟨gx, rfl, A3, L3, B3⟩; have X3 : Hid (Byt w3 (.slice (some ⟨gx, 0, none⟩) 16 16) xs) := A3.bytG XB.out.2 16 16 XB.out.1 (by omega) (by omega); have C3 : Hid (Byt w3 (.slice (some ⟨w1.heap.size, 0, none⟩) 16 16) bs) := C2.out.below B3; clear A3)
    | (have q1 := s1; refine box_lawF _ rfl (.tmp 1) 37 rfl .u8 bs rfl ?_; intro w2 A2 B2 s2; have HA2 : Hid (Ar w2 w1.heap.size 0 .u8 bs) := A2; have C2 : Hid (Byt w2 (.slice (some ⟨w1.heap.size, 0, none⟩) 16 16) bs) := A2.bytG BA.out.1 16 16 BA.out.2 (by omega) (by omega); have D2 : Hid (Byt w2 (.slice (some ⟨w.heap.size, 0, none⟩) 16 16) us) := D1.out.below B2; clear A2)
    | (refine box_lawF _ rfl (.tmp 0) 37 rfl .u8 us rfl ?_; intro w1 A1 B1 s1; have HA1 : Hid (Ar w1 w.heap.size 0 .u8 us) := A1; have D1 : Hid (Byt w1 (.slice (some ⟨w.heap.size, 0, none⟩) 16 16) us) := A1.bytG AA.out.1 16 16 AA.out.2 (by omega) (by omega); clear A1))
  have z3 := B3.size
  have z4 := B4.size
  have B24 : Below w2.heap.size w2 w4 := B3.trans (B4.mono z3)
  have B04 : Below w.heap.size w w4 := (B1.trans (B2.mono (by omega))).trans (B24.mono (by omega))
  have PA : Hid (∀ w', Below w4.heap.size w4 w' → Ar w' w.heap.size 0 .u8 us) := fun w' h => (((HA1.out.below B2 s1).below B24 (by omega)).below h (by omega))
  have PB : Hid (∀ w', Below w4.heap.size w4 w' → Ar w' w1.heap.size 0 .u8 bs) := fun w' h => ((HA2.out.below B24 s2).below h (by omega))
  have PS : Hid (∀ w', Below w4.heap.size w4 w' → Calls Try.prog 11 #[.slice (some ⟨gx, 0, none⟩) 16 16, .slice (some ⟨gy, 0, none⟩) 16 16] w' fun e w'' => e = .returned (.bool D) ∧ Below w4.heap.size w4 w'') := fun w' h =>
    (same_any w' _ _ xs ys (X4.out.below h) (Y4.out.below h)).mono fun _ _ ⟨he, m, hw⟩ => ⟨by rw [he, HD.out.2], by rw [hw]; exact below_drewN h m⟩
  have PW : Hid (∀ w', Below w4.heap.size w4 w' → Calls Try.prog 8 #[] w' fun e w'' => e = .returned (.bool true) ∧ Below w4.heap.size w4 w'') := fun w' h => (awake_any w').mono fun _ _ ⟨he, hb⟩ => ⟨he, h.trans (hb.mono h.size)⟩
  refine region_quietC (C := fun w' => Below w4.heap.size w4 w') (by kernel_rfl) (by kernel_rfl) (Below.refl _ _).drew ?_
  refine wpQuiet_step (fun K hK => ?_)
  refine q_val (by rfl) (some 25) rfl (.int .i64 0) (fun w' _ => by rfl) (hK _ ?_)
  simp only [Act.put, List.setIfInBounds_toArray, List.set_cons_zero, List.set_cons_succ]
  clear hK K
  refine wpQuiet_step (fun K hK => ?_)
  refine q_val (by rfl) (some 26) rfl (.bool true) (fun w' _ => by go_simp) (hK _ ?_)
  simp only [Act.put, List.setIfInBounds_toArray, List.set_cons_zero, List.set_cons_succ]
  clear hK K
  refine wpQuiet_step (fun K hK => ?_)
  refine q_val (by rfl) (some 27) rfl (.bool true) (fun w' _ => by rfl) (hK _ ?_)
  simp only [Act.put, List.setIfInBounds_toArray, List.set_cons_zero, List.set_cons_succ]
  clear hK K
  refine wpQuiet_step (fun K hK => ?_)
  refine q_val (by rfl) (some 28) rfl (.int .i64 0) (fun w' _ => by rfl) (hK _ ?_)
  simp only [Act.put, List.setIfInBounds_toArray, List.set_cons_zero, List.set_cons_succ]
  clear hK K
  refine wpQuiet_step (fun K hK => ?_)
  refine q_val (by rfl) (some 29) rfl (.bool true) (fun w' _ => by go_simp) (hK _ ?_)
  simp only [Act.put, List.setIfInBounds_toArray, List.set_cons_zero, List.set_cons_succ]
  clear hK K
  refine wpQuiet_step (fun K hK => ?_)
  refine q_val (by rfl) (some 30) rfl (.bool true) (fun w' _ => by rfl) (hK _ ?_)
  simp only [Act.put, List.setIfInBounds_toArray, List.set_cons_zero, List.set_cons_succ]
  clear hK K
  refine wpQuiet_step (fun K hK => ?_)
  refine q_val (by rfl) (some 31) rfl (.bool true) (fun w' _ => by rfl) (hK _ ?_)
  simp only [Act.put, List.setIfInBounds_toArray, List.set_cons_zero, List.set_cons_succ]
  clear hK K
  refine wpQuiet_step (fun K hK => ?_)
  refine q_val (by rfl) (some 32) rfl (.slice (some ⟨gx, 0, none⟩) 16 16) (fun w' _ => by rfl) (hK _ ?_)
  simp only [Act.put, List.setIfInBounds_toArray, List.set_cons_zero, List.set_cons_succ]
  clear hK K
  refine wpQuiet_step (fun K hK => ?_)
  refine q_val (by rfl) (some 33) rfl (.slice (some ⟨gy, 0, none⟩) 16 16) (fun w' _ => by rfl) (hK _ ?_)
  simp only [Act.put, List.setIfInBounds_toArray, List.set_cons_zero, List.set_cons_succ]
  clear hK K
  refine wpQuiet_step (fun K hK => ?_)
  refine q_call (by rfl) (some 34) rfl 11 #[.tmp 32, .tmp 33] #[22, 22] rfl (fun q w' => by rfl) #[.slice (some ⟨gx, 0, none⟩) 16 16, .slice (some ⟨gy, 0, none⟩) 16 16] (by simp only [List.map_toArray, List.map_cons, List.map_nil]; rfl) (.bool D) PS.out (hK _ ?_)
  simp only [Act.put, List.setIfInBounds_toArray, List.set_cons_zero, List.set_cons_succ]
  clear hK K
  refine wpQuiet_step (fun K hK => ?_)
  refine q_loadA (by rfl) (some 35) rfl (.tmp 3) 37 rfl .u8 us w.heap.size 0 rfl PA.out 16 16 5 Try.underlying37 i_a16 AA.out.2 (hK _ ?_)
  simp only [Act.put, List.setIfInBounds_toArray, List.set_cons_zero, List.set_cons_succ]
  clear hK K
  refine wpQuiet_step (fun K hK => ?_)
  refine q_loadA (by rfl) (some 36) rfl (.tmp 4) 37 rfl .u8 bs w1.heap.size 0 rfl PB.out 16 16 5 Try.underlying37 i_a16 BA.out.2 (hK _ ?_)
  simp only [Act.put, List.setIfInBounds_toArray, List.set_cons_zero, List.set_cons_succ]
  clear hK K
  refine wpQuiet_step (fun K hK => ?_)
  refine q_eqlD (by rfl) (some 37) rfl (.tmp 35) (.tmp 36) 37 5 _ 16 rfl .u8 us bs rfl rfl AA.out.2 BA.out.2 Try.underlying37 Try.underlying5 run_size_u8 (by kernel_rfl) D HD.out.1 (hK _ ?_)
  simp only [Act.put, List.setIfInBounds_toArray, List.set_cons_zero, List.set_cons_succ]
  clear hK K
  refine wpQuiet_step (fun K hK => ?_)
  refine q_val (by rfl) (some 38) rfl (.bool true) (fun w' _ => by (cases D <;> go_simp)) (hK _ ?_)
  simp only [Act.put, List.setIfInBounds_toArray, List.set_cons_zero, List.set_cons_succ]
  clear hK K
  refine wpQuiet_step (fun K hK => ?_)
  refine q_val (by rfl) (some 39) rfl (.bool true) (fun w' _ => by rfl) (hK _ ?_)
  simp only [Act.put, List.setIfInBounds_toArray, List.set_cons_zero, List.set_cons_succ]
  clear hK K
  refine wpQuiet_step (fun K hK => ?_)
  refine q_val (by rfl) (some 40) rfl (.bool true) (fun w' _ => by rfl) (hK _ ?_)
  simp only [Act.put, List.setIfInBounds_toArray, List.set_cons_zero, List.set_cons_succ]
  clear hK K
  refine wpQuiet_step (fun K hK => ?_)
  refine q_call (by rfl) (some 41) rfl 8 #[] #[] rfl (fun q w' => by rfl) #[] (by simp only [List.map_toArray, List.map_nil]) (.bool true) PW.out (hK _ ?_)
  simp only [Act.put, List.setIfInBounds_toArray, List.set_cons_zero, List.set_cons_succ]
  clear hK K
  refine wpQuiet_step (fun K hK => ?_)
  refine q_val (by rfl) (some 42) rfl (.bool true) (fun w' _ => by rfl) (hK _ ?_)
  simp only [Act.put, List.setIfInBounds_toArray, List.set_cons_zero, List.set_cons_succ]
  clear hK K
  refine wpQuiet_step (fun K hK => ?_)
  refine q_val (by rfl) (some 6) rfl (.bool true) (fun w' _ => by rfl) (hK _ ?_)
  simp only [Act.put, List.setIfInBounds_toArray, List.set_cons_zero, List.set_cons_succ]
  clear hK K
  refine wpQuiet_nil ?_
  intro w5 B5
  go_wp2
  go_ret
  exact ⟨rfl, B04.trans (B5.mono (by omega))⟩

theorem params : ∀ t ∈ Try.f7.params.toList, Try.prog.readableRec t = true ∧ t < Try.prog.types.size := by
  rw [Try.params7]
  intro t ht
  simp at ht
  rcases ht with rfl | rfl
  · exact ⟨by kernel_rfl, of_decide_eq_true (by kernel_rfl)⟩
  · exact ⟨by kernel_rfl, of_decide_eq_true (by kernel_rfl)⟩

theorem contract (H : Type) (enc : TypeId × Value → H) (W : World) (base : Nat) (args : Array Value) (ds gs : List (DataW H)) (before : List MemPlace)
    (hval : ∀ (j : Nat) t v, Try.f7.params[j]? = some t → args[j]? = some v → Value.okWide Try.prog W .any base t v)
    (hW : DataW.Whole enc Try.prog Try.f7.params.toList Rows.twiceKeepsSpec.vars false W args.toList ds gs before) :
    Calls Try.prog 7 args W fun e W' => ∃ v, e = .returned v ∧ Rows.twiceKeepsSpec.post enc Try.prog Try.f7 false true false false W args v W' := by
  have hW' := hW
  obtain ⟨p, q, hA0, hV, rfl, hfz, hnd⟩ := hW
  have hA : DataW.TrodAll enc Try.prog W 0 (fun _ => true) true Try.f7.params.toList args.toList ds p := hA0
  rw [Try.params7] at hA hval
  obtain ⟨v0, v1, v2, d0, d1, d2, p0, p1, p2, rfl, rfl, rfl, h0, h1, h2⟩ := trodAll_three hA
  obtain ⟨rfl, rfl⟩ := trodVars_none hV
  obtain ⟨l0, rfl, n0, b0⟩ := arr_open Try.underlying37 cells_arr16 (hval 0 37 v0 rfl rfl) h0
  obtain ⟨l1, rfl, n1, b1⟩ := arr_open Try.underlying37 cells_arr16 (hval 1 37 v1 rfl rfl) h1
  obtain ⟨x2, rfl, rfl, rfl, w2⟩ := open_int Try.underlying5 (hval 2 5 v2 rfl rfl) h2
  clear hA0
  refine (walk l0 l1 x2 W n0 b0 n1 b1 (bounds_u8 w2)).mono fun e W' ⟨he, hg⟩ => ?_
  subst he
  exact ⟨_, rfl, post_law rfl (by kernel_rfl) params rfl rfl rfl hW' hg⟩

theorem laid_met (os : Os) : laidMet Try.prog Rows.twiceKeepsRow.laid ((World.holding Try.prog os ⟨#[], #[], []⟩).forCall (fun _ _ => 0) ⟨#[], #[.agg #[.int .u8 0, .int .u8 0, .int .u8 0, .int .u8 0, .int .u8 0, .int .u8 0, .int .u8 0, .int .u8 0, .int .u8 0, .int .u8 0, .int .u8 0, .int .u8 0, .int .u8 0, .int .u8 0, .int .u8 0, .int .u8 0], .agg #[.int .u8 0, .int .u8 0, .int .u8 0, .int .u8 0, .int .u8 0, .int .u8 0, .int .u8 0, .int .u8 0, .int .u8 0, .int .u8 0, .int .u8 0, .int .u8 0, .int .u8 0, .int .u8 0, .int .u8 0, .int .u8 0], .int .u8 0], []⟩).memory :=
  laidMet_of_run' 8 (by kernel_rfl) (by kernel_rfl)
theorem reads (os : Os) {H : Type} (enc : TypeId × Value → H) : ∃ places, DataW.whole enc Try.prog ((World.holding Try.prog os ⟨#[], #[], []⟩).forCall (fun _ _ => 0) ⟨#[], #[.agg #[.int .u8 0, .int .u8 0, .int .u8 0, .int .u8 0, .int .u8 0, .int .u8 0, .int .u8 0, .int .u8 0, .int .u8 0, .int .u8 0, .int .u8 0, .int .u8 0, .int .u8 0, .int .u8 0, .int .u8 0, .int .u8 0], .agg #[.int .u8 0, .int .u8 0, .int .u8 0, .int .u8 0, .int .u8 0, .int .u8 0, .int .u8 0, .int .u8 0, .int .u8 0, .int .u8 0, .int .u8 0, .int .u8 0, .int .u8 0, .int .u8 0, .int .u8 0, .int .u8 0], .int .u8 0], []⟩).memory Try.f7.params.toList Rows.twiceKeepsSpec.vars false #[Value.agg #[.int .u8 0, .int .u8 0, .int .u8 0, .int .u8 0, .int .u8 0, .int .u8 0, .int .u8 0, .int .u8 0, .int .u8 0, .int .u8 0, .int .u8 0, .int .u8 0, .int .u8 0, .int .u8 0, .int .u8 0, .int .u8 0], Value.agg #[.int .u8 0, .int .u8 0, .int .u8 0, .int .u8 0, .int .u8 0, .int .u8 0, .int .u8 0, .int .u8 0, .int .u8 0, .int .u8 0, .int .u8 0, .int .u8 0, .int .u8 0, .int .u8 0, .int .u8 0, .int .u8 0], Value.int .u8 0].toList 8 = some ([.agg [.lit (.int .u8 0), .lit (.int .u8 0), .lit (.int .u8 0), .lit (.int .u8 0), .lit (.int .u8 0), .lit (.int .u8 0), .lit (.int .u8 0), .lit (.int .u8 0), .lit (.int .u8 0), .lit (.int .u8 0), .lit (.int .u8 0), .lit (.int .u8 0), .lit (.int .u8 0), .lit (.int .u8 0), .lit (.int .u8 0), .lit (.int .u8 0)], .agg [.lit (.int .u8 0), .lit (.int .u8 0), .lit (.int .u8 0), .lit (.int .u8 0), .lit (.int .u8 0), .lit (.int .u8 0), .lit (.int .u8 0), .lit (.int .u8 0), .lit (.int .u8 0), .lit (.int .u8 0), .lit (.int .u8 0), .lit (.int .u8 0), .lit (.int .u8 0), .lit (.int .u8 0), .lit (.int .u8 0), .lit (.int .u8 0)], .lit (.int .u8 0)], [], places) :=
  ⟨[], by kernel_rfl⟩

set_option maxRecDepth 100000 in
theorem lifted (os : Os) (started : os.Started) (H : Type) (enc : TypeId × Value → H) (F : Stop.Interp) :
    ReturnsInHanded {} Try.checked os 7 .any ((OpenSpec.ofChange Rows.twiceKeepsSpec).preRow enc Try.prog Try.f7 Rows.twiceKeepsRow.domain false Rows.twiceKeepsRow.laid) (((OpenSpec.ofChange Rows.twiceKeepsSpec).at F).post enc Try.prog Try.f7 false true false false) := by
  obtain ⟨places, hx⟩ := reads os enc
  refine returnsInHanded_of_row (C := Try.checked) (s := OpenSpec.ofChange Rows.twiceKeepsSpec) own started (by kernel_rfl) Try.func7
    (witness_row_at (enc := enc) (C := Try.checked) false (World.holding Try.prog os ⟨#[], #[], []⟩) #[.agg #[.int .u8 0, .int .u8 0, .int .u8 0, .int .u8 0, .int .u8 0, .int .u8 0, .int .u8 0, .int .u8 0, .int .u8 0, .int .u8 0, .int .u8 0, .int .u8 0, .int .u8 0, .int .u8 0, .int .u8 0, .int .u8 0], .agg #[.int .u8 0, .int .u8 0, .int .u8 0, .int .u8 0, .int .u8 0, .int .u8 0, .int .u8 0, .int .u8 0, .int .u8 0, .int .u8 0, .int .u8 0, .int .u8 0, .int .u8 0, .int .u8 0, .int .u8 0, .int .u8 0], .int .u8 0] rfl (by kernel_rfl) (by kernel_rfl) (by kernel_rfl)
      (OpenSpec.preRow_of_cond 8 hx (by kernel_rfl) (fun k hk => by cases hk) (by kernel_rfl) (laid_met os))) ?_
  intro W base args ds gs before hval hW _ _ _ _ _ _
  exact contract H enc W base args ds gs before hval hW

theorem said : Rows.TwiceKeepsSaid :=
  OpenClaim.holds_of_cond 7 Try.f7 rfl rfl rfl rfl rfl rfl rfl ⟨rfl, rfl, rfl, rfl, rfl⟩ rfl rfl rfl rfl rfl (by kernel_rfl) Try.func7 (by kernel_rfl)
    (of_decide_eq_true (by kernel_rfl)) (by unfold Func.isWrapper; first | (rw [if_pos (by decide +kernel)]; kernel_rfl) | (rw [if_neg (by decide +kernel)]; exact ⟨rfl, rfl⟩))
    (fun os started H enc _ F => by rw [OpenClaim.pre_eq_preRow]; exact lifted os started H enc F)
end Go.Proofs.Ytjojimffolagmaa.twiceKeeps

namespace Go.Proofs.Ytjojimffolagmaa
theorem twiceKeeps_said : Rows.TwiceKeepsSaid := twiceKeeps.said
#print axioms twiceKeeps_said
end Go.Proofs.Ytjojimffolagmaa
