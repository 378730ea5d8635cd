/- Parts of the proof: what ScanBlocks reaches. No claim of its own. -/
import Derived.Lib.MakeNoZero
import Derived.WalkKit
import Derived.WalkSmall
import Derived.ProofKit
import Derived.OpenShut
import Derived.BigQuiet
import Derived.Deep.QuietTactic
import Derived.Laws.AppendOwnNone
import Derived.Deep.WholeRow
import Derived.Deep.MidRow
import Derived.Laws.StructEq
import Derived.Deep.RegionHeld3
import Derived.Test.YtmbgokmomkmgcaaGreatDoorK00
set_option maxHeartbeats 8000000
namespace Go.Proofs.YtmbgokmomkmgcaaGreatDoor.na
open Go.RowKit Go.Proofs.YtmbgokmomkmgcaaGreatDoor.fa
set_option maxRecDepth 20000
theorem and32 (n : Nat) (h : n < 4294967296) : n &&& 4294967295 = n := by
  have : (4294967295 : Nat) = 2 ^ 32 - 1 := by decide
  rw [this, Nat.and_two_pow_sub_one_eq_mod, Nat.mod_eq_of_lt (by omega)]
theorem bits_and32 (n : Nat) (h : n < 4294967296) : bits .and .u64 (n : Int) 4294967295 = n := by
  have := u64_and_nat n 4294967295 (by omega) (by omega)
  rw [and32 n h] at this
  exact this
set_option maxHeartbeats 1000000 in
theorem mul64_any (n : Nat) (w : World) (hn : n < 4294967296) :
    Calls Tryz.prog 129 #[.int .u64 1, .int .u64 (n : Int)] w fun e w' => e = .returned (.tuple #[.int .u64 0, .int .u64 (n : Int)]) ∧ w' = w := by
  have h1 := bits_and32 n hn
  have h2 : (n : Int) / 4294967296 = 0 := by omega
  have h3 : (0 : Int) ≤ (n : Int) := by omega
  have h4 : bits .and .u64 1 4294967295 = 1 := bits_and32 1 (by omega)
  have h5 : bits .and .u64 0 4294967295 = 0 := bits_and32 0 (by omega)
  have h6 : IntKind.u64.wrap (n : Int) = n := by rw [IntKind.wrap_u64]; omega
  have h7 : IntKind.u64.wrap 0 = 0 := by decide
  go_enter Tryz.func129, Tryz.ntmps129
  go_wp2
  go_ret2
  exact ⟨rfl, rfl⟩
set_option maxHeartbeats 1000000 in
theorem bmul_any (n : Nat) (w : World) (hn : n < 4294967296) :
    Calls Tryz.prog 87 #[.int .u64 1, .int .u64 (n : Int)] w fun e w' => e = .returned (.tuple #[.int .u64 0, .int .u64 (n : Int)]) ∧ w' = w := by
  have S : Hid (∀ w, Calls Tryz.prog 129 #[.int .u64 1, .int .u64 (n : Int)] w fun e w' => e = .returned (.tuple #[.int .u64 0, .int .u64 (n : Int)]) ∧ w' = w) := fun w => mul64_any n w hn
  have h3 : (0 : Int) ≤ (n : Int) := by omega
  go_enter Tryz.func87, Tryz.ntmps87
  go_wp2_with (go_at_call 129; refine (S.out _).mono ?_; rintro e w' ⟨rfl, hw⟩; obtain rfl := hw.symm)
  go_ret2
  exact ⟨rfl, rfl⟩
def Pre (w : World) (d n k : Nat) (x : Int) : Prop := (∀ t, t < k → w.cell? ⟨d, t, none⟩ = some (.int .u8 x)) ∧ w.there d 0 n
theorem gb_rep (k t : Nat) (x : Int) (h : t < k) : gb (List.replicate k x) t = x := by simp [gb, List.getD, h]
theorem Pre.byt {w : World} {d n k : Nat} {x : Int} (h : Pre w d n k x) (hx : 0 ≤ x ∧ x ≤ 255) (m c : Nat) (hm : m ≤ k) (hc : m ≤ c) (hc' : c ≤ 9223372036854775807) : Byt w (.slice (some ⟨d, 0, none⟩) m c) (List.replicate m x) :=
  ⟨some ⟨d, 0, none⟩, c, by rw [List.length_replicate], by rw [List.length_replicate]; exact hc, hc', allB_mem (fun y hy => by rw [List.eq_of_mem_replicate hy]; exact hx), (by intro h; cases h), fun _ => ⟨d, 0, rfl, fun t ht => by
    rw [List.length_replicate] at ht
    rw [gb_rep m t x ht, Nat.zero_add]; exact h.1 t (by omega)⟩⟩
theorem Pre.ar {w : World} {d n : Nat} {x : Int} (h : Pre w d n n x) : Ar w d 0 .u8 (List.replicate n x) := Ar.mk fun i hi => by
  rw [List.length_replicate] at hi
  have := h.2 i hi
  rw [gb_rep n i x hi]
  rw [Nat.zero_add] at this ⊢
  exact ⟨h.1 i hi, this.2⟩
theorem Pre.grow {w : World} {d n k : Nat} {x : Int} (h : Pre w d n k x) (m : Nat) (hm : k + m ≤ n) : Pre (w.setCells d k ((List.replicate m x).map (Value.int .u8))) d n (k + m) x := by
  have ht : w.there d k ((List.replicate m x).map (Value.int .u8)).length := fun j hj => by
    have := h.2 (k + j) (by simp at hj; omega)
    rwa [Nat.zero_add] at this
  refine ⟨fun t htk => ?_, World.there_setCells h.2 _ _ _⟩
  rcases Nat.lt_or_ge t k with q | q
  · have hr : w.rangeAt d t [.int .u8 x] := fun j v hv => by
      match j, hv with
      | 0, hv => simp at hv; subst hv; exact h.1 t q
      | j + 1, hv => simp at hv
    have := World.rangeAt_setCells_apart hr d k ((List.replicate m x).map (Value.int .u8)) (by right; left; simp; omega)
    exact this 0 _ rfl
  · have := World.rangeAt_setCells_same w d k ((List.replicate m x).map (Value.int .u8)) ht (t - k) (.int .u8 x) (by rw [List.getElem?_map, List.getElem?_replicate, if_pos (by omega)]; rfl)
    rwa [show k + (t - k) = t by omega] at this
theorem copy_lawN {ops : Array Oper} {rest : List Oper} {o : Oper} {a : Act} {Q : Exit → Act → World → Prop} (w : World) (hg : o.guard = none) (x y : Operand) (hop : o.op = .call { callee := .builtin .copy, args := #[x, y], argTypes := #[26, 26] })
    (b p n dc : Nat) (v : Value) (ys : List Int) (hx : a.eval x = .slice (some ⟨b, p, none⟩) n dc) (hy : a.eval y = v) (hb : Byt w v ys) (ht : w.there b p (min ys.length n)) 
    (hK : ∀ w', Hid (w' = w.setCells b p ((ys.take n).map (Value.int .u8))) → wpList Tryz.prog ops Q rest (a.put o.dst (.int .i64 ((min ys.length n : Nat) : Int))) w') :
    wpList Tryz.prog ops Q (o :: rest) a w := by
  refine wpList_plain hg fun K hK' => ?_
  obtain ⟨ao, cap, rfl, h1, h2, h3, h4, h5⟩ := hb
  have hrun := run_copyG w b p n dc ao ys cap o.type h5 ht
  unfold Oper.wp execOp
  simp only [hop, resolve, invoke, builtin, Sem.run_bind, Sem.run_pure, Result.andThen_ok, List.map_toArray, List.map_cons, List.map_nil, hx, hy, hrun]
  exact hK' _ _ (hK _ rfl)
theorem step_copyN {ops : Array Oper} {o : Oper} {a : Act} {Q : Exit → Act → World → Prop} {K : Act → World → Prop} {E : Prop} (w : World) (hg : o.guard = none) (d : Option Tmp) (hd : o.dst = d) (x y : Operand) (hop : o.op = .call { callee := .builtin .copy, args := #[x, y], argTypes := #[26, 26] })
    (b p n dc : Nat) (v : Value) (ys : List Int) (hx : a.eval x = .slice (some ⟨b, p, none⟩) n dc) (hy : a.eval y = v) (hb : Byt w v ys) (ht : w.there b p (min ys.length n)) 
    (hK : ∀ w', Hid (w' = w.setCells b p ((ys.take n).map (Value.int .u8))) → K (a.put d (.int .i64 ((min ys.length n : Nat) : Int))) w') :
    if Region.wanted o (yielded ops a.tmps) = true then Oper.wp Tryz.prog o a w K Q else E := by
  have hw : Region.wanted o (yielded ops a.tmps) = true := by simp [Region.wanted, hg]
  rw [if_pos hw]
  subst hd
  obtain ⟨ao, cap, rfl, h1, h2, h3, h4, h5⟩ := hb
  have hrun := run_copyG w b p n dc ao ys cap o.type h5 ht
  unfold Oper.wp execOp
  simp only [hop, resolve, invoke, builtin, Sem.run_bind, Sem.run_pure, Result.andThen_ok, List.map_toArray, List.map_cons, List.map_nil, hx, hy, hrun]
  exact hK _ rfl
theorem y_add {ops : Array Oper} {o : Oper} {a : Act} (hw : Region.wanted o (yielded ops a.tmps) = true) (x y : Operand) (hop : o.op = Op.binOp .add 3 x y 3) (A B q : Int) (hx : a.eval x = .int .i64 A) (hy : a.eval y = .int .i64 B) (hq : IntKind.i64.wrap (A + B) = q) : Yields Tryz.prog ops o (.int .i64 q) a := by
  refine Or.inl ⟨hw, fun w => ?_⟩
  subst hq
  unfold execOp
  simp only [hop, hx, hy]
  rfl
set_option maxHeartbeats 4000000 in
theorem repeat_any (b : Nat) (x : Int) (n : Nat) (w : World) (hb : w.cell? ⟨b, 0, none⟩ = some (.int .u8 x)) (hx : 0 ≤ x ∧ x ≤ 255) (h1 : 1 ≤ n) (hn : n ≤ 16777216) :
    Calls Tryz.prog 49 #[.slice (some ⟨b, 0, none⟩) 1 1, .int .i64 (n : Int)] w fun e w' => e = .returned (.slice (some ⟨w.heap.size, 0, none⟩) n n) ∧ Ar w' w.heap.size 0 .u8 (List.replicate n x) ∧ Below w.heap.size w w' ∧ w.heap.size < w'.heap.size := by
  have S : Hid (∀ w, Calls Tryz.prog 87 #[.int .u64 1, .int .u64 (n : Int)] w fun e w' => e = .returned (.tuple #[.int .u64 0, .int .u64 (n : Int)]) ∧ w' = w) := fun w => bmul_any n w (by omega)
  obtain ⟨cs, hrunM, hle, hmx⟩ := Lib.run_makeNoZero (P := Tryz.prog) w #[3] 26 5 Tryz.underlying26 n (by omega)
  have hcall : (callFunc 88 #[.int .i64 (n : Int)]).run Tryz.prog w = .ok (.value (.slice (some ⟨w.heap.size, 0, none⟩) n cs.size)) ((w.alloc (.cells cs 5)).drewN 2) := by
    rw [run_callFunc_extern Tryz.func88 (by kernel_rfl) (by kernel_rfl) (by kernel_rfl) (e := Extern.BytealgMakeNoZero.makeNoZero #[3] #[26]) (by kernel_rfl), hrunM]
    rfl
  clear hrunM
  have hb' : Hid (Byt ((w.alloc (.cells cs 5)).drewN 2) (.slice (some ⟨b, 0, none⟩) 1 1) [x]) := by
    have lb := World.block_lt_of_cell? w _ hb
    refine ⟨some ⟨b, 0, none⟩, 1, rfl, by simp, by omega, allB_mem (by intro y hy; simp at hy; subst hy; exact hx), (by intro h; cases h), fun _ => ⟨b, 0, rfl, fun t ht => ?_⟩⟩
    have : t = 0 := by simpa using ht
    subst this
    exact (((Below.refl w.heap.size w).alloc (Nat.le_refl _) (.cells cs 5)).cell lb).trans hb
  have HT : Hid (((w.alloc (.cells cs 5)).drewN 2).there w.heap.size 0 n) := fun j hj => by
    have e := cell_of_row (w.alloc (.cells cs 5)) w.heap.size (0 + j) _ 5 (0, 0) (heap_alloc_last w _)
    refine ⟨?_, World.frozen?_alloc_at _ _ _ _ rfl⟩
    show ((w.alloc (.cells cs 5)).cell? ⟨w.heap.size, 0 + j, none⟩).isSome = true
    rw [e, Nat.zero_add, Array.getElem?_eq_getElem (by omega)]; rfl
  have HB : Hid (Below w.heap.size w ((w.alloc (.cells cs 5)).drewN 2)) := below_drawn ((Below.refl w.heap.size w).alloc (Nat.le_refl _) _) 2
  have HZ : Hid (w.heap.size < ((w.alloc (.cells cs 5)).drewN 2).heap.size) := by show w.heap.size < (w.alloc (.cells cs 5)).heap.size; simp
  have i0 : (0 : Int) ≤ (n : Int) := by omega
  have i1 : (n : Int) ≤ (cs.size : Int) := by omega
  have i2 : ¬ ((n : Int) = 0) := by omega
  have i3 : ((n : Int) == 0) = false := beq_eq_false_iff_ne.2 i2
  have i4 : IntKind.u64.wrap (n : Int) = n := by rw [IntKind.wrap_u64]; omega
  have i5 : IntKind.i64.wrap (n : Int) = n := by rw [IntKind.wrap_i64]; omega
  clear hb
  have t0 : (0 : Nat) = 0 := rfl
  go_enter Tryz.func49, Tryz.ntmps49
  go_wp2_with (first
    | (have q1 := t0; go_at_call 87; refine (S.out _).mono ?_; rintro e w' ⟨rfl, hw⟩; obtain rfl := hw.symm; clear t0)
    | (refine copy_lawN _ rfl (.tmp 58) (.tmp 59) rfl w.heap.size 0 n n _ [x] rfl rfl hb'.out (fun j hj => HT.out j (by simp at hj; omega)) ?_; intro w1 e1; have HE : Hid (w1 = ((w.alloc (.cells cs 5)).drewN 2).setCells w.heap.size 0 (([x].take n).map (Value.int .u8))) := e1; clear e1))
  all_goals (
    have HP1 : Hid (Pre w1 w.heap.size n 1 x) := by
      have h0 : Pre ((w.alloc (.cells cs 5)).drewN 2) w.heap.size n 0 x := ⟨fun t ht => by omega, HT.out⟩
      have := h0.grow 1 (by omega)
      have e1 : ([x].take n).map (Value.int .u8) = (List.replicate 1 x).map (Value.int .u8) := by rw [List.take_of_length_le (by simp; omega)]; rfl
      rw [← e1, ← HE.out] at this
      exact this
    have HB1 : Hid (Below w.heap.size w w1) := by rw [HE.out]; exact below_cells _ (Nat.le_refl _) _ _ HB.out
    have HZ1 : Hid (w.heap.size < w1.heap.size) := by
      have := below_cells w.heap.size (Nat.le_refl _) (([x].take n).map (Value.int .u8)) 0 (Below.refl w.heap.size ((w.alloc (.cells cs 5)).drewN 2))
      rw [← HE.out] at this
      exact Nat.lt_of_lt_of_le HZ.out this.size
    clear HE hb' HT HB HZ hcall
    go_loopw [10] (fun i wr => ∃ k : Nat, 1 ≤ k ∧ k ≤ n ∧ i = .int .i64 k ∧ Hid (Pre wr w.heap.size n k x) ∧ Hid (Below w.heap.size w wr) ∧ Hid (w.heap.size < wr.heap.size)) (fun i _ => n - (intOf i).toNat)
    case atStart => exact ⟨1, by omega, h1, rfl, HP1, HB1, HZ1⟩
    case round =>
      obtain ⟨k, hk1, hk, rfl, HP, HBk, HZk⟩ := hrel
      have k0 : (0 : Int) ≤ (k : Int) := by omega
      have k2 : (k : Int) ≤ (n : Int) := by omega
      by_cases hlt : k < n
      · have k1 : (k : Int) < (n : Int) := by omega
        have hne : ¬ (n = k) := by omega
        go_wp2
        all_goals (
          first
          | (have j1 : (8192 : Int) ≤ (n : Int) := by omega
             have j2 : (0 : Int) ≤ 8192 := by omega)
          | skip
          refine wp_region_any (by kernel_rfl) ?_
          change wpAny _ _ _ _ _ _ _ (World.drew _)
          refine take_lawG 0 (some 67) (.int .i64 (k : Int)) rfl rfl (by kernel_rfl) (by kernel_rfl) (by kernel_rfl) (fun _ _ _ h => h) (Or.inl ⟨by rfl, fun w => by rfl⟩) ?_
          simp only [Act.put, List.setIfInBounds_toArray, List.set_cons_zero, List.set_cons_succ]
          refine wpAny_quiet_then (C := fun w' => ∃ n, w' = wr.drewN n) 1 7 3 _ (by kernel_rfl) rfl (by kernel_rfl) (by kernel_rfl) ⟨1, rfl⟩ ?_
          simp only [List.take_succ_cons, List.take_zero, List.drop_succ_cons, List.drop_zero]
          repeat (quiet_step (fail))
          refine wpQuiet_nil ?_
          rintro f _ ⟨nq, rfl⟩
          first
          | (have HP2 : Hid (Pre (wr.drewN nq) w.heap.size n k x) := HP.out
             obtain ⟨m, hm, hmk, hmn⟩ : ∃ m : Nat, ((min (List.replicate k x).length (n - k) : Nat) = m) ∧ 1 ≤ m ∧ k + m ≤ n := ⟨_, rfl, by rw [List.length_replicate]; omega, by omega⟩
             have hk8 : (k : Nat) ≤ k := by omega
             refine wpAny_ready (rs := [7]) (by kernel_rfl) (by simp) ?_
             refine AllReady.cons rfl (fun K hK => ?_) AllReady.nil
             refine step_copyN _ rfl (some 74) rfl (.tmp 70) (.tmp 73) rfl w.heap.size k (n - k) (n - k) (.slice (some ⟨w.heap.size, 0, none⟩) k n) (List.replicate k x) rfl rfl (HP2.out.byt hx k n hk8 (by omega) (by omega)) (fun j hj => ?_) ?_
             · have := HP2.out.2 (k + j) (by omega)
               rwa [Nat.zero_add] at this
             intro w5 e5
             have HP5 : Hid (Pre w5 w.heap.size n (k + m) x) := by
               have := HP2.out.grow m hmn
               have e6 : (List.replicate k x).take (n - k) = List.replicate m x := by rw [List.take_replicate, ← hm, List.length_replicate, Nat.min_comm]
               have e7 := e5.out
               rw [e6] at e7
               rw [e7]; exact this
             have HB5 : Hid (Below w.heap.size w w5) := by rw [e5.out]; exact below_cells _ (Nat.le_refl _) _ _ (below_drawn HBk.out nq)
             have HZ5 : Hid (w.heap.size < w5.heap.size) := Nat.lt_of_lt_of_le HZk.out (by
               have := below_cells w.heap.size (Nat.le_refl _) (((List.replicate k x).take (n - k)).map (Value.int .u8)) k (Below.refl w.heap.size (wr.drewN nq))
               rw [← e5.out] at this
               exact this.size)
             clear e5
             refine hK _ _ ?_
             rw [hm]
             have q9 : IntKind.i64.wrap ((k : Int) + (m : Int)) = (k : Int) + m := by rw [IntKind.wrap_i64]; omega
             simp only [Act.put, List.setIfInBounds_toArray, List.set_cons_zero, List.set_cons_succ]
             refine take_lawG 8 (some 75) (.int .i64 ((k : Int) + m)) rfl rfl (by kernel_rfl) (by kernel_rfl) (by kernel_rfl) (fun _ _ _ h => h) (y_add (by rfl) (.tmp 67) (.tmp 74) rfl (k : Int) (m : Int) _ rfl rfl q9) ?_
             simp only [Act.put, List.setIfInBounds_toArray, List.set_cons_zero, List.set_cons_succ]
             refine take_lawG 9 (some 10) (.int .i64 ((k : Int) + m)) rfl rfl (by kernel_rfl) (by kernel_rfl) (by kernel_rfl) (fun _ _ _ h => h) (Or.inl ⟨by rfl, fun w => by rfl⟩) ?_
             simp only [Act.put, List.setIfInBounds_toArray, List.set_cons_zero, List.set_cons_succ]
             refine wpAny_done (by kernel_rfl) ?_ _
             go_wp2
             go_roundw
             case rel => exact ⟨k + m, by omega, hmn, by go_num, HP5, HB5, HZ5⟩
             case measure => simp [intOf]; omega)
          | (have HP2 : Hid (Pre (wr.drewN nq) w.heap.size n k x) := HP.out
             obtain ⟨m, hm, hmk, hmn⟩ : ∃ m : Nat, ((min (List.replicate 8192 x).length (n - k) : Nat) = m) ∧ 1 ≤ m ∧ k + m ≤ n := ⟨_, rfl, by rw [List.length_replicate]; omega, by omega⟩
             have hk8 : (8192 : Nat) ≤ k := by omega
             refine wpAny_ready (rs := [7]) (by kernel_rfl) (by simp) ?_
             refine AllReady.cons rfl (fun K hK => ?_) AllReady.nil
             refine step_copyN _ rfl (some 74) rfl (.tmp 70) (.tmp 73) rfl w.heap.size k (n - k) (n - k) (.slice (some ⟨w.heap.size, 0, none⟩) 8192 n) (List.replicate 8192 x) rfl rfl (HP2.out.byt hx 8192 n hk8 (by omega) (by omega)) (fun j hj => ?_) ?_
             · have := HP2.out.2 (k + j) (by omega)
               rwa [Nat.zero_add] at this
             intro w5 e5
             have HP5 : Hid (Pre w5 w.heap.size n (k + m) x) := by
               have := HP2.out.grow m hmn
               have e6 : (List.replicate 8192 x).take (n - k) = List.replicate m x := by rw [List.take_replicate, ← hm, List.length_replicate, Nat.min_comm]
               have e7 := e5.out
               rw [e6] at e7
               rw [e7]; exact this
             have HB5 : Hid (Below w.heap.size w w5) := by rw [e5.out]; exact below_cells _ (Nat.le_refl _) _ _ (below_drawn HBk.out nq)
             have HZ5 : Hid (w.heap.size < w5.heap.size) := Nat.lt_of_lt_of_le HZk.out (by
               have := below_cells w.heap.size (Nat.le_refl _) (((List.replicate 8192 x).take (n - k)).map (Value.int .u8)) k (Below.refl w.heap.size (wr.drewN nq))
               rw [← e5.out] at this
               exact this.size)
             clear e5
             refine hK _ _ ?_
             rw [hm]
             have q9 : IntKind.i64.wrap ((k : Int) + (m : Int)) = (k : Int) + m := by rw [IntKind.wrap_i64]; omega
             simp only [Act.put, List.setIfInBounds_toArray, List.set_cons_zero, List.set_cons_succ]
             refine take_lawG 8 (some 75) (.int .i64 ((k : Int) + m)) rfl rfl (by kernel_rfl) (by kernel_rfl) (by kernel_rfl) (fun _ _ _ h => h) (y_add (by rfl) (.tmp 67) (.tmp 74) rfl (k : Int) (m : Int) _ rfl rfl q9) ?_
             simp only [Act.put, List.setIfInBounds_toArray, List.set_cons_zero, List.set_cons_succ]
             refine take_lawG 9 (some 10) (.int .i64 ((k : Int) + m)) rfl rfl (by kernel_rfl) (by kernel_rfl) (by kernel_rfl) (fun _ _ _ h => h) (Or.inl ⟨by rfl, fun w => by rfl⟩) ?_
             simp only [Act.put, List.setIfInBounds_toArray, List.set_cons_zero, List.set_cons_succ]
             refine wpAny_done (by kernel_rfl) ?_ _
             go_wp2
             go_roundw
             case rel => exact ⟨k + m, by omega, hmn, by go_num, HP5, HB5, HZ5⟩
             case measure => simp [intOf]; omega))
      · have e : k = n := by omega
        subst e
        go_wp2
        go_ret
        exact ⟨rfl, HP.out.ar, HBk.out, HZk.out⟩)
end Go.Proofs.YtmbgokmomkmgcaaGreatDoor.na
namespace Go.Proofs.YtmbgokmomkmgcaaGreatDoor.ck
open Go.RowKit
set_option maxRecDepth 20000
theorem info_row:(Tryz.prog.info? 26).map (fun i=>(i.zero,i.size,i.bytes))=some (some (.slice none 0 0),1,24):=by kernel_rfl
section
variable {ops:Array Oper} {rest:List Oper} {o:Oper} {a:Act} {Q:Exit→Act→World→Prop} {K:Act→World→Prop} {E:Prop}
end
end Go.Proofs.YtmbgokmomkmgcaaGreatDoor.ck
