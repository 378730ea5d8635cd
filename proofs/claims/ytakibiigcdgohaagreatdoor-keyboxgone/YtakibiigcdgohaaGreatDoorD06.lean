/- Parts of the proof: what KeyboxGone reaches. No claim of its own. -/
import Derived.Lib.MakeNoZero
import Derived.Deep.WholeRow
import Derived.Deep.MidRow
import Derived.Laws.StructEq
import Derived.WalkKit
import Derived.Deep.QuietTactic
import Derived.Laws.AppendOwnNone
import Derived.Deep.RegionHeld3
import Derived.WalkSmall
import Derived.ProofKit
import Derived.OpenShut
import Derived.BigQuiet
import Derived.Deep.DeepCutAuto
import Derived.ArgAppend
import Derived.Lib.SliceRun
import Derived.Test.YtakibiigcdgohaaGreatDoorD00
import Derived.Test.YtakibiigcdgohaaGreatDoorD01
import Derived.Test.YtakibiigcdgohaaGreatDoorD02
import Derived.Test.YtakibiigcdgohaaGreatDoorD03
import Derived.Test.YtakibiigcdgohaaGreatDoorD04
import Derived.Test.YtakibiigcdgohaaGreatDoorD05
set_option maxHeartbeats 8000000
namespace Go.Proofs.YtakibiigcdgohaaGreatDoor.na
open Go.RowKit Go.Proofs.YtakibiigcdgohaaGreatDoor.fa
set_option maxRecDepth 20000
theorem and32 (n : Nat) (h : n < 4294967296) : n &&& 4294967295 = n := by
  have : (4294967295 : Nat) = 2 ^ 32 - 1 := by decide
  rw [this, Nat.and_two_pow_sub_one_eq_mod, Nat.mod_eq_of_lt (by omega)]
theorem bits_and32 (n : Nat) (h : n < 4294967296) : bits .and .u64 (n : Int) 4294967295 = n := by
  have := u64_and_nat n 4294967295 (by omega) (by omega)
  rw [and32 n h] at this
  exact this
theorem mul64_any (n : Nat) (w : World) (hn : n < 4294967296) :
    Calls Tryz.prog 78 #[.int .u64 1, .int .u64 (n : Int)] w fun e w' => e = .returned (.tuple #[.int .u64 0, .int .u64 (n : Int)]) ∧ w' = w := by
  have h1 := bits_and32 n hn
  have h2 : (n : Int) / 4294967296 = 0 := by omega
  have h3 : (0 : Int) ≤ (n : Int) := by omega
  have h4 : bits .and .u64 1 4294967295 = 1 := bits_and32 1 (by omega)
  have h5 : bits .and .u64 0 4294967295 = 0 := bits_and32 0 (by omega)
  have h6 : IntKind.u64.wrap (n : Int) = n := by rw [IntKind.wrap_u64]; omega
  have h7 : IntKind.u64.wrap 0 = 0 := by decide
  go_enter Tryz.func78, Tryz.ntmps78
  go_wp2
  go_ret2
  exact ⟨rfl, rfl⟩
theorem bmul_any (n : Nat) (w : World) (hn : n < 4294967296) :
    Calls Tryz.prog 60 #[.int .u64 1, .int .u64 (n : Int)] w fun e w' => e = .returned (.tuple #[.int .u64 0, .int .u64 (n : Int)]) ∧ w' = w := by
  have S : Hid (∀ w, Calls Tryz.prog 78 #[.int .u64 1, .int .u64 (n : Int)] w fun e w' => e = .returned (.tuple #[.int .u64 0, .int .u64 (n : Int)]) ∧ w' = w) := fun w => mul64_any n w hn
  have h3 : (0 : Int) ≤ (n : Int) := by omega
  go_enter Tryz.func60, Tryz.ntmps60
  go_wp2_with (go_at_call 78; refine (S.out _).mono ?_; rintro e w' ⟨rfl, hw⟩; obtain rfl := hw.symm)
  go_ret2
  exact ⟨rfl, rfl⟩
def Pre (w : World) (d n k : Nat) (x : Int) : Prop := (∀ t, t < k → w.cell? ⟨d, t, none⟩ = some (.int .u8 x)) ∧ w.there d 0 n
theorem gb_rep (k t : Nat) (x : Int) (h : t < k) : gb (List.replicate k x) t = x := by simp [gb, List.getD, h]
theorem Pre.byt {w : World} {d n k : Nat} {x : Int} (h : Pre w d n k x) (hx : 0 ≤ x ∧ x ≤ 255) (m c : Nat) (hm : m ≤ k) (hc : m ≤ c) (hc' : c ≤ 9223372036854775807) : Byt w (.slice (some ⟨d, 0, none⟩) m c) (List.replicate m x) :=
  ⟨some ⟨d, 0, none⟩, c, by rw [List.length_replicate], by rw [List.length_replicate]; exact hc, hc', allB_mem (fun y hy => by rw [List.eq_of_mem_replicate hy]; exact hx), (by intro h; cases h), fun _ => ⟨d, 0, rfl, fun t ht => by
    rw [List.length_replicate] at ht
    rw [gb_rep m t x ht, Nat.zero_add]; exact h.1 t (by omega)⟩⟩
theorem Pre.ar {w : World} {d n : Nat} {x : Int} (h : Pre w d n n x) : Ar w d 0 .u8 (List.replicate n x) := Ar.mk fun i hi => by
  rw [List.length_replicate] at hi
  have := h.2 i hi
  rw [gb_rep n i x hi]
  rw [Nat.zero_add] at this ⊢
  exact ⟨h.1 i hi, this.2⟩
theorem Pre.grow {w : World} {d n k : Nat} {x : Int} (h : Pre w d n k x) (m : Nat) (hm : k + m ≤ n) : Pre (w.setCells d k ((List.replicate m x).map (Value.int .u8))) d n (k + m) x := by
  have ht : w.there d k ((List.replicate m x).map (Value.int .u8)).length := fun j hj => by
    have := h.2 (k + j) (by simp at hj; omega)
    rwa [Nat.zero_add] at this
  refine ⟨fun t htk => ?_, World.there_setCells h.2 _ _ _⟩
  rcases Nat.lt_or_ge t k with q | q
  · have hr : w.rangeAt d t [.int .u8 x] := fun j v hv => by
      match j, hv with
      | 0, hv => simp at hv; subst hv; exact h.1 t q
      | j + 1, hv => simp at hv
    have := World.rangeAt_setCells_apart hr d k ((List.replicate m x).map (Value.int .u8)) (by right; left; simp; omega)
    exact this 0 _ rfl
  · have := World.rangeAt_setCells_same w d k ((List.replicate m x).map (Value.int .u8)) ht (t - k) (.int .u8 x) (by rw [List.getElem?_map, List.getElem?_replicate, if_pos (by omega)]; rfl)
    rwa [show k + (t - k) = t by omega] at this
theorem copy_lawN {ops : Array Oper} {rest : List Oper} {o : Oper} {a : Act} {Q : Exit → Act → World → Prop} (w : World) (hg : o.guard = none) (x y : Operand) (hop : o.op = .call { callee := .builtin .copy, args := #[x, y], argTypes := #[35, 35] })
    (b p n dc : Nat) (v : Value) (ys : List Int) (hx : a.eval x = .slice (some ⟨b, p, none⟩) n dc) (hy : a.eval y = v) (hb : Byt w v ys) (ht : w.there b p (min ys.length n)) 
    (hK : ∀ w', Hid (w' = w.setCells b p ((ys.take n).map (Value.int .u8))) → wpList Tryz.prog ops Q rest (a.put o.dst (.int .i64 ((min ys.length n : Nat) : Int))) w') :
    wpList Tryz.prog ops Q (o :: rest) a w := by
  refine wpList_plain hg fun K hK' => ?_
  obtain ⟨ao, cap, rfl, h1, h2, h3, h4, h5⟩ := hb
  have hrun := run_copyG w b p n dc ao ys cap o.type h5 ht
  unfold Oper.wp execOp
  simp only [hop, resolve, invoke, builtin, Sem.run_bind, Sem.run_pure, Result.andThen_ok, List.map_toArray, List.map_cons, List.map_nil, hx, hy, hrun]
  exact hK' _ _ (hK _ rfl)
theorem step_copyN {ops : Array Oper} {o : Oper} {a : Act} {Q : Exit → Act → World → Prop} {K : Act → World → Prop} {E : Prop} (w : World) (hg : o.guard = none) (d : Option Tmp) (hd : o.dst = d) (x y : Operand) (hop : o.op = .call { callee := .builtin .copy, args := #[x, y], argTypes := #[35, 35] })
    (b p n dc : Nat) (v : Value) (ys : List Int) (hx : a.eval x = .slice (some ⟨b, p, none⟩) n dc) (hy : a.eval y = v) (hb : Byt w v ys) (ht : w.there b p (min ys.length n)) 
    (hK : ∀ w', Hid (w' = w.setCells b p ((ys.take n).map (Value.int .u8))) → K (a.put d (.int .i64 ((min ys.length n : Nat) : Int))) w') :
    if Region.wanted o (yielded ops a.tmps) = true then Oper.wp Tryz.prog o a w K Q else E := by
  have hw : Region.wanted o (yielded ops a.tmps) = true := by simp [Region.wanted, hg]
  rw [if_pos hw]
  subst hd
  obtain ⟨ao, cap, rfl, h1, h2, h3, h4, h5⟩ := hb
  have hrun := run_copyG w b p n dc ao ys cap o.type h5 ht
  unfold Oper.wp execOp
  simp only [hop, resolve, invoke, builtin, Sem.run_bind, Sem.run_pure, Result.andThen_ok, List.map_toArray, List.map_cons, List.map_nil, hx, hy, hrun]
  exact hK _ rfl
theorem y_add {ops : Array Oper} {o : Oper} {a : Act} (hw : Region.wanted o (yielded ops a.tmps) = true) (x y : Operand) (hop : o.op = Op.binOp .add 3 x y 3) (A B q : Int) (hx : a.eval x = .int .i64 A) (hy : a.eval y = .int .i64 B) (hq : IntKind.i64.wrap (A + B) = q) : Yields Tryz.prog ops o (.int .i64 q) a := by
  refine Or.inl ⟨hw, fun w => ?_⟩
  subst hq
  unfold execOp
  simp only [hop, hx, hy]
  rfl
theorem repeat_any (b : Nat) (x : Int) (n : Nat) (w : World) (hb : w.cell? ⟨b, 0, none⟩ = some (.int .u8 x)) (hx : 0 ≤ x ∧ x ≤ 255) (h1 : 1 ≤ n) (hn : n ≤ 16777216) :
    Calls Tryz.prog 36 #[.slice (some ⟨b, 0, none⟩) 1 1, .int .i64 (n : Int)] w fun e w' => e = .returned (.slice (some ⟨w.heap.size, 0, none⟩) n n) ∧ Ar w' w.heap.size 0 .u8 (List.replicate n x) ∧ Below w.heap.size w w' ∧ w.heap.size < w'.heap.size := by
  have S : Hid (∀ w, Calls Tryz.prog 60 #[.int .u64 1, .int .u64 (n : Int)] w fun e w' => e = .returned (.tuple #[.int .u64 0, .int .u64 (n : Int)]) ∧ w' = w) := fun w => bmul_any n w (by omega)
  obtain ⟨cs, hrunM, hle, hmx⟩ := Lib.run_makeNoZero (P := Tryz.prog) w #[3] 35 5 Tryz.underlying35 n (by omega)
  have hcall : (callFunc 61 #[.int .i64 (n : Int)]).run Tryz.prog w = .ok (.value (.slice (some ⟨w.heap.size, 0, none⟩) n cs.size)) ((w.alloc (.cells cs 5)).drewN 2) := by
    rw [run_callFunc_extern Tryz.func61 (by kernel_rfl) (by kernel_rfl) (by kernel_rfl) (e := Extern.BytealgMakeNoZero.makeNoZero #[3] #[35]) (by kernel_rfl), hrunM]
    rfl
  clear hrunM
  have hb' : Hid (Byt ((w.alloc (.cells cs 5)).drewN 2) (.slice (some ⟨b, 0, none⟩) 1 1) [x]) := by
    have lb := World.block_lt_of_cell? w _ hb
    refine ⟨some ⟨b, 0, none⟩, 1, rfl, by simp, by omega, allB_mem (by intro y hy; simp at hy; subst hy; exact hx), (by intro h; cases h), fun _ => ⟨b, 0, rfl, fun t ht => ?_⟩⟩
    have : t = 0 := by simpa using ht
    subst this
    exact (((Below.refl w.heap.size w).alloc (Nat.le_refl _) (.cells cs 5)).cell lb).trans hb
  have HT : Hid (((w.alloc (.cells cs 5)).drewN 2).there w.heap.size 0 n) := fun j hj => by
    have e := cell_of_row (w.alloc (.cells cs 5)) w.heap.size (0 + j) _ 5 (0, 0) (heap_alloc_last w _)
    refine ⟨?_, World.frozen?_alloc_at _ _ _ _ rfl⟩
    show ((w.alloc (.cells cs 5)).cell? ⟨w.heap.size, 0 + j, none⟩).isSome = true
    rw [e, Nat.zero_add, Array.getElem?_eq_getElem (by omega)]; rfl
  have HB : Hid (Below w.heap.size w ((w.alloc (.cells cs 5)).drewN 2)) := below_drawn ((Below.refl w.heap.size w).alloc (Nat.le_refl _) _) 2
  have HZ : Hid (w.heap.size < ((w.alloc (.cells cs 5)).drewN 2).heap.size) := by show w.heap.size < (w.alloc (.cells cs 5)).heap.size; simp
  have i0 : (0 : Int) ≤ (n : Int) := by omega
  have i1 : (n : Int) ≤ (cs.size : Int) := by omega
  have i2 : ¬ ((n : Int) = 0) := by omega
  have i3 : ((n : Int) == 0) = false := beq_eq_false_iff_ne.2 i2
  have i4 : IntKind.u64.wrap (n : Int) = n := by rw [IntKind.wrap_u64]; omega
  have i5 : IntKind.i64.wrap (n : Int) = n := by rw [IntKind.wrap_i64]; omega
  clear hb
  have t0 := tR
  go_enter Tryz.func36, Tryz.ntmps36
  go_wp2_with (first
    | (have q1 := t0; go_at_call 60; refine (S.out _).mono ?_; rintro e w' ⟨rfl, hw⟩; obtain rfl := hw.symm; clear t0)
    | (refine copy_lawN _ rfl (.tmp 58) (.tmp 59) rfl w.heap.size 0 n n _ [x] rfl rfl hb'.out (fun j hj => HT.out j (by simp at hj; omega)) ?_; intro w1 e1; have HE : Hid (w1 = ((w.alloc (.cells cs 5)).drewN 2).setCells w.heap.size 0 (([x].take n).map (Value.int .u8))) := e1; clear e1))
  all_goals (
    have HP1 : Hid (Pre w1 w.heap.size n 1 x) := by
      have h0 : Pre ((w.alloc (.cells cs 5)).drewN 2) w.heap.size n 0 x := ⟨fun t ht => by omega, HT.out⟩
      have := h0.grow 1 (by omega)
      have e1 : ([x].take n).map (Value.int .u8) = (List.replicate 1 x).map (Value.int .u8) := by rw [List.take_of_length_le (by simp; omega)]; rfl
      rw [← e1, ← HE.out] at this
      exact this
    have HB1 : Hid (Below w.heap.size w w1) := by rw [HE.out]; exact below_cells _ (Nat.le_refl _) _ _ HB.out
    have HZ1 : Hid (w.heap.size < w1.heap.size) := by
      have := below_cells w.heap.size (Nat.le_refl _) (([x].take n).map (Value.int .u8)) 0 (Below.refl w.heap.size ((w.alloc (.cells cs 5)).drewN 2))
      rw [← HE.out] at this
      exact Nat.lt_of_lt_of_le HZ.out this.size
    clear HE hb' HT HB HZ hcall
    go_loopw [10] (fun i wr => ∃ k : Nat, 1 ≤ k ∧ k ≤ n ∧ i = .int .i64 k ∧ Hid (Pre wr w.heap.size n k x) ∧ Hid (Below w.heap.size w wr) ∧ Hid (w.heap.size < wr.heap.size)) (fun i _ => n - (intOf i).toNat)
    case atStart => exact ⟨1, by omega, h1, rfl, HP1, HB1, HZ1⟩
    case round =>
      obtain ⟨k, hk1, hk, rfl, HP, HBk, HZk⟩ := hrel
      have k0 : (0 : Int) ≤ (k : Int) := by omega
      have k2 : (k : Int) ≤ (n : Int) := by omega
      by_cases hlt : k < n
      · have k1 : (k : Int) < (n : Int) := by omega
        have hne : ¬ (n = k) := by omega
        go_wp2
        all_goals (
          first
          | (have j1 : (8192 : Int) ≤ (n : Int) := by omega
             have j2 : (0 : Int) ≤ 8192 := by omega)
          | skip
          refine wp_region_any (by kernel_rfl) ?_
          change wpAny _ _ _ _ _ _ _ (World.drew _)
          refine take_lawG 0 (some 67) (.int .i64 (k : Int)) rfl rfl (by kernel_rfl) (by kernel_rfl) (by kernel_rfl) (fun _ _ _ h => h) (Or.inl ⟨by rfl, fun w => by rfl⟩) ?_
          simp only [Act.put, zE1, zE2, zE3]
          refine wpAny_quiet_then (C := fun w' => ∃ n, w' = wr.drewN n) 1 7 3 _ (by kernel_rfl) rfl (by kernel_rfl) (by kernel_rfl) ⟨1, rfl⟩ ?_
          simp only [List.take_succ_cons, List.take_zero, List.drop_succ_cons, List.drop_zero]
          repeat (quiet_step (fail))
          refine wpQuiet_nil ?_
          rintro f _ ⟨nq, rfl⟩
          first
          | (have HP2 : Hid (Pre (wr.drewN nq) w.heap.size n k x) := HP.out
             obtain ⟨m, hm, hmk, hmn⟩ : ∃ m : Nat, ((min (List.replicate k x).length (n - k) : Nat) = m) ∧ 1 ≤ m ∧ k + m ≤ n := ⟨_, rfl, by rw [List.length_replicate]; omega, by omega⟩
             have hk8 : (k : Nat) ≤ k := by omega
             refine wpAny_ready (rs := [7]) (by kernel_rfl) (by simp) ?_
             refine AllReady.cons rfl (fun K hK => ?_) AllReady.nil
             refine step_copyN _ rfl (some 74) rfl (.tmp 70) (.tmp 73) rfl w.heap.size k (n - k) (n - k) (.slice (some ⟨w.heap.size, 0, none⟩) k n) (List.replicate k x) rfl rfl (HP2.out.byt hx k n hk8 (by omega) (by omega)) (fun j hj => ?_) ?_
             · have := HP2.out.2 (k + j) (by omega)
               rwa [Nat.zero_add] at this
             intro w5 e5
             have HP5 : Hid (Pre w5 w.heap.size n (k + m) x) := by
               have := HP2.out.grow m hmn
               have e6 : (List.replicate k x).take (n - k) = List.replicate m x := by rw [List.take_replicate, ← hm, List.length_replicate, Nat.min_comm]
               have e7 := e5.out
               rw [e6] at e7
               rw [e7]; exact this
             have HB5 : Hid (Below w.heap.size w w5) := by rw [e5.out]; exact below_cells _ (Nat.le_refl _) _ _ (below_drawn HBk.out nq)
             have HZ5 : Hid (w.heap.size < w5.heap.size) := Nat.lt_of_lt_of_le HZk.out (by
               have := below_cells w.heap.size (Nat.le_refl _) (((List.replicate k x).take (n - k)).map (Value.int .u8)) k (Below.refl w.heap.size (wr.drewN nq))
               rw [← e5.out] at this
               exact this.size)
             clear e5
             refine hK _ _ ?_
             rw [hm]
             have q9 : IntKind.i64.wrap ((k : Int) + (m : Int)) = (k : Int) + m := by rw [IntKind.wrap_i64]; omega
             simp only [Act.put, zE1, zE2, zE3]
             refine take_lawG 8 (some 75) (.int .i64 ((k : Int) + m)) rfl rfl (by kernel_rfl) (by kernel_rfl) (by kernel_rfl) (fun _ _ _ h => h) (y_add (by rfl) (.tmp 67) (.tmp 74) rfl (k : Int) (m : Int) _ rfl rfl q9) ?_
             simp only [Act.put, zE1, zE2, zE3]
             refine take_lawG 9 (some 10) (.int .i64 ((k : Int) + m)) rfl rfl (by kernel_rfl) (by kernel_rfl) (by kernel_rfl) (fun _ _ _ h => h) (Or.inl ⟨by rfl, fun w => by rfl⟩) ?_
             simp only [Act.put, zE1, zE2, zE3]
             refine wpAny_done (by kernel_rfl) ?_ _
             go_wp2
             go_roundw
             case rel => exact ⟨k + m, by omega, hmn, by go_num, HP5, HB5, HZ5⟩
             case measure => simp [intOf]; omega)
          | (have HP2 : Hid (Pre (wr.drewN nq) w.heap.size n k x) := HP.out
             obtain ⟨m, hm, hmk, hmn⟩ : ∃ m : Nat, ((min (List.replicate 8192 x).length (n - k) : Nat) = m) ∧ 1 ≤ m ∧ k + m ≤ n := ⟨_, rfl, by rw [List.length_replicate]; omega, by omega⟩
             have hk8 : (8192 : Nat) ≤ k := by omega
             refine wpAny_ready (rs := [7]) (by kernel_rfl) (by simp) ?_
             refine AllReady.cons rfl (fun K hK => ?_) AllReady.nil
             refine step_copyN _ rfl (some 74) rfl (.tmp 70) (.tmp 73) rfl w.heap.size k (n - k) (n - k) (.slice (some ⟨w.heap.size, 0, none⟩) 8192 n) (List.replicate 8192 x) rfl rfl (HP2.out.byt hx 8192 n hk8 (by omega) (by omega)) (fun j hj => ?_) ?_
             · have := HP2.out.2 (k + j) (by omega)
               rwa [Nat.zero_add] at this
             intro w5 e5
             have HP5 : Hid (Pre w5 w.heap.size n (k + m) x) := by
               have := HP2.out.grow m hmn
               have e6 : (List.replicate 8192 x).take (n - k) = List.replicate m x := by rw [List.take_replicate, ← hm, List.length_replicate, Nat.min_comm]
               have e7 := e5.out
               rw [e6] at e7
               rw [e7]; exact this
             have HB5 : Hid (Below w.heap.size w w5) := by rw [e5.out]; exact below_cells _ (Nat.le_refl _) _ _ (below_drawn HBk.out nq)
             have HZ5 : Hid (w.heap.size < w5.heap.size) := Nat.lt_of_lt_of_le HZk.out (by
               have := below_cells w.heap.size (Nat.le_refl _) (((List.replicate 8192 x).take (n - k)).map (Value.int .u8)) k (Below.refl w.heap.size (wr.drewN nq))
               rw [← e5.out] at this
               exact this.size)
             clear e5
             refine hK _ _ ?_
             rw [hm]
             have q9 : IntKind.i64.wrap ((k : Int) + (m : Int)) = (k : Int) + m := by rw [IntKind.wrap_i64]; omega
             simp only [Act.put, zE1, zE2, zE3]
             refine take_lawG 8 (some 75) (.int .i64 ((k : Int) + m)) rfl rfl (by kernel_rfl) (by kernel_rfl) (by kernel_rfl) (fun _ _ _ h => h) (y_add (by rfl) (.tmp 67) (.tmp 74) rfl (k : Int) (m : Int) _ rfl rfl q9) ?_
             simp only [Act.put, zE1, zE2, zE3]
             refine take_lawG 9 (some 10) (.int .i64 ((k : Int) + m)) rfl rfl (by kernel_rfl) (by kernel_rfl) (by kernel_rfl) (fun _ _ _ h => h) (Or.inl ⟨by rfl, fun w => by rfl⟩) ?_
             simp only [Act.put, zE1, zE2, zE3]
             refine wpAny_done (by kernel_rfl) ?_ _
             go_wp2
             go_roundw
             case rel => exact ⟨k + m, by omega, hmn, by go_num, HP5, HB5, HZ5⟩
             case measure => simp [intOf]; omega))
      · have e : k = n := by omega
        subst e
        go_wp2
        go_ret
        exact ⟨rfl, HP.out.ar, HBk.out, HZk.out⟩)
end Go.Proofs.YtakibiigcdgohaaGreatDoor.na
namespace Go.Proofs.YtakibiigcdgohaaGreatDoor.na
open Go.RowKit Go.Proofs.YtakibiigcdgohaaGreatDoor.fa
set_option maxRecDepth 20000
theorem info_deed : (Tryz.prog.info? 170).map (fun i => (i.zero, i.size)) = some (some (.agg ([.nilFunc, .nilFunc] : List Value).toArray), 2) := by kernel_rfl
section
variable {ops : Array Oper} {o : Oper} {a : Act} {Q : Exit → Act → World → Prop} {K : Act → World → Prop} {E : Prop}
theorem step_makeB (w : World) (hg : o.guard = none) (d : Option Tmp) (hd : o.dst = d) (l c : Operand) (hop : o.op = Op.makeSlice 35 l c) (B : Nat) (hB : B ≤ w.heap.size)
    (L : Int) (n : Nat) (hl : a.eval l = .int .i64 L) (hc : a.eval c = .int .i64 L) (hL : L = (n : Int)) (hn : n ≤ 1099511627776)
    (hK : ∀ w', OwnN B w' w.heap.size n (List.replicate n 0) → Below B w w' → w.heap.size < w'.heap.size → K (a.put d (.slice (some ⟨w.heap.size, 0, none⟩) n n)) w') :
    if Region.wanted o (yielded ops a.tmps) = true then Oper.wp Tryz.prog o a w K Q else E := by
  have hw : Region.wanted o (yielded ops a.tmps) = true := by simp [Region.wanted, hg]
  rw [if_pos hw]
  subst hd
  obtain ⟨i0, hi, hz0, hz1, hz2⟩ := info_parts info_u8
  obtain ⟨w', hrun, h1, h2⟩ := run_make_full (P := Tryz.prog) w B 35 5 i0 (.int .u8 0) 1 Tryz.underlying35 hi hz0 hz1 .i64 .i64 n (by rw [hz2]; omega) (by simp only [maxLen]; omega) hB
  subst hL
  have hlt : w.heap.size < w'.heap.size := (h1.lt w.heap.size rfl).2
  unfold Oper.wp
  simp [execOp, hop, hl, hc, hrun, Result.andThen]
  refine hK w' ⟨by simp, hB, ?_⟩ ((Below.refl B w).grown h2 hB (fun k hk => by cases hk)) hlt
  have e : (madeCells (Value.int .u8 0).cells (n * 1)).toList = (List.replicate n (0 : Int)).map (Value.int .u8) := by
    rw [Nat.mul_one]
    show (madeCells #[Value.int .u8 0] n).toList = _
    rw [toList_madeCells_one]; simp
  rw [e] at h1
  exact h1
end
theorem byt_zeros {B : Nat} {w : World} {g n : Nat} (h : OwnN B w g n (List.replicate n 0)) : Byt w (.slice (some ⟨g, 0, none⟩) n n) (List.replicate n 0) := h.byt (allB_replicate 0 n (by omega))
theorem torn_any (va vb vm : Value) (xs ys m : List Int) (w : World) (ha : Byt w va xs) (hb : Byt w vb ys) (hm : Byt w vm m) (hl : xs.length = ys.length) (hmax : xs.length ≤ 1048576) :
    Calls Tryz.prog 121 #[va, vb, vm] w fun e w' => ∃ v, e = .returned v ∧ Byt w' v (ofb xs.length (torn xs ys m)) ∧ Below w.heap.size w w' := by
  have S : Hid (Calls Tryz.prog 143 #[va, vb, vm] w fun e w' => ∃ v, e = .returned (.tuple #[v, .int .i64 0]) ∧ Byt w' v (ofb xs.length (torn xs ys m)) ∧ Below w.heap.size w w') := by
    have := clear_any va vb vm xs ys m w ha hb hm hl hmax
    rw [pgl_torn xs ys m ha.all hb.all] at this
    exact this
  generalize ofb xs.length (torn xs ys m) = zs at *
  clear ha hb hm hl
  go_enter Tryz.func121, Tryz.ntmps121
  go_wp2_with (go_at_call 143; refine S.out.mono ?_; rintro e w1 ⟨v1, rfl, y1, B1⟩; have Y1 : Hid (Byt w1 v1 zs) := y1; clear y1)
  go_ret
  exact ⟨_, rfl, Y1.out, B1⟩
theorem p1_any (va vb : Value) (xs ys : List Int) (h : Nat) (w : World) (ha : Byt w va xs) (hb : Byt w vb ys) (hh : w.cell? ⟨h, 0, none⟩ = some vb) (hl : xs.length = ys.length) (hmax : xs.length ≤ 1048576) :
    Calls Tryz.prog 119 #[va, .pointer (some ⟨h, 0, none⟩)] w fun e w' => ∃ v, e = .returned v ∧ Byt w' v (andl xs ys) ∧ Below w.heap.size w w' := by
  have lh : h < w.heap.size := World.block_lt_of_cell? w _ hh
  have HAA : Hid (AllB xs) := ha.all
  have HBB : Hid (AllB ys) := hb.all
  obtain ⟨ao, ca, rfl, ha1, ha2, ha3, -, ha5⟩ := ha
  obtain ⟨bo, cb, rfl, hb1, hb2, hb3, -, hb5⟩ := hb
  rw [← hl] at hh hb1
  have HA5 : Hid (0 < xs.length → ∃ b off, ao = some ⟨b, off, none⟩ ∧ ∀ t, t < xs.length → w.cell? ⟨b, off + t, none⟩ = some (.int .u8 (gb xs t))) := ha5
  have HB5 : Hid (0 < xs.length → ∃ b off, bo = some ⟨b, off, none⟩ ∧ ∀ t, t < xs.length → w.cell? ⟨b, off + t, none⟩ = some (.int .u8 (gb ys t))) := by rw [hl]; exact hb5
  clear ha5 ha3 hb5 hb3 hl
  have HZ : Hid ((andl xs ys).length = xs.length) := andl_len xs ys
  go_enter Tryz.func119, Tryz.ntmps119
  go_wp2_with (at_make; refine make_law _ rfl (.tmp 7) (.tmp 7) rfl w.heap.size (Nat.le_refl _) _ xs.length rfl rfl rfl (by omega) ?_; intro w1 hown hbel hlt)
  go_loopw [11] (fun i wr => ∃ k : Nat, k ≤ xs.length ∧ i = .int .i64 k ∧ OwnN w.heap.size wr w.heap.size xs.length (prt (andl xs ys) k) ∧ Below w.heap.size w wr) (fun i _ => xs.length - (intOf i).toNat)
  case atStart => exact ⟨0, Nat.zero_le _, rfl, by rw [prt_zero, HZ.out]; exact hown, hbel⟩
  case round =>
    clear hown hbel
    obtain ⟨k, hk, rfl, hown, hbel⟩ := hrel
    by_cases hlt' : k < xs.length
    · obtain ⟨b, off, rfl, hca⟩ := HA5.out (by omega)
      obtain ⟨b', off', rfl, hcb⟩ := HB5.out (by omega)
      have c1 : wr.cell? ⟨b, off + k, none⟩ = some (.int .u8 (gb xs k)) := (hbel.cell (World.block_lt_of_cell? w _ (hca k hlt'))).trans (hca k hlt')
      have c2 : wr.cell? ⟨b', off' + k, none⟩ = some (.int .u8 (gb ys k)) := (hbel.cell (World.block_lt_of_cell? w _ (hcb k hlt'))).trans (hcb k hlt')
      have c3 : wr.cell? ⟨h, 0, none⟩ = some (.slice (some ⟨b', off', none⟩) xs.length cb) := (hbel.cell lh).trans hh
      have lk : (k : Int) < (xs.length : Int) := by omega
      have lk0 : (0 : Int) ≤ (k : Int) := by omega
      have HX : Hid (bits .and .u8 (gb xs k) (gb ys k) = gb (andl xs ys) k) := by
        show _ = _
        have a1 := HAA.out k
        have a2 := HBB.out k
        rw [andl_gb xs ys k hlt']; exact u8_and _ _ a1.1 (by omega) a2.1 (by omega)
      have HO : Hid (OwnN w.heap.size wr w.heap.size xs.length (prt (andl xs ys) k)) := hown
      have HBL : Hid (Below w.heap.size w wr) := hbel
      clear hca hcb hown hbel hh
      go_wp2
      refine wp_region_any (by kernel_rfl) ?_
      change wpAny _ _ _ _ _ _ _ (World.drew _)
      refine wpAny_quiet_then (C := fun w' => ∃ n, w' = wr.drewN n) 0 12 1 _ (by kernel_rfl) rfl (by kernel_rfl) (by kernel_rfl) ⟨1, rfl⟩ ?_
      simp only [List.take_succ_cons, List.take_zero, List.drop_zero]
      repeat (quiet_step (fail))
      refine wpQuiet_nil ?_
      rintro f _ ⟨nq, rfl⟩
      have O1 : OwnN w.heap.size (wr.drewN nq) w.heap.size xs.length (prt (andl xs ys) k) := HO.out.drew nq
      have HS := O1.set k (gb (andl xs ys) k)
      rw [prt_set _ k (by rw [HZ.out]; exact hlt')] at HS
      have B2 : Below w.heap.size w ((wr.drewN nq).setCell ⟨w.heap.size, k, none⟩ (.int .u8 (gb (andl xs ys) k))) := (below_drawn HBL.out nq).setCell (Nat.le_refl _) _
      refine wpAny_ready (rs := [12]) (by kernel_rfl) (by simp) ?_
      refine AllReady.cons rfl (fun K hK => ?_) AllReady.nil
      refine step_set _ rfl none rfl (.tmp 25) (.tmp 24) 5 rfl .u8 (gb (andl xs ys) k) w.heap.size k rfl (by rw [← HX.out]; rfl) (by rw [O1.cell hlt']; rfl) (O1.free k) i_u8 (hK _ _ ?_)
      simp only [Act.put]
      clear O1 c1 c2 c3
      generalize (wr.drewN nq).setCell ⟨w.heap.size, k, none⟩ (.int .u8 (gb (andl xs ys) k)) = w6 at *
      refine wpAny_done (by kernel_rfl) ?_ _
      go_wp2
      go_roundw
      case rel => exact ⟨k + 1, by omega, by go_num, HS, B2⟩
      case measure => simp [intOf]; omega
    · have hks : k = xs.length := by omega
      subst hks
      have hown2 : OwnN w.heap.size wr w.heap.size xs.length (andl xs ys) := by
        have := hown; rw [← HZ.out, prt_end, HZ.out] at this; exact this
      go_wp2
      go_ret
      exact ⟨_, rfl, hown2.byt (andl_all _ _ HAA.out), hbel⟩
theorem pgm_eq (S : Nat) (c : Bool) (m was b : List Int) (h : was.length = S) : pgm S (some (c, m)) was b = if c = true then ofb was.length (torn was b m) else ofb was.length (failed was b m (8 * was.length)) := by
  subst h
  cases c <;> rfl
theorem p2_any (va vb : Value) (xs ys m : List Int) (h : Nat) (f : Int × Bool × Value) (w : World) (ha : Byt w va xs) (hb : Byt w vb ys) (hm : Byt w f.2.2 m) (hh : w.cell? ⟨h, 0, none⟩ = some vb) (hl : xs.length = ys.length) (hmax : xs.length ≤ 1048576) :
    Calls Tryz.prog 120 #[va, fv f, .pointer (some ⟨h, 0, none⟩)] w fun e w' => ∃ v, e = .returned v ∧ Byt w' v (pgm xs.length (some (f.2.1, m)) xs ys) ∧ Below w.heap.size w w' := by
  obtain ⟨n, cr, vm⟩ := f
  have lh : h < w.heap.size := World.block_lt_of_cell? w _ hh
  have hm' : Byt w vm m := hm
  have ST : Hid (∀ w0, Below w.heap.size w w0 → Calls Tryz.prog 121 #[va, vb, vm] w0 fun e w' => ∃ v, e = .returned v ∧ Byt w' v (ofb xs.length (torn xs ys m)) ∧ Below w0.heap.size w0 w') := fun w0 hw => torn_any va vb vm xs ys m w0 (ha.below hw) (hb.below hw) (hm'.below hw) hl hmax
  have SF : Hid (∀ w0, Below w.heap.size w w0 → Calls Tryz.prog 122 #[va, vb, vm] w0 fun e w' => ∃ v, e = .returned (.tuple #[v, .int .i64 0]) ∧ Byt w' v (ofb xs.length (failed xs ys m (8 * xs.length))) ∧ Below w0.heap.size w0 w') := fun w0 hw => by
    refine (fail_any va vb vm xs ys m w0 (ha.below hw) (hb.below hw) (hm'.below hw) hl hmax).mono ?_
    rintro e w' ⟨v, p, z, rfl, hL, y, B⟩
    rw [pgl_failed xs ys m p z ha.all hb.all hL] at y
    exact ⟨v, rfl, y, B⟩
  have HC : Hid (∀ w0, Below w.heap.size w w0 → w0.cell? ⟨h, 0, none⟩ = some vb) := fun w0 hw => (hw.cell lh).trans hh
  have HE := pgm_eq xs.length cr m xs ys rfl
  obtain ⟨mo, mc, rfl⟩ := byt_form hm'
  obtain ⟨bo, bc, rfl⟩ := byt_form hb
  clear ha hb hm hm' hl hh
  have t0 := tR
  cases cr with
  | true =>
    rw [if_pos rfl] at HE
    rw [HE]
    generalize ofb xs.length (torn xs ys m) = zs at *
    go_enter Tryz.func120, Tryz.ntmps120
    go_wp2_with (first
      | (have q1 := t1; go_at_call 121; refine (ST.out _ BB.out).mono ?_; rintro e w2 ⟨v2, rfl, y2, B2⟩; have Y2 : Hid (Byt w2 v2 zs) := y2; have BB2 : Hid (Below w.heap.size w w2) := BB.out.trans (B2.mono BB.out.size); clear y2 B2 t1)
      | (have q0 := t0; refine box_lawV _ (n, true, .slice mo m.length mc) rfl ?_; intro w1 V1 B1 l1; have f1 := V1.1.2.1; have f2 := V1.1.2.2; have ch := HC.out w1 B1; have BB : Hid (Below w.heap.size w w1) := B1; clear V1 t0; have t1 := tR))
    go_ret
    exact ⟨_, rfl, Y2.out, BB2.out⟩
  | false =>
    rw [if_neg (by decide)] at HE
    rw [HE]
    generalize ofb xs.length (failed xs ys m (8 * xs.length)) = zs at *
    go_enter Tryz.func120, Tryz.ntmps120
    go_wp2_with (first
      | (have q1 := t1; go_at_call 122; refine (SF.out _ BB.out).mono ?_; rintro e w2 ⟨v2, rfl, y2, B2⟩; have Y2 : Hid (Byt w2 v2 zs) := y2; have BB2 : Hid (Below w.heap.size w w2) := BB.out.trans (B2.mono BB.out.size); clear y2 B2 t1)
      | (have q0 := t0; refine box_lawV _ (n, false, .slice mo m.length mc) rfl ?_; intro w1 V1 B1 l1; have f1 := V1.1.2.1; have f2 := V1.1.2.2; have ch := HC.out w1 B1; have BB : Hid (Below w.heap.size w w1) := B1; clear V1 t0; have t1 := tR))
    go_ret
    exact ⟨_, rfl, Y2.out, BB2.out⟩
theorem e1_any (va : Value) (xs : List Int) (w : World) (ha : Byt w va xs) (h0 : 0 < xs.length) (hmax : xs.length ≤ 1048576) :
    Calls Tryz.prog 149 #[va] w fun e w' => ∃ v, e = .returned v ∧ Byt w' v (List.replicate xs.length 255) ∧ Below w.heap.size w w' := by
  have SR : Hid (Calls Tryz.prog 36 #[.slice (some ⟨w.heap.size, 0, none⟩) 1 1, .int .i64 (xs.length : Int)] (w.alloc (.cells #[.int .u8 255] 5)) fun e w' => ∃ v, e = .returned v ∧ Byt w' v (List.replicate xs.length 255) ∧ Below w.heap.size w w') := by
    have B0 := (Below.refl w.heap.size w).alloc (Nat.le_refl _) (.cells #[.int .u8 255] 5)
    have e := cell_of_row (w.alloc (.cells #[.int .u8 255] 5)) w.heap.size 0 _ 5 (0, 0) (heap_alloc_last w _)
    refine (repeat_any w.heap.size 255 xs.length (w.alloc (.cells #[.int .u8 255] 5)) (by rw [e]; rfl) (by omega) h0 (by omega)).mono ?_
    rintro e w' ⟨rfl, hA, hB, hl⟩
    exact ⟨_, rfl, hA.bytG (allB_replicate 255 _ (by omega)) _ _ (by simp) (Nat.le_refl _) (by omega), B0.trans (hB.mono B0.size)⟩
  obtain ⟨ao, ca, rfl, -⟩ := ha
  go_enter Tryz.func149, Tryz.ntmps149
  go_wp2_with (go_at_call 36; refine SR.out.mono ?_; rintro e w1 ⟨v1, rfl, y1, B1⟩; have Y1 : Hid (Byt w1 v1 (List.replicate xs.length 255)) := y1; clear y1)
  go_ret
  exact ⟨_, rfl, Y1.out, B1⟩
theorem e2_any (va : Value) (xs m : List Int) (f : Int × Bool × Value) (w : World) (ha : Byt w va xs) (hm : Byt w f.2.2 m) (hmax : xs.length ≤ 1048576) :
    Calls Tryz.prog 150 #[va, fv f] w fun e w' => ∃ v, e = .returned v ∧ Byt w' v (ofb xs.length (erased xs m)) ∧ Below w.heap.size w w' := by
  obtain ⟨n, cr, vm⟩ := f
  have hm' : Byt w vm m := hm
  have SS : Hid (∀ w0, Below w.heap.size w w0 → Calls Tryz.prog 151 #[va, vm] w0 fun e w' => ∃ v, e = .returned v ∧ Byt w' v (ofb xs.length (erased xs m)) ∧ Below w0.heap.size w0 w') := fun w0 hw => by
    have := fset_any va vm xs m w0 (ha.below hw) (hm'.below hw) hmax
    rw [stl_erased xs m ha.all hm'.all] at this
    exact this
  obtain ⟨mo, mc, rfl⟩ := byt_form hm'
  generalize ofb xs.length (erased xs m) = zs at *
  clear ha hm hm'
  have t0 := tR
  go_enter Tryz.func150, Tryz.ntmps150
  go_wp2_with (first
    | (have q1 := t1; go_at_call 151; refine (SS.out _ BB.out).mono ?_; rintro e w2 ⟨v2, rfl, y2, B2⟩; have Y2 : Hid (Byt w2 v2 zs) := y2; have BB2 : Hid (Below w.heap.size w w2) := BB.out.trans (B2.mono BB.out.size); clear y2 B2 t1)
    | (have q0 := t0; refine box_lawV _ (n, cr, .slice mo m.length mc) rfl ?_; intro w1 V1 B1 l1; have f1 := V1.1.2.1; have f2 := V1.1.2.2; have BB : Hid (Below w.heap.size w w1) := B1; clear V1 t0; have t1 := tR))
  go_ret
  exact ⟨_, rfl, Y2.out, BB2.out⟩
theorem s1_any (va : Value) (xs : List Int) (w : World) (ha : Byt w va xs) (hmax : xs.length ≤ 1048576) :
    Calls Tryz.prog 152 #[va] w fun e w' => ∃ v, e = .returned v ∧ Byt w' v (List.replicate xs.length 0) ∧ Below w.heap.size w w' := by
  obtain ⟨ao, ca, rfl, ha1, ha2, -⟩ := ha
  go_enter Tryz.func152, Tryz.ntmps152
  go_wp2_with (at_make; refine make_law _ rfl (.tmp 4) (.tmp 4) rfl w.heap.size (Nat.le_refl _) _ xs.length rfl rfl rfl (by omega) ?_; intro w1 hown hbel hlt; have Y1 : Hid (OwnN w.heap.size w1 w.heap.size xs.length (List.replicate xs.length 0)) := hown; clear hown)
  go_ret
  exact ⟨_, rfl, byt_zeros Y1.out, hbel⟩
theorem s2_any (va : Value) (xs m : List Int) (f : Int × Bool × Value) (w : World) (ha : Byt w va xs) (hm : Byt w f.2.2 m) (hmax : xs.length ≤ 1048576) :
    Calls Tryz.prog 153 #[va, fv f] w fun e w' => ∃ v, e = .returned v ∧ Byt w' v (ofb xs.length (torn xs (List.replicate xs.length 0) m)) ∧ Below w.heap.size w w' := by
  obtain ⟨n, cr, vm⟩ := f
  have hm' : Byt w vm m := hm
  have ST : Hid (∀ w0 vz, Below w.heap.size w w0 → Byt w0 vz (List.replicate xs.length 0) → Calls Tryz.prog 121 #[va, vz, vm] w0 fun e w' => ∃ v, e = .returned v ∧ Byt w' v (ofb xs.length (torn xs (List.replicate xs.length 0) m)) ∧ Below w0.heap.size w0 w') := fun w0 vz hw hz => torn_any va vz vm xs _ m w0 (ha.below hw) hz (hm'.below hw) (by simp) hmax
  obtain ⟨mo, mc, rfl⟩ := byt_form hm'
  obtain ⟨ao, ca, rfl, ha1, ha2, -⟩ := ha
  generalize ofb xs.length (torn xs (List.replicate xs.length 0) m) = zs at *
  clear hm hm'
  have t0 := tR
  go_enter Tryz.func153, Tryz.ntmps153
  go_wp2_with (have q0 := t0; refine box_lawV _ (n, cr, .slice mo m.length mc) rfl ?_; intro w1 V1 B1 l1; have HV : Hid (FlV w1 w.heap.size (n, cr, .slice mo m.length mc)) := V1; have BB : Hid (Below w.heap.size w w1) := B1; clear V1 t0)
  refine wp_region_held_drew (S := fun w' => Below w1.heap.size w1 w') (by kernel_rfl) (Below.refl _ _).drew (fun hS => ?_)
  obtain ⟨x1, hx0⟩ : ∃ x, x = w1.drew := ⟨_, rfl⟩
  rw [← hx0] at hS  ⊢
  clear hx0
  refine tkH 0 (some 5) (.slice ao xs.length ca) rfl rfl (Or.inl ⟨by rfl, fun w' hw' => by rfl⟩) hS ?_
  simp only [Act.put, zE1, zE2, zE3]
  refine tkH 1 (some 6) (.slice ao xs.length ca) rfl rfl (Or.inl ⟨by rfl, fun w' hw' => by rfl⟩) hS ?_
  simp only [Act.put, zE1, zE2, zE3]
  refine tkH 2 (some 7) (.int .i64 (xs.length : Int)) rfl rfl (Or.inl ⟨by rfl, fun w' hw' => by go_simp⟩) hS ?_
  simp only [Act.put, zE1, zE2, zE3]
  refine tkH 4 (some 9) (.pointer (some ⟨w.heap.size, 2, none⟩)) rfl rfl (Or.inl ⟨by rfl, fun w' hw' => by go_simp⟩) hS ?_
  simp only [Act.put, zE1, zE2, zE3]
  refine tkH 5 (some 10) (.slice mo m.length mc) rfl rfl (Or.inl ⟨by rfl, fun w' hw' => by exact exec_loadN 35 (.tmp 9) rfl _ rfl _ _ (load_one one_bytes (HV.out.below hw' l1).1.2.2)⟩) hS ?_
  simp only [Act.put, zE1, zE2, zE3]
  refine wpAnyH_ready (rs := [3]) (by kernel_rfl) (by simp) ?_
  refine AllReadyH.cons rfl (fun K hK => ?_) AllReadyH.nil
  refine step_makeB _ rfl (some 8) rfl (.tmp 7) (.tmp 7) rfl x1.heap.size (Nat.le_refl _) _ xs.length rfl rfl rfl (by omega) ?_
  intro x2 hz hb _
  have HZ : Hid (Byt x2 (.slice (some ⟨x1.heap.size, 0, none⟩) xs.length xs.length) (List.replicate xs.length 0)) := byt_zeros hz
  have hS : Below w1.heap.size w1 x2 := hS.trans (hb.mono hS.size)
  clear hz hb
  refine hK.out _ _ hS (fun _ => ?_)
  simp only [Act.put, zE1, zE2, zE3]
  clear hK K
  refine wpAnyH_ready (rs := [6]) (by kernel_rfl) (by simp) ?_
  refine AllReadyH.cons rfl (fun K hK => ?_) AllReadyH.nil
  refine ge.step_callW _ (by rfl) (some 11) rfl 121 #[.tmp 5, .tmp 8, .tmp 10] #[35, 35, 35] rfl (fun q w' => by rfl) #[.slice ao xs.length ca, .slice (some ⟨x1.heap.size, 0, none⟩) xs.length xs.length, .slice mo m.length mc] (by simp only [List.map_toArray, List.map_cons, List.map_nil]; rfl) (fun v w' => Byt w' v zs ∧ Below x2.heap.size x2 w') ?_ ?_
  · exact ST.out x2 _ (BB.out.trans (hS.mono BB.out.size)) HZ.out
  rintro v9 x3 ⟨y9, hb⟩
  have Y9 : Hid (Byt x3 v9 zs) := y9
  have hS : Below w1.heap.size w1 x3 := hS.trans (hb.mono hS.size)
  clear y9 hb
  refine hK.out _ _ hS (fun _ => ?_)
  simp only [Act.put, zE1, zE2, zE3]
  clear hK K
  refine tkH 7 (some 4) (v9) rfl rfl (Or.inl ⟨by rfl, fun w' hw' => by rfl⟩) hS ?_
  simp only [Act.put, zE1, zE2, zE3]
  refine wpAnyH_done (by kernel_rfl) ?_ _
  have BB : Hid (Below w.heap.size w x3) := BB.out.trans (hS.mono BB.out.size)
  clear hS
  go_wp2
  go_ret
  exact ⟨_, rfl, Y9.out, BB.out⟩
def Deed (w : World) (dv va : Value) (R : Option (Bool × List Int) → List Int) : Prop := ∃ K1 c1 K2 c2, dv = .agg ([.func (.func K1) #[] c1, .func (.func K2) #[] c2] : List Value).toArray ∧
  (∀ (q : Array Value) (w : World), (callFunc K1 q).run Tryz.prog w = .ok (.enter K1 q) w) ∧ (∀ (q : Array Value) (w : World), (callFunc K2 q).run Tryz.prog w = .ok (.enter K2 q) w) ∧
  (∀ w0, Below w.heap.size w w0 → Calls Tryz.prog K1 (#[va] ++ c1) w0 fun e w' => ∃ v, e = .returned v ∧ Byt w' v (R none) ∧ Below w0.heap.size w0 w') ∧
  ∀ w0 f m, Below w.heap.size w w0 → Byt w0 f.2.2 m → Calls Tryz.prog K2 (#[va, fv f] ++ c2) w0 fun e w' => ∃ v, e = .returned v ∧ Byt w' v (R (some (f.2.1, m))) ∧ Below w0.heap.size w0 w'
theorem Deed.below {w w' : World} {dv va : Value} {R : Option (Bool × List Int) → List Int} (h : Deed w dv va R) (hb : Below w.heap.size w w') : Deed w' dv va R := by
  obtain ⟨K1, c1, K2, c2, e, f1, f2, g1, g2⟩ := h
  exact ⟨K1, c1, K2, c2, e, f1, f2, fun w0 h0 => g1 w0 (hb.trans (h0.mono hb.size)), fun w0 f m h0 => g2 w0 f m (hb.trans (h0.mono hb.size))⟩
theorem programming_any (vb : Value) (ys : List Int) (w : World) (hb : Byt w vb ys) :
    Calls Tryz.prog 94 #[vb] w fun e w' => ∃ dv, e = .returned dv ∧ Below w.heap.size w w' ∧ ∀ w0 va xs, Below w'.heap.size w' w0 → Byt w0 va xs → xs.length = ys.length → xs.length ≤ 1048576 → Deed w0 dv va (fun o => pgm xs.length o xs ys) := by
  have HB : Hid (Byt w vb ys) := hb
  obtain ⟨bo, bc, rfl⟩ := byt_form hb
  have hmf := makeFn
  clear hb
  have es : (w.alloc (.cells #[.slice bo ys.length bc] 35)).heap.size = w.heap.size + 1 := by simp
  have B0 := (Below.refl w.heap.size w).alloc (Nat.le_refl _) (.cells #[.slice bo ys.length bc] 35)
  have BB : Hid (Below w.heap.size w ((w.alloc (.cells #[.slice bo ys.length bc] 35)).alloc (.cells #[.nilFunc, .nilFunc] 170))) := B0.alloc B0.size _
  have HV : Hid (Vr ((w.alloc (.cells #[.slice bo ys.length bc] 35)).alloc (.cells #[.nilFunc, .nilFunc] 170)) (w.heap.size + 1) [.nilFunc, .nilFunc]) := by
    have := Vr.new (w.alloc (.cells #[.slice bo ys.length bc] 35)) 170 [.nilFunc, .nilFunc]
    rw [es] at this
    exact this
  have HC : Hid (((w.alloc (.cells #[.slice bo ys.length bc] 35)).alloc (.cells #[.nilFunc, .nilFunc] 170)).cell? ⟨w.heap.size, 0, none⟩ = some (.slice bo ys.length bc)) := by
    have e := cell_of_row (w.alloc (.cells #[.slice bo ys.length bc] 35)) w.heap.size 0 _ 35 (0, 0) (heap_alloc_last w _)
    exact (((Below.refl _ _).alloc (Nat.le_refl _) _).cell (show w.heap.size < _ by rw [es]; omega)).trans e
  clear es B0
  have t1 := tR
  go_enter Tryz.func94, Tryz.ntmps94
  go_wp2_with (have q1 := t1; refine store_lawC _ [.func (.func 119) #[] #[.pointer (some ⟨w.heap.size, 0, none⟩)], .func (.func 120) #[] #[.pointer (some ⟨w.heap.size, 0, none⟩)]] (w.heap.size + 1) 0 rfl rfl HV.out.2 rowy_deed.2 (fun v hv => by simp at hv; rcases hv with rfl | rfl <;> rfl) ?_; intro w2 E2 R2 T2 B2; have HR : Hid (w2.rangeAt (w.heap.size + 1) 0 [.func (.func 119) #[] #[.pointer (some ⟨w.heap.size, 0, none⟩)], .func (.func 120) #[] #[.pointer (some ⟨w.heap.size, 0, none⟩)]]) := R2; have HC2 : Hid (w2.cell? ⟨w.heap.size, 0, none⟩ = some (.slice bo ys.length bc)) := (B2.cell (show w.heap.size < w.heap.size + 1 by omega)).trans HC.out; have BB : Hid (Below w.heap.size w w2) := BB.out.trans (B2.mono (by omega)); clear R2 T2 E2 B2 t1)
  refine bodyPost_ret (v := .agg ([.func (.func 119) #[] #[.pointer (some ⟨w.heap.size, 0, none⟩)], .func (.func 120) #[] #[.pointer (some ⟨w.heap.size, 0, none⟩)]] : List Value).toArray) (results_c rfl _ _ (w.heap.size + 1) _ rowy_deed rfl HR.out) rfl ⟨_, rfl, BB.out, ?_⟩
  intro w0 va xs hw ha hl hm
  have lz : w.heap.size < w2.heap.size := World.block_lt_of_cell? _ _ HC2.out
  refine ⟨119, #[.pointer (some ⟨w.heap.size, 0, none⟩)], 120, #[.pointer (some ⟨w.heap.size, 0, none⟩)], rfl, fun q w => by rfl, fun q w => by rfl, fun w3 h3 => ?_, fun w3 f m h3 hf => ?_⟩
  · have hw3 : Below w2.heap.size w2 w3 := hw.trans (h3.mono hw.size)
    exact p1_any va _ xs ys w.heap.size w3 (ha.below h3) (HB.out.below (BB.out.trans (hw3.mono BB.out.size))) ((hw3.cell lz).trans HC2.out) hl hm
  · have hw3 : Below w2.heap.size w2 w3 := hw.trans (h3.mono hw.size)
    exact p2_any va _ xs ys m w.heap.size f w3 (ha.below h3) (HB.out.below (BB.out.trans (hw3.mono BB.out.size))) hf ((hw3.cell lz).trans HC2.out) hl hm
theorem erasing_any (w : World) :
    Calls Tryz.prog 124 #[] w fun e w' => ∃ dv, e = .returned dv ∧ Below w.heap.size w w' ∧ ∀ w0 va xs, Byt w0 va xs → 0 < xs.length → xs.length ≤ 1048576 → Deed w0 dv va (fun o => match o with | none => List.replicate xs.length 255 | some (_, m) => ofb xs.length (erased xs m)) := by
  have t0 := tR
  go_enter Tryz.func124, Tryz.ntmps124
  go_wp2_with (first
    | (have q1 := t1; refine store_lawC _ [.func (.func 149) #[] #[], .func (.func 150) #[] #[]] w.heap.size 0 rfl rfl HV.out.2 rowy_deed.2 (fun v hv => by simp at hv; rcases hv with rfl | rfl <;> rfl) ?_; intro w2 E2 R2 T2 B2; have HR : Hid (w2.rangeAt w.heap.size 0 [.func (.func 149) #[] #[], .func (.func 150) #[] #[]]) := R2; have BB : Hid (Below w.heap.size w w2) := BB.out.trans B2; clear R2 T2 E2 B2 t1)
    | (have q0 := t0; refine new_lawC _ _ info_deed ?_; intro w1 V1 B1 l1; have HV : Hid (Vr w1 w.heap.size [.nilFunc, .nilFunc]) := V1; have BB : Hid (Below w.heap.size w w1) := B1; clear V1 B1 t0; have t1 := tR))
  refine bodyPost_ret (v := .agg ([.func (.func 149) #[] #[], .func (.func 150) #[] #[]] : List Value).toArray) (results_c rfl _ _ w.heap.size _ rowy_deed rfl HR.out) rfl ⟨_, rfl, BB.out, ?_⟩
  intro w0 va xs ha h0 hm
  refine ⟨149, #[], 150, #[], rfl, fun q w => by rfl, fun q w => by rfl, fun w3 h3 => ?_, fun w3 f m h3 hf => ?_⟩
  · exact e1_any va xs w3 (ha.below h3) h0 hm
  · exact e2_any va xs m f w3 (ha.below h3) hf hm
theorem scrubbing_any (w : World) :
    Calls Tryz.prog 125 #[] w fun e w' => ∃ dv, e = .returned dv ∧ Below w.heap.size w w' ∧ ∀ w0 va xs, Byt w0 va xs → 0 < xs.length → xs.length ≤ 1048576 → Deed w0 dv va (fun o => match o with | none => List.replicate xs.length 0 | some (_, m) => ofb xs.length (torn xs (List.replicate xs.length 0) m)) := by
  have t0 := tR
  go_enter Tryz.func125, Tryz.ntmps125
  go_wp2_with (first
    | (have q1 := t1; refine store_lawC _ [.func (.func 152) #[] #[], .func (.func 153) #[] #[]] w.heap.size 0 rfl rfl HV.out.2 rowy_deed.2 (fun v hv => by simp at hv; rcases hv with rfl | rfl <;> rfl) ?_; intro w2 E2 R2 T2 B2; have HR : Hid (w2.rangeAt w.heap.size 0 [.func (.func 152) #[] #[], .func (.func 153) #[] #[]]) := R2; have BB : Hid (Below w.heap.size w w2) := BB.out.trans B2; clear R2 T2 E2 B2 t1)
    | (have q0 := t0; refine new_lawC _ _ info_deed ?_; intro w1 V1 B1 l1; have HV : Hid (Vr w1 w.heap.size [.nilFunc, .nilFunc]) := V1; have BB : Hid (Below w.heap.size w w1) := B1; clear V1 B1 t0; have t1 := tR))
  refine bodyPost_ret (v := .agg ([.func (.func 152) #[] #[], .func (.func 153) #[] #[]] : List Value).toArray) (results_c rfl _ _ w.heap.size _ rowy_deed rfl HR.out) rfl ⟨_, rfl, BB.out, ?_⟩
  intro w0 va xs ha h0 hm
  refine ⟨152, #[], 153, #[], rfl, fun q w => by rfl, fun q w => by rfl, fun w3 h3 => ?_, fun w3 f m h3 hf => ?_⟩
  · exact s1_any va xs w3 (ha.below h3) hm
  · exact s2_any va xs m f w3 (ha.below h3) hf hm
end Go.Proofs.YtakibiigcdgohaaGreatDoor.na
