/- Texts put together (a claim holds few files). No claim of its own. -/
import Derived.Test.YtmbfccclghnaeaaDoorPackM
import Derived.Laws.AppendOwnNone
/- What Write of a hash does. No claim of its own. -/
namespace Go.Proofs.YtmbfccclghnaeaaDoor.mc
open Go.RowKit
set_option maxRecDepth 20000

/-- all is as it was but block b -/
structure But (b : Nat) (w w' : World) : Prop where
  os : w'.os = w.os
  tape : w'.tape = w.tape
  output : w'.output = w.output
  size : w.heap.size ≤ w'.heap.size
  block : ∀ k, k < w.heap.size → k ≠ b → w'.heap[k]? = w.heap[k]?
theorem But.refl (b : Nat) (w : World) : But b w w := ⟨rfl, rfl, rfl, Nat.le_refl _, fun _ _ _ => rfl⟩
theorem But.trans {b : Nat} {u v w : World} (h : But b u v) (k : But b v w) : But b u w :=
  ⟨k.os.trans h.os, k.tape.trans h.tape, k.output.trans h.output, Nat.le_trans h.size k.size, fun i hi hb => (k.block i (Nat.lt_of_lt_of_le hi h.size) hb).trans (h.block i hi hb)⟩
theorem But.of {b : Nat} {w w' : World} (h : Below w.heap.size w w') : But b w w' := ⟨h.os, h.tape, h.output, h.size, fun k hk _ => h.block k hk⟩
theorem But.below {b B : Nat} {w w' : World} (h : But b w w') (hB : B ≤ b) (hs : B ≤ w.heap.size) : Below B w w' := ⟨h.os, h.tape, h.output, h.size, fun k hk => h.block k (Nat.lt_of_lt_of_le hk hs) (by omega)⟩
theorem But.drewN {b : Nat} {w w' : World} (h : But b w w') (n : Nat) : But b w (w'.drewN n) := ⟨h.os, h.tape, h.output, h.size, h.block⟩
theorem heap_cells_other (g : Nat) (i : Nat) (hne : i ≠ g) : ∀ (vs : List Value) (o : Nat) (w : World), (w.setCells g o vs).heap[i]? = w.heap[i]?
  | [], _, _ => rfl
  | v :: r, o, w => by
    rw [World.setCells, heap_cells_other g i hne r (o + 1), Below.heap_setCell w ⟨g, o, none⟩ v i hne]
theorem But.setCells {b : Nat} {w w' : World} (h : But b w w') (o : Nat) (vs : List Value) : But b w (w'.setCells b o vs) := by
  have hb : Below b w' (w'.setCells b o vs) := Lib.below_setCells _ (Nat.le_refl _) _ _ (Below.refl _ _)
  exact ⟨hb.os.trans h.os, hb.tape.trans h.tape, hb.output.trans h.output, Nat.le_trans h.size hb.size, fun k hk hkb => by
    rw [heap_cells_other b k hkb vs o w']; exact h.block k hk hkb⟩
theorem But.setNew {b c : Nat} {w w' : World} (h : But b w w') (hc : w.heap.size ≤ c) (o : Nat) (vs : List Value) : But b w (w'.setCells c o vs) := by
  have hb : Below w.heap.size w' (w'.setCells c o vs) := Lib.below_setCells _ hc _ _ (Below.refl _ _)
  exact ⟨hb.os.trans h.os, hb.tape.trans h.tape, hb.output.trans h.output, Nat.le_trans h.size hb.size, fun k hk hkb => (hb.block k hk).trans (h.block k hk hkb)⟩
/-- a slice that lasts whatever becomes of block b -/
def Kept (b : Nat) (w : World) (v : Value) (xs : List Int) : Prop := ∀ w', But b w w' → Byt w' v xs

theorem step_call1 {ops : Array Oper} {o : Oper} {a : Act} {Q : Exit → Act → World → Prop} {K : Act → World → Prop} {E : Prop} (w : World) (hg : o.guard = none) (d : Option Tmp) (hd : o.dst = d) (f : FuncId) (x : Operand) (ats : Array TypeId) (hop : o.op = .call { callee := .value (.func f), args := #[x], argTypes := ats })
    (hcf : ∀ (q : Array Value) (w : World), (callFunc f q).run Tryd.prog w = .ok (.enter f q) w) (vx : Value) (hx : a.eval x = vx) (v : Value) (R : World → Prop) (hc : Calls Tryd.prog f #[vx] w fun e w' => e = .returned v ∧ R w') (hK : ∀ w', R w' → K (a.put d v) w') : if Region.wanted o (yielded ops a.tmps) = true then Oper.wp Tryd.prog o a w K Q else E :=
  step_call w hg d hd f #[x] ats hop hcf v R (by rw [show #[x].map a.eval = #[vx] by simp [hx]]; exact hc) hK
theorem step_call2 {ops : Array Oper} {o : Oper} {a : Act} {Q : Exit → Act → World → Prop} {K : Act → World → Prop} {E : Prop} (w : World) (hg : o.guard = none) (d : Option Tmp) (hd : o.dst = d) (f : FuncId) (x y : Operand) (ats : Array TypeId) (hop : o.op = .call { callee := .value (.func f), args := #[x, y], argTypes := ats })
    (hcf : ∀ (q : Array Value) (w : World), (callFunc f q).run Tryd.prog w = .ok (.enter f q) w) (vx vy : Value) (hx : a.eval x = vx) (hy : a.eval y = vy) (v : Value) (R : World → Prop) (hc : Calls Tryd.prog f #[vx, vy] w fun e w' => e = .returned v ∧ R w') (hK : ∀ w', R w' → K (a.put d v) w') : if Region.wanted o (yielded ops a.tmps) = true then Oper.wp Tryd.prog o a w K Q else E :=
  step_call w hg d hd f #[x, y] ats hop hcf v R (by rw [show #[x, y].map a.eval = #[vx, vy] by simp [hx, hy]]; exact hc) hK

/-- an operation that is taken first, its slot written out -/
theorem take_law {ops : Array Oper} {Q : Exit → Act → World → Prop} {S : World → Prop} (i : Nat) {oi : Oper} (d : Option Tmp) (v : Value) {fuel : Nat} {listed : Array Bool} {a : Act} {w : World} (hi : ops[i]? = some oi) (hd : oi.dst = d)
    (hs : Region.noSelect ops = true) (hf : Region.free .any ops listed i = true) (hr : (Region.ready .any ops listed).contains i = true)
    (hQ : ∀ c a w, Q (.panic c) (a.put d v) w → Q (.panic c) a w) (hy : YieldsIf Tryd.prog ops S oi v a) (hS : S w)
    (h : wpAnyH Tryd.prog .any ops Q S fuel (listed.setIfInBounds i true) (a.put d v) w) : wpAnyH Tryd.prog .any ops Q S (fuel + 1) listed a w := by
  subst hd
  exact wpAnyH_take hi hs hf hr hQ hy hS h

/-- 'v[l:]' of a slice that lasts -/
theorem cut_kept {ops : Array Oper} {rest : List Oper} {o : Oper} {a : Act} {Q : Exit → Act → World → Prop} {w0 : World} {b : Nat} (w : World) (hg : o.guard = none) (s x : Operand) (hop : o.op = Op.slice 23 s (some x) none none) (v : Value) (xs : List Int) (L : Int) (l : Nat)
    (hs : a.eval s = v) (hx : a.eval x = .int .i64 L) (hL : L = (l : Int)) (hl : l ≤ xs.length) (hw : But b w0 w) (hb : Kept b w0 v xs)
    (hK : ∀ v', Kept b w0 v' (xs.drop l) → wpList Tryd.prog ops Q rest (a.put o.dst v') w) :
    wpList Tryd.prog ops Q (o :: rest) a w := by
  refine wpList_plain hg fun K hK' => ?_
  obtain ⟨ao, cap, rfl, hc, hb'⟩ := byt_cut (hb w hw) l xs.length hl (Nat.le_refl _)
  have hrun := run_slice_l (P := Tryd.prog) w 23 ao xs.length cap und_bytes .i64 L (by omega) (by omega)
  rw [elem_bytes, run_size_u8] at hrun
  subst hL
  have hkk : Kept b w0 (sliced ao l xs.length cap 1) (xs.drop l) := by
    intro w' hw'
    obtain ⟨ao2, cap2, e, -, hb2⟩ := byt_cut (hb w' hw') l xs.length hl (Nat.le_refl _)
    injection e with e1 e2 e3
    subst e1; subst e3
    rwa [List.take_length] at hb2
  unfold Oper.wp
  simp [execOp, hop, hs, hx, run_sliceAt_slice w 23 _ _ _ _ und_bytes, hrun, Result.andThen]
  exact hK' _ _ (hK _ hkk)
/-- 'copy(d, s)', what it makes of the world a letter -/
theorem copy_lawm {ops : Array Oper} {rest : List Oper} {o : Oper} {a : Act} {Q : Exit → Act → World → Prop} (w : World) (hg : o.guard = none) (x y : Operand) (hop : o.op = .call { callee := .builtin .copy, args := #[x, y], argTypes := #[23, 23] })
    (b p dl dc m : Nat) (v : Value) (ys : List Int) (hx : a.eval x = .slice (some ⟨b, p, none⟩) dl dc) (hy : a.eval y = v) (hb : Byt w v ys) (hm : m = min ys.length dl) (ht : w.there b p m)
    (hK : ∀ w', w' = w.setCells b p ((ys.take dl).map (Value.int .u8)) → wpList Tryd.prog ops Q rest (a.put o.dst (.int .i64 (m : Int))) w') :
    wpList Tryd.prog ops Q (o :: rest) a w := by
  subst hm
  exact copy_law w hg x y hop b p dl dc v ys hx hy hb ht (hK _ rfl)
theorem take_law0 {ops : Array Oper} {Q : Exit → Act → World → Prop} (i : Nat) {oi : Oper} (d : Option Tmp) (v : Value) {fuel : Nat} {listed : Array Bool} {a : Act} {w : World} (hi : ops[i]? = some oi) (hd : oi.dst = d)
    (hs : Region.noSelect ops = true) (hf : Region.free .any ops listed i = true) (hr : (Region.ready .any ops listed).contains i = true)
    (hQ : ∀ c a w, Q (.panic c) (a.put d v) w → Q (.panic c) a w) (hy : Yields Tryd.prog ops oi v a)
    (h : wpAny Tryd.prog .any ops Q fuel (listed.setIfInBounds i true) (a.put d v) w) : wpAny Tryd.prog .any ops Q (fuel + 1) listed a w := by
  subst hd
  exact wpAny_take hi hs hf hr hQ hy h
/-- a hash that has the bytes xs -/
def Has (w : World) (b : Nat) (xs : List Int) : Prop := ∃ st tl, Hsh w b st tl xs.length ∧ st.length = 8 ∧ tl.length = 64 ∧ AllB tl ∧ hw st xs.length = upto xs (xs.length / 64) ∧ tl.take (xs.length % 64) = xs.drop (64 * (xs.length / 64))
/-- how long a slice is -/
def lenV : Value → Nat
  | .slice _ n _ => n
  | _ => 0

set_option maxRecDepth 100000 in
set_option maxHeartbeats 4000000 in
theorem write_any (w : World) (b : Nat) (xs ys : List Int) (v : Value) (hh : Has w b xs) (hxa : AllB xs) (hk : Kept b w v ys) (hnn : xs.length + ys.length ≤ 1048576) :
    Calls Tryd.prog 68 #[.pointer (some ⟨b, 0, none⟩), v] w fun e w' => e = .returned (.tuple #[]) ∧ Has w' b (xs ++ ys) ∧ But b w w' := by
  obtain ⟨st, tl, h, hl, htl, hta, hst, htt⟩ := hh
  obtain ⟨n, hnx⟩ : ∃ n, n = xs.length := ⟨_, rfl⟩
  obtain ⟨all, hall⟩ : ∃ all, all = xs ++ ys := ⟨_, rfl⟩
  obtain ⟨N, hN⟩ : ∃ N, N = all.length := ⟨_, rfl⟩
  have hNN : N = n + ys.length := by rw [hN, hall, hnx]; simp
  have hya : AllB ys := (hk w (But.refl _ _)).all
  have hala : AllB all := by rw [hall]; exact allB_append hxa hya
  have HALA : Hid (AllB all) := hala
  have HN : Hid (N = all.length) := hN
  have HALL : Hid (all = xs ++ ys) := hall
  have HSTART : Hid (hw st n = upto all (n / 64) ∧ tl.take (n % 64) = (all.drop (64 * (n / 64))).take (n % 64) ∧ ys = all.drop n) := by
    refine ⟨?_, ?_, ?_⟩
    · rw [hnx, hall, upto_append xs ys _ (by omega)]; exact hst
    · rw [hnx, hall, List.drop_append_of_le_length (by omega), List.take_append_of_le_length (by simp; omega), ← htt, List.take_take, Nat.min_self]
    · rw [hall, hnx]; simp
  have HNN : Hid (N = n + ys.length ∧ N ≤ 1048576) := ⟨hNN, by omega⟩
  have HK : Hid (Kept b w v ys) := hk
  have HTL : Hid (tl.length = 64 ∧ AllB tl) := ⟨htl, hta⟩
  rw [← hnx] at h
  have hn : n ≤ 1048576 := by omega
  have hny : (n : Int) + (ys.length : Int) = (N : Int) := by omega
  have hN6 : (N : Int) ≤ 1048576 := by omega
  clear hst htt hnx hall hN hNN hya hala hk htl hta hxa hnn
  have HH : Hid (Hsh w b st tl n) := h
  have HL : Hid (st.length = 8) := hl
  have hlt := h.lt
  have i1 : (n : Int) ≤ 1048576 := by omega
  have i2 : (0 : Int) ≤ (n : Int) := by omega
  obtain ⟨u, hu⟩ : ∃ u, u = n % 64 := ⟨_, rfl⟩
  have i3 : (n : Int) % 64 = (u : Int) := by omega
  have i4 : (n : Int).tmod 64 = (u : Int) := by rw [Int.tmod_eq_emod_of_nonneg (by omega)]; exact i3
  have HU : Hid (u = n % 64) := hu
  have HHL : Hid ((hw st n).length = 8) := by show _ = _; unfold hw; split; rfl; exact hl
  have hcw : ∀ (q : Array Value) (w : World), (callFunc 76 q).run Tryd.prog w = .ok (.enter 76 q) w := fun _ _ => rfl
  have HCW : Hid (∀ (q : Array Value) (w : World), (callFunc 76 q).run Tryd.prog w = .ok (.enter 76 q) w) := hcw
  clear hu h hl hcw
  go_enter Tryd.func68, Tryd.ntmps68
  go_wp2
  go_cut [4, 5] (fun r4 r5 wc => ∃ c : Nat, r4 = .pointer (some ⟨c, 0, none⟩) ∧ r5 = .int .i64 u ∧ w.heap.size ≤ c ∧ Ar wc c 0 .u32 (hw st n) ∧ Below w.heap.size w wc)
  case first =>
    refine wp_region_held_drew (S := fun w' => Hsh w' b st tl n ∧ Below w.heap.size w w') (by kernel_rfl) ⟨HH.out.below (Below.refl _ _).drew hlt, (Below.refl _ _).drew⟩ (fun hS => ?_)
    refine take_law 0 (some 9) (.pointer (some ⟨b, 0, none⟩)) rfl rfl (by kernel_rfl) (by kernel_rfl) (by kernel_rfl) (fun _ _ _ h => h) (Or.inl ⟨by rfl, fun w hSw => by rfl⟩) hS ?_
    simp only [Act.put, List.setIfInBounds_toArray, List.set_cons_zero, List.set_cons_succ]
    refine take_law 2 (some 11) (.pointer (some ⟨b, 0, none⟩)) rfl rfl (by kernel_rfl) (by kernel_rfl) (by kernel_rfl) (fun _ _ _ h => h) (Or.inl ⟨by rfl, fun w hSw => by rfl⟩) hS ?_
    simp only [Act.put, List.setIfInBounds_toArray, List.set_cons_zero, List.set_cons_succ]
    refine take_law 3 (some 12) (.pointer (some ⟨b, 0, none⟩)) rfl rfl (by kernel_rfl) (by kernel_rfl) (by kernel_rfl) (fun _ _ _ h => h) (Or.inl ⟨by rfl, fun w hSw => by rfl⟩) hS ?_
    simp only [Act.put, List.setIfInBounds_toArray, List.set_cons_zero, List.set_cons_succ]
    refine take_law 4 (some 13) (.pointer (some ⟨b, 72, none⟩)) rfl rfl (by kernel_rfl) (by kernel_rfl) (by kernel_rfl) (fun _ _ _ h => h) (Or.inl ⟨by rfl, fun w hSw => by rfl⟩) hS ?_
    simp only [Act.put, List.setIfInBounds_toArray, List.set_cons_zero, List.set_cons_succ]
    refine take_law 5 (some 14) (.int .i64 n) rfl rfl (by kernel_rfl) (by kernel_rfl) (by kernel_rfl) (fun _ _ _ h => h) (Or.inl ⟨by rfl, fun w hSw => by have hc := hSw.1.size; go_simp⟩) hS ?_
    simp only [Act.put, List.setIfInBounds_toArray, List.set_cons_zero, List.set_cons_succ]
    refine take_law 6 (some 15) (.int .i64 u) rfl rfl (by kernel_rfl) (by kernel_rfl) (by kernel_rfl) (fun _ _ _ h => h) (Or.inl ⟨by rfl, fun w hSw => by go_simp⟩) hS ?_
    simp only [Act.put, List.setIfInBounds_toArray, List.set_cons_zero, List.set_cons_succ]
    refine wpAnyH_ready (rs := [1, 7]) (by kernel_rfl) (by simp) ?_
    refine AllReadyH.cons rfl (fun K hK => ?_) (AllReadyH.cons rfl (fun K hK => ?_) AllReadyH.nil)
    · refine step_call1 _ rfl (some 10) rfl 76 (.tmp 9) #[99] rfl HCW.out (.pointer (some ⟨b, 0, none⟩)) rfl (.agg (ints .u32 (hw st n))) (fun w' => Below w.drew.heap.size w.drew w') (hwords_any _ b n st tl hS.1 HL.out) fun w1 hb1 => ?_
      have B1 : Below w.heap.size w w1 := hS.2.trans hb1
      have H1 : Hsh w1 b st tl n := hS.1.below hb1 hlt
      refine hK.out _ _ ⟨H1, B1⟩ (fun hS1 => ?_)
      simp only [Act.put, List.setIfInBounds_toArray, List.set_cons_zero, List.set_cons_succ]
      refine wpAnyH_ready (rs := [7]) (by kernel_rfl) (by simp) ?_
      refine AllReadyH.cons rfl (fun K hK => ?_) AllReadyH.nil
      refine step_new _ rfl (some 4) rfl 108 rfl .u32 z8 z_arr8 (hK.out _ _ ⟨H1.below ((Below.refl _ _).alloc (Nat.le_refl _) _) H1.lt, B1.alloc B1.size _⟩ (fun hS2 => ?_))
      simp only [Act.put, List.setIfInBounds_toArray, List.set_cons_zero, List.set_cons_succ]
      have A2 : Ar (w1.alloc (.cells (ints .u32 z8) 108)) w1.heap.size 0 .u32 z8 := Ar.new w1 _ _ _
      refine wpAnyH_ready (rs := [8]) (by kernel_rfl) (by simp) ?_
      refine AllReadyH.cons rfl (fun K hK => ?_) AllReadyH.nil
      have HT : (w1.alloc (.cells (ints .u32 z8) 108)).there w1.heap.size 0 (hw st n).length := by rw [HHL.out]; exact A2.2
      have A3 : Ar ((w1.alloc (.cells (ints .u32 z8) 108)).setCells w1.heap.size 0 ((hw st n).map (Value.int .u32))) w1.heap.size 0 .u32 (hw st n) := Ar.whole HT
      have B3 : Below w.heap.size w ((w1.alloc (.cells (ints .u32 z8) 108)).setCells w1.heap.size 0 ((hw st n).map (Value.int .u32))) := Lib.below_setCells _ B1.size _ _ hS2.2
      refine step_store _ rfl none rfl (.tmp 4) (.tmp 10) 108 rfl .u32 (hw st n) w1.heap.size 0 rfl rfl HT 8 i_arr8 HHL.out (hK.out _ _ ⟨HH.out.below B3 hlt, B3⟩ (fun hS3 => ?_))
      refine take_law 9 (some 5) (.int .i64 u) rfl rfl (by kernel_rfl) (by kernel_rfl) (by kernel_rfl) (fun _ _ _ h => h) (Or.inl ⟨by rfl, fun w hSw => by rfl⟩) hS3 ?_
      simp only [Act.put, List.setIfInBounds_toArray, List.set_cons_zero, List.set_cons_succ]
      refine wpAnyH_done (by kernel_rfl) ?_ _
      generalize (w1.alloc (.cells (ints .u32 z8) 108)).setCells w1.heap.size 0 ((hw st n).map (Value.int .u32)) = w4 at *
      have cs := B1.size
      go_wp2_with fail
      go_meet
      exact ⟨_, rfl, rfl, cs, A3, B3⟩
    · refine step_new _ rfl (some 4) rfl 108 rfl .u32 z8 z_arr8 (hK.out _ _ ⟨hS.1.below ((Below.refl _ _).alloc (Nat.le_refl _) _) hlt, hS.2.alloc (Nat.le_refl _) _⟩ (fun hS2 => ?_))
      simp only [Act.put, List.setIfInBounds_toArray, List.set_cons_zero, List.set_cons_succ]
      have A2 : Ar (w.drew.alloc (.cells (ints .u32 z8) 108)) w.heap.size 0 .u32 z8 := Ar.new w.drew _ _ _
      refine wpAnyH_ready (rs := [1]) (by kernel_rfl) (by simp) ?_
      refine AllReadyH.cons rfl (fun K hK => ?_) AllReadyH.nil
      refine step_call1 _ rfl (some 10) rfl 76 (.tmp 9) #[99] rfl HCW.out (.pointer (some ⟨b, 0, none⟩)) rfl (.agg (ints .u32 (hw st n))) (fun w' => Below (w.drew.alloc (.cells (ints .u32 z8) 108)).heap.size (w.drew.alloc (.cells (ints .u32 z8) 108)) w') (hwords_any _ b n st tl hS2.1 HL.out) fun w1 hb1 => ?_
      have hz2 : (w.drew.alloc (.cells (ints .u32 z8) 108)).heap.size = w.heap.size + 1 := by simp
      have B1 : Below w.heap.size w w1 := hS2.2.trans (hb1.mono (by omega))
      have H1 : Hsh w1 b st tl n := hS2.1.below hb1 (by omega)
      have A4 : Ar w1 w.heap.size 0 .u32 z8 := A2.below hb1 (by omega)
      refine hK.out _ _ ⟨H1, B1⟩ (fun hS1 => ?_)
      simp only [Act.put, List.setIfInBounds_toArray, List.set_cons_zero, List.set_cons_succ]
      refine wpAnyH_ready (rs := [8]) (by kernel_rfl) (by simp) ?_
      refine AllReadyH.cons rfl (fun K hK => ?_) AllReadyH.nil
      have HT : w1.there w.heap.size 0 (hw st n).length := by rw [HHL.out]; exact A4.2
      have A3 : Ar (w1.setCells w.heap.size 0 ((hw st n).map (Value.int .u32))) w.heap.size 0 .u32 (hw st n) := Ar.whole HT
      have B3 : Below w.heap.size w (w1.setCells w.heap.size 0 ((hw st n).map (Value.int .u32))) := Lib.below_setCells _ (Nat.le_refl _) _ _ B1
      refine step_store _ rfl none rfl (.tmp 4) (.tmp 10) 108 rfl .u32 (hw st n) w.heap.size 0 rfl rfl HT 8 i_arr8 HHL.out (hK.out _ _ ⟨HH.out.below B3 hlt, B3⟩ (fun hS3 => ?_))
      refine take_law 9 (some 5) (.int .i64 u) rfl rfl (by kernel_rfl) (by kernel_rfl) (by kernel_rfl) (fun _ _ _ h => h) (Or.inl ⟨by rfl, fun w hSw => by rfl⟩) hS3 ?_
      simp only [Act.put, List.setIfInBounds_toArray, List.set_cons_zero, List.set_cons_succ]
      refine wpAnyH_done (by kernel_rfl) ?_ _
      generalize w1.setCells w.heap.size 0 ((hw st n).map (Value.int .u32)) = w4 at *
      go_wp2_with fail
      go_meet
      exact ⟨_, rfl, rfl, Nat.le_refl _, A3, B3⟩
  case rest =>
    obtain ⟨c, rfl, rfl, hc, AC, BC⟩ := hcut
    have H1 : Hsh wc b st tl n := HH.out.below BC hlt
    have hbyt := HK.out wc (But.of BC)
    obtain ⟨ao, cap, rfl, hv1, hv2, -, -, -⟩ := hbyt
    have c72 := H1.size
    have f72 : wc.frozen? ⟨b, 72, none⟩ = false := H1.2.2.free 0 (by simp)
    have i5 : IntKind.i64.wrap (N : Int) = (N : Int) := by rw [IntKind.wrap_i64]; omega
    go_wp2
    have hbc : b ≠ c := by omega
    have D0 : Ar (wc.setCell ⟨b, 72, none⟩ (.int .i64 N)) c 0 .u32 (hw st n) ∧ Ar (wc.setCell ⟨b, 72, none⟩ (.int .i64 N)) b 0 .u32 st ∧ Ar (wc.setCell ⟨b, 72, none⟩ (.int .i64 N)) b 8 .u8 tl ∧ Ar (wc.setCell ⟨b, 72, none⟩ (.int .i64 N)) b 72 .i64 [(N : Int)] ∧ But b w (wc.setCell ⟨b, 72, none⟩ (.int .i64 N)) := by
      have e : wc.setCell ⟨b, 72, none⟩ (.int .i64 N) = wc.setCells b 72 ([(N : Int)].map (Value.int .i64)) := rfl
      refine ⟨AC.other (by show c ≠ b; omega) _, ?_, ?_, ?_, ?_⟩
      · rw [e]; exact H1.1.apart _ _ _ (by right; left; rw [HL.out]; omega)
      · rw [e]; exact H1.2.1.apart _ _ _ (by right; left; rw [HTL.out.1]; omega)
      · rw [e]; exact Ar.whole H1.2.2.2
      · rw [e]; exact (But.of BC).setCells _ _
    generalize wc.setCell ⟨b, 72, none⟩ (.int .i64 N) = w1 at D0 ⊢
    clear c72 f72 AC BC H1 hny i1 i2 i3 i4 hn
    have HC : Hid (w.heap.size ≤ c) := hc
    go_loopw [1, 5] (fun vb vu wr => ∃ (k u p : Nat) (t : List Int), vu = .int .i64 u ∧ u < 64 ∧ p = 64 * k + u ∧ p ≤ N ∧ Kept b w vb (all.drop p) ∧ Ar wr c 0 .u32 (upto all k) ∧ Ar wr b 0 .u32 st ∧ Ar wr b 8 .u8 t ∧ t.length = 64 ∧ AllB t ∧ t.take u = (all.drop (64 * k)).take u ∧ Ar wr b 72 .i64 [(N : Int)] ∧ But b w wr) (fun vb _ _ => lenV vb)
    case atStart =>
      have hs := HSTART.out
      have hu := HU.out
      exact ⟨n / 64, u, n, tl, rfl, by omega, by omega, by have := HNN.out; omega, by rw [← hs.2.2]; exact HK.out, by rw [← hs.1]; exact D0.1, D0.2.1, D0.2.2.1, HTL.out.1, HTL.out.2, by rw [hu]; exact hs.2.1, D0.2.2.2.1, D0.2.2.2.2⟩
    case round =>
      clear D0 hv1 hv2
      obtain ⟨k, u, p, t, rfl, hu, hp, hpN, KV, AC1, A01, A81, htl, hta, htt, A721, BU1⟩ := hrel
      have hbyt := KV wr BU1
      have HBY := hbyt
      obtain ⟨zs, hzs⟩ : ∃ zs, zs = all.drop p := ⟨_, rfl⟩
      rw [← hzs] at KV hbyt HBY
      have hzl : zs.length = N - p := by rw [hzs, HN.out]; simp
      have hzla : AllB zs := hbyt.all
      obtain ⟨ao, cap, rfl, hv1, hv2, -, -, -⟩ := hbyt
      have HKV : Hid (Kept b w (.slice ao zs.length cap) zs) := KV
      have HBYT : Hid (Byt wr (.slice ao zs.length cap) zs) := HBY
      obtain ⟨M, hM⟩ : ∃ M, M = zs.length := ⟨_, rfl⟩
      have HM : Hid (M = zs.length ∧ M = N - p ∧ AllB zs) := ⟨hM, by omega, hzla⟩
      rw [← hM] at HKV HBYT hv1 ⊢
      have HZS : Hid (zs = all.drop p) := hzs
      have HT1 : Hid (Ar wr c 0 .u32 (upto all k) ∧ Ar wr b 0 .u32 st ∧ Ar wr b 8 .u8 t ∧ t.length = 64 ∧ AllB t ∧ t.take u = (all.drop (64 * k)).take u ∧ Ar wr b 72 .i64 [(N : Int)] ∧ But b w wr) := ⟨AC1, A01, A81, htl, hta, htt, A721, BU1⟩
      have hN7 : N ≤ 1048576 := HNN.out.2
      have hMN : M ≤ 1048576 := by omega
      have m1 : (M : Int) ≤ 1048576 := by omega
      have m2 : (u : Int) < 64 := by omega
      clear KV HBY hzs hzl hzla hM AC1 A01 A81 htl hta htt A721 BU1
      by_cases hlt2 : 64 ≤ u + M
      · have m3 : (64 : Int) ≤ (u : Int) + (M : Int) := by omega
        obtain ⟨tk, htk⟩ : ∃ tk, tk = 64 - u := ⟨_, rfl⟩
        have HTK : Hid (tk = 64 - u) := htk
        have htk1 : tk ≤ M := by omega
        have htk2 : (tk : Int) ≤ (M : Int) := by omega
        have htk0 : 1 ≤ tk := by omega
        clear htk
        have HCC : Hid (∀ (q : Array Value) (w : World), (callFunc 77 q).run Tryd.prog w = .ok (.enter 77 q) w) := fun _ _ => rfl
        go_wp2_with (first
          | (refine arr_from _ rfl (.tmp 32) (.tmp 33) rfl b 8 _ u rfl rfl rfl hu ?_)
          | (refine copy_lawm _ rfl (.tmp 34) (.tmp 35) rfl b (8 + u) (64 - u) (64 - u) tk _ zs rfl rfl HBYT.out (by have := HM.out; have := HTK.out; omega) (by have := HTK.out; intro j hj; have := HT1.out.2.2.1.2 (u + j) (by rw [HT1.out.2.2.2.1]; omega); rwa [← Nat.add_assoc] at this) ?_; intro w2 hw2; have HW2 : Hid (w2 = wr.setCells b (8 + u) ((zs.take (64 - u)).map (Value.int .u8))) := hw2; clear hw2)
          | fail)
        have hw2 := HW2.out
        obtain ⟨bk, hbk⟩ : ∃ bk, bk = (all.drop (64 * k)).take 64 := ⟨_, rfl⟩
        obtain ⟨sk, hsk⟩ : ∃ sk, sk = upto all k := ⟨_, rfl⟩
        obtain ⟨sk2, hsk2⟩ : ∃ sk2, sk2 = upto all (k + 1) := ⟨_, rfl⟩
        obtain ⟨AC1, A01, A81, htl, hta, htt, A721, BU1⟩ := HT1.out
        have hkN : 64 * k + 64 ≤ all.length := by have := HM.out; have := HN.out; omega
        have HBK : Hid (bk.length = 64 ∧ AllB bk) := ⟨by rw [hbk]; simp; omega, by rw [hbk]; exact allB_tk (allB_drop HALA.out _) _⟩
        have HSK : Hid (sk.length = 8 ∧ sk2.length = 8) := ⟨by rw [hsk]; exact upto_len _ _, by rw [hsk2]; exact upto_len _ _⟩
        have HCOMP : Hid (∀ w0, Calls Tryd.prog 77 #[.agg (ints .u32 sk), .agg (ints .u8 bk)] w0 fun e w' => e = .returned (.agg (ints .u32 sk2)) ∧ Below w0.heap.size w0 w') := by
          intro w0
          have := compress_any sk bk w0 (by rw [hsk]; exact upto_all _ _) HSK.out.1 HBK.out.2 HBK.out.1
          rwa [show comp sk bk = sk2 by rw [hsk2, hsk, hbk]; rfl] at this
        have hfb : laid t u (zs.take (64 - u)) = bk := by
          rw [HZS.out, hp, hbk]; exact fill_block all t k u hu htl htt hkN
        have A82 : Ar w2 b 8 .u8 bk := by
          have hz : (zs.take (64 - u)).length = 64 - u := by have := HM.out; simp; omega
          have := A81.lay u (zs.take (64 - u)) (by rw [hz, htl]; omega)
          rw [hfb] at this
          rw [hw2]; exact this
        have hz64 : (zs.take (64 - u)).length = 64 - u := by have := HM.out; simp; omega
        have AC2 : Ar w2 c 0 .u32 sk := by rw [hw2, hsk]; exact AC1.apart _ _ _ (Or.inl (by omega))
        have A02 : Ar w2 b 0 .u32 st := by rw [hw2]; exact A01.apart _ _ _ (by right; left; rw [HL.out]; omega)
        have A722 : Ar w2 b 72 .i64 [(N : Int)] := by rw [hw2]; exact A721.apart _ _ _ (by right; right; rw [List.length_map, hz64]; omega)
        have BU2 : But b w w2 := by rw [hw2]; exact BU1.setCells _ _
        have hcl : c < w2.heap.size := AC2.lt (by rw [HSK.out.1]; omega)
        have hb2l : b < w2.heap.size := A722.lt (by simp)
        have HSK2 : Hid (sk2 = upto all (k + 1)) := hsk2
        have HBK2 : Hid (bk = (all.drop (64 * k)).take 64) := hbk
        clear hsk hsk2 hbk hfb hz64 hw2 HW2 AC1 A01 A81 htl hta htt A721 BU1 hkN
        go_cut [37] (fun r37 wd => Ar wd c 0 .u32 sk2 ∧ Ar wd b 0 .u32 st ∧ Ar wd b 8 .u8 bk ∧ Ar wd b 72 .i64 [(N : Int)] ∧ But b w wd)
        case first =>
          refine wp_region_any (by kernel_rfl) ?_
          change wpAny _ _ _ _ _ _ _ (World.drew _)
          refine take_law0 1 (some 38) (.pointer (some ⟨b, 0, none⟩)) rfl rfl (by kernel_rfl) (by kernel_rfl) (by kernel_rfl) (fun _ _ _ h => h) (Or.inl ⟨by rfl, fun w => by rfl⟩) ?_
          simp only [Act.put, List.setIfInBounds_toArray, List.set_cons_zero, List.set_cons_succ]
          refine take_law0 2 (some 39) (.pointer (some ⟨b, 0, none⟩)) rfl rfl (by kernel_rfl) (by kernel_rfl) (by kernel_rfl) (fun _ _ _ h => h) (Or.inl ⟨by rfl, fun w => by rfl⟩) ?_
          simp only [Act.put, List.setIfInBounds_toArray, List.set_cons_zero, List.set_cons_succ]
          refine take_law0 3 (some 40) (.pointer (some ⟨b, 8, none⟩)) rfl rfl (by kernel_rfl) (by kernel_rfl) (by kernel_rfl) (fun _ _ _ h => h) (Or.inl ⟨by rfl, fun w => by rfl⟩) ?_
          simp only [Act.put, List.setIfInBounds_toArray, List.set_cons_zero, List.set_cons_succ]
          refine wpAny_ready (rs := [0, 4]) (by kernel_rfl) (by simp) ?_
          refine AllReady.cons rfl (fun K hK => ?_) (AllReady.cons rfl (fun K hK => ?_) AllReady.nil)
          · refine step_load _ rfl (some 37) rfl (.tmp 4) 108 rfl .u32 sk c 0 rfl (Ar.heap (w' := w2.drew) AC2 rfl) 8 107 Tryd.underlying108 i_arr8 HSK.out.1 (hK _ _ ?_)
            simp only [Act.put, List.setIfInBounds_toArray, List.set_cons_zero, List.set_cons_succ]
            refine wpAny_ready (rs := [4]) (by kernel_rfl) (by simp) ?_
            refine AllReady.cons rfl (fun K hK => ?_) AllReady.nil
            refine step_load _ rfl (some 41) rfl (.tmp 40) 96 rfl .u8 bk b 8 rfl (Ar.heap (w' := w2.drew) A82 rfl) 64 5 Tryd.underlying96 i_arr64b HBK.out.1 (hK _ _ ?_)
            simp only [Act.put, List.setIfInBounds_toArray, List.set_cons_zero, List.set_cons_succ]
            refine wpAny_ready (rs := [5]) (by kernel_rfl) (by simp) ?_
            refine AllReady.cons rfl (fun K hK => ?_) AllReady.nil
            refine step_call2 _ rfl (some 42) rfl 77 (.tmp 37) (.tmp 41) #[108, 96] rfl HCC.out (.agg (ints .u32 sk)) (.agg (ints .u8 bk)) rfl rfl (.agg (ints .u32 sk2)) (fun w' => Below w2.drew.heap.size w2.drew w') (HCOMP.out w2.drew) fun w3 hb3 => hK _ _ ?_
            simp only [Act.put, List.setIfInBounds_toArray, List.set_cons_zero, List.set_cons_succ]
            have AC3 : Ar w3 c 0 .u32 sk := Ar.below (w := w2.drew) (AC2.heap rfl) hb3 hcl
            refine wpAny_ready (rs := [6]) (by kernel_rfl) (by simp) ?_
            refine AllReady.cons rfl (fun K hK => ?_) AllReady.nil
            have HT3 : w3.there c 0 sk2.length := by rw [HSK.out.2]; have := AC3.2; rwa [HSK.out.1] at this
            refine step_store _ rfl none rfl (.tmp 4) (.tmp 42) 108 rfl .u32 sk2 c 0 rfl rfl HT3 8 i_arr8 HSK.out.2 (hK _ _ ?_)
            refine wpAny_done (by kernel_rfl) ?_ _
            have AC4 : Ar (w3.setCells c 0 (sk2.map (Value.int .u32))) c 0 .u32 sk2 := Ar.whole HT3
            have B4 : Below w2.heap.size w2 w3 := ((Below.refl _ _).drew).trans hb3
            have D4 : Ar (w3.setCells c 0 (sk2.map (Value.int .u32))) b 0 .u32 st ∧ Ar (w3.setCells c 0 (sk2.map (Value.int .u32))) b 8 .u8 bk ∧ Ar (w3.setCells c 0 (sk2.map (Value.int .u32))) b 72 .i64 [(N : Int)] ∧ But b w (w3.setCells c 0 (sk2.map (Value.int .u32))) :=
              ⟨(A02.below B4 hb2l).apart _ _ _ (Or.inl hbc), (A82.below B4 hb2l).apart _ _ _ (Or.inl hbc), (A722.below B4 hb2l).apart _ _ _ (Or.inl hbc), (BU2.trans (But.of B4)).setNew hc _ _⟩
            generalize w3.setCells c 0 (sk2.map (Value.int .u32)) = w4 at *
            go_wp2_with fail
            go_meet
            exact ⟨AC4, D4⟩
          · refine step_load _ rfl (some 41) rfl (.tmp 40) 96 rfl .u8 bk b 8 rfl (Ar.heap (w' := w2.drew) A82 rfl) 64 5 Tryd.underlying96 i_arr64b HBK.out.1 (hK _ _ ?_)
            simp only [Act.put, List.setIfInBounds_toArray, List.set_cons_zero, List.set_cons_succ]
            refine wpAny_ready (rs := [0]) (by kernel_rfl) (by simp) ?_
            refine AllReady.cons rfl (fun K hK => ?_) AllReady.nil
            refine step_load _ rfl (some 37) rfl (.tmp 4) 108 rfl .u32 sk c 0 rfl (Ar.heap (w' := w2.drew) AC2 rfl) 8 107 Tryd.underlying108 i_arr8 HSK.out.1 (hK _ _ ?_)
            simp only [Act.put, List.setIfInBounds_toArray, List.set_cons_zero, List.set_cons_succ]
            refine wpAny_ready (rs := [5]) (by kernel_rfl) (by simp) ?_
            refine AllReady.cons rfl (fun K hK => ?_) AllReady.nil
            refine step_call2 _ rfl (some 42) rfl 77 (.tmp 37) (.tmp 41) #[108, 96] rfl HCC.out (.agg (ints .u32 sk)) (.agg (ints .u8 bk)) rfl rfl (.agg (ints .u32 sk2)) (fun w' => Below w2.drew.heap.size w2.drew w') (HCOMP.out w2.drew) fun w3 hb3 => hK _ _ ?_
            simp only [Act.put, List.setIfInBounds_toArray, List.set_cons_zero, List.set_cons_succ]
            have AC3 : Ar w3 c 0 .u32 sk := Ar.below (w := w2.drew) (AC2.heap rfl) hb3 hcl
            refine wpAny_ready (rs := [6]) (by kernel_rfl) (by simp) ?_
            refine AllReady.cons rfl (fun K hK => ?_) AllReady.nil
            have HT3 : w3.there c 0 sk2.length := by rw [HSK.out.2]; have := AC3.2; rwa [HSK.out.1] at this
            refine step_store _ rfl none rfl (.tmp 4) (.tmp 42) 108 rfl .u32 sk2 c 0 rfl rfl HT3 8 i_arr8 HSK.out.2 (hK _ _ ?_)
            refine wpAny_done (by kernel_rfl) ?_ _
            have AC4 : Ar (w3.setCells c 0 (sk2.map (Value.int .u32))) c 0 .u32 sk2 := Ar.whole HT3
            have B4 : Below w2.heap.size w2 w3 := ((Below.refl _ _).drew).trans hb3
            have D4 : Ar (w3.setCells c 0 (sk2.map (Value.int .u32))) b 0 .u32 st ∧ Ar (w3.setCells c 0 (sk2.map (Value.int .u32))) b 8 .u8 bk ∧ Ar (w3.setCells c 0 (sk2.map (Value.int .u32))) b 72 .i64 [(N : Int)] ∧ But b w (w3.setCells c 0 (sk2.map (Value.int .u32))) :=
              ⟨(A02.below B4 hb2l).apart _ _ _ (Or.inl hbc), (A82.below B4 hb2l).apart _ _ _ (Or.inl hbc), (A722.below B4 hb2l).apart _ _ _ (Or.inl hbc), (BU2.trans (But.of B4)).setNew hc _ _⟩
            generalize w3.setCells c 0 (sk2.map (Value.int .u32)) = w4 at *
            go_wp2_with fail
            go_meet
            exact ⟨AC4, D4⟩

        case rest =>
          obtain ⟨AD, AD0, AD8, AD72, BUD⟩ := hcut
          clear AC2 A02 A82 A722 BU2 hcl hb2l
          have hMl : tk ≤ zs.length := by have := HM.out; omega
          go_wp2_with (refine cut_kept (w0 := w) (b := b) _ rfl (.tmp 43) (.tmp 44) rfl _ zs _ tk rfl rfl rfl hMl BUD HKV.out ?_; intro v' KV')
          have hdr : zs.drop tk = all.drop (64 * (k + 1)) := by rw [HZS.out, List.drop_drop]; congr 1; have := HTK.out; omega
          go_roundw
          case rel =>
            try (iterate 60 (apply Exists.intro))
            try (refine ⟨?_, rfl⟩)
            exact ⟨k + 1, 0, 64 * (k + 1), bk, rfl, by omega, by omega, by have := HM.out; have := HTK.out; omega, by rw [← hdr]; exact KV', by rw [← HSK2.out]; exact AD, AD0, AD8, HBK.out.1, HBK.out.2, by simp, AD72, BUD⟩
          case measure =>
            obtain ⟨ao3, cap3, rfl, -, -, -, -, -⟩ := KV' wc BUD
            have := HM.out
            simp [lenV]; omega
      · have m3 : ¬ (64 : Int) ≤ (u : Int) + (M : Int) := by omega
        obtain ⟨sk, hsk⟩ : ∃ sk, sk = upto all k := ⟨_, rfl⟩
        have HSK : Hid (sk.length = 8 ∧ sk = upto all k) := ⟨by rw [hsk]; exact upto_len _ _, hsk⟩
        have HLEN : Hid (64 - u - M + M = 64 - u) := by show _ = _; omega
        have FACT : Hid (∀ w2, w2 = wr.setCells b (8 + u) ((zs.take (64 - u)).map (Value.int .u8)) → Ar w2 c 0 .u32 sk ∧ Ar w2 b 0 .u32 st ∧ Ar w2 b 8 .u8 (laid t u zs) ∧ Ar w2 b 72 .i64 [(N : Int)] ∧ But b w w2) := by
          intro w2 hw2
          obtain ⟨AC1, A01, A81, htl, hta, htt, A721, BU1⟩ := HT1.out
          have hz : zs.take (64 - u) = zs := List.take_of_length_le (by have := HM.out; omega)
          have hzl := HM.out
          rw [hz] at hw2
          refine ⟨?_, ?_, ?_, ?_, ?_⟩
          · rw [hw2, hsk]; exact AC1.apart _ _ _ (Or.inl (by omega))
          · rw [hw2]; exact A01.apart _ _ _ (by right; left; rw [HL.out]; omega)
          · rw [hw2]; exact A81.lay u zs (by omega)
          · rw [hw2]; exact A721.apart _ _ _ (by right; right; rw [List.length_map]; omega)
          · rw [hw2]; exact BU1.setCells _ _
        clear hsk
        go_wp2_with (first
          | (refine arr_from _ rfl (.tmp 48) (.tmp 49) rfl b 8 _ u rfl rfl rfl hu ?_)
          | (refine copy_lawm _ rfl (.tmp 50) (.tmp 51) rfl b (8 + u) (64 - u) (64 - u) M _ zs rfl rfl HBYT.out (by have := HM.out; omega) (by have := HM.out; intro j hj; have := HT1.out.2.2.1.2 (u + j) (by rw [HT1.out.2.2.2.1]; omega); rwa [← Nat.add_assoc] at this) ?_; intro w2 hw2; obtain ⟨AD, AD0, AD8, AD72, BUD⟩ := FACT.out w2 hw2; clear hw2)
          | (refine load_law _ rfl (.tmp 4) 108 rfl .u32 sk _ _ rfl AD 8 107 Tryd.underlying108 i_arr8 HSK.out.1 ?_)
          | (refine store_law _ rfl (.tmp 56) (.tmp 54) 108 rfl .u32 sk _ _ rfl rfl (by rw [HSK.out.1]; have := AD0.2; rwa [HL.out] at this) 8 i_arr8 HSK.out.1 ?_)
          | fail)
        have HTS : w2.there b 0 sk.length := by rw [HSK.out.1]; have := AD0.2; rwa [HL.out] at this
        have E0 : Ar (w2.setCells b 0 (sk.map (Value.int .u32))) b 0 .u32 sk := Ar.whole HTS
        have E8 : Ar (w2.setCells b 0 (sk.map (Value.int .u32))) b 8 .u8 (laid t u zs) := AD8.apart _ _ _ (by right; right; rw [List.length_map, HSK.out.1]; omega)
        have E72 : Ar (w2.setCells b 0 (sk.map (Value.int .u32))) b 72 .i64 [(N : Int)] := AD72.apart _ _ _ (by right; right; rw [List.length_map, HSK.out.1]; omega)
        have EB : But b w (w2.setCells b 0 (sk.map (Value.int .u32))) := BUD.setCells _ _
        have hm := HM.out
        obtain ⟨-, -, -, htl, hta, htt, -, -⟩ := HT1.out
        have hkk : N / 64 = k := by omega
        have hNm : N % 64 = N - 64 * k := by omega
        refine bodyPost_end (v := .tuple #[]) (results_none rfl _ _ _) rfl ⟨rfl, ?_, EB⟩
        rw [← HALL.out]
        refine ⟨sk, laid t u zs, ?_, HSK.out.1, ?_, laid_all _ _ _ hta hm.2.2, ?_, ?_⟩
        · rw [← HN.out]; exact ⟨E0, E8, E72⟩
        · rw [laid_len _ _ _ (by omega)]; exact htl
        · rw [← HN.out, hkk]
          unfold hw
          split
          · have : k = 0 := by omega
            rw [this]; rfl
          · exact HSK.out.2
        · rw [← HN.out, hkk, hNm, HN.out, HZS.out, hp]
          exact fill_rest all t k u htt
end Go.Proofs.YtmbfccclghnaeaaDoor.mc

/- What Sum of a hash answers. No claim of its own. -/
namespace Go.Proofs.YtmbfccclghnaeaaDoor.mc
open Go.RowKit
set_option maxRecDepth 20000

/-- a hash's cells -/
def hcells (st tl : List Int) (n : Nat) : List Value := st.map (Value.int .u32) ++ (tl.map (Value.int .u8) ++ [.int .i64 n])
theorem hcells_len (st tl : List Int) (n : Nat) (h1 : st.length = 8) (h2 : tl.length = 64) : (hcells st tl n).length = 73 := by simp [hcells, h1, h2]
theorem hcells_one (st tl : List Int) (n : Nat) : ∀ v ∈ hcells st tl n, v.oneCell' = true := by
  intro v hv
  simp only [hcells, List.mem_append, List.mem_map, List.mem_singleton] at hv
  rcases hv with ⟨x, _, rfl⟩ | ⟨x, _, rfl⟩ | rfl <;> rfl
theorem hsh_of {w : World} {b n : Nat} {st tl : List Int} (h1 : st.length = 8) (h2 : tl.length = 64) (hr : w.rangeAt b 0 (hcells st tl n)) (ht : w.there b 0 73) : Hsh w b st tl n := by
  have hf : ∀ i, i < 73 → w.frozen? ⟨b, i, none⟩ = false := fun i hi => by have := (ht i hi).2; rwa [Nat.zero_add] at this
  have hc : ∀ i v, (hcells st tl n)[i]? = some v → w.cell? ⟨b, i, none⟩ = some v := fun i v h => by have := hr i v h; rwa [Nat.zero_add] at this
  refine ⟨Ar.mk fun i hi => ?_, Ar.mk fun i hi => ?_, Ar.mk fun i hi => ?_⟩
  · rw [Nat.zero_add]
    refine ⟨hc i _ ?_, hf i (by omega)⟩
    unfold hcells
    rw [List.getElem?_append_left (by simpa using hi)]
    simp [gb, List.getD, hi]
  · refine ⟨hc (8 + i) _ ?_, hf _ (by omega)⟩
    unfold hcells
    rw [List.getElem?_append_right (by simp; omega), List.getElem?_append_left (by simp; omega)]
    simp [gb, List.getD, h1, hi]
  · have : i = 0 := by simpa using hi
    subst this
    refine ⟨hc 72 _ ?_, hf 72 (by omega)⟩
    unfold hcells
    rw [List.getElem?_append_right (by simp; omega), List.getElem?_append_right (by simp; omega)]
    simp [gb, h1, h2]
theorem hsh_range {w : World} {b n : Nat} {st tl : List Int} (h1 : st.length = 8) (h2 : tl.length = 64) (h : Hsh w b st tl n) : w.rangeAt b 0 (hcells st tl n) := by
  intro j v hv
  rw [Nat.zero_add]
  have hj : j < 73 := by rw [← hcells_len st tl n h1 h2]; exact (List.getElem?_eq_some_iff.1 hv).1
  unfold hcells at hv
  by_cases c1 : j < 8
  · rw [List.getElem?_append_left (by simp; omega)] at hv
    have := h.1.cell0 j (by omega)
    rw [this, ← hv]
    simp [gb, List.getD, show j < st.length by omega]
  · rw [List.getElem?_append_right (by simp; omega), List.length_map, h1] at hv
    by_cases c2 : j < 72
    · rw [List.getElem?_append_left (by simp; omega)] at hv
      have := h.2.1.cell (j - 8) (by omega)
      rw [show 8 + (j - 8) = j by omega] at this
      rw [this, ← hv]
      simp [gb, List.getD, show j - 8 < tl.length by omega]
    · have : j = 72 := by omega
      subst this
      rw [List.getElem?_append_right (by simp; omega)] at hv
      simp [h2] at hv
      rw [h.size, ← hv]
theorem z_hash : (Tryd.prog.info? 110).map (fun i => (i.zero, i.size)) = some (some (.agg (hcells z8 z64 0).toArray), 73) := by kernel_rfl
theorem i_hash : (Tryd.prog.info? 110).map (·.size) = some 73 := by kernel_rfl
theorem Has.new (w : World) : Has (w.alloc (.cells (hcells z8 z64 0).toArray 110)) w.heap.size [] := by
  refine ⟨z8, z64, hsh_of rfl rfl ?_ ?_, rfl, rfl, allB_replicate 0 64 (by omega), rfl, by simp⟩
  · intro j v hv
    rw [cell_of_row _ w.heap.size (0 + j) _ 110 (0, 0) (heap_alloc_last w _)]
    simpa using hv
  · intro j hj
    rw [cell_of_row _ w.heap.size (0 + j) _ 110 (0, 0) (heap_alloc_last w _)]
    refine ⟨?_, World.frozen?_alloc_at _ _ _ _ rfl⟩
    rw [Nat.zero_add, List.getElem?_toArray, List.getElem?_eq_getElem (by rw [hcells_len _ _ _ rfl rfl]; exact hj)]
    rfl
theorem Has.below {w w' : World} {b B : Nat} {xs : List Int} (h : Has w b xs) (hb : Below B w w') (hB : b < B) : Has w' b xs := by
  obtain ⟨st, tl, h1, h2⟩ := h
  exact ⟨st, tl, h1.below hb hB, h2⟩
theorem Has.lt {w : World} {b : Nat} {xs : List Int} (h : Has w b xs) : b < w.heap.size := by
  obtain ⟨st, tl, h1, h2⟩ := h
  exact h1.lt
/-- a row in another block lasts -/
theorem Ar.kept {w : World} {g b : Nat} {xs : List Int} (h : Ar w g 0 .u8 xs) (ha : AllB xs) (hp : 0 < xs.length) (hm : xs.length ≤ 9223372036854775807) (hne : g ≠ b) : Kept b w (.slice (some ⟨g, 0, none⟩) xs.length xs.length) xs := by
  intro w' hw
  have h' := h.heap (hw.block g (h.lt hp) hne)
  have := h'.byt ha 0 xs.length xs.length (by omega) (by omega) (by omega) hm
  rwa [List.take_length, List.drop_zero] at this

section
variable {ops : Array Oper} {rest : List Oper} {o : Oper} {a : Act} {Q : Exit → Act → World → Prop}
theorem hnew_law (w : World) (hg : o.guard = none) (hop : o.op = Op.alloc 110) (hK : ∀ w', w' = w.alloc (.cells (hcells z8 z64 0).toArray 110) → wpList Tryd.prog ops Q rest (a.put o.dst (.pointer (some ⟨w.heap.size, 0, none⟩))) w') :
    wpList Tryd.prog ops Q (o :: rest) a w := by
  refine wpList_plain hg fun K hK' => ?_
  have hz' := (zero_of_info z_hash).1
  unfold Oper.wp
  simp [execOp, hop, Instr.alloc, hz', newVar, newRow, Value.cells, Result.andThen]
  exact hK' _ _ (hK _ rfl)
theorem hstore_law (w : World) (hg : o.guard = none) (x y : Operand) (hop : o.op = Op.store 110 x y) (c : Nat) (cs : List Value) (hx : a.eval x = .pointer (some ⟨c, 0, none⟩)) (hy : a.eval y = .agg cs.toArray) (ht : w.there c 0 73) (hl : cs.length = 73) (h1 : ∀ v ∈ cs, v.oneCell' = true)
    (hK : ∀ w', w' = w.setCells c 0 cs → wpList Tryd.prog ops Q rest (a.put o.dst undef) w') : wpList Tryd.prog ops Q (o :: rest) a w :=
  wpList_store_mid hg 110 x y hop c 0 cs.toArray hx hy (by simpa [hl] using ht) (by rw [i_hash]; simp [hl]) (all_oneCell_toArray h1) (by simpa using hK _ rfl)
end

/-- the sum of a text -/
def sumOf (xs : List Int) : List Int := catw (upto (xs ++ padl xs.length) ((xs.length + (padl xs.length).length) / 64)) 8

set_option maxRecDepth 100000 in
set_option maxHeartbeats 2000000 in
theorem hsum_any (w : World) (b : Nat) (xs : List Int) (h : Has w b xs) (ha : AllB xs) (hn : xs.length ≤ 1000000) :
    Calls Tryd.prog 70 #[.pointer (some ⟨b, 0, none⟩)] w fun e w' => ∃ v, e = .returned v ∧ Byt w' v (sumOf xs) ∧ (∃ g, v = .slice (some ⟨g, 0, none⟩) 32 32 ∧ w.heap.size ≤ g ∧ Ar w' g 0 .u8 (sumOf xs)) ∧ Below w.heap.size w w' := by
  have hlt := h.lt
  obtain ⟨st, tl, h1, hl, htl, hta, hst, htt⟩ := h
  obtain ⟨w1, hw1⟩ : ∃ w1, w1 = w.alloc (.cells (hcells z8 z64 0).toArray 110) := ⟨_, rfl⟩
  obtain ⟨c, hc⟩ : ∃ c, c = w.heap.size := ⟨_, rfl⟩
  have B1 : Below w.heap.size w w1 := by rw [hw1]; exact (Below.refl _ _).alloc (Nat.le_refl _) _
  have HA1 : Has w1 c [] := by rw [hw1, hc]; exact Has.new w
  have hr1 : w1.rangeAt b 0 (hcells st tl xs.length) := hsh_range hl htl (h1.below B1 hlt)
  have ht1 : w1.there c 0 73 := by
    rw [hw1, hc]
    intro j hj
    rw [cell_of_row _ w.heap.size (0 + j) _ 110 (0, 0) (heap_alloc_last w _)]
    refine ⟨?_, World.frozen?_alloc_at _ _ _ _ rfl⟩
    rw [Nat.zero_add, List.getElem?_toArray, List.getElem?_eq_getElem (by rw [hcells_len _ _ _ rfl rfl]; exact hj)]
    rfl
  obtain ⟨cs, hcs⟩ : ∃ cs, cs = hcells st tl xs.length := ⟨_, rfl⟩
  have hcl : cs.length = 73 := by rw [hcs]; exact hcells_len _ _ _ hl htl
  rw [← hcs] at hr1
  have H2 : Hid (∀ w2, w2 = w1.setCells c 0 cs → Has w2 c xs ∧ Below w.heap.size w w2) := by
    intro w2 hw2
    refine ⟨⟨st, tl, ?_, hl, htl, hta, hst, htt⟩, by rw [hw2]; exact Lib.below_setCells _ (by omega) _ _ B1⟩
    rw [hw2]
    refine hsh_of hl htl ?_ (World.there_setCells ht1 _ _ _)
    rw [← hcs]; exact World.rangeAt_setCells_same w1 c 0 cs (by rw [hcl]; exact ht1)
  have HR : Hid (w1.rangeAt b 0 cs ∧ w1.there c 0 73 ∧ cs.length = 73 ∧ (∀ v ∈ cs, v.oneCell' = true)) := ⟨hr1, ht1, hcl, by rw [hcs]; exact hcells_one _ _ _⟩
  have HW1 : Hid (w1 = w.alloc (.cells (hcells z8 z64 0).toArray 110)) := hw1
  have HC : Hid (c = w.heap.size) := hc
  have HXA : Hid (AllB xs) := ha
  have HPA : Hid (AllB (padl xs.length)) := padl_all _
  have HPL : Hid (0 < (padl xs.length).length ∧ (padl xs.length).length ≤ 73) := by
    show _ ∧ _
    rw [padl_len]; unfold zn; omega
  obtain ⟨n, hnx⟩ : ∃ n, n = xs.length := ⟨_, rfl⟩
  have HNX : Hid (n = xs.length) := hnx
  have n1 : (n : Int) ≤ 1000000 := by omega
  clear h1 hl htl hta hst htt hw1 hc hcs hcl hr1 ht1 ha hn hlt HA1 hnx
  go_enter Tryd.func70, Tryd.ntmps70
  go_wp2_with (first
    | (refine hnew_law _ rfl rfl ?_; intro wx hwx; rw [← HW1.out] at hwx; subst hwx; rw [← HC.out])
    | (refine wpList_load_mid rfl 110 (.tmp 7) rfl b 0 rfl cs _ HR.out.1 Tryd.underlying110 rfl (by rw [i_hash, HR.out.2.2.1]) ?_)
    | (refine hstore_law _ rfl (.tmp 3) (.tmp 8) rfl c cs rfl rfl HR.out.2.1 HR.out.2.2.1 HR.out.2.2.2 ?_; intro w2 hw2; obtain ⟨HH2, B2⟩ := H2.out w2 hw2; clear hw2; have c72 : w2.cell? ⟨c, 72, none⟩ = some (.int .i64 n) := by { obtain ⟨_, _, hq, _⟩ := HH2; have := hq.size; rwa [← HNX.out] at this })
    | (go_at_call_of 78 (Value.int .i64 (n : Int)); refine (padding_any n _ (by omega)).mono ?_; rintro e w3 ⟨v3, rfl, hv3, ⟨g3, hg3, ar3, hv3e⟩, hb3⟩; rw [HNX.out] at ar3 hv3e; have HV3 : Hid (v3 = .slice (some ⟨g3, 0, none⟩) (padl xs.length).length (padl xs.length).length) := hv3e; clear hv3e hv3; have AR3 : Hid (Ar w3 g3 0 .u8 (padl xs.length)) := ar3; clear ar3; have HG3 : Hid (g3 ≠ c) := by { have := HH2.lt; show _ ≠ _; omega })
    | (go_at_call 68; refine (write_any w3 c xs (padl xs.length) v3 (HH2.below hb3 HH2.lt) HXA.out (by rw [HV3.out]; exact AR3.out.kept HPA.out HPL.out.1 (by have := HPL.out.2; omega) HG3.out) (by have := HPL.out.2; have := HNX.out; omega)).mono ?_; rintro e w4 ⟨rfl, HH4, BU4⟩; obtain ⟨st4, tl4, k1, k2, k3, k4, k5, k6⟩ := HH4; have HS4 : Hid (Ar w4 c 0 .u32 st4 ∧ st4.length = 8 ∧ st4 = upto (xs ++ padl xs.length) ((xs.length + (padl xs.length).length) / 64)) := ⟨k1.1, k2, by { have hp := HPL.out.1; rw [List.length_append] at k5; rw [← k5]; unfold hw; rw [if_neg (by omega)] }⟩; clear k1 k2 k3 k4 k5 k6)
    | (refine load_law _ rfl (.tmp 13) 108 rfl .u32 st4 _ _ rfl HS4.out.1 8 107 Tryd.underlying108 i_arr8 HS4.out.2.1 ?_)
    | (go_at_call 79; refine (wordsToBytes_any st4 _ (by rw [HS4.out.2.2]; exact upto_all _ _) HS4.out.2.1).mono ?_; rintro e w5 ⟨v5, rfl, hv5, ⟨g5, hg5, hg5l, ar5⟩, hb5⟩)
    | fail)
  go_ret
  have e : sumOf xs = catw st4 8 := by unfold sumOf; rw [HS4.out.2.2]
  have b3 : Below w.heap.size w w3 := B2.trans (hb3.mono B2.size)
  have b4 : Below w.heap.size w w4 := b3.trans (BU4.below (by have := HC.out; omega) b3.size)
  rw [e]
  subst hg5
  exact ⟨_, rfl, hv5, ⟨g5, rfl, Nat.le_trans b4.size hg5l, ar5⟩, b4.trans (hb5.mono b4.size)⟩

set_option maxRecDepth 100000 in
set_option maxHeartbeats 2000000 in
theorem hsum_nil (w : World) :
    Calls Tryd.prog 70 #[.pointer none] w fun e w' => ∃ v, e = .returned v ∧ Byt w' v (sumOf []) ∧ (∃ g, v = .slice (some ⟨g, 0, none⟩) 32 32 ∧ w.heap.size ≤ g ∧ Ar w' g 0 .u8 (sumOf [])) ∧ Below w.heap.size w w' := by
  obtain ⟨w1, hw1⟩ : ∃ w1, w1 = w.alloc (.cells (hcells z8 z64 0).toArray 110) := ⟨_, rfl⟩
  obtain ⟨c, hc⟩ : ∃ c, c = w.heap.size := ⟨_, rfl⟩
  have B2 : Below w.heap.size w w1 := by rw [hw1]; exact (Below.refl _ _).alloc (Nat.le_refl _) _
  have HH2 : Has w1 c [] := by rw [hw1, hc]; exact Has.new w
  have HW1 : Hid (w1 = w.alloc (.cells (hcells z8 z64 0).toArray 110)) := hw1
  have HC : Hid (c = w.heap.size) := hc
  have HXA : Hid (AllB []) := allB_mem (by simp)
  have HPA : Hid (AllB (padl 0)) := padl_all _
  have HPL : Hid (0 < (padl 0).length ∧ (padl 0).length ≤ 73) := by
    show _ ∧ _
    rw [padl_len]; unfold zn; omega
  have c72 : w1.cell? ⟨c, 72, none⟩ = some (.int .i64 0) := by
    obtain ⟨_, _, hq, _⟩ := HH2
    exact hq.size
  clear hw1 hc
  go_enter Tryd.func70, Tryd.ntmps70
  go_wp2_with (first
    | (refine hnew_law _ rfl rfl ?_; intro wx hwx; rw [← HW1.out] at hwx; subst hwx; rw [← HC.out])
    | (go_at_call 78; refine (padding_any 0 _ (by omega)).mono ?_; rintro e w3 ⟨v3, rfl, hv3, ⟨g3, hg3, ar3, hv3e⟩, hb3⟩; have HV3 : Hid (v3 = .slice (some ⟨g3, 0, none⟩) (padl 0).length (padl 0).length) := hv3e; clear hv3e hv3; have AR3 : Hid (Ar w3 g3 0 .u8 (padl 0)) := ar3; clear ar3; have HG3 : Hid (g3 ≠ c) := by { have := HH2.lt; show _ ≠ _; omega })
    | (go_at_call 68; refine (write_any w3 c [] (padl 0) v3 (HH2.below hb3 HH2.lt) HXA.out (by rw [HV3.out]; exact AR3.out.kept HPA.out HPL.out.1 (by have := HPL.out.2; omega) HG3.out) (by have := HPL.out.2; simp; omega)).mono ?_; rintro e w4 ⟨rfl, HH4, BU4⟩; obtain ⟨st4, tl4, k1, k2, k3, k4, k5, k6⟩ := HH4; have HS4 : Hid (Ar w4 c 0 .u32 st4 ∧ st4.length = 8 ∧ st4 = upto ([] ++ padl 0) ((0 + (padl 0).length) / 64)) := ⟨k1.1, k2, by { have hp := HPL.out.1; rw [List.length_append, List.length_nil] at k5; rw [← k5]; unfold hw; rw [if_neg (by omega)] }⟩; clear k1 k2 k3 k4 k5 k6)
    | (refine load_law _ rfl (.tmp 13) 108 rfl .u32 st4 _ _ rfl HS4.out.1 8 107 Tryd.underlying108 i_arr8 HS4.out.2.1 ?_)
    | (go_at_call 79; refine (wordsToBytes_any st4 _ (by rw [HS4.out.2.2]; exact upto_all _ _) HS4.out.2.1).mono ?_; rintro e w5 ⟨v5, rfl, hv5, ⟨g5, hg5, hg5l, ar5⟩, hb5⟩)
    | fail)
  go_ret
  have e : sumOf [] = catw st4 8 := by unfold sumOf; rw [HS4.out.2.2]; rfl
  have b3 : Below w.heap.size w w3 := B2.trans (hb3.mono B2.size)
  have b4 : Below w.heap.size w w4 := b3.trans (BU4.below (by have := HC.out; omega) b3.size)
  rw [e]
  subst hg5
  exact ⟨_, rfl, hv5, ⟨g5, rfl, Nat.le_trans b4.size hg5l, ar5⟩, b4.trans (hb5.mono b4.size)⟩
end Go.Proofs.YtmbfccclghnaeaaDoor.mc

/- What sha's Sum, New and Len answer. No claim of its own. -/
namespace Go.Proofs.YtmbfccclghnaeaaDoor.mc
open Go.RowKit
set_option maxRecDepth 20000

/-- a slice that was there before block b lasts whatever becomes of b -/
theorem _root_.Go.Proofs.YtmbfccclghnaeaaDoor.Byt.kept {w w1 : World} {b : Nat} {v : Value} {xs : List Int} (h : Byt w v xs) (hb : Below w.heap.size w w1) (hB : w.heap.size ≤ b) : Kept b w1 v xs := by
  intro w' hw
  exact h.below (hb.trans (hw.below hB hb.size))

set_option maxRecDepth 100000 in
set_option maxHeartbeats 2000000 in
theorem sum_any (w : World) (v : Value) (xs : List Int) (h : Byt w v xs) (hn : xs.length ≤ 1000000) :
    Calls Tryd.prog 75 #[v] w fun e w' => ∃ v', e = .returned v' ∧ Byt w' v' (sumOf xs) ∧ (∃ g, v' = .slice (some ⟨g, 0, none⟩) 32 32 ∧ w.heap.size ≤ g ∧ Ar w' g 0 .u8 (sumOf xs)) ∧ Below w.heap.size w w' := by
  obtain ⟨w1, hw1⟩ : ∃ w1, w1 = w.alloc (.cells (hcells z8 z64 0).toArray 110) := ⟨_, rfl⟩
  obtain ⟨c, hc⟩ : ∃ c, c = w.heap.size := ⟨_, rfl⟩
  have B1 : Below w.heap.size w w1 := by rw [hw1]; exact (Below.refl _ _).alloc (Nat.le_refl _) _
  have HH1 : Has w1 c [] := by rw [hw1, hc]; exact Has.new w
  have HK : Hid (Kept c w1 v xs) := h.kept B1 (by omega)
  have HW1 : Hid (w1 = w.alloc (.cells (hcells z8 z64 0).toArray 110)) := hw1
  have HC : Hid (c = w.heap.size) := hc
  have HE : Hid (AllB []) := allB_mem (by simp)
  have HXA : Hid (AllB xs) := h.all
  have HNX : Hid (xs.length ≤ 1000000) := hn
  clear hw1 hc h hn
  go_enter Tryd.func75, Tryd.ntmps75
  go_wp2_with (first
    | (refine hnew_law _ rfl rfl ?_; intro wx hwx; rw [← HW1.out] at hwx; subst hwx; rw [← HC.out])
    | (go_at_call 68; refine (write_any _ c [] xs v HH1 HE.out HK.out (by have := HNX.out; simp; omega)).mono ?_; rintro e w2 ⟨rfl, HH2, BU2⟩; rw [List.nil_append] at HH2; have b2 : Below w.heap.size w w2 := B1.trans (BU2.below (by have := HC.out; omega) B1.size))
    | (go_at_call 70; refine (hsum_any w2 c xs HH2 HXA.out HNX.out).mono ?_; rintro e w3 ⟨v3, rfl, hv3, ⟨g3, hg3, hg3l, ar3⟩, hb3⟩)
    | fail)
  go_ret
  subst hg3
  exact ⟨_, rfl, hv3, ⟨g3, rfl, Nat.le_trans b2.size hg3l, ar3⟩, b2.trans (hb3.mono b2.size)⟩

set_option maxHeartbeats 2000000 in
theorem hwrite_nil (w : World) (v : Value) : Calls Tryd.prog 68 #[.pointer none, v] w fun e w' => e = .returned (.tuple #[]) ∧ w' = w := by
  go_enter Tryd.func68, Tryd.ntmps68
  go_wp2
  first
    | exact bodyPost_ret (v := .tuple #[]) (results_none rfl _ _ _) rfl ⟨rfl, rfl⟩
    | exact bodyPost_end (v := .tuple #[]) (results_none rfl _ _ _) rfl ⟨rfl, rfl⟩

theorem hbox_law {ops : Array Oper} {rest : List Oper} {o : Oper} {a : Act} {Q : Exit → Act → World → Prop} (w : World) (hg : o.guard = none) (x : Operand) (hop : o.op = Op.box 110 x) (hx : a.eval x = .agg (hcells z8 z64 0).toArray)
    (hK : ∀ w', w' = w.alloc (.cells (hcells z8 z64 0).toArray 110) → wpList Tryd.prog ops Q rest (a.put o.dst (.pointer (some ⟨w.heap.size, 0, none⟩))) w') :
    wpList Tryd.prog ops Q (o :: rest) a w := by
  refine wpList_plain hg fun K hK' => ?_
  unfold Oper.wp
  simp [execOp, hop, hx, Instr.box, newVar, newRow, Value.cells, Result.andThen]
  exact hK' _ _ (hK _ rfl)

set_option maxHeartbeats 2000000 in
theorem new_any (w : World) : Calls Tryd.prog 67 #[] w fun e w' => ∃ b, e = .returned (.pointer (some ⟨b, 0, none⟩)) ∧ w.heap.size ≤ b ∧ Has w' b [] ∧ Below w.heap.size w w' := by
  obtain ⟨w1, hw1⟩ : ∃ w1, w1 = w.alloc (.cells (hcells z8 z64 0).toArray 110) := ⟨_, rfl⟩
  have B1 : Below w.heap.size w w1 := by rw [hw1]; exact (Below.refl _ _).alloc (Nat.le_refl _) _
  have HH1 : Has w1 w.heap.size [] := by rw [hw1]; exact Has.new w
  have HW1 : Hid (w1 = w.alloc (.cells (hcells z8 z64 0).toArray 110)) := hw1
  clear hw1
  go_enter Tryd.func67, Tryd.ntmps67
  go_wp2_with (first
    | (refine build_law _ rfl 110 _ rfl (.agg (hcells z8 z64 0).toArray) (by kernel_rfl) ?_)
    | (refine hbox_law _ rfl (.tmp 1) rfl rfl ?_; intro wx hwx; rw [← HW1.out] at hwx; subst hwx)
    | fail)
  go_ret
  exact ⟨_, rfl, Nat.le_refl _, HH1, B1⟩

/-- the sum of "abc": its first byte and its last -/
theorem sum_abc : gb (sumOf [97, 98, 99]) 0 = 186 ∧ gb (sumOf [97, 98, 99]) 31 = 173 := by decide +kernel
end Go.Proofs.YtmbfccclghnaeaaDoor.mc

/- What it means that a slice value holds a list of words, and how that lasts: no claim of its own. -/
namespace Go.Proofs.YtmbfccclghnaeaaDoor.mc
open Go.RowKit
set_option maxRecDepth 20000

/-- the slice value v holds the words xs in w -/
def Wrd (w : World) (v : Value) (xs : List Int) : Prop :=
  ∃ ao cap, v = .slice ao xs.length cap ∧ xs.length ≤ cap ∧ cap ≤ 9223372036854775807 ∧ AllW xs ∧ (ao = none → cap = 0) ∧
    (0 < xs.length → ∃ b off, ao = some ⟨b, off, none⟩ ∧ ∀ t, t < xs.length → w.cell? ⟨b, off + t, none⟩ = some (.int .u32 (gb xs t)))

theorem Wrd.below {w w' : World} {v : Value} {xs : List Int} (h : Wrd w v xs) (hb : Below w.heap.size w w') : Wrd w' v xs := by
  obtain ⟨ao, cap, rfl, h1, h2, h3, h4, h5⟩ := h
  refine ⟨ao, cap, rfl, h1, h2, h3, h4, fun hp => ?_⟩
  obtain ⟨b, off, rfl, hc⟩ := h5 hp
  refine ⟨b, off, rfl, fun t ht => ?_⟩
  have := hc t ht
  rw [hb.cell (World.block_lt_of_cell? w _ this)]
  exact this

theorem Wrd.nil (w : World) : Wrd w (.slice none 0 0) [] :=
  ⟨none, 0, rfl, by simp, by simp, fun j => by simp [gb, W32], fun _ => rfl, fun h => by simp at h⟩

theorem Wrd.all {w : World} {v : Value} {xs : List Int} (h : Wrd w v xs) : AllW xs := by
  obtain ⟨ao, cap, rfl, h1, h2, h3, h4, h5⟩ := h
  exact h3

theorem Wrd.len {w : World} {v : Value} {xs : List Int} (h : Wrd w v xs) : xs.length ≤ 9223372036854775807 := by
  obtain ⟨ao, cap, rfl, h1, h2, h3, h4, h5⟩ := h
  omega

/-- a row of the call's own, as bytes -/
theorem Wrd.own {w : World} {base : Nat} {v : Value} {n : Nat} {xs : List Int} (h : w.ownsRow base 107 1 v n (xs.map (Value.int .u32))) (ha : AllW xs) : Wrd w v xs := by
  have hl : xs.length = n := by have := h.1; simpa using this
  rcases h.2 with ⟨rfl, hn⟩ | ⟨g, cap, cur, rfl, hg, hb, hc, hm, hs, ht⟩
  · have : xs = [] := List.eq_nil_of_length_eq_zero (by omega)
    subst this
    exact Wrd.nil w
  · subst hl
    refine ⟨some ⟨g, 0, none⟩, cap, rfl, hc, by simpa [maxLen] using hm, ha, (by intro h; cases h), fun hp => ⟨g, 0, rfl, fun t ht' => ?_⟩⟩
    have := h.cells (g := g) rfl t (.int .u32 (gb xs t)) (by simp [gb, List.getD, ht'])
    rw [Addr.add_lit] at this
    simpa using this

/-- v owns the words xs, in a block from B on -/
def OwnW (B : Nat) (w : World) (v : Value) (xs : List Int) : Prop := w.ownsRow B 107 1 v xs.length (xs.map (Value.int .u32))
theorem OwnW.wrd {B : Nat} {w : World} {v : Value} {xs : List Int} (h : OwnW B w v xs) (ha : AllW xs) : Wrd w v xs := Wrd.own h ha
theorem OwnW.empty (w : World) {B : Nat} (hB : B ≤ w.heap.size) : OwnW B (w.alloc (.cells #[] 107)) (.slice (some ⟨w.heap.size, 0, none⟩) 0 0) [] :=
  World.ownsRow_made w #[] 0 hB (by simp [maxLen]) (by simp)

theorem OwnW.drew {B : Nat} {w : World} {v : Value} {xs : List Int} (h : OwnW B w v xs) (m : Nat) : OwnW B (w.drewN m) v xs := h

section
variable {ops : Array Oper} {rest : List Oper} {o : Oper} {a : Act} {Q : Exit → Act → World → Prop}
/-- 'out = append(out, c)', out of the call's own -/
theorem push_lawW (w0 : World) (hg : o.guard = none) (s x : Operand) (hop : o.op = .call { callee := .builtin .append, args := #[s, x], argTypes := #[104, 104] })
    (B : Nat) (hB : B ≤ w0.heap.size) (v : Value) (xs : List Int) (c : Int) (hs : a.eval s = v) (hx : a.eval x = .slice (some ⟨w0.heap.size, 0, none⟩) 1 1) (hown : OwnW B w0 v xs) (hn : xs.length ≤ 1099511627776)
    (hK : ∀ v' w', OwnW B w' v' (xs ++ [c]) → Below B w0 w' → wpList Tryd.prog ops Q rest (a.put o.dst v') w') :
    wpList Tryd.prog ops Q (o :: rest) a (w0.alloc (.cells #[.int .u32 c] 107)) := by
  obtain ⟨i0, hi, hz0, hz1, hz2⟩ := info_parts info_u32
  refine wpList_append_own _ hg s x 104 hop B 107 i0 (.int .u32 0) 1 4 Tryd.underlying104 hi hz0 hz1 hz2 rfl (by decide) v xs.length _ hs (World.ownsRow.alloc hown _) ⟨w0.heap.size, 0, none⟩ 1 1 [.int .u32 c] hx rfl ?_ ?_ (by simp only [maxLen]; omega) (by omega) (by simp; omega) fun v' w' h1 h2 _ => ?_
  · intro j u hj
    match j, hj with
    | 0, hj => simp at hj; subst hj; simp [Addr.add]
  · intro u hu; simp at hu; subst hu; rfl
  · refine hK v' w' ?_ ?_
    · show w'.ownsRow B 107 1 v' (xs ++ [c]).length ((xs ++ [c]).map (Value.int .u32))
      simpa using h1
    · refine ((Below.refl B w0).alloc hB _).grown h2 (by simp; omega) fun k hk => ?_
      exact (World.ownsRow.lt hown k hk).1

/-- 'out = append(out, c)', out of the call's own, in a region that draws its order -/
theorem step_push1W {K : Act → World → Prop} {E : Prop} (w0 : World) (hg : o.guard = none) (s x : Operand) (hop : o.op = .call { callee := .builtin .append, args := #[s, x], argTypes := #[104, 104] })
    (B : Nat) (hB : B ≤ w0.heap.size) (v : Value) (xs : List Int) (c : Int) (hs : a.eval s = v) (hx : a.eval x = .slice (some ⟨w0.heap.size, 0, none⟩) 1 1) (hown : OwnW B w0 v xs) (hn : xs.length ≤ 1099511627776)
    (hK : ∀ v' w', OwnW B w' v' (xs ++ [c]) → Below B w0 w' → K (a.put o.dst v') w') :
    if Region.wanted o (yielded ops a.tmps) = true then Oper.wp Tryd.prog o a (w0.alloc (.cells #[.int .u32 c] 107)) K Q else E := by
  have hw : Region.wanted o (yielded ops a.tmps) = true := by simp [Region.wanted, hg]
  rw [if_pos hw]
  obtain ⟨i0, hi, hz0, hz1, hz2⟩ := info_parts info_u32
  refine wp_append_own _ s x 104 hop B 107 i0 (.int .u32 0) 1 4 Tryd.underlying104 hi hz0 hz1 hz2 rfl (by decide) v xs.length _ hs (World.ownsRow.alloc hown _) ⟨w0.heap.size, 0, none⟩ 1 1 [.int .u32 c] hx rfl ?_ ?_ (by simp only [maxLen]; omega) (by omega) (by simp; omega) fun v' w' h1 h2 _ => ?_
  · intro j u hj
    match j, hj with
    | 0, hj => simp at hj; subst hj; simp [Addr.add]
  · intro u hu; simp at hu; subst hu; rfl
  · refine hK v' w' ?_ ?_
    · show w'.ownsRow B 107 1 v' (xs ++ [c]).length ((xs ++ [c]).map (Value.int .u32))
      simpa using h1
    · refine ((Below.refl B w0).alloc hB _).grown h2 (by simp; omega) fun k hk => ?_
      exact (World.ownsRow.lt hown k hk).1

end
end Go.Proofs.YtmbfccclghnaeaaDoor.mc

/- What the reference's Constants and First answer. No claim of its own. -/
namespace Go.Proofs.YtmbfccclghnaeaaDoor.mc
open Go.RowKit
set_option maxRecDepth 20000

/-- the words of a literal -/
theorem Ar.wrd {w : World} {b : Nat} {xs : List Int} (h : Ar w b 0 .u32 xs) (ha : AllW xs) (hl : xs.length ≤ 9223372036854775807) : Wrd w (.slice (some ⟨b, 0, none⟩) xs.length xs.length) xs :=
  ⟨_, _, rfl, Nat.le_refl _, hl, ha, (by intro h; cases h), fun _ => ⟨b, 0, rfl, fun t ht => h.cell t ht⟩⟩
theorem bslice_law {ops : Array Oper} {rest : List Oper} {o : Oper} {a : Act} {Q : Exit → Act → World → Prop} (w : World) (hg : o.guard = none) (n : Nat) (parts : Array (Nat × Operand)) (hop : o.op = Op.buildSlice 104 n parts) (xs : List Int)
    (hrun : (Instr.buildSlice 104 n (parts.map fun (i, x) => (i, a.eval x))).run Tryd.prog w = .ok (.slice (some ⟨w.heap.size, 0, none⟩) n n) (w.alloc (.cells (ints .u32 xs) 107)))
    (hK : ∀ w', w' = w.alloc (.cells (ints .u32 xs) 107) → wpList Tryd.prog ops Q rest (a.put o.dst (.slice (some ⟨w.heap.size, 0, none⟩) n n)) w') : wpList Tryd.prog ops Q (o :: rest) a w := by
  refine wpList_plain hg fun K hK' => ?_
  unfold Oper.wp execOp
  simp only [hop, Sem.run_bind, Sem.run_pure, Result.andThen_ok, hrun]
  exact hK' _ _ (hK _ rfl)
theorem kc_all : AllW kc := by
  refine allW_mem fun x hx => ?_
  have h : kc.all (fun x => decide (0 ≤ x ∧ x ≤ 4294967295)) = true := by decide +kernel
  have := List.all_eq_true.1 h x hx
  simpa [W32] using this

set_option maxHeartbeats 2000000 in
theorem rfirst_any (w : World) :
    Calls Tryd.prog 72 #[] w fun e w' => ∃ v, e = .returned v ∧ Wrd w' v fst8 ∧ Below w.heap.size w w' := by
  obtain ⟨w1, hw1⟩ : ∃ w1, w1 = w.alloc (.cells (ints .u32 fst8) 107) := ⟨_, rfl⟩
  have B1 : Below w.heap.size w w1 := by rw [hw1]; exact (Below.refl _ _).alloc (Nat.le_refl _) _
  have A1 : Hid (Wrd w1 (.slice (some ⟨w.heap.size, 0, none⟩) 8 8) fst8) := by rw [hw1]; exact (Ar.new w 107 .u32 fst8).wrd fst8_all (by simp [fst8])
  have HW1 : Hid (w1 = w.alloc (.cells (ints .u32 fst8) 107)) := hw1
  clear hw1
  go_enter Tryd.func72, Tryd.ntmps72
  go_wp2_with (refine bslice_law _ rfl 8 _ rfl fst8 (by kernel_rfl) ?_; intro wx hwx; rw [← HW1.out] at hwx; subst hwx)
  go_ret
  exact ⟨_, rfl, A1.out, B1⟩

set_option maxRecDepth 100000 in
set_option maxHeartbeats 2000000 in
theorem rconstants_any (w : World) :
    Calls Tryd.prog 81 #[] w fun e w' => ∃ v, e = .returned v ∧ Wrd w' v kc ∧ Below w.heap.size w w' := by
  obtain ⟨w1, hw1⟩ : ∃ w1, w1 = w.alloc (.cells (ints .u32 kc) 107) := ⟨_, rfl⟩
  have B1 : Below w.heap.size w w1 := by rw [hw1]; exact (Below.refl _ _).alloc (Nat.le_refl _) _
  have A1 : Hid (Wrd w1 (.slice (some ⟨w.heap.size, 0, none⟩) 64 64) kc) := by rw [hw1]; exact (Ar.new w 107 .u32 kc).wrd kc_all (by rw [kc_len]; omega)
  have HW1 : Hid (w1 = w.alloc (.cells (ints .u32 kc) 107)) := hw1
  clear hw1
  go_enter Tryd.func81, Tryd.ntmps81
  go_wp2_with (refine bslice_law _ rfl 64 _ rfl kc (by kernel_rfl) ?_; intro wx hwx; rw [← HW1.out] at hwx; subst hwx)
  go_ret
  exact ⟨_, rfl, A1.out, B1⟩
end Go.Proofs.YtmbfccclghnaeaaDoor.mc

/- 'append(out, s...)' of bytes, out of the call's own. No claim of its own. -/
namespace Go.Proofs.YtmbfccclghnaeaaDoor.mc
open Go.RowKit
set_option maxRecDepth 20000

theorem pushs_law {ops : Array Oper} {rest : List Oper} {o : Oper} {a : Act} {Q : Exit → Act → World → Prop} (w : World) (hg : o.guard = none) (s x : Operand) (hop : o.op = .call { callee := .builtin .append, args := #[s, x], argTypes := #[23, 23] })
    (B : Nat) (hB : B ≤ w.heap.size) (v vy : Value) (xs ys : List Int) (hs : a.eval s = v) (hx : a.eval x = vy) (hown : Own B w v xs) (hy : Byt w vy ys) (hn : xs.length ≤ 1099511627776) (hm : ys.length ≤ 1099511627776)
    (hK : ∀ v' w', Own B w' v' (xs ++ ys) → Below B w w' → wpList Tryd.prog ops Q rest (a.put o.dst v') w') :
    wpList Tryd.prog ops Q (o :: rest) a w := by
  obtain ⟨i0, hi, hz0, hz1, hz2⟩ := info_parts info_u8
  obtain ⟨ao, cap, rfl, h1, h2, h3, h4, h5⟩ := hy
  cases ao with
  | none =>
    have hc := h4 rfl
    subst hc
    have : ys = [] := List.eq_nil_of_length_eq_zero (by omega)
    subst this
    refine wpList_append_own_none hg s x 23 hop B 5 i0 1 Tryd.underlying23 hi v xs.length _ hs hown hx (hK v w ?_ (Below.refl _ _))
    rwa [List.append_nil]
  | some ad =>
    refine wpList_append_own _ hg s x 23 hop B 5 i0 (.int .u8 0) 1 1 Tryd.underlying23 hi hz0 hz1 hz2 rfl (by decide) v xs.length _ hs hown ad ys.length cap (ys.map (Value.int .u8)) hx (by simp) ?_ ?_ (by simp only [maxLen]; omega) (by omega) hB fun v' w' h1 h2 _ => ?_
    · intro j u hj
      have hjl : j < ys.length := by have := (List.getElem?_eq_some_iff.1 hj).1; simpa using this
      obtain ⟨b, off, e, hc⟩ := h5 (by omega)
      cases e
      rw [Addr.add_mid, hc j hjl, ← hj]
      simp [gb, List.getD, hjl]
    · intro u hu
      simp only [List.mem_map] at hu
      obtain ⟨y, _, rfl⟩ := hu
      rfl
    · refine hK v' w' ?_ ?_
      · show w'.ownsRow B 5 1 v' (xs ++ ys).length ((xs ++ ys).map (Value.int .u8))
        simpa using h1
      · exact (Below.refl B w).grown h2 hB fun k hk => (World.ownsRow.lt hown k hk).1
end Go.Proofs.YtmbfccclghnaeaaDoor.mc

