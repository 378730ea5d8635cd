/- What Write of a hash does. No claim of its own. -/
import Derived.Test.YtaplllonomdgeaaPure2
namespace Go.Proofs.Ytaplllonomdgeaa
open Go.RowKit

/-- all is as it was but block b -/
structure But (b : Nat) (w w' : World) : Prop where
  os : w'.os = w.os
  tape : w'.tape = w.tape
  output : w'.output = w.output
  size : w.heap.size ≤ w'.heap.size
  block : ∀ k, k < w.heap.size → k ≠ b → w'.heap[k]? = w.heap[k]?
theorem But.refl (b : Nat) (w : World) : But b w w := ⟨rfl, rfl, rfl, Nat.le_refl _, fun _ _ _ => rfl⟩
theorem But.trans {b : Nat} {u v w : World} (h : But b u v) (k : But b v w) : But b u w :=
  ⟨k.os.trans h.os, k.tape.trans h.tape, k.output.trans h.output, Nat.le_trans h.size k.size, fun i hi hb => (k.block i (Nat.lt_of_lt_of_le hi h.size) hb).trans (h.block i hi hb)⟩
theorem But.of {b : Nat} {w w' : World} (h : Below w.heap.size w w') : But b w w' := ⟨h.os, h.tape, h.output, h.size, fun k hk _ => h.block k hk⟩
theorem But.below {b B : Nat} {w w' : World} (h : But b w w') (hB : B ≤ b) (hs : B ≤ w.heap.size) : Below B w w' := ⟨h.os, h.tape, h.output, h.size, fun k hk => h.block k (Nat.lt_of_lt_of_le hk hs) (by omega)⟩
theorem But.drewN {b : Nat} {w w' : World} (h : But b w w') (n : Nat) : But b w (w'.drewN n) := ⟨h.os, h.tape, h.output, h.size, h.block⟩
theorem heap_cells_other (g : Nat) (i : Nat) (hne : i ≠ g) : ∀ (vs : List Value) (o : Nat) (w : World), (w.setCells g o vs).heap[i]? = w.heap[i]?
  | [], _, _ => rfl
  | v :: r, o, w => by
    rw [World.setCells, heap_cells_other g i hne r (o + 1), Below.heap_setCell w ⟨g, o, none⟩ v i hne]
theorem But.setCells {b : Nat} {w w' : World} (h : But b w w') (o : Nat) (vs : List Value) : But b w (w'.setCells b o vs) := by
  have hb : Below b w' (w'.setCells b o vs) := Lib.below_setCells _ (Nat.le_refl _) _ _ (Below.refl _ _)
  exact ⟨hb.os.trans h.os, hb.tape.trans h.tape, hb.output.trans h.output, Nat.le_trans h.size hb.size, fun k hk hkb => by
    rw [heap_cells_other b k hkb vs o w']; exact h.block k hk hkb⟩
theorem But.setNew {b c : Nat} {w w' : World} (h : But b w w') (hc : w.heap.size ≤ c) (o : Nat) (vs : List Value) : But b w (w'.setCells c o vs) := by
  have hb : Below w.heap.size w' (w'.setCells c o vs) := Lib.below_setCells _ hc _ _ (Below.refl _ _)
  exact ⟨hb.os.trans h.os, hb.tape.trans h.tape, hb.output.trans h.output, Nat.le_trans h.size hb.size, fun k hk hkb => (hb.block k hk).trans (h.block k hk hkb)⟩
/-- a slice that lasts whatever becomes of block b -/
def Kept (b : Nat) (w : World) (v : Value) (xs : List Int) : Prop := ∀ w', But b w w' → Byt w' v xs

theorem step_call1 {ops : Array Oper} {o : Oper} {a : Act} {Q : Exit → Act → World → Prop} {K : Act → World → Prop} {E : Prop} (w : World) (hg : o.guard = none) (d : Option Tmp) (hd : o.dst = d) (f : FuncId) (x : Operand) (ats : Array TypeId) (hop : o.op = .call { callee := .value (.func f), args := #[x], argTypes := ats })
    (hcf : ∀ (q : Array Value) (w : World), (callFunc f q).run Try.prog w = .ok (.enter f q) w) (vx : Value) (hx : a.eval x = vx) (v : Value) (R : World → Prop) (hc : Calls Try.prog f #[vx] w fun e w' => e = .returned v ∧ R w') (hK : ∀ w', R w' → K (a.put d v) w') : if Region.wanted o (yielded ops a.tmps) = true then Oper.wp Try.prog o a w K Q else E :=
  step_call w hg d hd f #[x] ats hop hcf v R (by rw [show #[x].map a.eval = #[vx] by simp [hx]]; exact hc) hK
theorem step_call2 {ops : Array Oper} {o : Oper} {a : Act} {Q : Exit → Act → World → Prop} {K : Act → World → Prop} {E : Prop} (w : World) (hg : o.guard = none) (d : Option Tmp) (hd : o.dst = d) (f : FuncId) (x y : Operand) (ats : Array TypeId) (hop : o.op = .call { callee := .value (.func f), args := #[x, y], argTypes := ats })
    (hcf : ∀ (q : Array Value) (w : World), (callFunc f q).run Try.prog w = .ok (.enter f q) w) (vx vy : Value) (hx : a.eval x = vx) (hy : a.eval y = vy) (v : Value) (R : World → Prop) (hc : Calls Try.prog f #[vx, vy] w fun e w' => e = .returned v ∧ R w') (hK : ∀ w', R w' → K (a.put d v) w') : if Region.wanted o (yielded ops a.tmps) = true then Oper.wp Try.prog o a w K Q else E :=
  step_call w hg d hd f #[x, y] ats hop hcf v R (by rw [show #[x, y].map a.eval = #[vx, vy] by simp [hx, hy]]; exact hc) hK

/-- an operation that is taken first, its slot written out -/
theorem take_law {ops : Array Oper} {Q : Exit → Act → World → Prop} {S : World → Prop} (i : Nat) {oi : Oper} (d : Option Tmp) (v : Value) {fuel : Nat} {listed : Array Bool} {a : Act} {w : World} (hi : ops[i]? = some oi) (hd : oi.dst = d)
    (hs : Region.noSelect ops = true) (hf : Region.free .any ops listed i = true) (hr : (Region.ready .any ops listed).contains i = true)
    (hQ : ∀ c a w, Q (.panic c) (a.put d v) w → Q (.panic c) a w) (hy : YieldsIf Try.prog ops S oi v a) (hS : S w)
    (h : wpAnyH Try.prog .any ops Q S fuel (listed.setIfInBounds i true) (a.put d v) w) : wpAnyH Try.prog .any ops Q S (fuel + 1) listed a w := by
  subst hd
  exact wpAnyH_take hi hs hf hr hQ hy hS h

/-- 'v[l:]' of a slice that lasts -/
theorem cut_kept {ops : Array Oper} {rest : List Oper} {o : Oper} {a : Act} {Q : Exit → Act → World → Prop} {w0 : World} {b : Nat} (w : World) (hg : o.guard = none) (s x : Operand) (hop : o.op = Op.slice 22 s (some x) none none) (v : Value) (xs : List Int) (L : Int) (l : Nat)
    (hs : a.eval s = v) (hx : a.eval x = .int .i64 L) (hL : L = (l : Int)) (hl : l ≤ xs.length) (hw : But b w0 w) (hb : Kept b w0 v xs)
    (hK : ∀ v', Kept b w0 v' (xs.drop l) → wpList Try.prog ops Q rest (a.put o.dst v') w) :
    wpList Try.prog ops Q (o :: rest) a w := by
  refine wpList_plain hg fun K hK' => ?_
  obtain ⟨ao, cap, rfl, hc, hb'⟩ := byt_cut (hb w hw) l xs.length hl (Nat.le_refl _)
  have hrun := run_slice_l (P := Try.prog) w 22 ao xs.length cap und_bytes .i64 L (by omega) (by omega)
  rw [elem_bytes, run_size_u8] at hrun
  subst hL
  have hkk : Kept b w0 (sliced ao l xs.length cap 1) (xs.drop l) := by
    intro w' hw'
    obtain ⟨ao2, cap2, e, -, hb2⟩ := byt_cut (hb w' hw') l xs.length hl (Nat.le_refl _)
    injection e with e1 e2 e3
    subst e1; subst e3
    rwa [List.take_length] at hb2
  unfold Oper.wp
  simp [execOp, hop, hs, hx, run_sliceAt_slice w 22 _ _ _ _ und_bytes, hrun, Result.andThen]
  exact hK' _ _ (hK _ hkk)
/-- 'copy(d, s)', what it makes of the world a letter -/
theorem copy_lawm {ops : Array Oper} {rest : List Oper} {o : Oper} {a : Act} {Q : Exit → Act → World → Prop} (w : World) (hg : o.guard = none) (x y : Operand) (hop : o.op = .call { callee := .builtin .copy, args := #[x, y], argTypes := #[22, 22] })
    (b p dl dc m : Nat) (v : Value) (ys : List Int) (hx : a.eval x = .slice (some ⟨b, p, none⟩) dl dc) (hy : a.eval y = v) (hb : Byt w v ys) (hm : m = min ys.length dl) (ht : w.there b p m)
    (hK : ∀ w', w' = w.setCells b p ((ys.take dl).map (Value.int .u8)) → wpList Try.prog ops Q rest (a.put o.dst (.int .i64 (m : Int))) w') :
    wpList Try.prog ops Q (o :: rest) a w := by
  subst hm
  exact copy_law w hg x y hop b p dl dc v ys hx hy hb ht (hK _ rfl)
theorem take_law0 {ops : Array Oper} {Q : Exit → Act → World → Prop} (i : Nat) {oi : Oper} (d : Option Tmp) (v : Value) {fuel : Nat} {listed : Array Bool} {a : Act} {w : World} (hi : ops[i]? = some oi) (hd : oi.dst = d)
    (hs : Region.noSelect ops = true) (hf : Region.free .any ops listed i = true) (hr : (Region.ready .any ops listed).contains i = true)
    (hQ : ∀ c a w, Q (.panic c) (a.put d v) w → Q (.panic c) a w) (hy : Yields Try.prog ops oi v a)
    (h : wpAny Try.prog .any ops Q fuel (listed.setIfInBounds i true) (a.put d v) w) : wpAny Try.prog .any ops Q (fuel + 1) listed a w := by
  subst hd
  exact wpAny_take hi hs hf hr hQ hy h
/-- a hash that has the bytes xs -/
def Has (w : World) (b : Nat) (xs : List Int) : Prop := ∃ st tl, Hsh w b st tl xs.length ∧ st.length = 8 ∧ tl.length = 64 ∧ AllB tl ∧ hw st xs.length = upto xs (xs.length / 64) ∧ tl.take (xs.length % 64) = xs.drop (64 * (xs.length / 64))
/-- how long a slice is -/
def lenV : Value → Nat
  | .slice _ n _ => n
  | _ => 0

set_option maxRecDepth 100000 in
set_option maxHeartbeats 4000000 in
theorem write_any (w : World) (b : Nat) (xs ys : List Int) (v : Value) (hh : Has w b xs) (hxa : AllB xs) (hk : Kept b w v ys) (hnn : xs.length + ys.length ≤ 1048576) :
    Calls Try.prog 33 #[.pointer (some ⟨b, 0, none⟩), v] w fun e w' => e = .returned (.tuple #[]) ∧ Has w' b (xs ++ ys) ∧ But b w w' := by
  obtain ⟨st, tl, h, hl, htl, hta, hst, htt⟩ := hh
  obtain ⟨n, hnx⟩ : ∃ n, n = xs.length := ⟨_, rfl⟩
  obtain ⟨all, hall⟩ : ∃ all, all = xs ++ ys := ⟨_, rfl⟩
  obtain ⟨N, hN⟩ : ∃ N, N = all.length := ⟨_, rfl⟩
  have hNN : N = n + ys.length := by rw [hN, hall, hnx]; simp
  have hya : AllB ys := (hk w (But.refl _ _)).all
  have hala : AllB all := by rw [hall]; exact allB_append hxa hya
  have HALA : Hid (AllB all) := hala
  have HN : Hid (N = all.length) := hN
  have HALL : Hid (all = xs ++ ys) := hall
  have HSTART : Hid (hw st n = upto all (n / 64) ∧ tl.take (n % 64) = (all.drop (64 * (n / 64))).take (n % 64) ∧ ys = all.drop n) := by
    refine ⟨?_, ?_, ?_⟩
    · rw [hnx, hall, upto_append xs ys _ (by omega)]; exact hst
    · rw [hnx, hall, List.drop_append_of_le_length (by omega), List.take_append_of_le_length (by simp; omega), ← htt, List.take_take, Nat.min_self]
    · rw [hall, hnx]; simp
  have HNN : Hid (N = n + ys.length ∧ N ≤ 1048576) := ⟨hNN, by omega⟩
  have HK : Hid (Kept b w v ys) := hk
  have HTL : Hid (tl.length = 64 ∧ AllB tl) := ⟨htl, hta⟩
  rw [← hnx] at h
  have hn : n ≤ 1048576 := by omega
  have hny : (n : Int) + (ys.length : Int) = (N : Int) := by omega
  have hN6 : (N : Int) ≤ 1048576 := by omega
  clear hst htt hnx hall hN hNN hya hala hk htl hta hxa hnn
  have HH : Hid (Hsh w b st tl n) := h
  have HL : Hid (st.length = 8) := hl
  have hlt := h.lt
  have i1 : (n : Int) ≤ 1048576 := by omega
  have i2 : (0 : Int) ≤ (n : Int) := by omega
  obtain ⟨u, hu⟩ : ∃ u, u = n % 64 := ⟨_, rfl⟩
  have i3 : (n : Int) % 64 = (u : Int) := by omega
  have i4 : (n : Int).tmod 64 = (u : Int) := by rw [Int.tmod_eq_emod_of_nonneg (by omega)]; exact i3
  have HU : Hid (u = n % 64) := hu
  have HHL : Hid ((hw st n).length = 8) := by show _ = _; unfold hw; split; rfl; exact hl
  have hcw : ∀ (q : Array Value) (w : World), (callFunc 40 q).run Try.prog w = .ok (.enter 40 q) w := fun _ _ => rfl
  have HCW : Hid (∀ (q : Array Value) (w : World), (callFunc 40 q).run Try.prog w = .ok (.enter 40 q) w) := hcw
  clear hu h hl hcw
  go_enter Try.func33, Try.ntmps33
  go_wp2
  go_cut [4, 5] (fun r4 r5 wc => ∃ c : Nat, r4 = .pointer (some ⟨c, 0, none⟩) ∧ r5 = .int .i64 u ∧ w.heap.size ≤ c ∧ Ar wc c 0 .u32 (hw st n) ∧ Below w.heap.size w wc)
  case first =>
    refine wp_region_held_drew (S := fun w' => Hsh w' b st tl n ∧ Below w.heap.size w w') (by kernel_rfl) ⟨HH.out.below (Below.refl _ _).drew hlt, (Below.refl _ _).drew⟩ (fun hS => ?_)
    refine take_law 0 (some 9) (.pointer (some ⟨b, 0, none⟩)) rfl rfl (by kernel_rfl) (by kernel_rfl) (by kernel_rfl) (fun _ _ _ h => h) (Or.inl ⟨by rfl, fun w hSw => by rfl⟩) hS ?_
    simp only [Act.put, List.setIfInBounds_toArray, List.set_cons_zero, List.set_cons_succ]
    refine take_law 2 (some 11) (.pointer (some ⟨b, 0, none⟩)) rfl rfl (by kernel_rfl) (by kernel_rfl) (by kernel_rfl) (fun _ _ _ h => h) (Or.inl ⟨by rfl, fun w hSw => by rfl⟩) hS ?_
    simp only [Act.put, List.setIfInBounds_toArray, List.set_cons_zero, List.set_cons_succ]
    refine take_law 3 (some 12) (.pointer (some ⟨b, 0, none⟩)) rfl rfl (by kernel_rfl) (by kernel_rfl) (by kernel_rfl) (fun _ _ _ h => h) (Or.inl ⟨by rfl, fun w hSw => by rfl⟩) hS ?_
    simp only [Act.put, List.setIfInBounds_toArray, List.set_cons_zero, List.set_cons_succ]
    refine take_law 4 (some 13) (.pointer (some ⟨b, 72, none⟩)) rfl rfl (by kernel_rfl) (by kernel_rfl) (by kernel_rfl) (fun _ _ _ h => h) (Or.inl ⟨by rfl, fun w hSw => by rfl⟩) hS ?_
    simp only [Act.put, List.setIfInBounds_toArray, List.set_cons_zero, List.set_cons_succ]
    refine take_law 5 (some 14) (.int .i64 n) rfl rfl (by kernel_rfl) (by kernel_rfl) (by kernel_rfl) (fun _ _ _ h => h) (Or.inl ⟨by rfl, fun w hSw => by have hc := hSw.1.size; go_simp⟩) hS ?_
    simp only [Act.put, List.setIfInBounds_toArray, List.set_cons_zero, List.set_cons_succ]
    refine take_law 6 (some 15) (.int .i64 u) rfl rfl (by kernel_rfl) (by kernel_rfl) (by kernel_rfl) (fun _ _ _ h => h) (Or.inl ⟨by rfl, fun w hSw => by go_simp⟩) hS ?_
    simp only [Act.put, List.setIfInBounds_toArray, List.set_cons_zero, List.set_cons_succ]
    refine wpAnyH_ready (rs := [1, 7]) (by kernel_rfl) (by simp) ?_
    refine AllReadyH.cons rfl (fun K hK => ?_) (AllReadyH.cons rfl (fun K hK => ?_) AllReadyH.nil)
    · refine step_call1 _ rfl (some 10) rfl 40 (.tmp 9) #[49] rfl HCW.out (.pointer (some ⟨b, 0, none⟩)) rfl (.agg (ints .u32 (hw st n))) (fun w' => Below w.drew.heap.size w.drew w') (hwords_any _ b n st tl hS.1 HL.out) fun w1 hb1 => ?_
      have B1 : Below w.heap.size w w1 := hS.2.trans hb1
      have H1 : Hsh w1 b st tl n := hS.1.below hb1 hlt
      refine hK.out _ _ ⟨H1, B1⟩ (fun hS1 => ?_)
      simp only [Act.put, List.setIfInBounds_toArray, List.set_cons_zero, List.set_cons_succ]
      refine wpAnyH_ready (rs := [7]) (by kernel_rfl) (by simp) ?_
      refine AllReadyH.cons rfl (fun K hK => ?_) AllReadyH.nil
      refine step_new _ rfl (some 4) rfl 60 rfl .u32 z8 z_arr8 (hK.out _ _ ⟨H1.below ((Below.refl _ _).alloc (Nat.le_refl _) _) H1.lt, B1.alloc B1.size _⟩ (fun hS2 => ?_))
      simp only [Act.put, List.setIfInBounds_toArray, List.set_cons_zero, List.set_cons_succ]
      have A2 : Ar (w1.alloc (.cells (ints .u32 z8) 60)) w1.heap.size 0 .u32 z8 := Ar.new w1 _ _ _
      refine wpAnyH_ready (rs := [8]) (by kernel_rfl) (by simp) ?_
      refine AllReadyH.cons rfl (fun K hK => ?_) AllReadyH.nil
      have HT : (w1.alloc (.cells (ints .u32 z8) 60)).there w1.heap.size 0 (hw st n).length := by rw [HHL.out]; exact A2.2
      have A3 : Ar ((w1.alloc (.cells (ints .u32 z8) 60)).setCells w1.heap.size 0 ((hw st n).map (Value.int .u32))) w1.heap.size 0 .u32 (hw st n) := Ar.whole HT
      have B3 : Below w.heap.size w ((w1.alloc (.cells (ints .u32 z8) 60)).setCells w1.heap.size 0 ((hw st n).map (Value.int .u32))) := Lib.below_setCells _ B1.size _ _ hS2.2
      refine step_store _ rfl none rfl (.tmp 4) (.tmp 10) 60 rfl .u32 (hw st n) w1.heap.size 0 rfl rfl HT 8 i_arr8 HHL.out (hK.out _ _ ⟨HH.out.below B3 hlt, B3⟩ (fun hS3 => ?_))
      refine take_law 9 (some 5) (.int .i64 u) rfl rfl (by kernel_rfl) (by kernel_rfl) (by kernel_rfl) (fun _ _ _ h => h) (Or.inl ⟨by rfl, fun w hSw => by rfl⟩) hS3 ?_
      simp only [Act.put, List.setIfInBounds_toArray, List.set_cons_zero, List.set_cons_succ]
      refine wpAnyH_done (by kernel_rfl) ?_ _
      generalize (w1.alloc (.cells (ints .u32 z8) 60)).setCells w1.heap.size 0 ((hw st n).map (Value.int .u32)) = w4 at *
      have cs := B1.size
      go_wp2_with fail
      go_meet
      exact ⟨_, rfl, rfl, cs, A3, B3⟩
    · refine step_new _ rfl (some 4) rfl 60 rfl .u32 z8 z_arr8 (hK.out _ _ ⟨hS.1.below ((Below.refl _ _).alloc (Nat.le_refl _) _) hlt, hS.2.alloc (Nat.le_refl _) _⟩ (fun hS2 => ?_))
      simp only [Act.put, List.setIfInBounds_toArray, List.set_cons_zero, List.set_cons_succ]
      have A2 : Ar (w.drew.alloc (.cells (ints .u32 z8) 60)) w.heap.size 0 .u32 z8 := Ar.new w.drew _ _ _
      refine wpAnyH_ready (rs := [1]) (by kernel_rfl) (by simp) ?_
      refine AllReadyH.cons rfl (fun K hK => ?_) AllReadyH.nil
      refine step_call1 _ rfl (some 10) rfl 40 (.tmp 9) #[49] rfl HCW.out (.pointer (some ⟨b, 0, none⟩)) rfl (.agg (ints .u32 (hw st n))) (fun w' => Below (w.drew.alloc (.cells (ints .u32 z8) 60)).heap.size (w.drew.alloc (.cells (ints .u32 z8) 60)) w') (hwords_any _ b n st tl hS2.1 HL.out) fun w1 hb1 => ?_
      have hz2 : (w.drew.alloc (.cells (ints .u32 z8) 60)).heap.size = w.heap.size + 1 := by simp
      have B1 : Below w.heap.size w w1 := hS2.2.trans (hb1.mono (by omega))
      have H1 : Hsh w1 b st tl n := hS2.1.below hb1 (by omega)
      have A4 : Ar w1 w.heap.size 0 .u32 z8 := A2.below hb1 (by omega)
      refine hK.out _ _ ⟨H1, B1⟩ (fun hS1 => ?_)
      simp only [Act.put, List.setIfInBounds_toArray, List.set_cons_zero, List.set_cons_succ]
      refine wpAnyH_ready (rs := [8]) (by kernel_rfl) (by simp) ?_
      refine AllReadyH.cons rfl (fun K hK => ?_) AllReadyH.nil
      have HT : w1.there w.heap.size 0 (hw st n).length := by rw [HHL.out]; exact A4.2
      have A3 : Ar (w1.setCells w.heap.size 0 ((hw st n).map (Value.int .u32))) w.heap.size 0 .u32 (hw st n) := Ar.whole HT
      have B3 : Below w.heap.size w (w1.setCells w.heap.size 0 ((hw st n).map (Value.int .u32))) := Lib.below_setCells _ (Nat.le_refl _) _ _ B1
      refine step_store _ rfl none rfl (.tmp 4) (.tmp 10) 60 rfl .u32 (hw st n) w.heap.size 0 rfl rfl HT 8 i_arr8 HHL.out (hK.out _ _ ⟨HH.out.below B3 hlt, B3⟩ (fun hS3 => ?_))
      refine take_law 9 (some 5) (.int .i64 u) rfl rfl (by kernel_rfl) (by kernel_rfl) (by kernel_rfl) (fun _ _ _ h => h) (Or.inl ⟨by rfl, fun w hSw => by rfl⟩) hS3 ?_
      simp only [Act.put, List.setIfInBounds_toArray, List.set_cons_zero, List.set_cons_succ]
      refine wpAnyH_done (by kernel_rfl) ?_ _
      generalize w1.setCells w.heap.size 0 ((hw st n).map (Value.int .u32)) = w4 at *
      go_wp2_with fail
      go_meet
      exact ⟨_, rfl, rfl, Nat.le_refl _, A3, B3⟩
  case rest =>
    obtain ⟨c, rfl, rfl, hc, AC, BC⟩ := hcut
    have H1 : Hsh wc b st tl n := HH.out.below BC hlt
    have hbyt := HK.out wc (But.of BC)
    obtain ⟨ao, cap, rfl, hv1, hv2, -, -, -⟩ := hbyt
    have c72 := H1.size
    have f72 : wc.frozen? ⟨b, 72, none⟩ = false := H1.2.2.free 0 (by simp)
    have i5 : IntKind.i64.wrap (N : Int) = (N : Int) := by rw [IntKind.wrap_i64]; omega
    go_wp2
    have hbc : b ≠ c := by omega
    have D0 : Ar (wc.setCell ⟨b, 72, none⟩ (.int .i64 N)) c 0 .u32 (hw st n) ∧ Ar (wc.setCell ⟨b, 72, none⟩ (.int .i64 N)) b 0 .u32 st ∧ Ar (wc.setCell ⟨b, 72, none⟩ (.int .i64 N)) b 8 .u8 tl ∧ Ar (wc.setCell ⟨b, 72, none⟩ (.int .i64 N)) b 72 .i64 [(N : Int)] ∧ But b w (wc.setCell ⟨b, 72, none⟩ (.int .i64 N)) := by
      have e : wc.setCell ⟨b, 72, none⟩ (.int .i64 N) = wc.setCells b 72 ([(N : Int)].map (Value.int .i64)) := rfl
      refine ⟨AC.other (by show c ≠ b; omega) _, ?_, ?_, ?_, ?_⟩
      · rw [e]; exact H1.1.apart _ _ _ (by right; left; rw [HL.out]; omega)
      · rw [e]; exact H1.2.1.apart _ _ _ (by right; left; rw [HTL.out.1]; omega)
      · rw [e]; exact Ar.whole H1.2.2.2
      · rw [e]; exact (But.of BC).setCells _ _
    generalize wc.setCell ⟨b, 72, none⟩ (.int .i64 N) = w1 at D0 ⊢
    clear c72 f72 AC BC H1 hny i1 i2 i3 i4 hn
    have HC : Hid (w.heap.size ≤ c) := hc
    go_loopw [1, 5] (fun vb vu wr => ∃ (k u p : Nat) (t : List Int), vu = .int .i64 u ∧ u < 64 ∧ p = 64 * k + u ∧ p ≤ N ∧ Kept b w vb (all.drop p) ∧ Ar wr c 0 .u32 (upto all k) ∧ Ar wr b 0 .u32 st ∧ Ar wr b 8 .u8 t ∧ t.length = 64 ∧ AllB t ∧ t.take u = (all.drop (64 * k)).take u ∧ Ar wr b 72 .i64 [(N : Int)] ∧ But b w wr) (fun vb _ _ => lenV vb)
    case atStart =>
      have hs := HSTART.out
      have hu := HU.out
      exact ⟨n / 64, u, n, tl, rfl, by omega, by omega, by have := HNN.out; omega, by rw [← hs.2.2]; exact HK.out, by rw [← hs.1]; exact D0.1, D0.2.1, D0.2.2.1, HTL.out.1, HTL.out.2, by rw [hu]; exact hs.2.1, D0.2.2.2.1, D0.2.2.2.2⟩
    case round =>
      clear D0 hv1 hv2
      obtain ⟨k, u, p, t, rfl, hu, hp, hpN, KV, AC1, A01, A81, htl, hta, htt, A721, BU1⟩ := hrel
      have hbyt := KV wr BU1
      have HBY := hbyt
      obtain ⟨zs, hzs⟩ : ∃ zs, zs = all.drop p := ⟨_, rfl⟩
      rw [← hzs] at KV hbyt HBY
      have hzl : zs.length = N - p := by rw [hzs, HN.out]; simp
      have hzla : AllB zs := hbyt.all
      obtain ⟨ao, cap, rfl, hv1, hv2, -, -, -⟩ := hbyt
      have HKV : Hid (Kept b w (.slice ao zs.length cap) zs) := KV
      have HBYT : Hid (Byt wr (.slice ao zs.length cap) zs) := HBY
      obtain ⟨M, hM⟩ : ∃ M, M = zs.length := ⟨_, rfl⟩
      have HM : Hid (M = zs.length ∧ M = N - p ∧ AllB zs) := ⟨hM, by omega, hzla⟩
      rw [← hM] at HKV HBYT hv1 ⊢
      have HZS : Hid (zs = all.drop p) := hzs
      have HT1 : Hid (Ar wr c 0 .u32 (upto all k) ∧ Ar wr b 0 .u32 st ∧ Ar wr b 8 .u8 t ∧ t.length = 64 ∧ AllB t ∧ t.take u = (all.drop (64 * k)).take u ∧ Ar wr b 72 .i64 [(N : Int)] ∧ But b w wr) := ⟨AC1, A01, A81, htl, hta, htt, A721, BU1⟩
      have hN7 : N ≤ 1048576 := HNN.out.2
      have hMN : M ≤ 1048576 := by omega
      have m1 : (M : Int) ≤ 1048576 := by omega
      have m2 : (u : Int) < 64 := by omega
      clear KV HBY hzs hzl hzla hM AC1 A01 A81 htl hta htt A721 BU1
      by_cases hlt2 : 64 ≤ u + M
      · have m3 : (64 : Int) ≤ (u : Int) + (M : Int) := by omega
        obtain ⟨tk, htk⟩ : ∃ tk, tk = 64 - u := ⟨_, rfl⟩
        have HTK : Hid (tk = 64 - u) := htk
        have htk1 : tk ≤ M := by omega
        have htk2 : (tk : Int) ≤ (M : Int) := by omega
        have htk0 : 1 ≤ tk := by omega
        clear htk
        have HCC : Hid (∀ (q : Array Value) (w : World), (callFunc 41 q).run Try.prog w = .ok (.enter 41 q) w) := fun _ _ => rfl
        go_wp2_with (first
          | (refine arr_from _ rfl (.tmp 32) (.tmp 33) rfl b 8 _ u rfl rfl rfl hu ?_)
          | (refine copy_lawm _ rfl (.tmp 34) (.tmp 35) rfl b (8 + u) (64 - u) (64 - u) tk _ zs rfl rfl HBYT.out (by have := HM.out; have := HTK.out; omega) (by have := HTK.out; intro j hj; have := HT1.out.2.2.1.2 (u + j) (by rw [HT1.out.2.2.2.1]; omega); rwa [← Nat.add_assoc] at this) ?_; intro w2 hw2; have HW2 : Hid (w2 = wr.setCells b (8 + u) ((zs.take (64 - u)).map (Value.int .u8))) := hw2; clear hw2)
          | fail)
        have hw2 := HW2.out
        obtain ⟨bk, hbk⟩ : ∃ bk, bk = (all.drop (64 * k)).take 64 := ⟨_, rfl⟩
        obtain ⟨sk, hsk⟩ : ∃ sk, sk = upto all k := ⟨_, rfl⟩
        obtain ⟨sk2, hsk2⟩ : ∃ sk2, sk2 = upto all (k + 1) := ⟨_, rfl⟩
        obtain ⟨AC1, A01, A81, htl, hta, htt, A721, BU1⟩ := HT1.out
        have hkN : 64 * k + 64 ≤ all.length := by have := HM.out; have := HN.out; omega
        have HBK : Hid (bk.length = 64 ∧ AllB bk) := ⟨by rw [hbk]; simp; omega, by rw [hbk]; exact allB_tk (allB_drop HALA.out _) _⟩
        have HSK : Hid (sk.length = 8 ∧ sk2.length = 8) := ⟨by rw [hsk]; exact upto_len _ _, by rw [hsk2]; exact upto_len _ _⟩
        have HCOMP : Hid (∀ w0, Calls Try.prog 41 #[.agg (ints .u32 sk), .agg (ints .u8 bk)] w0 fun e w' => e = .returned (.agg (ints .u32 sk2)) ∧ Below w0.heap.size w0 w') := by
          intro w0
          have := compress_any sk bk w0 (by rw [hsk]; exact upto_all _ _) HSK.out.1 HBK.out.2 HBK.out.1
          rwa [show comp sk bk = sk2 by rw [hsk2, hsk, hbk]; rfl] at this
        have hfb : laid t u (zs.take (64 - u)) = bk := by
          rw [HZS.out, hp, hbk]; exact fill_block all t k u hu htl htt hkN
        have A82 : Ar w2 b 8 .u8 bk := by
          have hz : (zs.take (64 - u)).length = 64 - u := by have := HM.out; simp; omega
          have := A81.lay u (zs.take (64 - u)) (by rw [hz, htl]; omega)
          rw [hfb] at this
          rw [hw2]; exact this
        have hz64 : (zs.take (64 - u)).length = 64 - u := by have := HM.out; simp; omega
        have AC2 : Ar w2 c 0 .u32 sk := by rw [hw2, hsk]; exact AC1.apart _ _ _ (Or.inl (by omega))
        have A02 : Ar w2 b 0 .u32 st := by rw [hw2]; exact A01.apart _ _ _ (by right; left; rw [HL.out]; omega)
        have A722 : Ar w2 b 72 .i64 [(N : Int)] := by rw [hw2]; exact A721.apart _ _ _ (by right; right; rw [List.length_map, hz64]; omega)
        have BU2 : But b w w2 := by rw [hw2]; exact BU1.setCells _ _
        have hcl : c < w2.heap.size := AC2.lt (by rw [HSK.out.1]; omega)
        have hb2l : b < w2.heap.size := A722.lt (by simp)
        have HSK2 : Hid (sk2 = upto all (k + 1)) := hsk2
        have HBK2 : Hid (bk = (all.drop (64 * k)).take 64) := hbk
        clear hsk hsk2 hbk hfb hz64 hw2 HW2 AC1 A01 A81 htl hta htt A721 BU1 hkN
        go_cut [37] (fun r37 wd => Ar wd c 0 .u32 sk2 ∧ Ar wd b 0 .u32 st ∧ Ar wd b 8 .u8 bk ∧ Ar wd b 72 .i64 [(N : Int)] ∧ But b w wd)
        case first =>
          refine wp_region_any (by kernel_rfl) ?_
          change wpAny _ _ _ _ _ _ _ (World.drew _)
          refine take_law0 1 (some 38) (.pointer (some ⟨b, 0, none⟩)) rfl rfl (by kernel_rfl) (by kernel_rfl) (by kernel_rfl) (fun _ _ _ h => h) (Or.inl ⟨by rfl, fun w => by rfl⟩) ?_
          simp only [Act.put, List.setIfInBounds_toArray, List.set_cons_zero, List.set_cons_succ]
          refine take_law0 2 (some 39) (.pointer (some ⟨b, 0, none⟩)) rfl rfl (by kernel_rfl) (by kernel_rfl) (by kernel_rfl) (fun _ _ _ h => h) (Or.inl ⟨by rfl, fun w => by rfl⟩) ?_
          simp only [Act.put, List.setIfInBounds_toArray, List.set_cons_zero, List.set_cons_succ]
          refine take_law0 3 (some 40) (.pointer (some ⟨b, 8, none⟩)) rfl rfl (by kernel_rfl) (by kernel_rfl) (by kernel_rfl) (fun _ _ _ h => h) (Or.inl ⟨by rfl, fun w => by rfl⟩) ?_
          simp only [Act.put, List.setIfInBounds_toArray, List.set_cons_zero, List.set_cons_succ]
          refine wpAny_ready (rs := [0, 4]) (by kernel_rfl) (by simp) ?_
          refine AllReady.cons rfl (fun K hK => ?_) (AllReady.cons rfl (fun K hK => ?_) AllReady.nil)
          · refine step_load _ rfl (some 37) rfl (.tmp 4) 60 rfl .u32 sk c 0 rfl (Ar.heap (w' := w2.drew) AC2 rfl) 8 59 Try.underlying60 i_arr8 HSK.out.1 (hK _ _ ?_)
            simp only [Act.put, List.setIfInBounds_toArray, List.set_cons_zero, List.set_cons_succ]
            refine wpAny_ready (rs := [4]) (by kernel_rfl) (by simp) ?_
            refine AllReady.cons rfl (fun K hK => ?_) AllReady.nil
            refine step_load _ rfl (some 41) rfl (.tmp 40) 42 rfl .u8 bk b 8 rfl (Ar.heap (w' := w2.drew) A82 rfl) 64 5 Try.underlying42 i_arr64b HBK.out.1 (hK _ _ ?_)
            simp only [Act.put, List.setIfInBounds_toArray, List.set_cons_zero, List.set_cons_succ]
            refine wpAny_ready (rs := [5]) (by kernel_rfl) (by simp) ?_
            refine AllReady.cons rfl (fun K hK => ?_) AllReady.nil
            refine step_call2 _ rfl (some 42) rfl 41 (.tmp 37) (.tmp 41) #[60, 42] rfl HCC.out (.agg (ints .u32 sk)) (.agg (ints .u8 bk)) rfl rfl (.agg (ints .u32 sk2)) (fun w' => Below w2.drew.heap.size w2.drew w') (HCOMP.out w2.drew) fun w3 hb3 => hK _ _ ?_
            simp only [Act.put, List.setIfInBounds_toArray, List.set_cons_zero, List.set_cons_succ]
            have AC3 : Ar w3 c 0 .u32 sk := Ar.below (w := w2.drew) (AC2.heap rfl) hb3 hcl
            refine wpAny_ready (rs := [6]) (by kernel_rfl) (by simp) ?_
            refine AllReady.cons rfl (fun K hK => ?_) AllReady.nil
            have HT3 : w3.there c 0 sk2.length := by rw [HSK.out.2]; have := AC3.2; rwa [HSK.out.1] at this
            refine step_store _ rfl none rfl (.tmp 4) (.tmp 42) 60 rfl .u32 sk2 c 0 rfl rfl HT3 8 i_arr8 HSK.out.2 (hK _ _ ?_)
            refine wpAny_done (by kernel_rfl) ?_ _
            have AC4 : Ar (w3.setCells c 0 (sk2.map (Value.int .u32))) c 0 .u32 sk2 := Ar.whole HT3
            have B4 : Below w2.heap.size w2 w3 := ((Below.refl _ _).drew).trans hb3
            have D4 : Ar (w3.setCells c 0 (sk2.map (Value.int .u32))) b 0 .u32 st ∧ Ar (w3.setCells c 0 (sk2.map (Value.int .u32))) b 8 .u8 bk ∧ Ar (w3.setCells c 0 (sk2.map (Value.int .u32))) b 72 .i64 [(N : Int)] ∧ But b w (w3.setCells c 0 (sk2.map (Value.int .u32))) :=
              ⟨(A02.below B4 hb2l).apart _ _ _ (Or.inl hbc), (A82.below B4 hb2l).apart _ _ _ (Or.inl hbc), (A722.below B4 hb2l).apart _ _ _ (Or.inl hbc), (BU2.trans (But.of B4)).setNew hc _ _⟩
            generalize w3.setCells c 0 (sk2.map (Value.int .u32)) = w4 at *
            go_wp2_with fail
            go_meet
            exact ⟨AC4, D4⟩
          · refine step_load _ rfl (some 41) rfl (.tmp 40) 42 rfl .u8 bk b 8 rfl (Ar.heap (w' := w2.drew) A82 rfl) 64 5 Try.underlying42 i_arr64b HBK.out.1 (hK _ _ ?_)
            simp only [Act.put, List.setIfInBounds_toArray, List.set_cons_zero, List.set_cons_succ]
            refine wpAny_ready (rs := [0]) (by kernel_rfl) (by simp) ?_
            refine AllReady.cons rfl (fun K hK => ?_) AllReady.nil
            refine step_load _ rfl (some 37) rfl (.tmp 4) 60 rfl .u32 sk c 0 rfl (Ar.heap (w' := w2.drew) AC2 rfl) 8 59 Try.underlying60 i_arr8 HSK.out.1 (hK _ _ ?_)
            simp only [Act.put, List.setIfInBounds_toArray, List.set_cons_zero, List.set_cons_succ]
            refine wpAny_ready (rs := [5]) (by kernel_rfl) (by simp) ?_
            refine AllReady.cons rfl (fun K hK => ?_) AllReady.nil
            refine step_call2 _ rfl (some 42) rfl 41 (.tmp 37) (.tmp 41) #[60, 42] rfl HCC.out (.agg (ints .u32 sk)) (.agg (ints .u8 bk)) rfl rfl (.agg (ints .u32 sk2)) (fun w' => Below w2.drew.heap.size w2.drew w') (HCOMP.out w2.drew) fun w3 hb3 => hK _ _ ?_
            simp only [Act.put, List.setIfInBounds_toArray, List.set_cons_zero, List.set_cons_succ]
            have AC3 : Ar w3 c 0 .u32 sk := Ar.below (w := w2.drew) (AC2.heap rfl) hb3 hcl
            refine wpAny_ready (rs := [6]) (by kernel_rfl) (by simp) ?_
            refine AllReady.cons rfl (fun K hK => ?_) AllReady.nil
            have HT3 : w3.there c 0 sk2.length := by rw [HSK.out.2]; have := AC3.2; rwa [HSK.out.1] at this
            refine step_store _ rfl none rfl (.tmp 4) (.tmp 42) 60 rfl .u32 sk2 c 0 rfl rfl HT3 8 i_arr8 HSK.out.2 (hK _ _ ?_)
            refine wpAny_done (by kernel_rfl) ?_ _
            have AC4 : Ar (w3.setCells c 0 (sk2.map (Value.int .u32))) c 0 .u32 sk2 := Ar.whole HT3
            have B4 : Below w2.heap.size w2 w3 := ((Below.refl _ _).drew).trans hb3
            have D4 : Ar (w3.setCells c 0 (sk2.map (Value.int .u32))) b 0 .u32 st ∧ Ar (w3.setCells c 0 (sk2.map (Value.int .u32))) b 8 .u8 bk ∧ Ar (w3.setCells c 0 (sk2.map (Value.int .u32))) b 72 .i64 [(N : Int)] ∧ But b w (w3.setCells c 0 (sk2.map (Value.int .u32))) :=
              ⟨(A02.below B4 hb2l).apart _ _ _ (Or.inl hbc), (A82.below B4 hb2l).apart _ _ _ (Or.inl hbc), (A722.below B4 hb2l).apart _ _ _ (Or.inl hbc), (BU2.trans (But.of B4)).setNew hc _ _⟩
            generalize w3.setCells c 0 (sk2.map (Value.int .u32)) = w4 at *
            go_wp2_with fail
            go_meet
            exact ⟨AC4, D4⟩

        case rest =>
          obtain ⟨AD, AD0, AD8, AD72, BUD⟩ := hcut
          clear AC2 A02 A82 A722 BU2 hcl hb2l
          have hMl : tk ≤ zs.length := by have := HM.out; omega
          go_wp2_with (refine cut_kept (w0 := w) (b := b) _ rfl (.tmp 43) (.tmp 44) rfl _ zs _ tk rfl rfl rfl hMl BUD HKV.out ?_; intro v' KV')
          have hdr : zs.drop tk = all.drop (64 * (k + 1)) := by rw [HZS.out, List.drop_drop]; congr 1; have := HTK.out; omega
          go_roundw
          case rel =>
            try (iterate 60 (apply Exists.intro))
            try (refine ⟨?_, rfl⟩)
            exact ⟨k + 1, 0, 64 * (k + 1), bk, rfl, by omega, by omega, by have := HM.out; have := HTK.out; omega, by rw [← hdr]; exact KV', by rw [← HSK2.out]; exact AD, AD0, AD8, HBK.out.1, HBK.out.2, by simp, AD72, BUD⟩
          case measure =>
            obtain ⟨ao3, cap3, rfl, -, -, -, -, -⟩ := KV' wc BUD
            have := HM.out
            simp [lenV]; omega
      · have m3 : ¬ (64 : Int) ≤ (u : Int) + (M : Int) := by omega
        obtain ⟨sk, hsk⟩ : ∃ sk, sk = upto all k := ⟨_, rfl⟩
        have HSK : Hid (sk.length = 8 ∧ sk = upto all k) := ⟨by rw [hsk]; exact upto_len _ _, hsk⟩
        have HLEN : Hid (64 - u - M + M = 64 - u) := by show _ = _; omega
        have FACT : Hid (∀ w2, w2 = wr.setCells b (8 + u) ((zs.take (64 - u)).map (Value.int .u8)) → Ar w2 c 0 .u32 sk ∧ Ar w2 b 0 .u32 st ∧ Ar w2 b 8 .u8 (laid t u zs) ∧ Ar w2 b 72 .i64 [(N : Int)] ∧ But b w w2) := by
          intro w2 hw2
          obtain ⟨AC1, A01, A81, htl, hta, htt, A721, BU1⟩ := HT1.out
          have hz : zs.take (64 - u) = zs := List.take_of_length_le (by have := HM.out; omega)
          have hzl := HM.out
          rw [hz] at hw2
          refine ⟨?_, ?_, ?_, ?_, ?_⟩
          · rw [hw2, hsk]; exact AC1.apart _ _ _ (Or.inl (by omega))
          · rw [hw2]; exact A01.apart _ _ _ (by right; left; rw [HL.out]; omega)
          · rw [hw2]; exact A81.lay u zs (by omega)
          · rw [hw2]; exact A721.apart _ _ _ (by right; right; rw [List.length_map]; omega)
          · rw [hw2]; exact BU1.setCells _ _
        clear hsk
        go_wp2_with (first
          | (refine arr_from _ rfl (.tmp 48) (.tmp 49) rfl b 8 _ u rfl rfl rfl hu ?_)
          | (refine copy_lawm _ rfl (.tmp 50) (.tmp 51) rfl b (8 + u) (64 - u) (64 - u) M _ zs rfl rfl HBYT.out (by have := HM.out; omega) (by have := HM.out; intro j hj; have := HT1.out.2.2.1.2 (u + j) (by rw [HT1.out.2.2.2.1]; omega); rwa [← Nat.add_assoc] at this) ?_; intro w2 hw2; obtain ⟨AD, AD0, AD8, AD72, BUD⟩ := FACT.out w2 hw2; clear hw2)
          | (refine load_law _ rfl (.tmp 4) 60 rfl .u32 sk _ _ rfl AD 8 59 Try.underlying60 i_arr8 HSK.out.1 ?_)
          | (refine store_law _ rfl (.tmp 56) (.tmp 54) 60 rfl .u32 sk _ _ rfl rfl (by rw [HSK.out.1]; have := AD0.2; rwa [HL.out] at this) 8 i_arr8 HSK.out.1 ?_)
          | fail)
        have HTS : w2.there b 0 sk.length := by rw [HSK.out.1]; have := AD0.2; rwa [HL.out] at this
        have E0 : Ar (w2.setCells b 0 (sk.map (Value.int .u32))) b 0 .u32 sk := Ar.whole HTS
        have E8 : Ar (w2.setCells b 0 (sk.map (Value.int .u32))) b 8 .u8 (laid t u zs) := AD8.apart _ _ _ (by right; right; rw [List.length_map, HSK.out.1]; omega)
        have E72 : Ar (w2.setCells b 0 (sk.map (Value.int .u32))) b 72 .i64 [(N : Int)] := AD72.apart _ _ _ (by right; right; rw [List.length_map, HSK.out.1]; omega)
        have EB : But b w (w2.setCells b 0 (sk.map (Value.int .u32))) := BUD.setCells _ _
        have hm := HM.out
        obtain ⟨-, -, -, htl, hta, htt, -, -⟩ := HT1.out
        have hkk : N / 64 = k := by omega
        have hNm : N % 64 = N - 64 * k := by omega
        refine bodyPost_end (v := .tuple #[]) (results_none rfl _ _ _) rfl ⟨rfl, ?_, EB⟩
        rw [← HALL.out]
        refine ⟨sk, laid t u zs, ?_, HSK.out.1, ?_, laid_all _ _ _ hta hm.2.2, ?_, ?_⟩
        · rw [← HN.out]; exact ⟨E0, E8, E72⟩
        · rw [laid_len _ _ _ (by omega)]; exact htl
        · rw [← HN.out, hkk]
          unfold hw
          split
          · have : k = 0 := by omega
            rw [this]; rfl
          · exact HSK.out.2
        · rw [← HN.out, hkk, hNm, HN.out, HZS.out, hp]
          exact fill_rest all t k u htt
end Go.Proofs.Ytaplllonomdgeaa
