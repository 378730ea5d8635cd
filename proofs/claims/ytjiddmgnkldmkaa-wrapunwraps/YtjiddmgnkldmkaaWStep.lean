/- One law a kind of operation, in a region that draws its order: slices of bytes, sums, an empty slice, appending; and what the reference's mixed answers. No claim of its own. -/
import Derived.Test.YtjiddmgnkldmkaaWOwn
import Derived.Test.YtjiddmgnkldmkaaRCry
import Derived.Test.YtjiddmgnkldmkaaRefNumbers
import Derived.Test.YtjiddmgnkldmkaaSame
namespace Go.Proofs.Ytjiddmgnkldmkaa.wr
open Go.RowKit

/-- 'v[l:h]' of bytes, as a value -/
def sl : Value → Nat → Nat → Value
  | .slice ao _ cap, l, h => sliced ao l h cap 1
  | _, _, _ => undef
theorem sl_byt {w : World} {v : Value} {xs : List Int} (hb : Byt w v xs) (l h : Nat) (hl : l ≤ h) (hh : h ≤ xs.length) : Byt w (sl v l h) ((xs.take h).drop l) := by
  obtain ⟨ao, cap, rfl, hc, hb'⟩ := byt_cut hb l h hl hh
  exact hb'
theorem sl_to {w : World} {v : Value} {xs : List Int} (hb : Byt w v xs) (h : Nat) (hh : h ≤ xs.length) : Byt w (sl v 0 h) (xs.take h) := by
  have := sl_byt hb 0 h (Nat.zero_le _) hh
  rwa [List.drop_zero] at this
theorem sl_from {w : World} {v : Value} {xs : List Int} (hb : Byt w v xs) (l : Nat) (hl : l ≤ xs.length) : Byt w (sl v l xs.length) (xs.drop l) := by
  have := sl_byt hb l xs.length hl (Nat.le_refl _)
  rwa [List.take_length] at this

section
variable {ops : Array Oper} {o : Oper} {a : Act}
theorem y_to (hw : Region.wanted o (yielded ops a.tmps) = true) (s x : Operand) (hop : o.op = Op.slice 22 s none (some x) none) (v : Value) (xs : List Int) (w0 : World) (hb : Byt w0 v xs) (L : Int) (h : Nat) (hs : a.eval s = v) (hx : a.eval x = .int .i64 L) (hL : L = (h : Int)) (hh : h ≤ xs.length) : Yields Try.prog ops o (sl v 0 h) a := by
  refine Or.inl ⟨hw, fun w => ?_⟩
  obtain ⟨ao, cap, rfl, hc, -⟩ := byt_cut hb 0 h (Nat.zero_le _) hh
  have hrun := run_slice_h (P := Try.prog) w 22 ao xs.length cap und_bytes .i64 L (by omega) (by omega)
  rw [elem_bytes, run_size_u8] at hrun
  subst hL
  simp [execOp, hop, hs, hx, run_sliceAt_slice w 22 _ _ _ _ und_bytes, hrun, Result.andThen, sl]
theorem y_part (hw : Region.wanted o (yielded ops a.tmps) = true) (s x y : Operand) (hop : o.op = Op.slice 22 s (some x) (some y) none) (v : Value) (xs : List Int) (w0 : World) (hb : Byt w0 v xs) (L H : Int) (l h : Nat) (hs : a.eval s = v) (hx : a.eval x = .int .i64 L) (hy : a.eval y = .int .i64 H) (hL : L = (l : Int)) (hH : H = (h : Int)) (hl : l ≤ h) (hh : h ≤ xs.length) : Yields Try.prog ops o (sl v l h) a := by
  refine Or.inl ⟨hw, fun w => ?_⟩
  obtain ⟨ao, cap, rfl, hc, -⟩ := byt_cut hb l h hl hh
  have hrun := run_slice_lh (P := Try.prog) w 22 ao xs.length cap und_bytes .i64 .i64 L H (by omega) (by omega) (by omega)
  rw [elem_bytes, run_size_u8] at hrun
  subst hL
  subst hH
  simp [execOp, hop, hs, hx, hy, run_sliceAt_slice w 22 _ _ _ _ und_bytes, hrun, Result.andThen, sl]
theorem y_from (hw : Region.wanted o (yielded ops a.tmps) = true) (s x : Operand) (hop : o.op = Op.slice 22 s (some x) none none) (v : Value) (xs : List Int) (w0 : World) (hb : Byt w0 v xs) (L : Int) (l : Nat) (hs : a.eval s = v) (hx : a.eval x = .int .i64 L) (hL : L = (l : Int)) (hl : l ≤ xs.length) : Yields Try.prog ops o (sl v l xs.length) a := by
  refine Or.inl ⟨hw, fun w => ?_⟩
  obtain ⟨ao, cap, rfl, hc, -⟩ := byt_cut hb l xs.length hl (Nat.le_refl _)
  have hrun := run_slice_l (P := Try.prog) w 22 ao xs.length cap und_bytes .i64 L (by omega) (by omega)
  rw [elem_bytes, run_size_u8] at hrun
  subst hL
  simp [execOp, hop, hs, hx, run_sliceAt_slice w 22 _ _ _ _ und_bytes, hrun, Result.andThen, sl]
theorem y_add (hw : Region.wanted o (yielded ops a.tmps) = true) (x y : Operand) (hop : o.op = Op.binOp .add 3 x y 3) (A B q : Int) (hx : a.eval x = .int .i64 A) (hy : a.eval y = .int .i64 B) (hq : IntKind.i64.wrap (A + B) = q) : Yields Try.prog ops o (.int .i64 q) a := by
  refine Or.inl ⟨hw, fun w => ?_⟩
  subst hq
  unfold execOp
  simp only [hop, hx, hy]
  rfl
variable {Q : Exit → Act → World → Prop} {K : Act → World → Prop} {E : Prop}
/-- '[]byte{}' -/
theorem step_nil (w : World) (hg : o.guard = none) (d : Option Tmp) (hd : o.dst = d) (hop : o.op = Op.buildSlice 22 0 #[])
    (hK : ∀ v w', Own w.heap.size w' v [] → Below w.heap.size w w' → K (a.put d v) w') : if Region.wanted o (yielded ops a.tmps) = true then Oper.wp Try.prog o a w K Q else E := by
  have hw : Region.wanted o (yielded ops a.tmps) = true := by simp [Region.wanted, hg]
  rw [if_pos hw]
  subst hd
  have hrun : (Instr.buildSlice 22 0 #[]).run Try.prog w = .ok (.slice (some ⟨w.heap.size, 0, none⟩) 0 0) (w.alloc (.cells #[] 5)) := by kernel_rfl
  unfold Oper.wp execOp
  simp only [hop, List.map_toArray, List.map_nil, Sem.run_bind, Sem.run_pure, Result.andThen_ok, hrun]
  exact hK _ _ (Own.empty w (Nat.le_refl _)) ((Below.refl _ _).alloc (Nat.le_refl _) _)
/-- 'append(out, s...)' of bytes, out of the call's own -/
theorem step_pushs (w : World) (hg : o.guard = none) (d : Option Tmp) (hd : o.dst = d) (s x : Operand) (hop : o.op = .call { callee := .builtin .append, args := #[s, x], argTypes := #[22, 22] })
    (B : Nat) (hB : B ≤ w.heap.size) (v vy : Value) (xs ys : List Int) (hs : a.eval s = v) (hx : a.eval x = vy) (hown : Own B w v xs) (hy : Byt w vy ys) (hn : xs.length ≤ 1099511627776) (hm : ys.length ≤ 1099511627776)
    (hK : ∀ v' w', Own B w' v' (xs ++ ys) → Below B w w' → K (a.put d v') w') : if Region.wanted o (yielded ops a.tmps) = true then Oper.wp Try.prog o a w K Q else E := by
  have hw : Region.wanted o (yielded ops a.tmps) = true := by simp [Region.wanted, hg]
  rw [if_pos hw]
  subst hd
  obtain ⟨i0, hi, hz0, hz1, hz2⟩ := info_parts info_u8
  obtain ⟨ao, cap, rfl, h1, h2, h3, h4, h5⟩ := hy
  cases ao with
  | none =>
    have hc := h4 rfl
    subst hc
    have : ys = [] := List.eq_nil_of_length_eq_zero (by omega)
    subst this
    have hrun := run_append_owned_none (P := Try.prog) (w := w) B 22 o.type 5 i0 1 Try.underlying22 hi v xs.length _ hown
    have hx' : a.eval x = .slice none 0 0 := hx
    unfold Oper.wp
    simp [execOp, hop, resolve, invoke, builtin, hs, hx', hrun, Result.andThen]
    refine hK v w ?_ (Below.refl _ _)
    rwa [List.append_nil]
  | some ad =>
    refine wp_append_own _ s x 22 hop B 5 i0 (.int .u8 0) 1 1 Try.underlying22 hi hz0 hz1 hz2 rfl (by decide) v xs.length _ hs hown ad ys.length cap (ys.map (Value.int .u8)) hx (by simp) ?_ ?_ (by simp only [maxLen]; omega) (by omega) hB fun v' w' h1 h2 _ => ?_
    · intro j u hj
      have hjl : j < ys.length := by have := (List.getElem?_eq_some_iff.1 hj).1; simpa using this
      obtain ⟨b, off, e, hc⟩ := h5 (by omega)
      cases e
      rw [Addr.add_mid, hc j hjl, ← hj]
      simp [gb, List.getD, hjl]
    · intro u hu
      simp only [List.mem_map] at hu
      obtain ⟨y, _, rfl⟩ := hu
      rfl
    · refine hK v' w' ?_ ?_
      · show w'.ownsRow B 5 1 v' (xs ++ ys).length ((xs ++ ys).map (Value.int .u8))
        simpa using h1
      · exact (Below.refl B w).grown h2 hB fun k hk => (World.ownsRow.lt hown k hk).1
end

set_option maxHeartbeats 1000000 in
theorem rmixed8_any (v : Value) (xs : List Int) (t : Nat) (w : World) (hv : Byt w v xs) (hl : xs.length = 8) (ht : t ≤ 1000000) :
    Calls Try.prog 23 #[v, .int .i64 (t : Int)] w fun e w' => ∃ v', e = .returned v' ∧ Own w.heap.size w' v' (xorl xs (b8 t)) ∧ Below w.heap.size w w' := by
  have HB : Hid (∀ w, Calls Try.prog 44 #[.int .u64 (t : Int), .int .i64 8] w fun e w' => ∃ v, e = .returned v ∧ Byt w' v (b8 t) ∧ Below w.heap.size w w') := fun w => by
    have := rbig_any (t : Int) 8 w (by omega)
    rw [show clamp 8 8 = 8 by unfold clamp; omega] at this
    exact this
  have HX : Hid (∀ w' u, Byt w' v xs → Byt w' u (b8 t) → Calls Try.prog 39 #[v, u] w' fun e w'' => ∃ v', e = .returned v' ∧ Own w'.heap.size w'' v' (xorl xs (b8 t)) ∧ Below w'.heap.size w' w'') := fun w' u h1 h2 => rxor_own v u xs (b8 t) w' h1 h2 (by rw [hl, b8_len]) (by omega)
  have HV : Hid (Byt w v xs) := hv
  have k1 : IntKind.u64.wrap (t : Int) = (t : Int) := by rw [IntKind.wrap_u64]; omega
  clear hv hl
  generalize xorl xs (b8 t) = zs at *
  generalize b8 t = ts at *
  go_enter Try.func23, Try.ntmps23
  go_wp2_with (first
    | (have q1 := s1; go_at_call 39; refine (HX.out _ _ (HV.out.below B1) Y1.out).mono ?_; rintro e w2 ⟨v2, rfl, o2, B2⟩; have O2 : Hid (Own w1.heap.size w2 v2 zs) := o2; clear o2)
    | (go_at_call 44; refine (HB.out _).mono ?_; rintro e w1 ⟨v1, rfl, y1, B1⟩; have s1 := B1.size; have Y1 : Hid (Byt w1 v1 ts) := y1; clear y1))
  go_ret
  exact ⟨_, rfl, own_mono O2.out s1, B1.trans (B2.mono s1)⟩
end Go.Proofs.Ytjiddmgnkldmkaa.wr
