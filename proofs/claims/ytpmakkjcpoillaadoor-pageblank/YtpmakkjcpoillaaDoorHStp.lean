/- One law a kind of operation, in a region that draws its order: slices of bytes, calls, structs; joining two or four lists. No claim of its own. -/
import Derived.Test.YtpmakkjcpoillaaDoorHByt
import Derived.Test.YtpmakkjcpoillaaDoorHIn
import Derived.Test.YtpmakkjcpoillaaDoorSame
import Derived.Deep.RegionHeld3
import Derived.Deep.DeepCutAuto
namespace Go.Proofs.YtpmakkjcpoillaaDoor.he
open Go.RowKit Go.Proofs.YtpmakkjcpoillaaDoor.fa
set_option maxRecDepth 20000

/-- 'v[l:h]' of bytes, as a value -/
def sl : Value → Nat → Nat → Value
  | .slice ao _ cap, l, h => sliced ao l h cap 1
  | _, _, _ => undef
theorem sl_byt {w : World} {v : Value} {xs : List Int} (hb : Byt w v xs) (l h : Nat) (hl : l ≤ h) (hh : h ≤ xs.length) : Byt w (sl v l h) ((xs.take h).drop l) := by
  obtain ⟨ao, cap, rfl, hc, hb'⟩ := byt_cut hb l h hl hh
  exact hb'
theorem sl_to {w : World} {v : Value} {xs : List Int} (hb : Byt w v xs) (h : Nat) (hh : h ≤ xs.length) : Byt w (sl v 0 h) (xs.take h) := by
  have := sl_byt hb 0 h (Nat.zero_le _) hh
  rwa [List.drop_zero] at this
theorem sl_from {w : World} {v : Value} {xs : List Int} (hb : Byt w v xs) (l : Nat) (hl : l ≤ xs.length) : Byt w (sl v l xs.length) (xs.drop l) := by
  have := sl_byt hb l xs.length hl (Nat.le_refl _)
  rwa [List.take_length] at this

theorem sl_sub {w : World} {v : Value} {xs : List Int} (hb : Byt w v xs) (l h : Nat) (hl : l ≤ h) (hh : h ≤ xs.length) : Byt w (sl v l h) (sub xs l h) := sl_byt hb l h hl hh
theorem byt_form {w : World} {v : Value} {xs : List Int} {n : Nat} (h : Byt w v xs) (hn : xs.length = n) : ∃ ao cap, v = .slice ao n cap := by
  obtain ⟨ao, cap, e, -⟩ := h
  rw [hn] at e
  exact ⟨ao, cap, e⟩
theorem byt_drawn {w : World} {v : Value} {xs : List Int} (h : Byt w v xs) (m : Nat) : Byt (w.drewN m) v xs := h
theorem below_drawn {B : Nat} {w w' : World} (h : Below B w w') (m : Nat) : Below B w (w'.drewN m) := ⟨h.os, h.tape, h.output, h.size, fun k hk => h.block k hk⟩

section
variable {ev : Operand → Value} {o : Oper}
theorem exec_to (s x : Operand) (hop : o.op = Op.slice 28 s none (some x) none) (v : Value) (xs : List Int) (w0 : World) (hb : Byt w0 v xs) (h : Nat) (hs : ev s = v) (hx : ev x = .int .i64 (h : Int)) (hh : h ≤ xs.length) (w : World) : (execOp ev o).run Tryd.prog w = .ok (.value (sl v 0 h)) w := by
  obtain ⟨ao, cap, rfl, hc, -⟩ := byt_cut hb 0 h (Nat.zero_le _) hh
  have hrun := run_slice_h (P := Tryd.prog) w 28 ao xs.length cap und_bytes .i64 (h : Int) (by omega) (by omega)
  rw [elem_bytes, run_size_u8] at hrun
  simp [execOp, hop, hs, hx, run_sliceAt_slice w 28 _ _ _ _ und_bytes, hrun, Result.andThen, sl]
theorem exec_part (s x y : Operand) (hop : o.op = Op.slice 28 s (some x) (some y) none) (v : Value) (xs : List Int) (w0 : World) (hb : Byt w0 v xs) (l h : Nat) (hs : ev s = v) (hx : ev x = .int .i64 (l : Int)) (hy : ev y = .int .i64 (h : Int)) (hl : l ≤ h) (hh : h ≤ xs.length) (w : World) : (execOp ev o).run Tryd.prog w = .ok (.value (sl v l h)) w := by
  obtain ⟨ao, cap, rfl, hc, -⟩ := byt_cut hb l h hl hh
  have hrun := run_slice_lh (P := Tryd.prog) w 28 ao xs.length cap und_bytes .i64 .i64 (l : Int) (h : Int) (by omega) (by omega) (by omega)
  rw [elem_bytes, run_size_u8] at hrun
  simp [execOp, hop, hs, hx, hy, run_sliceAt_slice w 28 _ _ _ _ und_bytes, hrun, Result.andThen, sl]
theorem exec_from (s x : Operand) (hop : o.op = Op.slice 28 s (some x) none none) (v : Value) (xs : List Int) (w0 : World) (hb : Byt w0 v xs) (l n : Nat) (hs : ev s = v) (hx : ev x = .int .i64 (l : Int)) (hn : xs.length = n) (hl : l ≤ n) (w : World) : (execOp ev o).run Tryd.prog w = .ok (.value (sl v l n)) w := by
  subst hn
  obtain ⟨ao, cap, rfl, hc, -⟩ := byt_cut hb l xs.length hl (Nat.le_refl _)
  have hrun := run_slice_l (P := Tryd.prog) w 28 ao xs.length cap und_bytes .i64 (l : Int) (by omega) (by omega)
  rw [elem_bytes, run_size_u8] at hrun
  simp [execOp, hop, hs, hx, run_sliceAt_slice w 28 _ _ _ _ und_bytes, hrun, Result.andThen, sl]
theorem exec_loadN (t : TypeId) (x : Operand) (hop : o.op = Op.load t x) (p : Value) (hx : ev x = p) (v : Value) (w : World) (hr : (Instr.loadAt t p).run Tryd.prog w = .ok v w) : (execOp ev o).run Tryd.prog w = .ok (.value v) w := by
  unfold execOp
  simp only [hop, hx, Sem.run_bind, Result.andThen_ok, hr]
  rfl
end

section
variable {ops : Array Oper} {o : Oper} {a : Act} {Q : Exit → Act → World → Prop} {K : Act → World → Prop} {E : Prop}
/-- a call, guarded or not -/
theorem step_callW (w : World) (hw : Region.wanted o (yielded ops a.tmps) = true) (d : Option Tmp) (hd : o.dst = d) (f : FuncId) (args : Array Operand) (ats : Array TypeId) (hop : o.op = .call { callee := .value (.func f), args := args, argTypes := ats })
    (hcf : ∀ (q : Array Value) (w : World), (callFunc f q).run Tryd.prog w = .ok (.enter f q) w) (vs : Array Value) (hx : args.map a.eval = vs) (R : Value → World → Prop) (hc : Calls Tryd.prog f vs w fun e w' => ∃ v, e = .returned v ∧ R v w') (hK : ∀ v w', R v w' → K (a.put d v) w') : if Region.wanted o (yielded ops a.tmps) = true then Oper.wp Tryd.prog o a w K Q else E := by
  rw [if_pos hw]
  subst hd
  subst hx
  unfold Oper.wp
  simp only [execOp, hop]
  go_simp
  refine hc.mono ?_
  rintro e w' ⟨v, rfl, hr⟩
  exact hK v w' hr
/-- '[]byte{}' -/
theorem step_nil (w : World) (hg : o.guard = none) (d : Option Tmp) (hd : o.dst = d) (hop : o.op = Op.buildSlice 28 0 #[])
    (hK : ∀ v w', Own w.heap.size w' v [] → Below w.heap.size w w' → K (a.put d v) w') : if Region.wanted o (yielded ops a.tmps) = true then Oper.wp Tryd.prog o a w K Q else E := by
  have hw : Region.wanted o (yielded ops a.tmps) = true := by simp [Region.wanted, hg]
  rw [if_pos hw]
  subst hd
  have hrun : (Instr.buildSlice 28 0 #[]).run Tryd.prog w = .ok (.slice (some ⟨w.heap.size, 0, none⟩) 0 0) (w.alloc (.cells #[] 5)) := by kernel_rfl
  unfold Oper.wp execOp
  simp only [hop, List.map_toArray, List.map_nil, Sem.run_bind, Sem.run_pure, Result.andThen_ok, hrun]
  exact hK _ _ (Own.empty w (Nat.le_refl _)) ((Below.refl _ _).alloc (Nat.le_refl _) _)
/-- 'append(out, s...)' of bytes, out of the call's own -/
theorem step_pushs (w : World) (hg : o.guard = none) (d : Option Tmp) (hd : o.dst = d) (s x : Operand) (hop : o.op = .call { callee := .builtin .append, args := #[s, x], argTypes := #[28, 28] })
    (B : Nat) (hB : B ≤ w.heap.size) (v vy : Value) (xs ys : List Int) (hs : a.eval s = v) (hx : a.eval x = vy) (hown : Own B w v xs) (hy : Byt w vy ys) (hn : xs.length ≤ 1099511627776) (hm : ys.length ≤ 1099511627776)
    (hK : ∀ v' w', Own B w' v' (xs ++ ys) → Below B w w' → K (a.put d v') w') : if Region.wanted o (yielded ops a.tmps) = true then Oper.wp Tryd.prog o a w K Q else E := by
  have hw : Region.wanted o (yielded ops a.tmps) = true := by simp [Region.wanted, hg]
  rw [if_pos hw]
  subst hd
  obtain ⟨i0, hi, hz0, hz1, hz2⟩ := info_parts info_u8
  obtain ⟨ao, cap, rfl, h1, h2, h3, h4, h5⟩ := hy
  cases ao with
  | none =>
    have hc := h4 rfl
    subst hc
    have : ys = [] := List.eq_nil_of_length_eq_zero (by omega)
    subst this
    have hrun := run_append_owned_none (P := Tryd.prog) (w := w) B 28 o.type 5 i0 1 Tryd.underlying28 hi v xs.length _ hown
    have hx' : a.eval x = .slice none 0 0 := hx
    unfold Oper.wp
    simp [execOp, hop, resolve, invoke, builtin, hs, hx', hrun, Result.andThen]
    refine hK v w ?_ (Below.refl _ _)
    rwa [List.append_nil]
  | some ad =>
    refine wp_append_own _ s x 28 hop B 5 i0 (.int .u8 0) 1 1 Tryd.underlying28 hi hz0 hz1 hz2 rfl (by decide) v xs.length _ hs hown ad ys.length cap (ys.map (Value.int .u8)) hx (by simp) ?_ ?_ (by simp only [maxLen]; omega) (by omega) hB fun v' w' h1 h2 _ => ?_
    · intro j u hj
      have hjl : j < ys.length := by have := (List.getElem?_eq_some_iff.1 hj).1; simpa using this
      obtain ⟨b, off, e, hc⟩ := h5 (by omega)
      cases e
      rw [Addr.add_mid, hc j hjl, ← hj]
      simp [gb, List.getD, hjl]
    · intro u hu
      simp only [List.mem_map] at hu
      obtain ⟨y, _, rfl⟩ := hu
      rfl
    · refine hK v' w' ?_ ?_
      · show w'.ownsRow B 5 1 v' (xs ++ ys).length ((xs ++ ys).map (Value.int .u8))
        simpa using h1
      · exact (Below.refl B w).grown h2 hB fun k hk => (World.ownsRow.lt hown k hk).1
/-- a variable for a struct -/
theorem step_newC (w : World) (hg : o.guard = none) (d : Option Tmp) (hd : o.dst = d) (t : TypeId) (hop : o.op = Op.alloc t) (cs : List Value) (hz : (Tryd.prog.info? t).map (fun i => (i.zero, i.size)) = some (some (.agg cs.toArray), cs.length))
    (hK : ∀ w', Vr w' w.heap.size cs → Below w.heap.size w w' → w.heap.size < w'.heap.size → K (a.put d (.pointer (some ⟨w.heap.size, 0, none⟩))) w') : if Region.wanted o (yielded ops a.tmps) = true then Oper.wp Tryd.prog o a w K Q else E := by
  have hw : Region.wanted o (yielded ops a.tmps) = true := by simp [Region.wanted, hg]
  rw [if_pos hw]
  subst hd
  have hz' := (zero_of_info hz).1
  unfold Oper.wp
  simp [execOp, hop, Instr.alloc, hz', newVar, newRow, Value.cells, Result.andThen]
  exact hK _ (Vr.new w t cs) ((Below.refl _ _).alloc (Nat.le_refl _) _) (by simp)
/-- a struct is written into its variable -/
theorem step_storeC (w : World) (hg : o.guard = none) (d : Option Tmp) (hd : o.dst = d) (x y : Operand) (t : TypeId) (hop : o.op = Op.store t x y) (c : Nat) (cs0 cs : List Value) (hx : a.eval x = .pointer (some ⟨c, 0, none⟩)) (hy : a.eval y = .agg cs.toArray) (hV : Vr w c cs0) (hl : cs0.length = cs.length) (hs : (Tryd.prog.info? t).map (·.size) = some cs.length) (h1 : ∀ v ∈ cs, v.oneCell' = true)
    (hK : ∀ w', Vr w' c cs → Below c w w' → K (a.put d undef) w') : if Region.wanted o (yielded ops a.tmps) = true then Oper.wp Tryd.prog o a w K Q else E := by
  have hw : Region.wanted o (yielded ops a.tmps) = true := by simp [Region.wanted, hg]
  rw [if_pos hw]
  subst hd
  have ht : w.there c 0 cs.length := by rw [← hl]; exact hV.2
  refine wp_store_mid t x y hop c 0 cs.toArray hx hy (by simpa using ht) (by simpa using hs) (all_oneCell_toArray h1) ?_
  exact hK _ ⟨World.rangeAt_setCells_same w c 0 cs ht, World.there_setCells ht c 0 _⟩ (below_cells _ (Nat.le_refl _) _ _ (Below.refl _ _))
end

theorem cell_of4 (w : World) (a b c d : Value) (t : TypeId) (k : Nat) (v : Value) (h : ([a, b, c, d] : List Value)[k]? = some v) : (w.alloc (.cells #[a, b, c, d] t)).cell? ⟨w.heap.size, k, none⟩ = some v := by
  rw [cell_of_row (w.alloc (.cells #[a, b, c, d] t)) w.heap.size k _ t (0, 0) (heap_alloc_last w _)]
  simpa using h
theorem cell_of2 (w : World) (a b : Value) (t : TypeId) (k : Nat) (v : Value) (h : ([a, b] : List Value)[k]? = some v) : (w.alloc (.cells #[a, b] t)).cell? ⟨w.heap.size, k, none⟩ = some v := by
  rw [cell_of_row (w.alloc (.cells #[a, b] t)) w.heap.size k _ t (0, 0) (heap_alloc_last w _)]
  simpa using h
/-- four lists, one behind the other -/
theorem cat4_any (w : World) (a b c d : Value) (x y z u : List Int) (ha : Byt w a x) (hb : Byt w b y) (hc : Byt w c z) (hd : Byt w d u) (l1 : x.length ≤ 10000) (l2 : y.length ≤ 10000) (l3 : z.length ≤ 10000) (l4 : u.length ≤ 10000) (hp : 0 < x.length) :
    Calls Tryd.prog 44 #[.slice (some ⟨w.heap.size, 0, none⟩) 4 4] (w.alloc (.cells #[a, b, c, d] 28)) fun e w' => ∃ r, e = .returned r ∧ Own w.heap.size w' r (x ++ (y ++ (z ++ u))) ∧ Below w.heap.size w w' := by
  have B0 : Below w.heap.size w (w.alloc (.cells #[a, b, c, d] 28)) := (Below.refl _ _).alloc (Nat.le_refl _) _
  have e : cats [x, y, z, u] 4 = x ++ (y ++ (z ++ u)) := by simp [cats]
  have := concat_any w.heap.size 4 (fun k => ([a, b, c, d] : List Value).getD k undef) [x, y, z, u] _ rfl (by omega) (fun k hk => by
    match k, hk with
    | 0, _ => exact ha.below B0
    | 1, _ => exact hb.below B0
    | 2, _ => exact hc.below B0
    | 3, _ => exact hd.below B0) (fun k hk => by
    have hk : k < 4 := hk
    match k, hk with
    | 0, _ => exact l1
    | 1, _ => exact l2
    | 2, _ => exact l3
    | 3, _ => exact l4) (by rw [e]; simp; omega) (fun k hk => cell_of4 w a b c d 28 k _ (by
    match k, hk with
    | 0, _ => rfl
    | 1, _ => rfl
    | 2, _ => rfl
    | 3, _ => rfl))
  rw [e] at this
  refine this.mono ?_
  rintro q w' ⟨r, rfl, o, B⟩
  exact ⟨r, rfl, own_less o B0.size, B0.trans (B.mono B0.size)⟩
/-- two lists, one behind the other -/
theorem cat2_any (w : World) (a b : Value) (x y : List Int) (ha : Byt w a x) (hb : Byt w b y) (l1 : x.length ≤ 10000) (l2 : y.length ≤ 10000) (hp : 0 < x.length) :
    Calls Tryd.prog 44 #[.slice (some ⟨w.heap.size, 0, none⟩) 2 2] (w.alloc (.cells #[a, b] 28)) fun e w' => ∃ r, e = .returned r ∧ Own w.heap.size w' r (x ++ y) ∧ Below w.heap.size w w' := by
  have B0 : Below w.heap.size w (w.alloc (.cells #[a, b] 28)) := (Below.refl _ _).alloc (Nat.le_refl _) _
  have e : cats [x, y] 2 = x ++ y := by simp [cats]
  have := concat_any w.heap.size 2 (fun k => ([a, b] : List Value).getD k undef) [x, y] _ rfl (by omega) (fun k hk => by
    match k, hk with
    | 0, _ => exact ha.below B0
    | 1, _ => exact hb.below B0) (fun k hk => by
    have hk : k < 2 := hk
    match k, hk with
    | 0, _ => exact l1
    | 1, _ => exact l2) (by rw [e]; simp; omega) (fun k hk => cell_of2 w a b 28 k _ (by
    match k, hk with
    | 0, _ => rfl
    | 1, _ => rfl))
  rw [e] at this
  refine this.mono ?_
  rintro q w' ⟨r, rfl, o, B⟩
  exact ⟨r, rfl, own_less o B0.size, B0.trans (B.mono B0.size)⟩
end Go.Proofs.YtpmakkjcpoillaaDoor.he
