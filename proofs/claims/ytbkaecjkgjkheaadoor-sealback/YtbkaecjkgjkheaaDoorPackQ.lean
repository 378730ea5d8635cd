/- Texts put together (a claim holds few files). No claim of its own. -/
import Derived.Test.YtbkaecjkgjkheaaDoorPackP
import Derived.Test.YtbkaecjkgjkheaaDoorPackN
import Derived.Deep.RegionHeld3
import Derived.Deep.DeepCutAuto
import Derived.Test.YtbkaecjkgjkheaaDoorPackC
import Derived.Test.YtbkaecjkgjkheaaDoorPackI
import Derived.Test.YtbkaecjkgjkheaaDoorPackO
/- One law a kind of operation, in a region that draws its order: slices of bytes, calls, structs; joining two or four lists. No claim of its own. -/
namespace Go.Proofs.YtbkaecjkgjkheaaDoor.he
open Go.RowKit Go.Proofs.YtbkaecjkgjkheaaDoor.fa
set_option maxRecDepth 20000

/-- 'v[l:h]' of bytes, as a value -/
def sl : Value → Nat → Nat → Value
  | .slice ao _ cap, l, h => sliced ao l h cap 1
  | _, _, _ => undef
theorem sl_byt {w : World} {v : Value} {xs : List Int} (hb : Byt w v xs) (l h : Nat) (hl : l ≤ h) (hh : h ≤ xs.length) : Byt w (sl v l h) ((xs.take h).drop l) := by
  obtain ⟨ao, cap, rfl, hc, hb'⟩ := byt_cut hb l h hl hh
  exact hb'
theorem sl_to {w : World} {v : Value} {xs : List Int} (hb : Byt w v xs) (h : Nat) (hh : h ≤ xs.length) : Byt w (sl v 0 h) (xs.take h) := by
  have := sl_byt hb 0 h (Nat.zero_le _) hh
  rwa [List.drop_zero] at this
theorem sl_from {w : World} {v : Value} {xs : List Int} (hb : Byt w v xs) (l : Nat) (hl : l ≤ xs.length) : Byt w (sl v l xs.length) (xs.drop l) := by
  have := sl_byt hb l xs.length hl (Nat.le_refl _)
  rwa [List.take_length] at this

theorem sl_sub {w : World} {v : Value} {xs : List Int} (hb : Byt w v xs) (l h : Nat) (hl : l ≤ h) (hh : h ≤ xs.length) : Byt w (sl v l h) (sub xs l h) := sl_byt hb l h hl hh
theorem byt_form {w : World} {v : Value} {xs : List Int} {n : Nat} (h : Byt w v xs) (hn : xs.length = n) : ∃ ao cap, v = .slice ao n cap := by
  obtain ⟨ao, cap, e, -⟩ := h
  rw [hn] at e
  exact ⟨ao, cap, e⟩
theorem byt_drawn {w : World} {v : Value} {xs : List Int} (h : Byt w v xs) (m : Nat) : Byt (w.drewN m) v xs := h
theorem below_drawn {B : Nat} {w w' : World} (h : Below B w w') (m : Nat) : Below B w (w'.drewN m) := ⟨h.os, h.tape, h.output, h.size, fun k hk => h.block k hk⟩

section
variable {ev : Operand → Value} {o : Oper}
theorem exec_to (s x : Operand) (hop : o.op = Op.slice 22 s none (some x) none) (v : Value) (xs : List Int) (w0 : World) (hb : Byt w0 v xs) (h : Nat) (hs : ev s = v) (hx : ev x = .int .i64 (h : Int)) (hh : h ≤ xs.length) (w : World) : (execOp ev o).run Tryd.prog w = .ok (.value (sl v 0 h)) w := by
  obtain ⟨ao, cap, rfl, hc, -⟩ := byt_cut hb 0 h (Nat.zero_le _) hh
  have hrun := run_slice_h (P := Tryd.prog) w 22 ao xs.length cap und_bytes .i64 (h : Int) (by omega) (by omega)
  rw [elem_bytes, run_size_u8] at hrun
  simp [execOp, hop, hs, hx, run_sliceAt_slice w 22 _ _ _ _ und_bytes, hrun, Result.andThen, sl]
theorem exec_part (s x y : Operand) (hop : o.op = Op.slice 22 s (some x) (some y) none) (v : Value) (xs : List Int) (w0 : World) (hb : Byt w0 v xs) (l h : Nat) (hs : ev s = v) (hx : ev x = .int .i64 (l : Int)) (hy : ev y = .int .i64 (h : Int)) (hl : l ≤ h) (hh : h ≤ xs.length) (w : World) : (execOp ev o).run Tryd.prog w = .ok (.value (sl v l h)) w := by
  obtain ⟨ao, cap, rfl, hc, -⟩ := byt_cut hb l h hl hh
  have hrun := run_slice_lh (P := Tryd.prog) w 22 ao xs.length cap und_bytes .i64 .i64 (l : Int) (h : Int) (by omega) (by omega) (by omega)
  rw [elem_bytes, run_size_u8] at hrun
  simp [execOp, hop, hs, hx, hy, run_sliceAt_slice w 22 _ _ _ _ und_bytes, hrun, Result.andThen, sl]
theorem exec_from (s x : Operand) (hop : o.op = Op.slice 22 s (some x) none none) (v : Value) (xs : List Int) (w0 : World) (hb : Byt w0 v xs) (l n : Nat) (hs : ev s = v) (hx : ev x = .int .i64 (l : Int)) (hn : xs.length = n) (hl : l ≤ n) (w : World) : (execOp ev o).run Tryd.prog w = .ok (.value (sl v l n)) w := by
  subst hn
  obtain ⟨ao, cap, rfl, hc, -⟩ := byt_cut hb l xs.length hl (Nat.le_refl _)
  have hrun := run_slice_l (P := Tryd.prog) w 22 ao xs.length cap und_bytes .i64 (l : Int) (by omega) (by omega)
  rw [elem_bytes, run_size_u8] at hrun
  simp [execOp, hop, hs, hx, run_sliceAt_slice w 22 _ _ _ _ und_bytes, hrun, Result.andThen, sl]
theorem exec_loadN (t : TypeId) (x : Operand) (hop : o.op = Op.load t x) (p : Value) (hx : ev x = p) (v : Value) (w : World) (hr : (Instr.loadAt t p).run Tryd.prog w = .ok v w) : (execOp ev o).run Tryd.prog w = .ok (.value v) w := by
  unfold execOp
  simp only [hop, hx, Sem.run_bind, Result.andThen_ok, hr]
  rfl
end

section
variable {ops : Array Oper} {o : Oper} {a : Act} {Q : Exit → Act → World → Prop} {K : Act → World → Prop} {E : Prop}
/-- a call, guarded or not -/
theorem step_callW (w : World) (hw : Region.wanted o (yielded ops a.tmps) = true) (d : Option Tmp) (hd : o.dst = d) (f : FuncId) (args : Array Operand) (ats : Array TypeId) (hop : o.op = .call { callee := .value (.func f), args := args, argTypes := ats })
    (hcf : ∀ (q : Array Value) (w : World), (callFunc f q).run Tryd.prog w = .ok (.enter f q) w) (vs : Array Value) (hx : args.map a.eval = vs) (R : Value → World → Prop) (hc : Calls Tryd.prog f vs w fun e w' => ∃ v, e = .returned v ∧ R v w') (hK : ∀ v w', R v w' → K (a.put d v) w') : if Region.wanted o (yielded ops a.tmps) = true then Oper.wp Tryd.prog o a w K Q else E := by
  rw [if_pos hw]
  subst hd
  subst hx
  unfold Oper.wp
  simp only [execOp, hop]
  go_simp
  refine hc.mono ?_
  rintro e w' ⟨v, rfl, hr⟩
  exact hK v w' hr
/-- '[]byte{}' -/
theorem step_nil (w : World) (hg : o.guard = none) (d : Option Tmp) (hd : o.dst = d) (hop : o.op = Op.buildSlice 22 0 #[])
    (hK : ∀ v w', Own w.heap.size w' v [] → Below w.heap.size w w' → K (a.put d v) w') : if Region.wanted o (yielded ops a.tmps) = true then Oper.wp Tryd.prog o a w K Q else E := by
  have hw : Region.wanted o (yielded ops a.tmps) = true := by simp [Region.wanted, hg]
  rw [if_pos hw]
  subst hd
  have hrun : (Instr.buildSlice 22 0 #[]).run Tryd.prog w = .ok (.slice (some ⟨w.heap.size, 0, none⟩) 0 0) (w.alloc (.cells #[] 5)) := by kernel_rfl
  unfold Oper.wp execOp
  simp only [hop, List.map_toArray, List.map_nil, Sem.run_bind, Sem.run_pure, Result.andThen_ok, hrun]
  exact hK _ _ (Own.empty w (Nat.le_refl _)) ((Below.refl _ _).alloc (Nat.le_refl _) _)
/-- 'append(out, s...)' of bytes, out of the call's own -/
theorem step_pushs (w : World) (hg : o.guard = none) (d : Option Tmp) (hd : o.dst = d) (s x : Operand) (hop : o.op = .call { callee := .builtin .append, args := #[s, x], argTypes := #[22, 22] })
    (B : Nat) (hB : B ≤ w.heap.size) (v vy : Value) (xs ys : List Int) (hs : a.eval s = v) (hx : a.eval x = vy) (hown : Own B w v xs) (hy : Byt w vy ys) (hn : xs.length ≤ 1099511627776) (hm : ys.length ≤ 1099511627776)
    (hK : ∀ v' w', Own B w' v' (xs ++ ys) → Below B w w' → K (a.put d v') w') : if Region.wanted o (yielded ops a.tmps) = true then Oper.wp Tryd.prog o a w K Q else E := by
  have hw : Region.wanted o (yielded ops a.tmps) = true := by simp [Region.wanted, hg]
  rw [if_pos hw]
  subst hd
  obtain ⟨i0, hi, hz0, hz1, hz2⟩ := info_parts info_u8
  obtain ⟨ao, cap, rfl, h1, h2, h3, h4, h5⟩ := hy
  cases ao with
  | none =>
    have hc := h4 rfl
    subst hc
    have : ys = [] := List.eq_nil_of_length_eq_zero (by omega)
    subst this
    have hrun := run_append_owned_none (P := Tryd.prog) (w := w) B 22 o.type 5 i0 1 Tryd.underlying22 hi v xs.length _ hown
    have hx' : a.eval x = .slice none 0 0 := hx
    unfold Oper.wp
    simp [execOp, hop, resolve, invoke, builtin, hs, hx', hrun, Result.andThen]
    refine hK v w ?_ (Below.refl _ _)
    rwa [List.append_nil]
  | some ad =>
    refine wp_append_own _ s x 22 hop B 5 i0 (.int .u8 0) 1 1 Tryd.underlying22 hi hz0 hz1 hz2 rfl (by decide) v xs.length _ hs hown ad ys.length cap (ys.map (Value.int .u8)) hx (by simp) ?_ ?_ (by simp only [maxLen]; omega) (by omega) hB fun v' w' h1 h2 _ => ?_
    · intro j u hj
      have hjl : j < ys.length := by have := (List.getElem?_eq_some_iff.1 hj).1; simpa using this
      obtain ⟨b, off, e, hc⟩ := h5 (by omega)
      cases e
      rw [Addr.add_mid, hc j hjl, ← hj]
      simp [gb, List.getD, hjl]
    · intro u hu
      simp only [List.mem_map] at hu
      obtain ⟨y, _, rfl⟩ := hu
      rfl
    · refine hK v' w' ?_ ?_
      · show w'.ownsRow B 5 1 v' (xs ++ ys).length ((xs ++ ys).map (Value.int .u8))
        simpa using h1
      · exact (Below.refl B w).grown h2 hB fun k hk => (World.ownsRow.lt hown k hk).1
/-- a variable for a struct -/
theorem step_newC (w : World) (hg : o.guard = none) (d : Option Tmp) (hd : o.dst = d) (t : TypeId) (hop : o.op = Op.alloc t) (cs : List Value) (hz : (Tryd.prog.info? t).map (fun i => (i.zero, i.size)) = some (some (.agg cs.toArray), cs.length))
    (hK : ∀ w', Vr w' w.heap.size cs → Below w.heap.size w w' → w.heap.size < w'.heap.size → K (a.put d (.pointer (some ⟨w.heap.size, 0, none⟩))) w') : if Region.wanted o (yielded ops a.tmps) = true then Oper.wp Tryd.prog o a w K Q else E := by
  have hw : Region.wanted o (yielded ops a.tmps) = true := by simp [Region.wanted, hg]
  rw [if_pos hw]
  subst hd
  have hz' := (zero_of_info hz).1
  unfold Oper.wp
  simp [execOp, hop, Instr.alloc, hz', newVar, newRow, Value.cells, Result.andThen]
  exact hK _ (Vr.new w t cs) ((Below.refl _ _).alloc (Nat.le_refl _) _) (by simp)
/-- a struct is written into its variable -/
theorem step_storeC (w : World) (hg : o.guard = none) (d : Option Tmp) (hd : o.dst = d) (x y : Operand) (t : TypeId) (hop : o.op = Op.store t x y) (c : Nat) (cs0 cs : List Value) (hx : a.eval x = .pointer (some ⟨c, 0, none⟩)) (hy : a.eval y = .agg cs.toArray) (hV : Vr w c cs0) (hl : cs0.length = cs.length) (hs : (Tryd.prog.info? t).map (·.size) = some cs.length) (h1 : ∀ v ∈ cs, v.oneCell' = true)
    (hK : ∀ w', Vr w' c cs → Below c w w' → K (a.put d undef) w') : if Region.wanted o (yielded ops a.tmps) = true then Oper.wp Tryd.prog o a w K Q else E := by
  have hw : Region.wanted o (yielded ops a.tmps) = true := by simp [Region.wanted, hg]
  rw [if_pos hw]
  subst hd
  have ht : w.there c 0 cs.length := by rw [← hl]; exact hV.2
  refine wp_store_mid t x y hop c 0 cs.toArray hx hy (by simpa using ht) (by simpa using hs) (all_oneCell_toArray h1) ?_
  exact hK _ ⟨World.rangeAt_setCells_same w c 0 cs ht, World.there_setCells ht c 0 _⟩ (below_cells _ (Nat.le_refl _) _ _ (Below.refl _ _))
end

theorem cell_of4 (w : World) (a b c d : Value) (t : TypeId) (k : Nat) (v : Value) (h : ([a, b, c, d] : List Value)[k]? = some v) : (w.alloc (.cells #[a, b, c, d] t)).cell? ⟨w.heap.size, k, none⟩ = some v := by
  rw [cell_of_row (w.alloc (.cells #[a, b, c, d] t)) w.heap.size k _ t (0, 0) (heap_alloc_last w _)]
  simpa using h
theorem cell_of2 (w : World) (a b : Value) (t : TypeId) (k : Nat) (v : Value) (h : ([a, b] : List Value)[k]? = some v) : (w.alloc (.cells #[a, b] t)).cell? ⟨w.heap.size, k, none⟩ = some v := by
  rw [cell_of_row (w.alloc (.cells #[a, b] t)) w.heap.size k _ t (0, 0) (heap_alloc_last w _)]
  simpa using h
/-- four lists, one behind the other -/
theorem cat4_any (w : World) (a b c d : Value) (x y z u : List Int) (ha : Byt w a x) (hb : Byt w b y) (hc : Byt w c z) (hd : Byt w d u) (l1 : x.length ≤ 10000) (l2 : y.length ≤ 10000) (l3 : z.length ≤ 10000) (l4 : u.length ≤ 10000) (hp : 0 < x.length) :
    Calls Tryd.prog 21 #[.slice (some ⟨w.heap.size, 0, none⟩) 4 4] (w.alloc (.cells #[a, b, c, d] 22)) fun e w' => ∃ r, e = .returned r ∧ Own w.heap.size w' r (x ++ (y ++ (z ++ u))) ∧ Below w.heap.size w w' := by
  have B0 : Below w.heap.size w (w.alloc (.cells #[a, b, c, d] 22)) := (Below.refl _ _).alloc (Nat.le_refl _) _
  have e : cats [x, y, z, u] 4 = x ++ (y ++ (z ++ u)) := by simp [cats]
  have := concat_any w.heap.size 4 (fun k => ([a, b, c, d] : List Value).getD k undef) [x, y, z, u] _ rfl (by omega) (fun k hk => by
    match k, hk with
    | 0, _ => exact ha.below B0
    | 1, _ => exact hb.below B0
    | 2, _ => exact hc.below B0
    | 3, _ => exact hd.below B0) (fun k hk => by
    have hk : k < 4 := hk
    match k, hk with
    | 0, _ => exact l1
    | 1, _ => exact l2
    | 2, _ => exact l3
    | 3, _ => exact l4) (by rw [e]; simp; omega) (fun k hk => cell_of4 w a b c d 22 k _ (by
    match k, hk with
    | 0, _ => rfl
    | 1, _ => rfl
    | 2, _ => rfl
    | 3, _ => rfl))
  rw [e] at this
  refine this.mono ?_
  rintro q w' ⟨r, rfl, o, B⟩
  exact ⟨r, rfl, own_less o B0.size, B0.trans (B.mono B0.size)⟩
/-- two lists, one behind the other -/
theorem cat2_any (w : World) (a b : Value) (x y : List Int) (ha : Byt w a x) (hb : Byt w b y) (l1 : x.length ≤ 10000) (l2 : y.length ≤ 10000) (hp : 0 < x.length) :
    Calls Tryd.prog 21 #[.slice (some ⟨w.heap.size, 0, none⟩) 2 2] (w.alloc (.cells #[a, b] 22)) fun e w' => ∃ r, e = .returned r ∧ Own w.heap.size w' r (x ++ y) ∧ Below w.heap.size w w' := by
  have B0 : Below w.heap.size w (w.alloc (.cells #[a, b] 22)) := (Below.refl _ _).alloc (Nat.le_refl _) _
  have e : cats [x, y] 2 = x ++ y := by simp [cats]
  have := concat_any w.heap.size 2 (fun k => ([a, b] : List Value).getD k undef) [x, y] _ rfl (by omega) (fun k hk => by
    match k, hk with
    | 0, _ => exact ha.below B0
    | 1, _ => exact hb.below B0) (fun k hk => by
    have hk : k < 2 := hk
    match k, hk with
    | 0, _ => exact l1
    | 1, _ => exact l2) (by rw [e]; simp; omega) (fun k hk => cell_of2 w a b 22 k _ (by
    match k, hk with
    | 0, _ => rfl
    | 1, _ => rfl))
  rw [e] at this
  refine this.mono ?_
  rintro q w' ⟨r, rfl, o, B⟩
  exact ⟨r, rfl, own_less o B0.size, B0.trans (B.mono B0.size)⟩
end Go.Proofs.YtbkaecjkgjkheaaDoor.he

/- What head's isWhole, Committed, Mark and End, and the reference's Committed answer. No claim of its own. -/
namespace Go.Proofs.YtbkaecjkgjkheaaDoor.he
open Go.RowKit Go.Proofs.YtbkaecjkgjkheaaDoor.fa
set_option maxRecDepth 20000

/-- the tag that an end bears -/
def tgo (tag : List Int) : List Int := if tag.length = 0 then List.replicate 32 255 else tag
theorem tgo_len {tag : List Int} (h : tag.length = 0 ∨ tag.length = 32) : (tgo tag).length = 32 := by
  unfold tgo
  split
  · simp
  · omega
theorem tgo_all {tag : List Int} (h : AllB tag) : AllB (tgo tag) := by
  unfold tgo
  split
  · exact allB_replicate 255 32 (by omega)
  · exact h
end Go.Proofs.YtbkaecjkgjkheaaDoor.he

/- What head's Read answers. No claim of its own. -/
namespace Go.Proofs.YtbkaecjkgjkheaaDoor.he
open Go.RowKit Go.Proofs.YtbkaecjkgjkheaaDoor.fa
set_option maxRecDepth 20000
end Go.Proofs.YtbkaecjkgjkheaaDoor.he

/- What an argument that is a head holds; what the row's list of variables gives. No claim of its own. -/
namespace Go.Proofs.YtbkaecjkgjkheaaDoor.he
open Go.ChangeShapes Go.WideShapes Go.ChangeAt Go.RowKit Go.Proofs.YtbkaecjkgjkheaaDoor.fa
set_option maxRecDepth 20000

theorem own_cell {B : Nat} {w : World} {v : Value} {xs : List Int} {n : Nat} (h : Own B w v xs) (hl : xs.length = n) (hp : 0 < n) : ∃ g cap, v = .slice (some ⟨g, 0, none⟩) n cap ∧ n ≤ cap ∧ cap ≤ 9223372036854775807 ∧ ∀ i, i < n → w.cell? ⟨g, i, none⟩ = some (.int .u8 (gb xs i)) := by
  subst hl
  rcases h.2 with ⟨_, hn⟩ | ⟨g, cap, cur, rfl, hg, hh, hc, hm, hs, ht⟩
  · omega
  refine ⟨g, cap, rfl, hc, by simpa [maxLen] using hm, fun i hi => ?_⟩
  obtain ⟨g', cap', e, oc⟩ := own_row h hp
  cases e
  exact oc.cell hi

/-- what the row's list of variables gives: the table of sizes -/
theorem gTab : Tryd.prog.globalNamed "nepenthe/head.sizes" = some 0 := by kernel_rfl
theorem gTabType : (Tryd.prog.globals[0]?).map (·.type) = some 90 := by kernel_rfl
theorem cells_arr7i : Tryd.prog.cellsOf 90 = 7 := by kernel_rfl
theorem cells_int : Tryd.prog.cellsOf 3 = 1 := by kernel_rfl
theorem cells_u32 : Tryd.prog.cellsOf 23 = 1 := by kernel_rfl
theorem cells_u64 : Tryd.prog.cellsOf 24 = 1 := by kernel_rfl
theorem cells_head : Tryd.prog.cellsOf 26 = 6 := by kernel_rfl
theorem table {W : World} (h : laidMetH Tryd.prog [("nepenthe/head.sizes", Rows.laid_nepenthe_head_sizes)] W) : Tab W := by
  have t := Lib.tabIs_of_head (rest := []) (zs := [1, 1, 1, 1, 4, 8, 8]) (k := .i64) gTab gTabType Tryd.underlying90 Tryd.underlying3 cells_int cells_arr7i h
  intro i hi
  have := t.cell gTab i hi
  rw [this]
  rfl

/-- one cell that is read as a number -/
theorem num_cell {H : Type} {enc : TypeId × Value → H} {W : World} {fuel : Nat} {c : Value} {x : DataW H × List MemPlace} {t : TypeId} {k : IntKind} (ht : Tryd.prog.underlying t = some (.int k))
    (hf : DataW.trod enc Tryd.prog W 0 (fun _ => true) true fuel t [c] = some x) : ∃ n, c = .int k n ∧ (Lit.int k n).wf = true := by
  obtain ⟨y, hy, -, hw⟩ := DataW.trod_int ht hf
  exact ⟨y, by simpa using hy, hw⟩
/-- the bounds of a head's numbers -/
def Hb (l e t : Int) : Prop := (0 ≤ l ∧ l ≤ 4294967295) ∧ (0 ≤ e ∧ e ≤ 18446744073709551615) ∧ 0 ≤ t ∧ t ≤ 18446744073709551615
/-- an argument that is a head -/
theorem head_open {H : Type} {enc : TypeId × Value → H} {W : World} {base : Nat} {v : Value} {d : DataW H} {ps : List MemPlace}
    (ok : Value.okWide Tryd.prog W .any base 26 v) (h : DataW.Trod enc Tryd.prog W 0 (fun _ => true) true 26 v d ps) : ∃ k n c l e t, v = .agg (hv k n c l e t).toArray ∧ Hb l e t := by
  simp only [Value.okWide, Tryd.underlying26] at ok
  obtain ⟨cs, rfl, h2, _⟩ := ok
  rw [cells_head] at h2
  obtain ⟨l⟩ := cs
  obtain ⟨c0, c1, c2, c3, c4, c5, rfl⟩ : ∃ c0 c1 c2 c3 c4 c5, l = [c0, c1, c2, c3, c4, c5] := by
    match l, h2 with
    | [c0, c1, c2, c3, c4, c5], _ => exact ⟨c0, c1, c2, c3, c4, c5, rfl⟩
  obtain ⟨fuel, hf⟩ := h
  obtain ⟨xs, n, -, -, -, hlen, hall⟩ := DataW.trod_struct Tryd.underlying26 hf
  match xs, hlen with
  | [y0, y1, y2, y3, y4, y5], _ =>
    have a0 := hall 0 _ rfl
    have a1 := hall 1 _ rfl
    have a2 := hall 2 _ rfl
    have a3 := hall 3 _ rfl
    have a4 := hall 4 _ rfl
    have a5 := hall 5 _ rfl
    simp [cells_int, cells_u32, cells_u64, Value.cells] at a0 a1 a2 a3 a4 a5
    obtain ⟨n0, rfl, -⟩ := num_cell Tryd.underlying3 a0
    obtain ⟨n1, rfl, -⟩ := num_cell Tryd.underlying3 a1
    obtain ⟨n2, rfl, -⟩ := num_cell Tryd.underlying3 a2
    obtain ⟨n3, rfl, w3⟩ := num_cell Tryd.underlying23 a3
    obtain ⟨n4, rfl, w4⟩ := num_cell Tryd.underlying24 a4
    obtain ⟨n5, rfl, w5⟩ := num_cell Tryd.underlying24 a5
    exact ⟨n0, n1, n2, n3, n4, n5, rfl, bounds_u32 w3, bounds_u64 w4, bounds_u64 w5⟩
end Go.Proofs.YtbkaecjkgjkheaaDoor.he

/- A namespace's keys as data; a tag of two parts; a head's tweak as a list. No claim of its own. -/
namespace Go.Proofs.YtbkaecjkgjkheaaDoor.se
open Go.RowKit Go.Proofs.YtbkaecjkgjkheaaDoor.fa Go.Proofs.YtbkaecjkgjkheaaDoor.he
set_option maxRecDepth 20000

/-- a head's tweak -/
def twk (e t : Int) : List Int := (le e 8).reverse ++ (le t 8).reverse
theorem twk_len (e t : Int) : (twk e t).length = 16 := by simp [twk, le_len]
theorem sub_all {xs ys : List Int} (h : AllB xs) (hs : ∀ x ∈ ys, x ∈ xs) : AllB ys := allB_mem fun x hx => by
  obtain ⟨i, hi, rfl⟩ := mem_gb (hs x hx)
  exact h i
theorem rev_all {xs : List Int} (h : AllB xs) : AllB xs.reverse := sub_all h fun _ hx => List.mem_reverse.1 hx
theorem twk_all (e t : Int) : AllB (twk e t) := allB_app (rev_all (le_all e 8)) (rev_all (le_all t 8))
theorem twk_only {e t e' t' : Int} (h : Hb 0 e t) (h' : Hb 0 e' t') : twk e t = twk e' t' ↔ e = e' ∧ t = t' := by
  refine ⟨fun q => ?_, fun ⟨a, b⟩ => by rw [a, b]⟩
  have q1 := List.append_inj q (by simp [le_len])
  refine ⟨?_, ?_⟩
  · rw [← num_le e h.2.1, ← num_le e' h'.2.1, q1.1]
  · rw [← num_le t h.2.2, ← num_le t' h'.2.2, q1.2]
/-- the parts of a namespace's keys -/
def kd (ks : List Int) : List Int := ks.take 32
def kt (ks : List Int) : List Int := (ks.take 64).drop 32
def kg (ks : List Int) : List Int := ks.drop 64
theorem kd_len {ks : List Int} (h : ks.length = 96) : (kd ks).length = 32 := by simp [kd, h]
theorem kt_len {ks : List Int} (h : ks.length = 96) : (kt ks).length = 32 := by simp [kt, h]
theorem kg_len {ks : List Int} (h : ks.length = 96) : (kg ks).length = 32 := by simp [kg, h]
theorem kd_all {ks : List Int} (h : AllB ks) : AllB (kd ks) := sub_all h fun _ hx => (List.mem_of_mem_take hx)
theorem kt_all {ks : List Int} (h : AllB ks) : AllB (kt ks) := sub_all h fun _ hx => (List.mem_of_mem_take (List.mem_of_mem_drop hx))
theorem kg_all {ks : List Int} (h : AllB ks) : AllB (kg ks) := sub_all h fun _ hx => (List.mem_of_mem_drop hx)
/-- at p lie keys that New made of ks -/
def Kys (w : World) (p : Nat) (ks : List Int) : Prop :=
  ∃ c m, w.cell? ⟨p, 0, none⟩ = some (.pointer (some ⟨c, 0, none⟩)) ∧ w.cell? ⟨p, 1, none⟩ = some (.pointer (some ⟨m, 0, none⟩)) ∧ xt.Cip w c (kd ks) (kt ks) ∧ mc.KeyV w (.pointer (some ⟨m, 0, none⟩)) (mc.blk (kg ks))
theorem Kys.lt {w : World} {p : Nat} {ks : List Int} (h : Kys w p ks) : p < w.heap.size := by
  obtain ⟨c, m, h1, -⟩ := h
  exact World.block_lt_of_cell? w _ h1
theorem Kys.below {w w' : World} {p : Nat} {ks : List Int} (h : Kys w p ks) (hb : Below w.heap.size w w') : Kys w' p ks := by
  have hl := h.lt
  obtain ⟨c, m, h1, h2, h3, h4⟩ := h
  refine ⟨c, m, ?_, ?_, h3.below hb, h4.below hb⟩
  · rw [World.cell?_of_block (w := w) (w' := w') (a := ⟨p, 0, none⟩) (hb.block p hl)]; exact h1
  · rw [World.cell?_of_block (w := w) (w' := w') (a := ⟨p, 1, none⟩) (hb.block p hl)]; exact h2
/-- a slice of two slices of bytes -/
theorem bts_two {w : World} {u v : Value} {xs ys : List Int} (h : Byt w u xs) (h' : Byt w v ys) (hl : xs.length ≤ 1000000) (hl' : ys.length ≤ 1000000) : mc.Bts (w.alloc (.cells #[u, v] 22)) (.slice (some ⟨w.heap.size, 0, none⟩) 2 2) [xs, ys] := by
  have hb : Below w.heap.size w (w.alloc (.cells #[u, v] 22)) := (Below.refl _ _).alloc (Nat.le_refl _) _
  refine ⟨_, _, rfl, by simp, by simp, fun _ => ⟨w.heap.size, 0, rfl, fun r hr => ?_⟩, fun r => ?_⟩
  · have hr : r < 2 := hr
    match r, hr with
    | 0, _ => exact ⟨u, cell_of2 w u v 22 0 _ rfl, h.below hb⟩
    | 1, _ => exact ⟨v, cell_of2 w u v 22 1 _ rfl, h'.below hb⟩
  · match r with
    | 0 => simp [List.getD]; omega
    | 1 => simp [List.getD]; omega
    | r + 2 => simp [List.getD]
/-- the tag of two parts -/
theorem tag2_any (w : World) (kv : Value) (bl : List Int) (u v : Value) (xs ys : List Int) (hk : mc.KeyV w kv bl) (h : Byt w u xs) (h' : Byt w v ys) (hl : xs.length ≤ 10000) (hl' : ys.length ≤ 10000) :
    Calls Tryd.prog 20 #[kv, .slice (some ⟨w.heap.size, 0, none⟩) 2 2] (w.alloc (.cells #[u, v] 22)) fun e w' => ∃ ao cap, e = .returned (.slice ao 32 cap) ∧ Byt w' (.slice ao 32 cap) (mc.tagB bl (xs ++ ys)) ∧ Below w.heap.size w w' := by
  have hb : Below w.heap.size w (w.alloc (.cells #[u, v] 22)) := (Below.refl _ _).alloc (Nat.le_refl _) _
  have e : [xs, ys].flatten = xs ++ ys := by simp
  have z := mc.ktag_any _ kv bl _ [xs, ys] (hk.below hb) (bts_two h h' (by omega) (by omega)) (by rw [e, List.length_append]; omega)
  rw [e] at z
  refine z.mono ?_
  rintro x w' ⟨r, rfl, h1, h2⟩
  obtain ⟨ao, cap, rfl⟩ := byt_form h1 (n := 32) (mc.tagB_len _ _)
  exact ⟨ao, cap, rfl, h1, hb.trans (h2.mono hb.size)⟩
/-- does a tag fit two parts? -/
theorem fits2_any (w : World) (kv : Value) (bl : List Int) (tv u v : Value) (gs xs ys : List Int) (hk : mc.KeyV w kv bl) (hg : Byt w tv gs) (h : Byt w u xs) (h' : Byt w v ys) (hl : xs.length ≤ 10000) (hl' : ys.length ≤ 10000) :
    Calls Tryd.prog 28 #[kv, tv, .slice (some ⟨w.heap.size, 0, none⟩) 2 2] (w.alloc (.cells #[u, v] 22)) fun e w' => e = .returned (.bool (decide (gs = mc.tagB bl (xs ++ ys)))) ∧ Below w.heap.size w w' := by
  have hb : Below w.heap.size w (w.alloc (.cells #[u, v] 22)) := (Below.refl _ _).alloc (Nat.le_refl _) _
  have e : [xs, ys].flatten = xs ++ ys := by simp
  have z := mc.kfits_any _ kv bl tv gs _ [xs, ys] (hk.below hb) (hg.below hb) (bts_two h h' (by omega) (by omega)) (by rw [e, List.length_append]; omega)
  rw [e] at z
  refine z.mono ?_
  rintro x w' ⟨rfl, h2⟩
  exact ⟨rfl, hb.trans (h2.mono hb.size)⟩
/-- the keys that New makes -/
theorem kys_new {w : World} {c m : Nat} {ks : List Int} (h : xt.Cip w c (kd ks) (kt ks)) (h' : mc.KeyV w (.pointer (some ⟨m, 0, none⟩)) (mc.blk (kg ks))) : Kys (w.alloc (.cells #[.pointer (some ⟨c, 0, none⟩), .pointer (some ⟨m, 0, none⟩)] 46)) w.heap.size ks := by
  have hb : Below w.heap.size w (w.alloc (.cells #[.pointer (some ⟨c, 0, none⟩), .pointer (some ⟨m, 0, none⟩)] 46)) := (Below.refl _ _).alloc (Nat.le_refl _) _
  exact ⟨c, m, cell_of2 w _ _ 46 0 _ rfl, cell_of2 w _ _ 46 1 _ rfl, h.below hb, h'.below hb⟩
theorem hdH {p : Prop} (h : p) : Hid p := h
theorem ld_u64 {w : World} {b p : Nat} {x : Int} (h : w.cell? ⟨b, p, none⟩ = some (.int .u64 x)) : (Instr.loadAt 24 (.pointer (some ⟨b, p, none⟩))).run Tryd.prog w = .ok (.int .u64 x) w := by
  simp only [Instr.loadAt, Instr.sureAddr, Sem.run_bind, Sem.run_pure, Result.andThen_ok, run_load1 w b p 24 .u64 x Tryd.underlying24 h]
theorem ld_cptr {w : World} {b p : Nat} {v : Value} (h : w.cell? ⟨b, p, none⟩ = some v) : (Instr.loadAt 43 (.pointer (some ⟨b, p, none⟩))).run Tryd.prog w = .ok v w := by
  have : (loadVar 43 ⟨b, p, none⟩).run Tryd.prog w = .ok v w := by simp [loadVar, isAgg, run_underlying Tryd.underlying43, h]
  simp only [Instr.loadAt, Instr.sureAddr, Sem.run_bind, Sem.run_pure, Result.andThen_ok, this]
/-- len of a slice that is a letter -/
theorem len_law {ops : Array Oper} {rest : List Oper} {o : Oper} {a : Act} {Q : Exit → Act → World → Prop} (w : World) (hg : o.guard = none) (x : Operand) (hop : o.op = .call { callee := .builtin .len, args := #[x], argTypes := #[22] }) (v : Value) (xs : List Int) (n : Int) (hx : a.eval x = v) (hb : Byt w v xs) (hn : (xs.length : Int) = n)
    (hK : wpList Tryd.prog ops Q rest (a.put o.dst (.int .i64 n)) w) : wpList Tryd.prog ops Q (o :: rest) a w := by
  refine wpList_plain hg fun K hK' => ?_
  obtain ⟨ao, cap, rfl, -⟩ := hb
  subst hn
  unfold Oper.wp
  simp [execOp, hop, resolve, invoke, builtin, hx, Result.andThen]
  exact hK' _ _ hK
/-- a slice of two slices, in a drawn region -/
theorem step_two {ops : Array Oper} {o : Oper} {a : Act} {Q : Exit → Act → World → Prop} {K : Act → World → Prop} {E : Prop} (w : World) (hg : o.guard = none) (d : Option Tmp) (hd : o.dst = d) (x y : Operand) (hop : o.op = Op.buildSlice 66 2 #[(0, x), (1, y)]) (uo : Option Addr) (n uc : Nat) (vo : Option Addr) (m vc : Nat) (hx : a.eval x = .slice uo n uc) (hy : a.eval y = .slice vo m vc)
    (hK : K (a.put d (.slice (some ⟨w.heap.size, 0, none⟩) 2 2)) (w.alloc (.cells #[.slice uo n uc, .slice vo m vc] 22))) : if Region.wanted o (yielded ops a.tmps) = true then Oper.wp Tryd.prog o a w K Q else E := by
  have hw : Region.wanted o (yielded ops a.tmps) = true := by simp [Region.wanted, hg]
  rw [if_pos hw]
  subst hd
  have hrun : (Instr.buildSlice 66 2 #[(0, .slice uo n uc), (1, .slice vo m vc)]).run Tryd.prog w = .ok (.slice (some ⟨w.heap.size, 0, none⟩) 2 2) (w.alloc (.cells #[.slice uo n uc, .slice vo m vc] 22)) := by kernel_rfl
  unfold Oper.wp execOp
  simp only [hop, List.map_toArray, List.map_cons, List.map_nil, hx, hy, Sem.run_bind, Sem.run_pure, Result.andThen_ok, hrun]
  exact hK
theorem keeps_e {ks : List Int} (hl : ks.length = 96) (ha : AllB ks) : xt.Keeps (xt.xe (kd ks)) := fun m b hm hb => xt.xe_blk _ (kd_len hl) (kd_all ha) m b hm hb
theorem keeps_d {ks : List Int} (hl : ks.length = 96) (ha : AllB ks) : xt.Keeps (xt.xd (kd ks)) := fun m b hm hb => xt.xd_blk _ (kd_len hl) (kd_all ha) m b hm hb
theorem enc_len {ks ss : List Int} {N : Nat} (M : Nat) (hl : ks.length = 96) (ha : AllB ks) (hs : AllB ss) (h : ss.length = 16 * N) : (xt.run (xt.xe (kd ks)) M ss N).length = ss.length := by
  rw [xt.run_len _ (keeps_e hl ha) M ss hs N (by omega), h]
theorem dec_len {ks ss : List Int} {N : Nat} (M : Nat) (hl : ks.length = 96) (ha : AllB ks) (hs : AllB ss) (h : ss.length = 16 * N) : (xt.run (xt.xd (kd ks)) M ss N).length = ss.length := by
  rw [xt.run_len _ (keeps_d hl ha) M ss hs N (by omega), h]
theorem same_yes (w : World) (va vb : Value) (xs : List Int) (ha : Byt w va xs) (hb : Byt w vb xs) : Calls Tryd.prog 9 #[va, vb] w fun e w' => e = .returned (.bool true) ∧ Below w.heap.size w w' := by
  refine (same_any w va vb xs xs ha hb).mono ?_
  rintro e w' ⟨rfl, n, rfl⟩
  exact ⟨by rw [decide_eq_true rfl], he.below_drawn (Below.refl _ _) n⟩
theorem same_dec (w : World) (va vb : Value) (xs ys : List Int) (ha : Byt w va xs) (hy : Byt w vb ys) : Calls Tryd.prog 9 #[va, vb] w fun e w' => e = .returned (.bool (decide (xs = ys))) ∧ Below w.heap.size w w' :=
  (same_any w va vb xs ys ha hy).mono fun _ _ ⟨h1, n, h2⟩ => ⟨h1, by rw [h2]; exact he.below_drawn (Below.refl _ _) n⟩
end Go.Proofs.YtbkaecjkgjkheaaDoor.se

/- What seal's New, headBytes and Tweak answer. No claim of its own. -/
namespace Go.Proofs.YtbkaecjkgjkheaaDoor.se
open Go.RowKit Go.Proofs.YtbkaecjkgjkheaaDoor.fa Go.Proofs.YtbkaecjkgjkheaaDoor.he
set_option maxRecDepth 20000

set_option maxHeartbeats 2000000 in
theorem znew_no (v : Value) (ks : List Int) (w : World) (h : Byt w v ks) (hl : ks.length ≠ 96) :
    Calls Tryd.prog 7 #[v] w fun x w' => x = .returned (.tuple #[.pointer none, .int .i64 2]) ∧ Below w.heap.size w w' := by
  have hlen := h.len
  obtain ⟨ao, cap, rfl, h1, h2, -⟩ := h
  have HN : ((ks.length : Int) != 96) = true := bne_iff_ne.2 (by omega)
  generalize ks.length = n at *
  clear hl hlen h1 h2
  go_enter Tryd.func7, Tryd.ntmps7
  go_wp2
  go_ret2
  exact ⟨rfl, Below.refl _ _⟩

set_option maxHeartbeats 4000000 in
theorem znew_yes (v : Value) (ks : List Int) (w : World) (h : Byt w v ks) (hl : ks.length = 96) :
    Calls Tryd.prog 7 #[v] w fun x w' => ∃ p, x = .returned (.tuple #[.pointer (some ⟨p, 0, none⟩), .int .i64 0]) ∧ Kys w' p ks ∧ Below w.heap.size w w' := by
  have ha := h.all
  have HV : Hid (Byt w v ks) := h
  have HL : Hid (ks.length = 96) := hl
  have SX : Hid (∀ w0 a b, Byt w0 a (kd ks) → Byt w0 b (kt ks) → Calls Tryd.prog 17 #[a, b] w0 fun e w' => ∃ c, e = .returned (.tuple #[.pointer (some ⟨c, 0, none⟩), .int .i64 0]) ∧ xt.Cip w' c (kd ks) (kt ks) ∧ w0.heap.size ≤ c ∧ Below w0.heap.size w0 w') := fun w0 a b h1 h2 => xt.xnew_any a b _ _ w0 h1 h2 (kd_len hl) (kt_len hl)
  have SM : Hid (∀ w0 a, Byt w0 a (kg ks) → Calls Tryd.prog 18 #[a] w0 fun e w' => ∃ c, e = .returned (.pointer (some ⟨c, 0, none⟩)) ∧ mc.KeyV w' (.pointer (some ⟨c, 0, none⟩)) (mc.blk (kg ks)) ∧ Below w0.heap.size w0 w') := fun w0 a h1 => (mc.mnew_any w0 a _ h1 (by rw [kg_len hl]; omega)).mono fun _ _ ⟨c, e1, _, e2, e3⟩ => ⟨c, e1, mc.blk_key e2 (kg_all ha), e3⟩
  clear h hl ha
  have t0 : (0 : Nat) = 0 := rfl
  go_enter Tryd.func7, Tryd.ntmps7
  go_wp2_with (first
    | (have q0 := t0; refine len_law _ rfl (.tmp 6) rfl v ks 96 rfl HV.out (by rw [HL.out]; rfl) ?_; clear t0))
  refine wp_region_held_drew (S := fun w' => Below w.heap.size w w') (by kernel_rfl) (Below.refl _ _).drew (fun hS => ?_)
  obtain ⟨x1, hx0⟩ : ∃ x, x = w.drew := ⟨_, rfl⟩
  rw [← hx0] at hS  ⊢
  clear hx0
  refine take_lawH 0 (some 10) (v) rfl rfl (by kernel_rfl) (by kernel_rfl) (by kernel_rfl) (fun _ _ _ h => h) (Or.inl ⟨by rfl, fun w' hw' => by rfl⟩) hS ?_
  simp only [Act.put, List.setIfInBounds_toArray, List.set_cons_zero, List.set_cons_succ]
  refine take_lawH 1 (some 11) (sl v 0 32) rfl rfl (by kernel_rfl) (by kernel_rfl) (by kernel_rfl) (fun _ _ _ h => h) (Or.inl ⟨by rfl, fun w' hw' => by exact exec_to (.tmp 10) (.const (.int .i64 32)) rfl _ ks _ HV.out 32 rfl rfl (by have := HL.out; omega) _⟩) hS ?_
  simp only [Act.put, List.setIfInBounds_toArray, List.set_cons_zero, List.set_cons_succ]
  refine take_lawH 2 (some 12) (v) rfl rfl (by kernel_rfl) (by kernel_rfl) (by kernel_rfl) (fun _ _ _ h => h) (Or.inl ⟨by rfl, fun w' hw' => by rfl⟩) hS ?_
  simp only [Act.put, List.setIfInBounds_toArray, List.set_cons_zero, List.set_cons_succ]
  refine take_lawH 3 (some 13) (sl v 32 64) rfl rfl (by kernel_rfl) (by kernel_rfl) (by kernel_rfl) (fun _ _ _ h => h) (Or.inl ⟨by rfl, fun w' hw' => by exact exec_part (.tmp 12) (.const (.int .i64 32)) (.const (.int .i64 64)) rfl _ ks _ HV.out 32 64 rfl rfl rfl (by omega) (by have := HL.out; omega) _⟩) hS ?_
  simp only [Act.put, List.setIfInBounds_toArray, List.set_cons_zero, List.set_cons_succ]
  refine wpAnyH_ready (rs := [4]) (by kernel_rfl) (by simp) ?_
  refine AllReadyH.cons rfl (fun K hK => ?_) AllReadyH.nil
  refine step_callW _ (by rfl) (some 14) rfl 17 #[.tmp 11, .tmp 13] #[22, 22] rfl (fun q w' => by rfl) #[sl v 0 32, sl v 32 64] (by simp only [List.map_toArray, List.map_cons, List.map_nil]; rfl) (fun u w' => (∃ c, u = .tuple #[.pointer (some ⟨c, 0, none⟩), .int .i64 0] ∧ xt.Cip w' c (kd ks) (kt ks)) ∧ Below x1.heap.size x1 w') ?_ ?_
  · exact (SX.out x1 _ _ (sl_to (HV.out.below hS) 32 (by have := HL.out; omega)) (sl_byt (HV.out.below hS) 32 64 (by omega) (by have := HL.out; omega))).mono fun e w' ⟨c, h1, h2, _, h3⟩ => ⟨_, h1, ⟨c, rfl, h2⟩, h3⟩
  rintro _ x2 ⟨⟨c1, rfl, y1⟩, hb⟩
  have HC : Hid (xt.Cip x2 c1 (kd ks) (kt ks)) := y1
  clear y1
  have hS : Below w.heap.size w x2 := hS.trans (hb.mono hS.size)
  clear hb
  refine hK.out _ _ hS (fun _ => ?_)
  simp only [Act.put, List.setIfInBounds_toArray, List.set_cons_zero, List.set_cons_succ]
  clear hK K
  refine take_lawH 5 (some 9) (.tuple #[.pointer (some ⟨c1, 0, none⟩), .int .i64 0]) rfl rfl (by kernel_rfl) (by kernel_rfl) (by kernel_rfl) (fun _ _ _ h => h) (Or.inl ⟨by rfl, fun w' hw' => by rfl⟩) hS ?_
  simp only [Act.put, List.setIfInBounds_toArray, List.set_cons_zero, List.set_cons_succ]
  refine take_lawH 6 (some 15) (.pointer (some ⟨c1, 0, none⟩)) rfl rfl (by kernel_rfl) (by kernel_rfl) (by kernel_rfl) (fun _ _ _ h => h) (Or.inl ⟨by rfl, fun w' hw' => by rfl⟩) hS ?_
  simp only [Act.put, List.setIfInBounds_toArray, List.set_cons_zero, List.set_cons_succ]
  refine take_lawH 7 (some 16) (.int .i64 0) rfl rfl (by kernel_rfl) (by kernel_rfl) (by kernel_rfl) (fun _ _ _ h => h) (Or.inl ⟨by rfl, fun w' hw' => by rfl⟩) hS ?_
  simp only [Act.put, List.setIfInBounds_toArray, List.set_cons_zero, List.set_cons_succ]
  refine take_lawH 8 (some 4) (.pointer (some ⟨c1, 0, none⟩)) rfl rfl (by kernel_rfl) (by kernel_rfl) (by kernel_rfl) (fun _ _ _ h => h) (Or.inl ⟨by rfl, fun w' hw' => by rfl⟩) hS ?_
  simp only [Act.put, List.setIfInBounds_toArray, List.set_cons_zero, List.set_cons_succ]
  refine take_lawH 9 (some 5) (.int .i64 0) rfl rfl (by kernel_rfl) (by kernel_rfl) (by kernel_rfl) (fun _ _ _ h => h) (Or.inl ⟨by rfl, fun w' hw' => by rfl⟩) hS ?_
  simp only [Act.put, List.setIfInBounds_toArray, List.set_cons_zero, List.set_cons_succ]
  refine wpAnyH_done (by kernel_rfl) ?_ _
  have t0 : (0 : Nat) = 0 := rfl
  have HS : Hid (Below w.heap.size w x2) := hS
  clear hS
  go_wp2_with (first
    | (have q1 := t1; go_at_call 18; refine (SM.out _ _ HG.out).mono ?_; rintro e9 w9 ⟨mk, rfl, y9, B9⟩; have HM : Hid (mc.KeyV w9 (.pointer (some ⟨mk, 0, none⟩)) (mc.blk (kg ks))) := y9; have HC : Hid (xt.Cip w9 c1 (kd ks) (kt ks)) := HC.out.below B9; have HS : Hid (Below w.heap.size w w9) := HS.out.trans (B9.mono HS.out.size); clear y9 B9 t1)
    | (have q0 := t0; refine cut_from _ rfl (.tmp 21) (.const (.int .i64 64)) rfl v ks 64 64 rfl rfl rfl (by have := HL.out; omega) (HV.out.below HS.out) ?_; intro v3 y3; have HG : Hid (Byt x2 v3 (kg ks)) := y3; clear y3 t0; have t1 : (1 : Nat) = 1 := rfl))
  go_ret2
  exact ⟨_, rfl, kys_new HC.out HM.out, HS.out.alloc HS.out.size _⟩

set_option maxHeartbeats 2000000 in
theorem zhead_nil (k n c l e t : Int) (w : World)  :
    Calls Tryd.prog 19 #[.pointer none, .agg (he.hv k n c l e t).toArray] w fun x w' => x = .returned (.tuple #[.slice none 0 0, .int .i64 2]) ∧ Below w.heap.size w w' := by
  have t0 : (0 : Nat) = 0 := rfl
  go_enter Tryd.func19, Tryd.ntmps19
  go_wp2_with (first
    | (have q0 := t0; refine box_lawC _ (he.hv k n c l e t) rfl ?_; intro w1 X9 B9 l9; have HB0 : Hid (Vr w1 w.heap.size (he.hv k n c l e t)) := X9; have BB : Hid (Below w.heap.size w w1) := B9; have hb0_0 := HB0.out.cell 0 _ rfl; have hb0_1 := HB0.out.cell 1 _ rfl; have hb0_2 := HB0.out.cell 2 _ rfl; have hb0_3 := HB0.out.cell 3 _ rfl; have hb0_4 := HB0.out.cell 4 _ rfl; have hb0_5 := HB0.out.cell 5 _ rfl; clear X9 B9 l9; clear t0; have t1 : (1 : Nat) = 1 := rfl))
  go_ret2
  exact ⟨rfl, BB.out⟩

set_option maxHeartbeats 2000000 in
theorem zhead_raw (k n c l e t : Int) (w : World) (p : Nat) (hc : w.cell? ⟨p, 0, none⟩ = some (.pointer none)) :
    Calls Tryd.prog 19 #[.pointer (some ⟨p, 0, none⟩), .agg (he.hv k n c l e t).toArray] w fun x w' => x = .returned (.tuple #[.slice none 0 0, .int .i64 2]) ∧ Below w.heap.size w w' := by
  have KC : Hid (∀ w', Below w.heap.size w w' → w'.cell? ⟨p, 0, none⟩ = some (.pointer none)) := fun w' hb => by rw [hb.cell (World.block_lt_of_cell? w _ hc)]; exact hc
  clear hc
  have t0 : (0 : Nat) = 0 := rfl
  go_enter Tryd.func19, Tryd.ntmps19
  go_wp2_with (first
    | (have q0 := t0; refine box_lawC _ (he.hv k n c l e t) rfl ?_; intro w1 X9 B9 l9; have HB0 : Hid (Vr w1 w.heap.size (he.hv k n c l e t)) := X9; have BB : Hid (Below w.heap.size w w1) := B9; have hb0_0 := HB0.out.cell 0 _ rfl; have hb0_1 := HB0.out.cell 1 _ rfl; have hb0_2 := HB0.out.cell 2 _ rfl; have hb0_3 := HB0.out.cell 3 _ rfl; have hb0_4 := HB0.out.cell 4 _ rfl; have hb0_5 := HB0.out.cell 5 _ rfl; have c0 : w1.cell? ⟨p, 0, none⟩ = some (.pointer none) := KC.out w1 BB.out; clear X9 B9 l9; clear t0; have t1 : (1 : Nat) = 1 := rfl))
  go_ret2
  exact ⟨rfl, BB.out⟩

set_option maxHeartbeats 2000000 in
theorem zhead_no (k n c l e t : Int) (w : World) (p : Nat) (ks : List Int) (hK : Kys w p ks) (hr : ¬ Rh k n c) :
    Calls Tryd.prog 19 #[.pointer (some ⟨p, 0, none⟩), .agg (he.hv k n c l e t).toArray] w fun x w' => x = .returned (.tuple #[.slice none 0 0, .int .i64 2]) ∧ Below w.heap.size w w' := by
  obtain ⟨cc, mm, c0, c1, _, _⟩ := hK
  have KC : Hid (∀ w', Below w.heap.size w w' → w'.cell? ⟨p, 0, none⟩ = some (.pointer (some ⟨cc, 0, none⟩))) := fun w' hb => by rw [hb.cell (World.block_lt_of_cell? w _ c0)]; exact c0
  have SH : Hid (∀ w0, Below w.heap.size w w0 → Calls Tryd.prog 31 #[.agg (he.hv k n c l e t).toArray] w0 fun x w' => x = .returned (.tuple #[.slice none 0 0, .int .i64 2]) ∧ Below w0.heap.size w0 w') := fun w0 _ => hbytes_no k n c l e t w0 hr
  clear c0 c1 hr
  have t0 : (0 : Nat) = 0 := rfl
  go_enter Tryd.func19, Tryd.ntmps19
  go_wp2_with (first
    | (have q1 := t1; go_at_call 31; refine (SH.out w1 BB.out).mono ?_; rintro e9 w2 ⟨rfl, B9⟩; have HB0 : Hid (Vr w2 w.heap.size (he.hv k n c l e t)) := HB0.out.below B9 (range_lt HB0.out.1 (Nat.succ_pos _)); have BB : Hid (Below w.heap.size w w2) := BB.out.trans (B9.mono BB.out.size); clear hb0_0 hb0_1 hb0_2 hb0_3 hb0_4 hb0_5 c0; have hb0_0 := HB0.out.cell 0 _ rfl; have hb0_1 := HB0.out.cell 1 _ rfl; have hb0_2 := HB0.out.cell 2 _ rfl; have hb0_3 := HB0.out.cell 3 _ rfl; have hb0_4 := HB0.out.cell 4 _ rfl; have hb0_5 := HB0.out.cell 5 _ rfl; have c0 : w2.cell? ⟨p, 0, none⟩ = some (.pointer (some ⟨cc, 0, none⟩)) := KC.out w2 BB.out; clear B9; clear t1; have t2 : (1 : Nat) = 1 := rfl)
    | (have q0 := t0; refine box_lawC _ (he.hv k n c l e t) rfl ?_; intro w1 X9 B9 l9; have HB0 : Hid (Vr w1 w.heap.size (he.hv k n c l e t)) := X9; have BB : Hid (Below w.heap.size w w1) := B9; have hb0_0 := HB0.out.cell 0 _ rfl; have hb0_1 := HB0.out.cell 1 _ rfl; have hb0_2 := HB0.out.cell 2 _ rfl; have hb0_3 := HB0.out.cell 3 _ rfl; have hb0_4 := HB0.out.cell 4 _ rfl; have hb0_5 := HB0.out.cell 5 _ rfl; have c0 : w1.cell? ⟨p, 0, none⟩ = some (.pointer (some ⟨cc, 0, none⟩)) := KC.out w1 BB.out; clear X9 B9 l9; clear t0; have t1 : (1 : Nat) = 1 := rfl))
  go_ret2
  exact ⟨rfl, BB.out⟩

set_option maxHeartbeats 2000000 in
theorem zhead_yes (k n c l e t : Int) (w : World) (p : Nat) (ks : List Int) (hK : Kys w p ks) (hr : Rh k n c) (hH : Hb l e t) (hT : Tab w) :
    Calls Tryd.prog 19 #[.pointer (some ⟨p, 0, none⟩), .agg (he.hv k n c l e t).toArray] w fun x w' => ∃ eo ec, x = .returned (.tuple #[.slice eo 24 ec, .int .i64 0]) ∧ Byt w' (.slice eo 24 ec) (he.hb k n c l e t) ∧ Below w.heap.size w w' := by
  obtain ⟨cc, mm, c0, c1, _, _⟩ := hK
  have KC : Hid (∀ w', Below w.heap.size w w' → w'.cell? ⟨p, 0, none⟩ = some (.pointer (some ⟨cc, 0, none⟩))) := fun w' hb => by rw [hb.cell (World.block_lt_of_cell? w _ c0)]; exact c0
  have SH : Hid (∀ w0, Below w.heap.size w w0 → Calls Tryd.prog 31 #[.agg (he.hv k n c l e t).toArray] w0 fun x w' => ∃ v, x = .returned (.tuple #[v, .int .i64 0]) ∧ Own w0.heap.size w' v (he.hb k n c l e t) ∧ Below w0.heap.size w0 w') := fun w0 hb => hbytes_yes k n c l e t w0 hr hH.1 hH.2.1 hH.2.2 (hT.below hb)
  have HA : Hid (AllB (he.hb k n c l e t)) := hb_all hr l e t
  have HN : Hid ((he.hb k n c l e t).length = 24) := hb_len _ _ _ _ _ _
  generalize (he.hb k n c l e t) = Z at SH HA HN ⊢
  clear c0 c1 hr hH hT
  have t0 : (0 : Nat) = 0 := rfl
  go_enter Tryd.func19, Tryd.ntmps19
  go_wp2_with (first
    | (have q1 := t1; go_at_call 31; refine (SH.out w1 BB.out).mono ?_; rintro e9 w2 ⟨v9, rfl, O9, B9⟩; have HB0 : Hid (Vr w2 w.heap.size (he.hv k n c l e t)) := HB0.out.below B9 (range_lt HB0.out.1 (Nat.succ_pos _)); have HO : Hid (Byt w2 v9 Z) := O9.byt HA.out; have BB : Hid (Below w.heap.size w w2) := BB.out.trans (B9.mono BB.out.size); clear hb0_0 hb0_1 hb0_2 hb0_3 hb0_4 hb0_5 c0; have hb0_0 := HB0.out.cell 0 _ rfl; have hb0_1 := HB0.out.cell 1 _ rfl; have hb0_2 := HB0.out.cell 2 _ rfl; have hb0_3 := HB0.out.cell 3 _ rfl; have hb0_4 := HB0.out.cell 4 _ rfl; have hb0_5 := HB0.out.cell 5 _ rfl; have c0 : w2.cell? ⟨p, 0, none⟩ = some (.pointer (some ⟨cc, 0, none⟩)) := KC.out w2 BB.out; clear B9 O9; clear t1; have t2 : (1 : Nat) = 1 := rfl)
    | (have q0 := t0; refine box_lawC _ (he.hv k n c l e t) rfl ?_; intro w1 X9 B9 l9; have HB0 : Hid (Vr w1 w.heap.size (he.hv k n c l e t)) := X9; have BB : Hid (Below w.heap.size w w1) := B9; have hb0_0 := HB0.out.cell 0 _ rfl; have hb0_1 := HB0.out.cell 1 _ rfl; have hb0_2 := HB0.out.cell 2 _ rfl; have hb0_3 := HB0.out.cell 3 _ rfl; have hb0_4 := HB0.out.cell 4 _ rfl; have hb0_5 := HB0.out.cell 5 _ rfl; have c0 : w1.cell? ⟨p, 0, none⟩ = some (.pointer (some ⟨cc, 0, none⟩)) := KC.out w1 BB.out; clear X9 B9 l9; clear t0; have t1 : (1 : Nat) = 1 := rfl))
  go_ret2
  obtain ⟨eo, ec, rfl⟩ := byt_form HO.out HN.out
  exact ⟨_, _, rfl, HO.out, BB.out⟩

set_option maxHeartbeats 4000000 in
theorem ztweak_own (k n c l e t : Int) (w : World) (hH : Hb l e t) :
    Calls Tryd.prog 10 #[.agg (he.hv k n c l e t).toArray] w fun x w' => ∃ r, x = .returned r ∧ Own w.heap.size w' r (twk e t) ∧ Below w.heap.size w w' := by
  have HE : Hid (0 ≤ e ∧ e ≤ 18446744073709551615) := hH.2.1
  have HQ : Hid (0 ≤ t ∧ t ≤ 18446744073709551615) := hH.2.2
  have SB : Hid (∀ x : Int, 0 ≤ x ∧ x ≤ 18446744073709551615 → ∀ w0, Calls Tryd.prog 22 #[.int .u64 x, .int .i64 8] w0 fun e w' => ∃ ao cap, e = .returned (.slice ao 8 cap) ∧ Byt w' (.slice ao 8 cap) (le x 8).reverse ∧ Below w0.heap.size w0 w') := fun x hx w0 => (big_any x 8 w0 hx).mono fun _ _ ⟨v, h1, h2, h3⟩ => by
    rw [clamp48.2.1] at h2
    obtain ⟨ao, cap, rfl⟩ := byt_form h2 (n := 8) (by simp [le_len])
    exact ⟨ao, cap, h1, h2, h3⟩
  clear hH
  have t0 : (0 : Nat) = 0 := rfl
  go_enter Tryd.func10, Tryd.ntmps10
  go_wp2_with (first
    | (have q0 := t0; refine box_lawC _ (he.hv k n c l e t) rfl ?_; intro w1 X9 B9 l9; have HB0 : Hid (Vr w1 w.heap.size (he.hv k n c l e t)) := X9; have BB : Hid (Below w.heap.size w w1) := B9; have hb0_0 := HB0.out.cell 0 _ rfl; have hb0_1 := HB0.out.cell 1 _ rfl; have hb0_2 := HB0.out.cell 2 _ rfl; have hb0_3 := HB0.out.cell 3 _ rfl; have hb0_4 := HB0.out.cell 4 _ rfl; have hb0_5 := HB0.out.cell 5 _ rfl; clear X9 B9 l9; clear t0; have t1 : (1 : Nat) = 1 := rfl))
  clear hb0_0 hb0_1 hb0_2 hb0_3 hb0_4 hb0_5
  refine wp_region_held_drew (S := fun w' => Below w1.heap.size w1 w') (by kernel_rfl) (Below.refl _ _).drew (fun hS => ?_)
  obtain ⟨x1, hx0⟩ : ∃ x, x = w1.drew := ⟨_, rfl⟩
  rw [← hx0] at hS  ⊢
  clear hx0
  refine take_lawH 0 (some 3) (.pointer (some ⟨w.heap.size, 4, none⟩)) rfl rfl (by kernel_rfl) (by kernel_rfl) (by kernel_rfl) (fun _ _ _ h => h) (Or.inl ⟨by rfl, fun w' hw' => by go_simp⟩) hS ?_
  simp only [Act.put, List.setIfInBounds_toArray, List.set_cons_zero, List.set_cons_succ]
  refine take_lawH 1 (some 4) (.int .u64 e) rfl rfl (by kernel_rfl) (by kernel_rfl) (by kernel_rfl) (fun _ _ _ h => h) (Or.inl ⟨by rfl, fun w' hw' => by exact exec_loadN 24 (.tmp 3) rfl _ rfl _ _ (ld_u64 ((HB0.out.below hw' (range_lt HB0.out.1 (Nat.succ_pos _))).cell 4 _ rfl))⟩) hS ?_
  simp only [Act.put, List.setIfInBounds_toArray, List.set_cons_zero, List.set_cons_succ]
  refine take_lawH 3 (some 6) (.pointer (some ⟨w.heap.size, 5, none⟩)) rfl rfl (by kernel_rfl) (by kernel_rfl) (by kernel_rfl) (fun _ _ _ h => h) (Or.inl ⟨by rfl, fun w' hw' => by go_simp⟩) hS ?_
  simp only [Act.put, List.setIfInBounds_toArray, List.set_cons_zero, List.set_cons_succ]
  refine take_lawH 4 (some 7) (.int .u64 t) rfl rfl (by kernel_rfl) (by kernel_rfl) (by kernel_rfl) (fun _ _ _ h => h) (Or.inl ⟨by rfl, fun w' hw' => by exact exec_loadN 24 (.tmp 6) rfl _ rfl _ _ (ld_u64 ((HB0.out.below hw' (range_lt HB0.out.1 (Nat.succ_pos _))).cell 5 _ rfl))⟩) hS ?_
  simp only [Act.put, List.setIfInBounds_toArray, List.set_cons_zero, List.set_cons_succ]
  refine wpAnyH_ready (rs := [2]) (by kernel_rfl) (by simp) ?_
  refine AllReadyH.cons rfl (fun K hK => ?_) AllReadyH.nil
  refine step_callW _ (by rfl) (some 5) rfl 22 #[.tmp 4, .const (.int .i64 8)] #[24, 3] rfl (fun q w' => by rfl) #[.int .u64 e, .int .i64 8] (by simp only [List.map_toArray, List.map_cons, List.map_nil]; rfl) (fun u w' => (∃ ao cap, u = .slice ao 8 cap ∧ Byt w' u (le e 8).reverse) ∧ Below x1.heap.size x1 w') ?_ ?_
  · exact (SB.out e HE.out x1).mono fun e w' ⟨ao, cap, h1, h2, h3⟩ => ⟨_, h1, ⟨ao, cap, rfl, h2⟩, h3⟩
  rintro _ x2 ⟨⟨ao, ac, rfl, y1⟩, hb⟩
  have Ya : Hid (Byt x2 (.slice ao 8 ac) (le e 8).reverse) := y1
  clear y1
  have hS : Below w1.heap.size w1 x2 := hS.trans (hb.mono hS.size)
  clear hb
  refine hK.out _ _ hS (fun _ => ?_)
  simp only [Act.put, List.setIfInBounds_toArray, List.set_cons_zero, List.set_cons_succ]
  clear hK K
  refine wpAnyH_ready (rs := [5]) (by kernel_rfl) (by simp) ?_
  refine AllReadyH.cons rfl (fun K hK => ?_) AllReadyH.nil
  refine step_callW _ (by rfl) (some 8) rfl 22 #[.tmp 7, .const (.int .i64 8)] #[24, 3] rfl (fun q w' => by rfl) #[.int .u64 t, .int .i64 8] (by simp only [List.map_toArray, List.map_cons, List.map_nil]; rfl) (fun u w' => (∃ ao cap, u = .slice ao 8 cap ∧ Byt w' u (le t 8).reverse) ∧ Below x2.heap.size x2 w') ?_ ?_
  · exact (SB.out t HQ.out x2).mono fun e w' ⟨ao, cap, h1, h2, h3⟩ => ⟨_, h1, ⟨ao, cap, rfl, h2⟩, h3⟩
  rintro _ x3 ⟨⟨bo, bc, rfl, y1⟩, hb⟩
  have Yb : Hid (Byt x3 (.slice bo 8 bc) (le t 8).reverse) := y1
  have Ya : Hid (Byt x3 (.slice ao 8 ac) (le e 8).reverse) := Ya.out.below hb
  clear y1
  have hS : Below w1.heap.size w1 x3 := hS.trans (hb.mono hS.size)
  clear hb
  refine hK.out _ _ hS (fun _ => ?_)
  simp only [Act.put, List.setIfInBounds_toArray, List.set_cons_zero, List.set_cons_succ]
  clear hK K
  refine wpAnyH_ready (rs := [6]) (by kernel_rfl) (by simp) ?_
  refine AllReadyH.cons rfl (fun K hK => ?_) AllReadyH.nil
  refine step_two _ rfl (some 9) rfl (.tmp 5) (.tmp 8) rfl ao 8 ac bo 8 bc rfl rfl ?_
  have SC := hdH (cat2_any x3 (.slice ao 8 ac) (.slice bo 8 bc) _ _ Ya.out Yb.out (by simp [le_len]) (by simp [le_len]) (by simp [le_len]))
  obtain ⟨g, hg⟩ : ∃ g, g = x3.heap.size := ⟨_, rfl⟩
  have HB2 : Hid (Below w1.heap.size w1 x3) := hS
  have hS : Below w1.heap.size w1 (x3.alloc (.cells #[.slice ao 8 ac, .slice bo 8 bc] 22)) := hS.alloc hS.size _
  obtain ⟨x4, hx9⟩ : ∃ x, x = x3.alloc (.cells #[.slice ao 8 ac, .slice bo 8 bc] 22) := ⟨_, rfl⟩
  rw [← hx9] at hS SC ⊢
  clear hx9 hg
  refine hK.out _ _ hS (fun _ => ?_)
  simp only [Act.put, List.setIfInBounds_toArray, List.set_cons_zero, List.set_cons_succ]
  clear hK K
  refine wpAnyH_ready (rs := [7]) (by kernel_rfl) (by simp) ?_
  refine AllReadyH.cons rfl (fun K hK => ?_) AllReadyH.nil
  refine step_callW _ (by rfl) (some 10) rfl 21 #[.tmp 9] #[66] rfl (fun q w' => by rfl) #[.slice (some ⟨x3.heap.size, 0, none⟩) 2 2] (by simp only [List.map_toArray, List.map_cons, List.map_nil]; rfl) (fun u w' => Own x3.heap.size w' u (twk e t) ∧ Below x3.heap.size x3 w') ?_ ?_
  · exact SC.out
  rintro r1 x5 ⟨y1, hb⟩
  have HR : Hid (Own x3.heap.size x5 r1 (twk e t)) := y1
  have LB : Hid (w1.heap.size ≤ x3.heap.size) := HB2.out.size
  have hS : Below w1.heap.size w1 x5 := HB2.out.trans (hb.mono HB2.out.size)
  clear hb y1
  refine hK.out _ _ hS (fun _ => ?_)
  simp only [Act.put, List.setIfInBounds_toArray, List.set_cons_zero, List.set_cons_succ]
  clear hK K
  refine take_lawH 8 (some 2) (r1) rfl rfl (by kernel_rfl) (by kernel_rfl) (by kernel_rfl) (fun _ _ _ h => h) (Or.inl ⟨by rfl, fun w' hw' => by rfl⟩) hS ?_
  simp only [Act.put, List.setIfInBounds_toArray, List.set_cons_zero, List.set_cons_succ]
  refine wpAnyH_done (by kernel_rfl) ?_ _
  have BZ : Hid (Below w.heap.size w _) := BB.out.trans (hS.mono BB.out.size)
  clear hS
  go_wp2
  go_ret
  exact ⟨_, rfl, own_less HR.out (Nat.le_trans BB.out.size LB.out), BZ.out⟩
theorem ztweak_any (k n c l e t : Int) (w : World) (hH : Hb l e t) :
    Calls Tryd.prog 10 #[.agg (he.hv k n c l e t).toArray] w fun x w' => ∃ r, x = .returned r ∧ Byt w' r (twk e t) ∧ Below w.heap.size w w' :=
  (ztweak_own k n c l e t w hH).mono fun _ _ ⟨r, h1, h2, h3⟩ => ⟨r, h1, h2.byt (twk_all _ _), h3⟩
end Go.Proofs.YtbkaecjkgjkheaaDoor.se

