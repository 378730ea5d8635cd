/- Texts put together (a claim holds few files). No claim of its own. -/
import Derived.Test.YtifepmdhbhdjpaaPackC
import Derived.Deep.RegionHeld3
import Derived.Deep.DeepCutAuto
import Derived.Test.YtifepmdhbhdjpaaPackA
import Derived.Deep.DeepHandedRow
import Derived.Lib.LaidTab
import Derived.Deep.Matrix
/- One law a kind of operation, in a region that draws its order: slices of bytes, calls, structs; joining two or four lists. No claim of its own. -/
namespace Go.Proofs.Ytifepmdhbhdjpaa.he
open Go.RowKit Go.Proofs.Ytifepmdhbhdjpaa.fa
set_option maxRecDepth 20000

/-- 'v[l:h]' of bytes, as a value -/
def sl : Value → Nat → Nat → Value
  | .slice ao _ cap, l, h => sliced ao l h cap 1
  | _, _, _ => undef
theorem sl_byt {w : World} {v : Value} {xs : List Int} (hb : Byt w v xs) (l h : Nat) (hl : l ≤ h) (hh : h ≤ xs.length) : Byt w (sl v l h) ((xs.take h).drop l) := by
  obtain ⟨ao, cap, rfl, hc, hb'⟩ := byt_cut hb l h hl hh
  exact hb'
theorem sl_to {w : World} {v : Value} {xs : List Int} (hb : Byt w v xs) (h : Nat) (hh : h ≤ xs.length) : Byt w (sl v 0 h) (xs.take h) := by
  have := sl_byt hb 0 h (Nat.zero_le _) hh
  rwa [List.drop_zero] at this
theorem sl_from {w : World} {v : Value} {xs : List Int} (hb : Byt w v xs) (l : Nat) (hl : l ≤ xs.length) : Byt w (sl v l xs.length) (xs.drop l) := by
  have := sl_byt hb l xs.length hl (Nat.le_refl _)
  rwa [List.take_length] at this

theorem sl_sub {w : World} {v : Value} {xs : List Int} (hb : Byt w v xs) (l h : Nat) (hl : l ≤ h) (hh : h ≤ xs.length) : Byt w (sl v l h) (sub xs l h) := sl_byt hb l h hl hh
theorem byt_form {w : World} {v : Value} {xs : List Int} {n : Nat} (h : Byt w v xs) (hn : xs.length = n) : ∃ ao cap, v = .slice ao n cap := by
  obtain ⟨ao, cap, e, -⟩ := h
  rw [hn] at e
  exact ⟨ao, cap, e⟩
theorem byt_drawn {w : World} {v : Value} {xs : List Int} (h : Byt w v xs) (m : Nat) : Byt (w.drewN m) v xs := h
theorem below_drawn {B : Nat} {w w' : World} (h : Below B w w') (m : Nat) : Below B w (w'.drewN m) := ⟨h.os, h.tape, h.output, h.size, fun k hk => h.block k hk⟩

section
variable {ev : Operand → Value} {o : Oper}
theorem exec_to (s x : Operand) (hop : o.op = Op.slice 22 s none (some x) none) (v : Value) (xs : List Int) (w0 : World) (hb : Byt w0 v xs) (h : Nat) (hs : ev s = v) (hx : ev x = .int .i64 (h : Int)) (hh : h ≤ xs.length) (w : World) : (execOp ev o).run Try.prog w = .ok (.value (sl v 0 h)) w := by
  obtain ⟨ao, cap, rfl, hc, -⟩ := byt_cut hb 0 h (Nat.zero_le _) hh
  have hrun := run_slice_h (P := Try.prog) w 22 ao xs.length cap und_bytes .i64 (h : Int) (by omega) (by omega)
  rw [elem_bytes, run_size_u8] at hrun
  simp [execOp, hop, hs, hx, run_sliceAt_slice w 22 _ _ _ _ und_bytes, hrun, Result.andThen, sl]
theorem exec_part (s x y : Operand) (hop : o.op = Op.slice 22 s (some x) (some y) none) (v : Value) (xs : List Int) (w0 : World) (hb : Byt w0 v xs) (l h : Nat) (hs : ev s = v) (hx : ev x = .int .i64 (l : Int)) (hy : ev y = .int .i64 (h : Int)) (hl : l ≤ h) (hh : h ≤ xs.length) (w : World) : (execOp ev o).run Try.prog w = .ok (.value (sl v l h)) w := by
  obtain ⟨ao, cap, rfl, hc, -⟩ := byt_cut hb l h hl hh
  have hrun := run_slice_lh (P := Try.prog) w 22 ao xs.length cap und_bytes .i64 .i64 (l : Int) (h : Int) (by omega) (by omega) (by omega)
  rw [elem_bytes, run_size_u8] at hrun
  simp [execOp, hop, hs, hx, hy, run_sliceAt_slice w 22 _ _ _ _ und_bytes, hrun, Result.andThen, sl]
theorem exec_from (s x : Operand) (hop : o.op = Op.slice 22 s (some x) none none) (v : Value) (xs : List Int) (w0 : World) (hb : Byt w0 v xs) (l n : Nat) (hs : ev s = v) (hx : ev x = .int .i64 (l : Int)) (hn : xs.length = n) (hl : l ≤ n) (w : World) : (execOp ev o).run Try.prog w = .ok (.value (sl v l n)) w := by
  subst hn
  obtain ⟨ao, cap, rfl, hc, -⟩ := byt_cut hb l xs.length hl (Nat.le_refl _)
  have hrun := run_slice_l (P := Try.prog) w 22 ao xs.length cap und_bytes .i64 (l : Int) (by omega) (by omega)
  rw [elem_bytes, run_size_u8] at hrun
  simp [execOp, hop, hs, hx, run_sliceAt_slice w 22 _ _ _ _ und_bytes, hrun, Result.andThen, sl]
theorem exec_loadN (t : TypeId) (x : Operand) (hop : o.op = Op.load t x) (p : Value) (hx : ev x = p) (v : Value) (w : World) (hr : (Instr.loadAt t p).run Try.prog w = .ok v w) : (execOp ev o).run Try.prog w = .ok (.value v) w := by
  unfold execOp
  simp only [hop, hx, Sem.run_bind, Result.andThen_ok, hr]
  rfl
end

section
variable {ops : Array Oper} {o : Oper} {a : Act} {Q : Exit → Act → World → Prop} {K : Act → World → Prop} {E : Prop}
/-- a call, guarded or not -/
theorem step_callW (w : World) (hw : Region.wanted o (yielded ops a.tmps) = true) (d : Option Tmp) (hd : o.dst = d) (f : FuncId) (args : Array Operand) (ats : Array TypeId) (hop : o.op = .call { callee := .value (.func f), args := args, argTypes := ats })
    (hcf : ∀ (q : Array Value) (w : World), (callFunc f q).run Try.prog w = .ok (.enter f q) w) (vs : Array Value) (hx : args.map a.eval = vs) (R : Value → World → Prop) (hc : Calls Try.prog f vs w fun e w' => ∃ v, e = .returned v ∧ R v w') (hK : ∀ v w', R v w' → K (a.put d v) w') : if Region.wanted o (yielded ops a.tmps) = true then Oper.wp Try.prog o a w K Q else E := by
  rw [if_pos hw]
  subst hd
  subst hx
  unfold Oper.wp
  simp only [execOp, hop]
  go_simp
  refine hc.mono ?_
  rintro e w' ⟨v, rfl, hr⟩
  exact hK v w' hr
/-- '[]byte{}' -/
theorem step_nil (w : World) (hg : o.guard = none) (d : Option Tmp) (hd : o.dst = d) (hop : o.op = Op.buildSlice 22 0 #[])
    (hK : ∀ v w', Own w.heap.size w' v [] → Below w.heap.size w w' → K (a.put d v) w') : if Region.wanted o (yielded ops a.tmps) = true then Oper.wp Try.prog o a w K Q else E := by
  have hw : Region.wanted o (yielded ops a.tmps) = true := by simp [Region.wanted, hg]
  rw [if_pos hw]
  subst hd
  have hrun : (Instr.buildSlice 22 0 #[]).run Try.prog w = .ok (.slice (some ⟨w.heap.size, 0, none⟩) 0 0) (w.alloc (.cells #[] 5)) := by kernel_rfl
  unfold Oper.wp execOp
  simp only [hop, List.map_toArray, List.map_nil, Sem.run_bind, Sem.run_pure, Result.andThen_ok, hrun]
  exact hK _ _ (Own.empty w (Nat.le_refl _)) ((Below.refl _ _).alloc (Nat.le_refl _) _)
/-- 'append(out, s...)' of bytes, out of the call's own -/
theorem step_pushs (w : World) (hg : o.guard = none) (d : Option Tmp) (hd : o.dst = d) (s x : Operand) (hop : o.op = .call { callee := .builtin .append, args := #[s, x], argTypes := #[22, 22] })
    (B : Nat) (hB : B ≤ w.heap.size) (v vy : Value) (xs ys : List Int) (hs : a.eval s = v) (hx : a.eval x = vy) (hown : Own B w v xs) (hy : Byt w vy ys) (hn : xs.length ≤ 1099511627776) (hm : ys.length ≤ 1099511627776)
    (hK : ∀ v' w', Own B w' v' (xs ++ ys) → Below B w w' → K (a.put d v') w') : if Region.wanted o (yielded ops a.tmps) = true then Oper.wp Try.prog o a w K Q else E := by
  have hw : Region.wanted o (yielded ops a.tmps) = true := by simp [Region.wanted, hg]
  rw [if_pos hw]
  subst hd
  obtain ⟨i0, hi, hz0, hz1, hz2⟩ := info_parts info_u8
  obtain ⟨ao, cap, rfl, h1, h2, h3, h4, h5⟩ := hy
  cases ao with
  | none =>
    have hc := h4 rfl
    subst hc
    have : ys = [] := List.eq_nil_of_length_eq_zero (by omega)
    subst this
    have hrun := run_append_owned_none (P := Try.prog) (w := w) B 22 o.type 5 i0 1 Try.underlying22 hi v xs.length _ hown
    have hx' : a.eval x = .slice none 0 0 := hx
    unfold Oper.wp
    simp [execOp, hop, resolve, invoke, builtin, hs, hx', hrun, Result.andThen]
    refine hK v w ?_ (Below.refl _ _)
    rwa [List.append_nil]
  | some ad =>
    refine wp_append_own _ s x 22 hop B 5 i0 (.int .u8 0) 1 1 Try.underlying22 hi hz0 hz1 hz2 rfl (by decide) v xs.length _ hs hown ad ys.length cap (ys.map (Value.int .u8)) hx (by simp) ?_ ?_ (by simp only [maxLen]; omega) (by omega) hB fun v' w' h1 h2 _ => ?_
    · intro j u hj
      have hjl : j < ys.length := by have := (List.getElem?_eq_some_iff.1 hj).1; simpa using this
      obtain ⟨b, off, e, hc⟩ := h5 (by omega)
      cases e
      rw [Addr.add_mid, hc j hjl, ← hj]
      simp [gb, List.getD, hjl]
    · intro u hu
      simp only [List.mem_map] at hu
      obtain ⟨y, _, rfl⟩ := hu
      rfl
    · refine hK v' w' ?_ ?_
      · show w'.ownsRow B 5 1 v' (xs ++ ys).length ((xs ++ ys).map (Value.int .u8))
        simpa using h1
      · exact (Below.refl B w).grown h2 hB fun k hk => (World.ownsRow.lt hown k hk).1
/-- a variable for a struct -/
theorem step_newC (w : World) (hg : o.guard = none) (d : Option Tmp) (hd : o.dst = d) (t : TypeId) (hop : o.op = Op.alloc t) (cs : List Value) (hz : (Try.prog.info? t).map (fun i => (i.zero, i.size)) = some (some (.agg cs.toArray), cs.length))
    (hK : ∀ w', Vr w' w.heap.size cs → Below w.heap.size w w' → w.heap.size < w'.heap.size → K (a.put d (.pointer (some ⟨w.heap.size, 0, none⟩))) w') : if Region.wanted o (yielded ops a.tmps) = true then Oper.wp Try.prog o a w K Q else E := by
  have hw : Region.wanted o (yielded ops a.tmps) = true := by simp [Region.wanted, hg]
  rw [if_pos hw]
  subst hd
  have hz' := (zero_of_info hz).1
  unfold Oper.wp
  simp [execOp, hop, Instr.alloc, hz', newVar, newRow, Value.cells, Result.andThen]
  exact hK _ (Vr.new w t cs) ((Below.refl _ _).alloc (Nat.le_refl _) _) (by simp)
/-- a struct is written into its variable -/
theorem step_storeC (w : World) (hg : o.guard = none) (d : Option Tmp) (hd : o.dst = d) (x y : Operand) (t : TypeId) (hop : o.op = Op.store t x y) (c : Nat) (cs0 cs : List Value) (hx : a.eval x = .pointer (some ⟨c, 0, none⟩)) (hy : a.eval y = .agg cs.toArray) (hV : Vr w c cs0) (hl : cs0.length = cs.length) (hs : (Try.prog.info? t).map (·.size) = some cs.length) (h1 : ∀ v ∈ cs, v.oneCell' = true)
    (hK : ∀ w', Vr w' c cs → Below c w w' → K (a.put d undef) w') : if Region.wanted o (yielded ops a.tmps) = true then Oper.wp Try.prog o a w K Q else E := by
  have hw : Region.wanted o (yielded ops a.tmps) = true := by simp [Region.wanted, hg]
  rw [if_pos hw]
  subst hd
  have ht : w.there c 0 cs.length := by rw [← hl]; exact hV.2
  refine wp_store_mid t x y hop c 0 cs.toArray hx hy (by simpa using ht) (by simpa using hs) (all_oneCell_toArray h1) ?_
  exact hK _ ⟨World.rangeAt_setCells_same w c 0 cs ht, World.there_setCells ht c 0 _⟩ (below_cells _ (Nat.le_refl _) _ _ (Below.refl _ _))
end

theorem cell_of4 (w : World) (a b c d : Value) (t : TypeId) (k : Nat) (v : Value) (h : ([a, b, c, d] : List Value)[k]? = some v) : (w.alloc (.cells #[a, b, c, d] t)).cell? ⟨w.heap.size, k, none⟩ = some v := by
  rw [cell_of_row (w.alloc (.cells #[a, b, c, d] t)) w.heap.size k _ t (0, 0) (heap_alloc_last w _)]
  simpa using h
theorem cell_of2 (w : World) (a b : Value) (t : TypeId) (k : Nat) (v : Value) (h : ([a, b] : List Value)[k]? = some v) : (w.alloc (.cells #[a, b] t)).cell? ⟨w.heap.size, k, none⟩ = some v := by
  rw [cell_of_row (w.alloc (.cells #[a, b] t)) w.heap.size k _ t (0, 0) (heap_alloc_last w _)]
  simpa using h
/-- four lists, one behind the other -/
theorem cat4_any (w : World) (a b c d : Value) (x y z u : List Int) (ha : Byt w a x) (hb : Byt w b y) (hc : Byt w c z) (hd : Byt w d u) (l1 : x.length ≤ 10000) (l2 : y.length ≤ 10000) (l3 : z.length ≤ 10000) (l4 : u.length ≤ 10000) (hp : 0 < x.length) :
    Calls Try.prog 30 #[.slice (some ⟨w.heap.size, 0, none⟩) 4 4] (w.alloc (.cells #[a, b, c, d] 22)) fun e w' => ∃ r, e = .returned r ∧ Own w.heap.size w' r (x ++ (y ++ (z ++ u))) ∧ Below w.heap.size w w' := by
  have B0 : Below w.heap.size w (w.alloc (.cells #[a, b, c, d] 22)) := (Below.refl _ _).alloc (Nat.le_refl _) _
  have e : cats [x, y, z, u] 4 = x ++ (y ++ (z ++ u)) := by simp [cats]
  have := concat_any w.heap.size 4 (fun k => ([a, b, c, d] : List Value).getD k undef) [x, y, z, u] _ rfl (by omega) (fun k hk => by
    match k, hk with
    | 0, _ => exact ha.below B0
    | 1, _ => exact hb.below B0
    | 2, _ => exact hc.below B0
    | 3, _ => exact hd.below B0) (fun k hk => by
    have hk : k < 4 := hk
    match k, hk with
    | 0, _ => exact l1
    | 1, _ => exact l2
    | 2, _ => exact l3
    | 3, _ => exact l4) (by rw [e]; simp; omega) (fun k hk => cell_of4 w a b c d 22 k _ (by
    match k, hk with
    | 0, _ => rfl
    | 1, _ => rfl
    | 2, _ => rfl
    | 3, _ => rfl))
  rw [e] at this
  refine this.mono ?_
  rintro q w' ⟨r, rfl, o, B⟩
  exact ⟨r, rfl, own_less o B0.size, B0.trans (B.mono B0.size)⟩
/-- two lists, one behind the other -/
theorem cat2_any (w : World) (a b : Value) (x y : List Int) (ha : Byt w a x) (hb : Byt w b y) (l1 : x.length ≤ 10000) (l2 : y.length ≤ 10000) (hp : 0 < x.length) :
    Calls Try.prog 30 #[.slice (some ⟨w.heap.size, 0, none⟩) 2 2] (w.alloc (.cells #[a, b] 22)) fun e w' => ∃ r, e = .returned r ∧ Own w.heap.size w' r (x ++ y) ∧ Below w.heap.size w w' := by
  have B0 : Below w.heap.size w (w.alloc (.cells #[a, b] 22)) := (Below.refl _ _).alloc (Nat.le_refl _) _
  have e : cats [x, y] 2 = x ++ y := by simp [cats]
  have := concat_any w.heap.size 2 (fun k => ([a, b] : List Value).getD k undef) [x, y] _ rfl (by omega) (fun k hk => by
    match k, hk with
    | 0, _ => exact ha.below B0
    | 1, _ => exact hb.below B0) (fun k hk => by
    have hk : k < 2 := hk
    match k, hk with
    | 0, _ => exact l1
    | 1, _ => exact l2) (by rw [e]; simp; omega) (fun k hk => cell_of2 w a b 22 k _ (by
    match k, hk with
    | 0, _ => rfl
    | 1, _ => rfl))
  rw [e] at this
  refine this.mono ?_
  rintro q w' ⟨r, rfl, o, B⟩
  exact ⟨r, rfl, own_less o B0.size, B0.trans (B.mono B0.size)⟩
end Go.Proofs.Ytifepmdhbhdjpaa.he

/- What head's isWhole, Committed, Mark and End, and the reference's Committed answer. No claim of its own. -/
namespace Go.Proofs.Ytifepmdhbhdjpaa.he
open Go.RowKit Go.Proofs.Ytifepmdhbhdjpaa.fa
set_option maxRecDepth 20000

/-- the tag that an end bears -/
def tgo (tag : List Int) : List Int := if tag.length = 0 then List.replicate 32 255 else tag
theorem tgo_len {tag : List Int} (h : tag.length = 0 ∨ tag.length = 32) : (tgo tag).length = 32 := by
  unfold tgo
  split
  · simp
  · omega
theorem tgo_all {tag : List Int} (h : AllB tag) : AllB (tgo tag) := by
  unfold tgo
  split
  · exact allB_replicate 255 32 (by omega)
  · exact h
end Go.Proofs.Ytifepmdhbhdjpaa.he

/- What head's Read answers. No claim of its own. -/
namespace Go.Proofs.Ytifepmdhbhdjpaa.he
open Go.RowKit Go.Proofs.Ytifepmdhbhdjpaa.fa
set_option maxRecDepth 20000

theorem heap_cells (w : World) (b o : Nat) (vs : List Value) (k : Nat) (h : k ≠ b) : (w.setCells b o vs).heap[k]? = w.heap[k]? := by
  induction vs generalizing w o with
  | nil => rfl
  | cons v r ih => exact (ih (w.setCell ⟨b, o, none⟩ v) (o + 1)).trans (Below.heap_setCell w ⟨b, o, none⟩ v k h)
/-- a struct is written into its variable; all other blocks stay -/
theorem step_storeK {ops : Array Oper} {o : Oper} {a : Act} {Q : Exit → Act → World → Prop} {K : Act → World → Prop} {E : Prop} (w : World) (hg : o.guard = none) (d : Option Tmp) (hd : o.dst = d) (x y : Operand) (t : TypeId) (hop : o.op = Op.store t x y) (c : Nat) (cs0 cs : List Value) (hx : a.eval x = .pointer (some ⟨c, 0, none⟩)) (hy : a.eval y = .agg cs.toArray) (hV : Vr w c cs0) (hl : cs0.length = cs.length) (hs : (Try.prog.info? t).map (·.size) = some cs.length) (h1 : ∀ v ∈ cs, v.oneCell' = true)
    (hK : ∀ w', Vr w' c cs → Below c w w' → (∀ k, k ≠ c → w'.heap[k]? = w.heap[k]?) → K (a.put d undef) w') : if Region.wanted o (yielded ops a.tmps) = true then Oper.wp Try.prog o a w K Q else E := by
  have hw : Region.wanted o (yielded ops a.tmps) = true := by simp [Region.wanted, hg]
  rw [if_pos hw]
  subst hd
  have ht : w.there c 0 cs.length := by rw [← hl]; exact hV.2
  refine wp_store_mid t x y hop c 0 cs.toArray hx hy (by simpa using ht) (by simpa using hs) (all_oneCell_toArray h1) ?_
  exact hK _ ⟨World.rangeAt_setCells_same w c 0 cs ht, World.there_setCells ht c 0 _⟩ (below_cells _ (Nat.le_refl _) _ _ (Below.refl _ _)) (fun k hk => heap_cells w c 0 cs k hk)
/-- bytes of the call's own last where another block is written -/
theorem own_keep {B c : Nat} {w w' : World} {v : Value} {xs : List Int} (h : Own B w v xs) (ha : AllB xs) (hk : ∀ k, k ≠ c → w'.heap[k]? = w.heap[k]?) (hv : ∀ k, v.ownBlock = some k → k ≠ c) : Byt w' v xs := by
  have hb := h.byt ha
  obtain ⟨ao, cap, rfl, h1, h2, h3, h4, h5⟩ := hb
  refine ⟨ao, cap, rfl, h1, h2, h3, h4, fun hp => ?_⟩
  obtain ⟨b, off, rfl, hc⟩ := h5 hp
  refine ⟨b, off, rfl, fun t ht => ?_⟩
  rw [World.cell?_of_block (w := w) (w' := w') (a := ⟨b, off + t, none⟩) (hk b (hv b rfl))]
  exact hc t ht
end Go.Proofs.Ytifepmdhbhdjpaa.he

/- How a statement is closed once its call is known to return true and to leave all that was there as it was; what an argument that is a slice of bytes holds. No claim of its own. -/
namespace Go.Proofs.Ytifepmdhbhdjpaa
open Go.ChangeShapes Go.WideShapes Go.ChangeAt Go.RowKit
set_option maxRecDepth 20000

theorem laidOut : laidOutB Try.prog = true := by kernel_rfl

theorem trodAll_below {H : Type} {enc : TypeId × Value → H} {W W' : World} (hb : Below W.heap.size W W') :
    ∀ (ts : List TypeId) (vs : List Value) (ds : List (DataW H)) (ps : List MemPlace), (∀ t ∈ ts, Try.prog.readableRec t = true ∧ t < Try.prog.types.size) → (∀ x ∈ ps, x.block < W.heap.size) →
      DataW.TrodAll enc Try.prog W 0 (fun _ => true) true ts vs ds ps → DataW.TrodAll enc Try.prog W' 0 (fun b => decide (b < W.heap.size)) true ts vs ds ps
  | [], [], [], _, _, _, h => h
  | t :: ts, v :: vs, d :: ds, ps, ht, hp, h => by
    obtain ⟨p, q, h1, h2, rfl⟩ := h
    have t1 := ht t (by simp)
    exact ⟨p, q, Below.trod laidOut t1.1 t1.2 h1 hb (fun x hx => hp x (by simp [hx])), trodAll_below hb ts vs ds q (fun t h => ht t (by simp [h])) (fun x hx => hp x (by simp [hx])) h2, rfl⟩

theorem post_law {H : Type} {enc : TypeId × Value → H} {s : ChangeSpec} {f : Func} {W W' : World} {args : Array Value} {ds gs : List (DataW H)} {before : List MemPlace}
    (hv : s.vars = []) (hr : f.resultTypes = #[4]) (hts : ∀ t ∈ f.params.toList, Try.prog.readableRec t = true ∧ t < Try.prog.types.size)
    (hres : (s.fn H (ds ++ gs)).results = [.lit (.bool true)]) (hargs : (s.fn H (ds ++ gs)).args = ds) (hvars : (s.fn H (ds ++ gs)).vars = [])
    (hW : DataW.Whole enc Try.prog f.params.toList s.vars false W args.toList ds gs before) (hb : Below W.heap.size W W') :
    s.post enc Try.prog f false true false false W args (.bool true) W' := by
  have hW' := hW
  have hlt := hW.lt
  obtain ⟨p, q, hA, hV, hpq, hfz, hnd⟩ := hW
  refine ⟨ds, gs, before, [], p, [], hW', ?_, ?_, ?_, hb.frame _, fun h => by cases h⟩
  · rw [hres, hr]
    exact trodAll_mk1 (shut_bool Try.underlying4 _)
  · rw [hargs]
    exact trodAll_below hb _ _ _ _ hts (fun x hx => by simpa using hlt x (by rw [hpq]; simp [hx])) hA
  · rw [hvars, hv]; rfl

set_option maxRecDepth 20000 in
/-- an argument that is a slice of bytes holds bytes -/
theorem byt_open {H : Type} {enc : TypeId × Value → H} {W : World} {base : Nat} {v : Value} {d : DataW H} {ps : List MemPlace}
    (ok : Value.okWide Try.prog W .any base 22 v) (h : DataW.Trod enc Try.prog W 0 (fun _ => true) true 22 v d ps) : ∃ xs, Byt W v xs := by
  obtain ⟨a0, len, cap, rfl⟩ := okWide_slice Try.underlying22 ok
  obtain ⟨fuel, hf⟩ := h
  rcases open_ints Try.underlying22 Try.underlying5 cells_u8 hf with ⟨hcs, hx⟩ | ⟨a, len', cap', zs, hcs, _, hl, hm, hz, hx, hcell, hwz⟩
  · simp [Value.cells] at hcs
    obtain ⟨rfl, rfl, rfl⟩ := hcs
    exact ⟨[], Byt.nil W⟩
  · simp [Value.cells] at hcs
    obtain ⟨rfl, rfl, rfl⟩ := hcs
    simp at hz
    have hlen : (zs.take len).length = len := by simp; omega
    have hgb : ∀ t, t < len → gb (zs.take len) t = zs.getD t 0 := fun t ht => by simp [gb, List.getD, ht]
    refine ⟨zs.take len, some a, cap, by rw [hlen], by omega, by simpa [maxLen] using hm, allB_mem fun x hx => bounds_u8 (hwz x (List.mem_of_mem_take hx)), (by intro h; cases h), fun hp => ?_⟩
    obtain ⟨b, off, rfl, hc⟩ := ints_at hcell (by omega)
    refine ⟨b, off, rfl, fun t ht => ?_⟩
    rw [hgb t (by omega)]
    exact hc t (by omega)
theorem nat_of {x : Int} (h : 0 ≤ x ∧ x ≤ 255) : ∃ a : Nat, x = a ∧ a < 256 := ⟨x.toNat, by omega, by omega⟩
end Go.Proofs.Ytifepmdhbhdjpaa

/- What an argument that is a head holds; what the row's list of variables gives. No claim of its own. -/
namespace Go.Proofs.Ytifepmdhbhdjpaa.he
open Go.ChangeShapes Go.WideShapes Go.ChangeAt Go.RowKit Go.Proofs.Ytifepmdhbhdjpaa.fa
set_option maxRecDepth 20000

theorem own_cell {B : Nat} {w : World} {v : Value} {xs : List Int} {n : Nat} (h : Own B w v xs) (hl : xs.length = n) (hp : 0 < n) : ∃ g cap, v = .slice (some ⟨g, 0, none⟩) n cap ∧ n ≤ cap ∧ cap ≤ 9223372036854775807 ∧ ∀ i, i < n → w.cell? ⟨g, i, none⟩ = some (.int .u8 (gb xs i)) := by
  subst hl
  rcases h.2 with ⟨_, hn⟩ | ⟨g, cap, cur, rfl, hg, hh, hc, hm, hs, ht⟩
  · omega
  refine ⟨g, cap, rfl, hc, by simpa [maxLen] using hm, fun i hi => ?_⟩
  obtain ⟨g', cap', e, oc⟩ := own_row h hp
  cases e
  exact oc.cell hi

theorem cells_int : Try.prog.cellsOf 3 = 1 := by kernel_rfl
theorem cells_u32 : Try.prog.cellsOf 24 = 1 := by kernel_rfl
theorem cells_u64 : Try.prog.cellsOf 25 = 1 := by kernel_rfl
theorem cells_head : Try.prog.cellsOf 27 = 6 := by kernel_rfl

/-- one cell that is read as a number -/
theorem num_cell {H : Type} {enc : TypeId × Value → H} {W : World} {fuel : Nat} {c : Value} {x : DataW H × List MemPlace} {t : TypeId} {k : IntKind} (ht : Try.prog.underlying t = some (.int k))
    (hf : DataW.trod enc Try.prog W 0 (fun _ => true) true fuel t [c] = some x) : ∃ n, c = .int k n ∧ (Lit.int k n).wf = true := by
  obtain ⟨y, hy, -, hw⟩ := DataW.trod_int ht hf
  exact ⟨y, by simpa using hy, hw⟩
/-- the bounds of a head's numbers -/
def Hb (l e t : Int) : Prop := (0 ≤ l ∧ l ≤ 4294967295) ∧ (0 ≤ e ∧ e ≤ 18446744073709551615) ∧ 0 ≤ t ∧ t ≤ 18446744073709551615
/-- an argument that is a head -/
theorem head_open {H : Type} {enc : TypeId × Value → H} {W : World} {base : Nat} {v : Value} {d : DataW H} {ps : List MemPlace}
    (ok : Value.okWide Try.prog W .any base 27 v) (h : DataW.Trod enc Try.prog W 0 (fun _ => true) true 27 v d ps) : ∃ k n c l e t, v = .agg (hv k n c l e t).toArray ∧ Hb l e t := by
  simp only [Value.okWide, Try.underlying27] at ok
  obtain ⟨cs, rfl, h2, _⟩ := ok
  rw [cells_head] at h2
  obtain ⟨l⟩ := cs
  obtain ⟨c0, c1, c2, c3, c4, c5, rfl⟩ : ∃ c0 c1 c2 c3 c4 c5, l = [c0, c1, c2, c3, c4, c5] := by
    match l, h2 with
    | [c0, c1, c2, c3, c4, c5], _ => exact ⟨c0, c1, c2, c3, c4, c5, rfl⟩
  obtain ⟨fuel, hf⟩ := h
  obtain ⟨xs, n, -, -, -, hlen, hall⟩ := DataW.trod_struct Try.underlying27 hf
  match xs, hlen with
  | [y0, y1, y2, y3, y4, y5], _ =>
    have a0 := hall 0 _ rfl
    have a1 := hall 1 _ rfl
    have a2 := hall 2 _ rfl
    have a3 := hall 3 _ rfl
    have a4 := hall 4 _ rfl
    have a5 := hall 5 _ rfl
    simp [cells_int, cells_u32, cells_u64, Value.cells] at a0 a1 a2 a3 a4 a5
    obtain ⟨n0, rfl, -⟩ := num_cell Try.underlying3 a0
    obtain ⟨n1, rfl, -⟩ := num_cell Try.underlying3 a1
    obtain ⟨n2, rfl, -⟩ := num_cell Try.underlying3 a2
    obtain ⟨n3, rfl, w3⟩ := num_cell Try.underlying24 a3
    obtain ⟨n4, rfl, w4⟩ := num_cell Try.underlying25 a4
    obtain ⟨n5, rfl, w5⟩ := num_cell Try.underlying25 a5
    exact ⟨n0, n1, n2, n3, n4, n5, rfl, bounds_u32 w3, bounds_u64 w4, bounds_u64 w5⟩
end Go.Proofs.Ytifepmdhbhdjpaa.he

/- A slot's bytes as a list. No claim of its own. -/
namespace Go.Proofs.Ytifepmdhbhdjpaa.so
open Go.RowKit Go.Proofs.Ytifepmdhbhdjpaa.fa Go.Proofs.Ytifepmdhbhdjpaa.he
set_option maxRecDepth 20000

/-- a slot may be -/
def Rs (u : Bool) (n e t : Int) (ws : List Int) : Prop := if u then 1 ≤ n ∧ n ≤ 65535 ∧ ws.length = 104 else n = 0 ∧ e = 0 ∧ t = 0 ∧ ws.length = 0
/-- the bytes of a slot that is used -/
def sbt (n e t : Int) (ws : List Int) : List Int := [1, 0, 0, 0] ++ (be n 4 ++ (be e 8 ++ (be t 8 ++ ws)))
/-- a slot's bytes -/
def sb (u : Bool) (n e t : Int) (ws : List Int) : List Int := if u then sbt n e t ws else List.replicate 128 0
theorem sbt_len (n e t : Int) (ws : List Int) : (sbt n e t ws).length = 24 + ws.length := by simp [sbt, be_len]; omega
theorem sb_len {u : Bool} {n e t : Int} {ws : List Int} (h : Rs u n e t ws) : (sb u n e t ws).length = 128 := by
  cases u
  · simp [sb]
  · simp only [Rs, if_true] at h
    simp only [sb, if_true]
    rw [sbt_len, h.2.2]
theorem sbt_all {n e t : Int} {ws : List Int} (h : AllB ws) : AllB (sbt n e t ws) := by
  refine allB_app (allB_mem fun x hx => ?_) (allB_app (be_all n 4) (allB_app (be_all e 8) (allB_app (be_all t 8) h)))
  simp at hx
  rcases hx with rfl | rfl <;> omega
theorem sb_all {u : Bool} {n e t : Int} {ws : List Int} (h : AllB ws) : AllB (sb u n e t ws) := by
  cases u
  · exact allB_replicate 0 128 (by omega)
  · exact sbt_all h
/-- the numbers that the bytes of a slot tell -/
def gn (xs : List Int) : Int := num (last8 (sub xs 4 8))
def ge' (xs : List Int) : Int := num (last8 (sub xs 8 16))
def gt' (xs : List Int) : Int := num (last8 (sub xs 16 24))
def gw (xs : List Int) : List Int := sub xs 24 128
theorem g_sbt {n e t : Int} {ws : List Int} (hn : 0 ≤ n ∧ n ≤ 4294967295) (he : 0 ≤ e ∧ e ≤ 18446744073709551615) (ht : 0 ≤ t ∧ t ≤ 18446744073709551615) (hl : ws.length = 104) :
    gn (sbt n e t ws) = n ∧ ge' (sbt n e t ws) = e ∧ gt' (sbt n e t ws) = t ∧ gw (sbt n e t ws) = ws := by
  have s1 : sub (sbt n e t ws) 4 8 = be n 4 := sub_at [1, 0, 0, 0] (be n 4) _ 4 8 rfl (by rw [be_len])
  have s2 : sub (sbt n e t ws) 8 16 = be e 8 := by
    have := sub_at ([1, 0, 0, 0] ++ be n 4) (be e 8) (be t 8 ++ ws) 8 16 (by simp [be_len]) (by rw [be_len])
    rwa [List.append_assoc] at this
  have s3 : sub (sbt n e t ws) 16 24 = be t 8 := by
    have := sub_at ([1, 0, 0, 0] ++ be n 4 ++ be e 8) (be t 8) ws 16 24 (by simp [be_len]) (by rw [be_len])
    rwa [List.append_assoc, List.append_assoc] at this
  have s4 : sub (sbt n e t ws) 24 128 = ws := by
    have := sub_at ([1, 0, 0, 0] ++ be n 4 ++ be e 8 ++ be t 8) ws [] 24 128 (by simp [be_len]) (by omega)
    rwa [List.append_nil, List.append_assoc, List.append_assoc, List.append_assoc] at this
  refine ⟨?_, ?_, ?_, s4⟩
  · unfold gn; rw [s1, num_be4 n hn]
  · unfold ge'; rw [s2, num_be8 e he]
  · unfold gt'; rw [s3, num_be8 t ht]
/-- bytes of which the first four are a one and three noughts are those of what they tell -/
theorem sbt_g {xs : List Int} (hl : xs.length = 128) (ha : AllB xs) (h0 : gb xs 0 = 1) (h1 : gb xs 1 = 0) (h2 : gb xs 2 = 0) (h3 : gb xs 3 = 0) : sbt (gn xs) (ge' xs) (gt' xs) (gw xs) = xs := by
  have a1 := (be_num4 (xs := sub xs 4 8) (by rw [sub_len _ _ _ (by omega)]) (allB_sub ha 4 8)).1
  have a2 := (be_num8 (xs := sub xs 8 16) (by rw [sub_len _ _ _ (by omega)]) (allB_sub ha 8 16)).1
  have a3 := (be_num8 (xs := sub xs 16 24) (by rw [sub_len _ _ _ (by omega)]) (allB_sub ha 16 24)).1
  unfold sbt gn ge' gt' gw
  rw [a1, a2, a3]
  have l0 : ([1, 0, 0, 0] : List Int) = sub xs 0 4 := by
    refine ext_gb (by rw [sub_len _ _ _ (by omega)]; rfl) fun t ht => ?_
    have ht : t < 4 := ht
    rw [sub_gb _ _ _ _ (by omega), Nat.zero_add]
    match t, ht with
    | 0, _ => rw [h0]; rfl
    | 1, _ => rw [h1]; rfl
    | 2, _ => rw [h2]; rfl
    | 3, _ => rw [h3]; rfl
  have j : ∀ a b c : Nat, a ≤ b → b ≤ c → c ≤ 128 → sub xs a b ++ sub xs b c = sub xs a c := fun a b c q1 q2 q3 => by
    have e : xs.take c = xs.take b ++ (xs.take c).drop b := by
      have := (List.take_append_drop b (xs.take c)).symm
      rwa [List.take_take, Nat.min_eq_left q2] at this
    unfold sub
    rw [← List.drop_append_of_le_length (l₁ := xs.take b) (by simp; omega), ← e]
  rw [l0, j 16 24 128 (by omega) (by omega) (by omega), j 8 16 128 (by omega) (by omega) (by omega), j 4 8 128 (by omega) (by omega) (by omega), j 0 4 128 (by omega) (by omega) (by omega)]
  unfold sub
  rw [List.drop_zero, List.take_of_length_le (by omega)]
/-- is a head dead beneath a slot? -/
def Dd (u : Bool) (e t e' t' : Int) : Prop := u = false ∨ e' < e ∨ e' = e ∧ t' ≤ t
theorem dd_ahead {u : Bool} {e t a b c d : Int} (h : Dd u e t a b) (ha : c < a ∨ c = a ∧ d ≤ b) : Dd u e t c d := by
  unfold Dd at *
  rcases h with h | h | h
  · exact Or.inl h
  · right; omega
  · right; omega
end Go.Proofs.Ytifepmdhbhdjpaa.so

/- A slot as a value; what an argument that is a slot holds. No claim of its own. -/
namespace Go.Proofs.Ytifepmdhbhdjpaa.so
open Go.ChangeShapes Go.WideShapes Go.ChangeAt Go.RowKit Go.Proofs.Ytifepmdhbhdjpaa.fa Go.Proofs.Ytifepmdhbhdjpaa.he
set_option maxRecDepth 20000

/-- a slot's cells -/
def sv (u : Bool) (n e t : Int) (v : Value) : List Value := [.bool u, .int .i64 n, .int .u64 e, .int .u64 t, v]
theorem rowy_slot : Rowy 29 5 := ⟨⟨_, Try.underlying29, rfl⟩, by kernel_rfl⟩
theorem rowy_rslot : Rowy 34 5 := ⟨⟨_, Try.underlying34, rfl⟩, by kernel_rfl⟩
theorem rowy_nums : Rowy 64 5 := ⟨⟨_, Try.underlying64, rfl⟩, by kernel_rfl⟩
theorem zero_slot : (Try.prog.info? 29).map (fun i => (i.zero, i.size)) = some (some (.agg (sv false 0 0 0 (.slice none 0 0)).toArray), 5) := by kernel_rfl
theorem zero_rslot : (Try.prog.info? 34).map (fun i => (i.zero, i.size)) = some (some (.agg (sv false 0 0 0 (.slice none 0 0)).toArray), 5) := by kernel_rfl
theorem zero_nums : (Try.prog.info? 64).map (fun i => (i.zero, i.size)) = some (some (.agg (nv [0, 0, 0, 0, 0]).toArray), 5) := by kernel_rfl
theorem one_sl (ao : Option Addr) (n cap : Nat) : (Value.slice ao n cap).oneCell' = true := rfl
theorem byt_one {w : World} {v : Value} {xs : List Int} (h : Byt w v xs) : v.oneCell' = true := by
  obtain ⟨ao, cap, rfl, _⟩ := h
  rfl
theorem sv_one (u : Bool) (n e t : Int) {v : Value} (h : v.oneCell' = true) : ∀ x ∈ sv u n e t v, x.oneCell' = true := fun x hx => by
  simp [sv] at hx
  rcases hx with rfl | rfl | rfl | rfl | rfl
  · rfl
  · rfl
  · rfl
  · rfl
  · exact h
section
variable {ops : Array Oper} {rest : List Oper} {a : Act} {Q : Exit → Act → World → Prop} {w : World} {d : Option Tmp} {ty : TypeId} {pos : String} {af : Array Edge} {gd : Option (Nat × Bool)}
/-- is it a store? -/
theorem at_store {t : TypeId} {x y : Operand} (h : wpList Try.prog ops Q (⟨d, Op.store t x y, ty, pos, af, gd⟩ :: rest) a w) : wpList Try.prog ops Q (⟨d, Op.store t x y, ty, pos, af, gd⟩ :: rest) a w := h
theorem at_alloc {t : TypeId} (h : wpList Try.prog ops Q (⟨d, Op.alloc t, ty, pos, af, gd⟩ :: rest) a w) : wpList Try.prog ops Q (⟨d, Op.alloc t, ty, pos, af, gd⟩ :: rest) a w := h
end
/-- a block that holds no byte -/
def NoB (w : World) (g : Nat) : Prop := ∀ j y, w.cell? ⟨g, j, none⟩ ≠ some (.int .u8 y)
theorem NoB.heap {w w' : World} {g : Nat} (h : NoB w g) (e : w'.heap[g]? = w.heap[g]?) : NoB w' g := fun j y => by
  rw [World.cell?_of_block (w := w) (w' := w') (a := ⟨g, j, none⟩) e]
  exact h j y
theorem vr_there1 {w : World} {c : Nat} {cs : List Value} (h : Vr w c cs) (j : Nat) (hj : j < cs.length) : (w.cell? ⟨c, j, none⟩).isSome = true := by
  rw [h.cell j _ (List.getElem?_eq_getElem hj)]; rfl
theorem NoB.set {w : World} {g : Nat} {cs0 cs : List Value} (h : NoB w g) (hV : Vr w g cs0) (hl : cs0.length = cs.length) (hc : ∀ v ∈ cs, ∀ y, v ≠ .int .u8 y) : NoB (w.setCells g 0 cs) g := fun j y e => by
  by_cases hj : j < cs.length
  · have := World.cell?_setCells_in g cs 0 w (fun i hi => by rw [Nat.zero_add]; exact vr_there1 hV i (by omega)) j hj
    rw [Nat.zero_add] at this
    rw [this] at e
    exact hc _ (List.getElem_mem hj) y (Option.some.inj e)
  · rw [World.cell?_setCells_out g cs 0 w ⟨g, j, none⟩ (fun _ _ => Or.inr (by simp; omega))] at e
    exact h j y e
/-- bytes last where a block without bytes is written -/
theorem byt_nob {w w' : World} {c : Nat} {v : Value} {xs : List Int} (h : Byt w v xs) (hn : NoB w c) (hk : ∀ k, k ≠ c → w'.heap[k]? = w.heap[k]?) : Byt w' v xs := by
  obtain ⟨ao, cap, rfl, h1, h2, h3, h4, h5⟩ := h
  refine ⟨ao, cap, rfl, h1, h2, h3, h4, fun hp => ?_⟩
  obtain ⟨b, off, rfl, hc⟩ := h5 hp
  refine ⟨b, off, rfl, fun t ht => ?_⟩
  have hb : b ≠ c := fun e => by subst e; exact hn _ _ (hc t ht)
  rw [World.cell?_of_block (w := w) (w' := w') (a := ⟨b, off + t, none⟩) (hk b hb)]
  exact hc t ht
/-- a struct's variable; its block holds no byte -/
theorem new_lawN {ops : Array Oper} {rest : List Oper} {a : Act} {Q : Exit → Act → World → Prop} {d : Option Tmp} {t ty : TypeId} {pos : String} {af : Array Edge} (w : World) (cs : List Value) (hz : (Try.prog.info? t).map (fun i => (i.zero, i.size)) = some (some (.agg cs.toArray), cs.length)) (hc : ∀ v ∈ cs, ∀ y, v ≠ .int .u8 y)
    (hK : ∀ w', Vr w' w.heap.size cs → NoB w' w.heap.size → Below w.heap.size w w' → wpList Try.prog ops Q rest (a.put d (.pointer (some ⟨w.heap.size, 0, none⟩))) w') :
    wpList Try.prog ops Q (⟨d, Op.alloc t, ty, pos, af, none⟩ :: rest) a w := by
  refine wpList_plain rfl fun K hK' => ?_
  have hz' := (zero_of_info hz).1
  unfold Oper.wp
  simp [execOp, Instr.alloc, hz', newVar, newRow, Value.cells, Result.andThen]
  refine hK' _ _ (hK _ (Vr.new w t cs) (fun j y e => ?_) ((Below.refl _ _).alloc (Nat.le_refl _) _))
  rw [cell_of_row (w.alloc (.cells cs.toArray t)) w.heap.size j _ t (0, 0) (heap_alloc_last w _)] at e
  have e : cs[j]? = some (.int .u8 y) := by simpa using e
  exact hc _ (List.mem_of_getElem? e) y rfl
theorem heap_one (w : World) (b o : Nat) (v : Value) (k : Nat) (h : k ≠ b) : (w.setCell ⟨b, o, none⟩ v).heap[k]? = w.heap[k]? := Below.heap_setCell w ⟨b, o, none⟩ v k h
theorem NoB.one {w : World} {g j : Nat} {v old : Value} (h : NoB w g) (ho : w.cell? ⟨g, j, none⟩ = some old) (hv : ∀ y, v ≠ .int .u8 y) : NoB (w.setCell ⟨g, j, none⟩ v) g := fun i y e => by
  by_cases q : i = j
  · subst q
    rw [World.cell?_setCell_same _ _ _ ho] at e
    exact hv y (Option.some.inj e)
  · rw [World.cell?_setCell_other _ _ _ _ (by intro z; injection z with _ z2; omega)] at e
    exact h i y e
/-- one cell of a variable is written -/
theorem set_lawC {ops : Array Oper} {rest : List Oper} {a : Act} {Q : Exit → Act → World → Prop} {d : Option Tmp} {x y : Operand} {t ty : TypeId} {pos : String} {af : Array Edge} (w : World) (cs : List Value) (c j : Nat) (v : Value) (hx : a.eval x = .pointer (some ⟨c, j, none⟩)) (hy : a.eval y = v) (hV : Vr w c cs) (hN : NoB w c) (hj : j < cs.length) (h1 : v.oneCell' = true) (hc : v.cells = #[v]) (hv : ∀ y, v ≠ .int .u8 y) (hi : (Try.prog.info? t).map (·.size) = some 1)
    (hK : ∀ w', Vr w' c (cs.set j v) → NoB w' c → Below c w w' → (∀ k, k ≠ c → w'.heap[k]? = w.heap[k]?) → wpList Try.prog ops Q rest (a.put d undef) w') :
    wpList Try.prog ops Q (⟨d, Op.store t x y, ty, pos, af, none⟩ :: rest) a w := by
  refine wpList_plain rfl fun K hK' => ?_
  have hcell := hV.cell j _ (List.getElem?_eq_getElem hj)
  have hf := hV.free j hj
  have hr : (storeVar t ⟨c, j, none⟩ v).run Try.prog w = .ok () (w.setCell ⟨c, j, none⟩ v) := by
    have e0 : ∀ i, i < [v].length → i = 0 := fun i hi => by simpa using hi
    have := run_storeCells_cells (P := Try.prog) c j [v] 0 w (fun i hi => by rw [e0 i hi]; simp [hcell]) (fun i hi => by rw [e0 i hi]; simpa using hf) (fun z hz => by simp at hz; subst hz; exact h1)
    cases hq : Try.prog.info? t with
    | none => simp [hq] at hi
    | some i =>
      have hs : i.size = 1 := by simpa [hq] using hi
      simp only [Nat.add_zero] at this
      simp [storeVar, sizeOf, typeInfo, hq, hc, hs]
      simpa [World.setCells] using this
  unfold Oper.wp execOp
  simp only [hx, hy, Instr.storeAt, Instr.sureAddr, Sem.run_bind, Sem.run_pure, Result.andThen_ok, hr]
  exact hK' _ _ (hK _ (hV.set j hj v) (hN.one hcell hv) ((Below.refl c w).setCell (p := ⟨c, j, none⟩) (Nat.le_refl _) _) (fun k hk => heap_one w c j v k hk))
theorem size_u64 : (Try.prog.info? 25).map (·.size) = some 1 := by kernel_rfl
theorem all_gb (xs ys : List Int) (n : Nat) (hx : xs.length = n) (hy : ys.length = n) : ((List.range' 0 n 1).all fun i => decide (gb xs i = gb ys i)) = decide (xs = ys) := by
  rw [Bool.eq_iff_iff, List.all_eq_true, decide_eq_true_iff]
  constructor
  · intro h
    refine ext_gb (by rw [hx, hy]) fun t ht => ?_
    have := h t (by rw [List.mem_range'_1]; omega)
    simpa using this
  · rintro rfl i _
    simp

/-- two arrays of numbers: are they the same? -/
theorem run_eqlD (w : World) (t e : TypeId) (n : Nat) (k : IntKind) (xs ys : List Int) (hx : xs.length = n) (hy : ys.length = n)
    (hu : Try.prog.underlying t = some (.array n e)) (he : Try.prog.underlying e = some (.int k)) (hsz : ∀ w, (sizeOf e).run Try.prog w = .ok 1 w) :
    (Op.equalIn 10000 t (.agg (ints k xs)) (.agg (ints k ys))).run Try.prog w = .ok (decide (xs = ys)) w := by
  rw [← all_gb xs ys n hx hy, show (10000 : Nat) = 9998 + 1 + 1 from rfl, Op.equalIn]
  simp only [Sem.run_bind, run_underlying hu, Result.andThen_ok, hsz, Std.Legacy.Range.forIn_eq_forIn_range', Std.Legacy.Range.size, Nat.sub_zero, Nat.add_sub_cancel, Nat.div_one]
  have hl' : ∀ i ∈ List.range' 0 n 1, i < n := fun i hi => by simpa using (List.mem_range'_1.1 hi).2
  generalize List.range' 0 n 1 = l at hl' ⊢
  induction l with
  | nil => simp
  | cons i l ih =>
    have hi : i < n := hl' i (by simp)
    have px : (Go.part e (ints k xs) (i * 1)).run Try.prog w = .ok (.int k (gb xs i)) w := by
      simp [Go.part, isAgg, run_underlying he, ints, gb, List.getD, List.getElem?_eq_getElem (show i < xs.length by omega)]
    have py : (Go.part e (ints k ys) (i * 1)).run Try.prog w = .ok (.int k (gb ys i)) w := by
      simp [Go.part, isAgg, run_underlying he, ints, gb, List.getD, List.getElem?_eq_getElem (show i < ys.length by omega)]
    have pe : (Op.equalIn (9998 + 1) e (.int k (gb xs i)) (.int k (gb ys i))).run Try.prog w = .ok (decide (gb xs i = gb ys i)) w := by
      rw [run_equalIn_int w 9998 e k k _ _ he]; congr 1
    simp only [List.forIn_cons, Sem.run_bind, px, py, pe, Result.andThen_ok, List.all_cons]
    cases hb : decide (gb xs i = gb ys i)
    · simp
    · simp only [Bool.not_true, Bool.false_eq_true, if_false, Sem.run_pure, Bool.true_and]
      exact ih fun j hj => hl' j (by simp [hj])
theorem run_size_u64 (w : World) : (sizeOf 25).run Try.prog w = .ok 1 w := by
  obtain ⟨i, hi, hz⟩ : ∃ i, Try.prog.info? 25 = some i ∧ i.size = 1 := by
    have h := size_u64
    cases hq : Try.prog.info? 25 with
    | none => simp [hq] at h
    | some i => exact ⟨i, rfl, by simpa [hq] using h⟩
  simp [sizeOf, typeInfo, hi, hz]
theorem guard_nums : Try.prog.eqGuardType Try.prog.depth 64 = false := by kernel_rfl
/-- two arrays of five numbers are held against each other -/
theorem eql_law {ops : Array Oper} {rest : List Oper} {o : Oper} {a : Act} {Q : Exit → Act → World → Prop} (w : World) (hg : o.guard = none) (x y : Operand) (t' : TypeId) (hop : o.op = Op.binOp .eql 64 x y t') (xs ys : List Int) (hx : a.eval x = .agg (nv xs).toArray) (hy : a.eval y = .agg (nv ys).toArray) (hl : xs.length = 5) (hm : ys.length = 5) (D : Bool) (hD : decide (xs = ys) = D)
    (hK : wpList Try.prog ops Q rest (a.put o.dst (.bool D)) w) : wpList Try.prog ops Q (o :: rest) a w := by
  subst hD
  refine wpList_plain hg fun K hK' => ?_
  have hx' : a.eval x = .agg (ints .u64 xs) := hx
  have hy' : a.eval y = .agg (ints .u64 ys) := hy
  unfold Oper.wp execOp
  simp only [hop, hx', hy', Sem.run_bind, run_eqGuard_agg w .eql 64 x y _ _ guard_nums, Result.andThen_ok, run_eql_struct, run_eqlD w 64 25 5 .u64 xs ys hl hm Try.underlying64 Try.underlying25 run_size_u64]
  exact hK' _ _ hK
theorem size_bytes : (Try.prog.info? 22).map (·.size) = some 1 := by kernel_rfl
theorem sv_nob (u : Bool) (n e t : Int) (ao : Option Addr) (k cap : Nat) : ∀ v ∈ sv u n e t (.slice ao k cap), ∀ y, v ≠ .int .u8 y := by
  intro v h y q
  subst q
  simp [sv] at h
theorem nv_nob (xs : List Int) : ∀ v ∈ nv xs, ∀ y, v ≠ .int .u8 y := by
  intro v h y q
  subst q
  obtain ⟨x, -, hx⟩ := List.mem_map.1 h
  cases hx
theorem hv_nob (k n c l e t : Int) : ∀ v ∈ hv k n c l e t, ∀ y, v ≠ .int .u8 y := by
  intro v h y q
  subst q
  simp [hv] at h
/-- a type of one cell -/
def One (t : TypeId) : Prop := (∃ d, Try.prog.underlying t = some d ∧ d.isRow = false) ∧ (Try.prog.info? t).map (·.size) = some 1
theorem one_bytes : One 22 := ⟨⟨_, Try.underlying22, rfl⟩, by kernel_rfl⟩
theorem one_u64 : One 25 := ⟨⟨_, Try.underlying25, rfl⟩, by kernel_rfl⟩
theorem load_one {t : TypeId} (ht : One t) {w : World} {b p : Nat} {v : Value} (h : w.cell? ⟨b, p, none⟩ = some v) : (Instr.loadAt t (.pointer (some ⟨b, p, none⟩))).run Try.prog w = .ok v w := by
  obtain ⟨⟨d, hd, hr⟩, -⟩ := ht
  have : (loadVar t ⟨b, p, none⟩).run Try.prog w = .ok v w := by
    cases d <;> first | (simp [TypeDesc.isRow] at hr; done) | simp [loadVar, isAgg, run_underlying hd, h]
  simp only [Instr.loadAt, Instr.sureAddr, Sem.run_bind, Sem.run_pure, Result.andThen_ok, this]
theorem exec_build {ev : Operand → Value} {o : Oper} (t : TypeId) (parts : Array (Nat × Operand)) (hop : o.op = Op.build t parts) (v : Value) (w : World) (hrun : (Instr.build t (parts.map fun (i, x) => (i, ev x))).run Try.prog w = .ok v w) : (execOp ev o).run Try.prog w = .ok (.value v) w := by
  unfold execOp
  simp only [hop, Sem.run_bind, Sem.run_pure, Result.andThen_ok, hrun]
/-- an operation whose guard does not hold -/
theorem skip_law {ops : Array Oper} {rest : List Oper} {o : Oper} {a : Act} {Q : Exit → Act → World → Prop} (w : World) (hw : Region.wanted o (yielded ops a.tmps) = false) (d : Option Tmp) (hd : o.dst = d) (hK : wpList Try.prog ops Q rest (a.put d undef) w) : wpList Try.prog ops Q (o :: rest) a w := by
  refine wpList_step fun K hK' => ?_
  rw [if_neg (by rw [hw]; exact Bool.false_ne_true)]
  subst hd
  exact hK' _ _ hK
/-- the bounds of a slot's numbers -/
def Sb (n e t : Int) : Prop := (-9223372036854775808 ≤ n ∧ n ≤ 9223372036854775807) ∧ (0 ≤ e ∧ e ≤ 18446744073709551615) ∧ 0 ≤ t ∧ t ≤ 18446744073709551615
theorem form {w : World} {v : Value} {xs : List Int} (h : Byt w v xs) : ∃ ao cap, v = .slice ao xs.length cap := by
  obtain ⟨ao, cap, e, _⟩ := h
  exact ⟨ao, cap, e⟩
theorem hdH {p : Prop} (h : p) : Hid p := h
theorem same_yes (w : World) (va vb : Value) (xs : List Int) (ha : Byt w va xs) (hb : Byt w vb xs) : Calls Try.prog 13 #[va, vb] w fun e w' => e = .returned (.bool true) ∧ Below w.heap.size w w' := by
  refine (same_any w va vb xs xs ha hb).mono ?_
  rintro e w' ⟨rfl, n, rfl⟩
  exact ⟨by rw [decide_eq_true rfl], he.below_drawn (Below.refl _ _) n⟩
theorem same_dec (w : World) (va vb : Value) (xs ys : List Int) (ha : Byt w va xs) (hy : Byt w vb ys) : Calls Try.prog 13 #[va, vb] w fun e w' => e = .returned (.bool (decide (xs = ys))) ∧ Below w.heap.size w w' :=
  (same_any w va vb xs ys ha hy).mono fun _ _ ⟨h1, n, h2⟩ => ⟨h1, by rw [h2]; exact he.below_drawn (Below.refl _ _) n⟩

theorem cells_bytes : Try.prog.cellsOf 22 = 1 := by kernel_rfl
theorem cells_bool : Try.prog.cellsOf 4 = 1 := by kernel_rfl
/-- one cell that is read as a slice of bytes -/
theorem byt_cells {H : Type} {enc : TypeId × Value → H} {W : World} {fuel : Nat} {v : Value} {x : DataW H × List MemPlace}
    (hf : DataW.trod enc Try.prog W 0 (fun _ => true) true fuel 22 [v] = some x) : ∃ xs, Byt W v xs := by
  rcases open_ints Try.underlying22 Try.underlying5 cells_u8 hf with ⟨hcs, hx⟩ | ⟨a, len, cap, zs, hcs, _, hl, hm, hz, hx, hcell, hwz⟩
  · obtain rfl : v = .slice none 0 0 := by simpa using hcs
    exact ⟨[], Byt.nil W⟩
  · obtain rfl : v = .slice (some a) len cap := by simpa using hcs
    simp at hz
    have hlen : (zs.take len).length = len := by simp; omega
    have hgb : ∀ t, t < len → gb (zs.take len) t = zs.getD t 0 := fun t ht => by simp [gb, List.getD, ht]
    refine ⟨zs.take len, some a, cap, by rw [hlen], by omega, by simpa [maxLen] using hm, allB_mem fun x hx => bounds_u8 (hwz x (List.mem_of_mem_take hx)), (by intro h; cases h), fun hp => ?_⟩
    obtain ⟨b, off, rfl, hc⟩ := ints_at hcell (by omega)
    refine ⟨b, off, rfl, fun t ht => ?_⟩
    rw [hgb t (by omega)]
    exact hc t (by omega)
theorem cells_slot : Try.prog.cellsOf 29 = 5 := by kernel_rfl
/-- an argument that is a slot -/
theorem slot_open {H : Type} {enc : TypeId × Value → H} {W : World} {base : Nat} {v : Value} {d : DataW H} {ps : List MemPlace}
    (ok : Value.okWide Try.prog W .any base 29 v) (h : DataW.Trod enc Try.prog W 0 (fun _ => true) true 29 v d ps) : ∃ u n e t x xs, v = .agg (sv u n e t x).toArray ∧ Sb n e t ∧ Byt W x xs := by
  simp only [Value.okWide, Try.underlying29] at ok
  obtain ⟨cs, rfl, h2, _⟩ := ok
  rw [cells_slot] at h2
  obtain ⟨l⟩ := cs
  obtain ⟨c0, c1, c2, c3, c4, rfl⟩ : ∃ c0 c1 c2 c3 c4, l = [c0, c1, c2, c3, c4] := by
    match l, h2 with
    | [c0, c1, c2, c3, c4], _ => exact ⟨c0, c1, c2, c3, c4, rfl⟩
  obtain ⟨fuel, hf⟩ := h
  obtain ⟨xs, n, -, -, -, hlen, hall⟩ := DataW.trod_struct Try.underlying29 hf
  match xs, hlen with
  | [y0, y1, y2, y3, y4], _ =>
    have a0 := hall 0 _ rfl
    have a1 := hall 1 _ rfl
    have a2 := hall 2 _ rfl
    have a3 := hall 3 _ rfl
    have a4 := hall 4 _ rfl
    simp [cells_int, cells_u64, cells_bytes, cells_bool, Value.cells] at a0 a1 a2 a3 a4
    obtain ⟨b0, hb0, -⟩ := DataW.trod_bool Try.underlying4 a0
    obtain rfl : c0 = .bool b0 := by simpa using hb0
    obtain ⟨n1, rfl, w1⟩ := num_cell Try.underlying3 a1
    obtain ⟨n2, rfl, w2⟩ := num_cell Try.underlying25 a2
    obtain ⟨n3, rfl, w3⟩ := num_cell Try.underlying25 a3
    obtain ⟨zs, b4⟩ := byt_cells a4
    exact ⟨b0, n1, n2, n3, c4, zs, rfl, ⟨bounds_i64 w1, bounds_u64 w2, bounds_u64 w3⟩, b4⟩

theorem cells_arr2 : Try.prog.cellsOf 23 = 2 := by kernel_rfl
/-- an argument that is an array of two slices of bytes -/
theorem pair_open {H : Type} {enc : TypeId × Value → H} {W : World} {base : Nat} {v : Value} {d : DataW H} {ps : List MemPlace}
    (ok : Value.okWide Try.prog W .any base 23 v) (h : DataW.Trod enc Try.prog W 0 (fun _ => true) true 23 v d ps) : ∃ v0 v1 xs ys, v = .agg #[v0, v1] ∧ Byt W v0 xs ∧ Byt W v1 ys := by
  simp only [Value.okWide, Try.underlying23] at ok
  obtain ⟨cs, rfl, h2, _⟩ := ok
  rw [cells_arr2] at h2
  obtain ⟨l⟩ := cs
  obtain ⟨c0, c1, rfl⟩ : ∃ c0 c1, l = [c0, c1] := by
    match l, h2 with
    | [c0, c1], _ => exact ⟨c0, c1, rfl⟩
  obtain ⟨fuel, hf⟩ := h
  obtain ⟨xs, m, rfl, hx, hcl, hxl, hall⟩ := DataW.trod_array Try.underlying23 hf
  have a0 := hall 0 (by omega)
  have a1 := hall 1 (by omega)
  rw [cells_bytes] at a0 a1
  obtain ⟨y0, y1, rfl⟩ : ∃ y0 y1, xs = [y0, y1] := by
    match xs, hxl with
    | [y0, y1], _ => exact ⟨y0, y1, rfl⟩
  simp [Value.cells] at a0 a1
  obtain ⟨xs0, b0⟩ := byt_cells a0
  obtain ⟨xs1, b1⟩ := byt_cells a1
  exact ⟨c0, c1, xs0, xs1, rfl, b0, b1⟩
end Go.Proofs.Ytifepmdhbhdjpaa.so

