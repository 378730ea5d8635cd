/- Parts of the proof: what KeyboxNil reaches. No claim of its own. -/
import Derived.Deep.RegionHeld3
import Derived.Deep.DeepCutAuto
import Derived.Lib.AppendZeros
import Derived.Lib.SliceRun
import Derived.WalkKit
import Derived.WalkSmall
import Derived.ProofKit
import Derived.OpenShut
import Derived.BigQuiet
import Derived.Deep.QuietTactic
import Derived.Deep.WholeRow
import Derived.Deep.MidRow
import Derived.Laws.StructEq
import Derived.Laws.AppendOwnNone
import Derived.Test.YtakibiigcdgohaaGreatDoorA00
import Derived.Test.YtakibiigcdgohaaGreatDoorA01
import Derived.Test.YtakibiigcdgohaaGreatDoorA02
import Derived.Test.YtakibiigcdgohaaGreatDoorA03
import Derived.Test.YtakibiigcdgohaaGreatDoorA09
import Derived.Test.YtakibiigcdgohaaGreatDoorA10
import Derived.Test.YtakibiigcdgohaaGreatDoorA11
namespace Go.Proofs.YtakibiigcdgohaaGreatDoor.he
open Go.RowKit Go.Proofs.YtakibiigcdgohaaGreatDoor.fa
set_option maxRecDepth 20000
def sl : Value → Nat → Nat → Value
  | .slice ao _ cap, l, h => sliced ao l h cap 1
  | _, _, _ => undef
theorem sl_byt {w : World} {v : Value} {xs : List Int} (hb : Byt w v xs) (l h : Nat) (hl : l ≤ h) (hh : h ≤ xs.length) : Byt w (sl v l h) ((xs.take h).drop l) := by
  obtain ⟨ao, cap, rfl, hc, hb'⟩ := byt_cut hb l h hl hh
  exact hb'
theorem sl_to {w : World} {v : Value} {xs : List Int} (hb : Byt w v xs) (h : Nat) (hh : h ≤ xs.length) : Byt w (sl v 0 h) (xs.take h) := by
  have := sl_byt hb 0 h (Nat.zero_le _) hh
  rwa [List.drop_zero] at this
theorem sl_from {w : World} {v : Value} {xs : List Int} (hb : Byt w v xs) (l : Nat) (hl : l ≤ xs.length) : Byt w (sl v l xs.length) (xs.drop l) := by
  have := sl_byt hb l xs.length hl (Nat.le_refl _)
  rwa [List.take_length] at this
theorem sl_sub {w : World} {v : Value} {xs : List Int} (hb : Byt w v xs) (l h : Nat) (hl : l ≤ h) (hh : h ≤ xs.length) : Byt w (sl v l h) (sub xs l h) := sl_byt hb l h hl hh
theorem byt_form {w : World} {v : Value} {xs : List Int} {n : Nat} (h : Byt w v xs) (hn : xs.length = n) : ∃ ao cap, v = .slice ao n cap := by
  obtain ⟨ao, cap, e, -⟩ := h
  rw [hn] at e
  exact ⟨ao, cap, e⟩
theorem byt_drawn {w : World} {v : Value} {xs : List Int} (h : Byt w v xs) (m : Nat) : Byt (w.drewN m) v xs := h
theorem below_drawn {B : Nat} {w w' : World} (h : Below B w w') (m : Nat) : Below B w (w'.drewN m) := ⟨h.os, h.tape, h.output, h.size, fun k hk => h.block k hk⟩
section
variable {ev : Operand → Value} {o : Oper}
theorem exec_to (s x : Operand) (hop : o.op = Op.slice 35 s none (some x) none) (v : Value) (xs : List Int) (w0 : World) (hb : Byt w0 v xs) (h : Nat) (hs : ev s = v) (hx : ev x = .int .i64 (h : Int)) (hh : h ≤ xs.length) (w : World) : (execOp ev o).run Tryz.prog w = .ok (.value (sl v 0 h)) w := by
  obtain ⟨ao, cap, rfl, hc, -⟩ := byt_cut hb 0 h (Nat.zero_le _) hh
  have hrun := run_slice_h (P := Tryz.prog) w 35 ao xs.length cap und_bytes .i64 (h : Int) (by omega) (by omega)
  rw [elem_bytes, run_size_u8] at hrun
  simp [execOp, hop, hs, hx, run_sliceAt_slice w 35 _ _ _ _ und_bytes, hrun, Result.andThen, sl]
theorem exec_part (s x y : Operand) (hop : o.op = Op.slice 35 s (some x) (some y) none) (v : Value) (xs : List Int) (w0 : World) (hb : Byt w0 v xs) (l h : Nat) (hs : ev s = v) (hx : ev x = .int .i64 (l : Int)) (hy : ev y = .int .i64 (h : Int)) (hl : l ≤ h) (hh : h ≤ xs.length) (w : World) : (execOp ev o).run Tryz.prog w = .ok (.value (sl v l h)) w := by
  obtain ⟨ao, cap, rfl, hc, -⟩ := byt_cut hb l h hl hh
  have hrun := run_slice_lh (P := Tryz.prog) w 35 ao xs.length cap und_bytes .i64 .i64 (l : Int) (h : Int) (by omega) (by omega) (by omega)
  rw [elem_bytes, run_size_u8] at hrun
  simp [execOp, hop, hs, hx, hy, run_sliceAt_slice w 35 _ _ _ _ und_bytes, hrun, Result.andThen, sl]
theorem exec_from (s x : Operand) (hop : o.op = Op.slice 35 s (some x) none none) (v : Value) (xs : List Int) (w0 : World) (hb : Byt w0 v xs) (l n : Nat) (hs : ev s = v) (hx : ev x = .int .i64 (l : Int)) (hn : xs.length = n) (hl : l ≤ n) (w : World) : (execOp ev o).run Tryz.prog w = .ok (.value (sl v l n)) w := by
  subst hn
  obtain ⟨ao, cap, rfl, hc, -⟩ := byt_cut hb l xs.length hl (Nat.le_refl _)
  have hrun := run_slice_l (P := Tryz.prog) w 35 ao xs.length cap und_bytes .i64 (l : Int) (by omega) (by omega)
  rw [elem_bytes, run_size_u8] at hrun
  simp [execOp, hop, hs, hx, run_sliceAt_slice w 35 _ _ _ _ und_bytes, hrun, Result.andThen, sl]
theorem exec_loadN (t : TypeId) (x : Operand) (hop : o.op = Op.load t x) (p : Value) (hx : ev x = p) (v : Value) (w : World) (hr : (Instr.loadAt t p).run Tryz.prog w = .ok v w) : (execOp ev o).run Tryz.prog w = .ok (.value v) w := by
  unfold execOp
  simp only [hop, hx, Sem.run_bind, Result.andThen_ok, hr]
  rfl
end
section
variable {ops : Array Oper} {o : Oper} {a : Act} {Q : Exit → Act → World → Prop} {K : Act → World → Prop} {E : Prop}
theorem step_callW (w : World) (hw : Region.wanted o (yielded ops a.tmps) = true) (d : Option Tmp) (hd : o.dst = d) (f : FuncId) (args : Array Operand) (ats : Array TypeId) (hop : o.op = .call { callee := .value (.func f), args := args, argTypes := ats })
    (hcf : ∀ (q : Array Value) (w : World), (callFunc f q).run Tryz.prog w = .ok (.enter f q) w) (vs : Array Value) (hx : args.map a.eval = vs) (R : Value → World → Prop) (hc : Calls Tryz.prog f vs w fun e w' => ∃ v, e = .returned v ∧ R v w') (hK : ∀ v w', R v w' → K (a.put d v) w') : if Region.wanted o (yielded ops a.tmps) = true then Oper.wp Tryz.prog o a w K Q else E := by
  rw [if_pos hw]
  subst hd
  subst hx
  unfold Oper.wp
  simp only [execOp, hop]
  go_simp
  refine hc.mono ?_
  rintro e w' ⟨v, rfl, hr⟩
  exact hK v w' hr
theorem step_nil (w : World) (hg : o.guard = none) (d : Option Tmp) (hd : o.dst = d) (hop : o.op = Op.buildSlice 35 0 #[])
    (hK : ∀ v w', Own w.heap.size w' v [] → Below w.heap.size w w' → K (a.put d v) w') : if Region.wanted o (yielded ops a.tmps) = true then Oper.wp Tryz.prog o a w K Q else E := by
  have hw : Region.wanted o (yielded ops a.tmps) = true := by simp [Region.wanted, hg]
  rw [if_pos hw]
  subst hd
  have hrun : (Instr.buildSlice 35 0 #[]).run Tryz.prog w = .ok (.slice (some ⟨w.heap.size, 0, none⟩) 0 0) (w.alloc (.cells #[] 5)) := by kernel_rfl
  unfold Oper.wp execOp
  simp only [hop, List.map_toArray, List.map_nil, Sem.run_bind, Sem.run_pure, Result.andThen_ok, hrun]
  exact hK _ _ (Own.empty w (Nat.le_refl _)) ((Below.refl _ _).alloc (Nat.le_refl _) _)
theorem step_pushs (w : World) (hg : o.guard = none) (d : Option Tmp) (hd : o.dst = d) (s x : Operand) (hop : o.op = .call { callee := .builtin .append, args := #[s, x], argTypes := #[35, 35] })
    (B : Nat) (hB : B ≤ w.heap.size) (v vy : Value) (xs ys : List Int) (hs : a.eval s = v) (hx : a.eval x = vy) (hown : Own B w v xs) (hy : Byt w vy ys) (hn : xs.length ≤ 1099511627776) (hm : ys.length ≤ 1099511627776)
    (hK : ∀ v' w', Own B w' v' (xs ++ ys) → Below B w w' → K (a.put d v') w') : if Region.wanted o (yielded ops a.tmps) = true then Oper.wp Tryz.prog o a w K Q else E := by
  have hw : Region.wanted o (yielded ops a.tmps) = true := by simp [Region.wanted, hg]
  rw [if_pos hw]
  subst hd
  obtain ⟨i0, hi, hz0, hz1, hz2⟩ := info_parts info_u8
  obtain ⟨ao, cap, rfl, h1, h2, h3, h4, h5⟩ := hy
  cases ao with
  | none =>
    have hc := h4 rfl
    subst hc
    have : ys = [] := List.eq_nil_of_length_eq_zero (by omega)
    subst this
    have hrun := run_append_owned_none (P := Tryz.prog) (w := w) B 35 o.type 5 i0 1 Tryz.underlying35 hi v xs.length _ hown
    have hx' : a.eval x = .slice none 0 0 := hx
    unfold Oper.wp
    simp [execOp, hop, resolve, invoke, builtin, hs, hx', hrun, Result.andThen]
    refine hK v w ?_ (Below.refl _ _)
    rwa [List.append_nil]
  | some ad =>
    refine wp_append_own _ s x 35 hop B 5 i0 (.int .u8 0) 1 1 Tryz.underlying35 hi hz0 hz1 hz2 rfl (by decide) v xs.length _ hs hown ad ys.length cap (ys.map (Value.int .u8)) hx (by simp) ?_ ?_ (by simp only [maxLen]; omega) (by omega) hB fun v' w' h1 h2 _ => ?_
    · intro j u hj
      have hjl : j < ys.length := by have := (List.getElem?_eq_some_iff.1 hj).1; simpa using this
      obtain ⟨b, off, e, hc⟩ := h5 (by omega)
      cases e
      rw [Addr.add_mid, hc j hjl, ← hj]
      simp [gb, List.getD, hjl]
    · intro u hu
      simp only [List.mem_map] at hu
      obtain ⟨y, _, rfl⟩ := hu
      rfl
    · refine hK v' w' ?_ ?_
      · show w'.ownsRow B 5 1 v' (xs ++ ys).length ((xs ++ ys).map (Value.int .u8))
        simpa using h1
      · exact (Below.refl B w).grown h2 hB fun k hk => (World.ownsRow.lt hown k hk).1
theorem step_newC (w : World) (hg : o.guard = none) (d : Option Tmp) (hd : o.dst = d) (t : TypeId) (hop : o.op = Op.alloc t) (cs : List Value) (hz : (Tryz.prog.info? t).map (fun i => (i.zero, i.size)) = some (some (.agg cs.toArray), cs.length))
    (hK : ∀ w', Vr w' w.heap.size cs → Below w.heap.size w w' → w.heap.size < w'.heap.size → K (a.put d (.pointer (some ⟨w.heap.size, 0, none⟩))) w') : if Region.wanted o (yielded ops a.tmps) = true then Oper.wp Tryz.prog o a w K Q else E := by
  have hw : Region.wanted o (yielded ops a.tmps) = true := by simp [Region.wanted, hg]
  rw [if_pos hw]
  subst hd
  have hz' := (zero_of_info hz).1
  unfold Oper.wp
  simp [execOp, hop, Instr.alloc, hz', newVar, newRow, Value.cells, Result.andThen]
  exact hK _ (Vr.new w t cs) ((Below.refl _ _).alloc (Nat.le_refl _) _) (by simp)
theorem step_storeC (w : World) (hg : o.guard = none) (d : Option Tmp) (hd : o.dst = d) (x y : Operand) (t : TypeId) (hop : o.op = Op.store t x y) (c : Nat) (cs0 cs : List Value) (hx : a.eval x = .pointer (some ⟨c, 0, none⟩)) (hy : a.eval y = .agg cs.toArray) (hV : Vr w c cs0) (hl : cs0.length = cs.length) (hs : (Tryz.prog.info? t).map (·.size) = some cs.length) (h1 : ∀ v ∈ cs, v.oneCell' = true)
    (hK : ∀ w', Vr w' c cs → Below c w w' → K (a.put d undef) w') : if Region.wanted o (yielded ops a.tmps) = true then Oper.wp Tryz.prog o a w K Q else E := by
  have hw : Region.wanted o (yielded ops a.tmps) = true := by simp [Region.wanted, hg]
  rw [if_pos hw]
  subst hd
  have ht : w.there c 0 cs.length := by rw [← hl]; exact hV.2
  refine wp_store_mid t x y hop c 0 cs.toArray hx hy (by simpa using ht) (by simpa using hs) (all_oneCell_toArray h1) ?_
  exact hK _ ⟨World.rangeAt_setCells_same w c 0 cs ht, World.there_setCells ht c 0 _⟩ (below_cells _ (Nat.le_refl _) _ _ (Below.refl _ _))
end
theorem cell_of4 (w : World) (a b c d : Value) (t : TypeId) (k : Nat) (v : Value) (h : ([a, b, c, d] : List Value)[k]? = some v) : (w.alloc (.cells #[a, b, c, d] t)).cell? ⟨w.heap.size, k, none⟩ = some v := by
  rw [cell_of_row (w.alloc (.cells #[a, b, c, d] t)) w.heap.size k _ t (0, 0) (heap_alloc_last w _)]
  simpa using h
theorem cell_of2 (w : World) (a b : Value) (t : TypeId) (k : Nat) (v : Value) (h : ([a, b] : List Value)[k]? = some v) : (w.alloc (.cells #[a, b] t)).cell? ⟨w.heap.size, k, none⟩ = some v := by
  rw [cell_of_row (w.alloc (.cells #[a, b] t)) w.heap.size k _ t (0, 0) (heap_alloc_last w _)]
  simpa using h
theorem cat4_any (w : World) (a b c d : Value) (x y z u : List Int) (ha : Byt w a x) (hb : Byt w b y) (hc : Byt w c z) (hd : Byt w d u) (l1 : x.length ≤ 10000) (l2 : y.length ≤ 10000) (l3 : z.length ≤ 10000) (l4 : u.length ≤ 10000) (hp : 0 < x.length) :
    Calls Tryz.prog 113 #[.slice (some ⟨w.heap.size, 0, none⟩) 4 4] (w.alloc (.cells #[a, b, c, d] 35)) fun e w' => ∃ r, e = .returned r ∧ Own w.heap.size w' r (x ++ (y ++ (z ++ u))) ∧ Below w.heap.size w w' := by
  have B0 : Below w.heap.size w (w.alloc (.cells #[a, b, c, d] 35)) := (Below.refl _ _).alloc (Nat.le_refl _) _
  have e : cats [x, y, z, u] 4 = x ++ (y ++ (z ++ u)) := by simp [cats]
  have := concat_any w.heap.size 4 (fun k => ([a, b, c, d] : List Value).getD k undef) [x, y, z, u] _ rfl (by omega) (fun k hk => by
    match k, hk with
    | 0, _ => exact ha.below B0
    | 1, _ => exact hb.below B0
    | 2, _ => exact hc.below B0
    | 3, _ => exact hd.below B0) (fun k hk => by
    have hk : k < 4 := hk
    match k, hk with
    | 0, _ => exact l1
    | 1, _ => exact l2
    | 2, _ => exact l3
    | 3, _ => exact l4) (by rw [e]; simp; omega) (fun k hk => cell_of4 w a b c d 35 k _ (by
    match k, hk with
    | 0, _ => rfl
    | 1, _ => rfl
    | 2, _ => rfl
    | 3, _ => rfl))
  rw [e] at this
  refine this.mono ?_
  rintro q w' ⟨r, rfl, o, B⟩
  exact ⟨r, rfl, own_less o B0.size, B0.trans (B.mono B0.size)⟩
theorem cat2_any (w : World) (a b : Value) (x y : List Int) (ha : Byt w a x) (hb : Byt w b y) (l1 : x.length ≤ 10000) (l2 : y.length ≤ 10000) (hp : 0 < x.length) :
    Calls Tryz.prog 113 #[.slice (some ⟨w.heap.size, 0, none⟩) 2 2] (w.alloc (.cells #[a, b] 35)) fun e w' => ∃ r, e = .returned r ∧ Own w.heap.size w' r (x ++ y) ∧ Below w.heap.size w w' := by
  have B0 : Below w.heap.size w (w.alloc (.cells #[a, b] 35)) := (Below.refl _ _).alloc (Nat.le_refl _) _
  have e : cats [x, y] 2 = x ++ y := by simp [cats]
  have := concat_any w.heap.size 2 (fun k => ([a, b] : List Value).getD k undef) [x, y] _ rfl (by omega) (fun k hk => by
    match k, hk with
    | 0, _ => exact ha.below B0
    | 1, _ => exact hb.below B0) (fun k hk => by
    have hk : k < 2 := hk
    match k, hk with
    | 0, _ => exact l1
    | 1, _ => exact l2) (by rw [e]; simp; omega) (fun k hk => cell_of2 w a b 35 k _ (by
    match k, hk with
    | 0, _ => rfl
    | 1, _ => rfl))
  rw [e] at this
  refine this.mono ?_
  rintro q w' ⟨r, rfl, o, B⟩
  exact ⟨r, rfl, own_less o B0.size, B0.trans (B.mono B0.size)⟩
end Go.Proofs.YtakibiigcdgohaaGreatDoor.he
namespace Go.Proofs.YtakibiigcdgohaaGreatDoor.he
open Go.RowKit Go.Proofs.YtakibiigcdgohaaGreatDoor.fa
set_option maxRecDepth 20000
set_option maxHeartbeats 2000000 in
theorem whole_any (v : Value) (xs : List Int) (w : World) (hb : Byt w v xs) (hl : xs.length = 88) :
    Calls Tryz.prog 130 #[v] w fun x w' => x = .returned (.bool (decide (inv (sub xs 0 24) = sub xs 24 48))) ∧ Below w.heap.size w w' := by
  have HB : Hid (Byt w v xs) := hb
  obtain ⟨ao, cap, hv⟩ := byt_form hb hl
  subst hv
  have HL : Hid (xs.length = 88) := hl
  clear hb hl
  generalize hZ : inv (sub xs 0 24) = Z
  have HZ : Hid (inv (sub xs 0 24) = Z) := hZ
  clear hZ
  go_enter Tryz.func130, Tryz.ntmps130
  go_wp2
  refine wp_region_held_drew (S := fun w' => Below w.heap.size w w') (by kernel_rfl) (Below.refl _ _).drew (fun hS => ?_)
  obtain ⟨x1, hx0⟩ : ∃ x, x = w.drew := ⟨_, rfl⟩
  rw [← hx0] at hS  ⊢
  clear hx0
  refine take_lawH 0 (some 3) (.slice ao 88 cap) rfl rfl (by kernel_rfl) (by kernel_rfl) (by kernel_rfl) (fun _ _ _ h => h) (Or.inl ⟨by rfl, fun w' hw' => by rfl⟩) hS ?_
  simp only [Act.put, List.setIfInBounds_toArray, List.set_cons_zero, List.set_cons_succ]
  refine take_lawH 1 (some 4) (sl (.slice ao 88 cap) 0 24) rfl rfl (by kernel_rfl) (by kernel_rfl) (by kernel_rfl) (fun _ _ _ h => h) (Or.inl ⟨by rfl, fun w' hw' => by exact exec_to (.tmp 3) (.const (.int .i64 24)) rfl _ xs _ HB.out 24 rfl rfl (by have := HL.out; omega) _⟩) hS ?_
  simp only [Act.put, List.setIfInBounds_toArray, List.set_cons_zero, List.set_cons_succ]
  refine take_lawH 3 (some 6) (.slice ao 88 cap) rfl rfl (by kernel_rfl) (by kernel_rfl) (by kernel_rfl) (fun _ _ _ h => h) (Or.inl ⟨by rfl, fun w' hw' => by rfl⟩) hS ?_
  simp only [Act.put, List.setIfInBounds_toArray, List.set_cons_zero, List.set_cons_succ]
  refine take_lawH 4 (some 7) (sl (.slice ao 88 cap) 24 48) rfl rfl (by kernel_rfl) (by kernel_rfl) (by kernel_rfl) (fun _ _ _ h => h) (Or.inl ⟨by rfl, fun w' hw' => by exact exec_part (.tmp 6) (.const (.int .i64 24)) (.const (.int .i64 48)) rfl _ xs _ HB.out 24 48 rfl rfl rfl (by omega) (by have := HL.out; omega) _⟩) hS ?_
  simp only [Act.put, List.setIfInBounds_toArray, List.set_cons_zero, List.set_cons_succ]
  refine wpAnyH_ready (rs := [2]) (by kernel_rfl) (by simp) ?_
  refine AllReadyH.cons rfl (fun K hK => ?_) AllReadyH.nil
  refine step_callW _ (by rfl) (some 5) rfl 142 #[.tmp 4] #[35] rfl (fun q w' => by rfl) #[sl (.slice ao 88 cap) 0 24] (by simp only [List.map_toArray, List.map_cons, List.map_nil]; rfl) (fun u w' => Byt w' u Z ∧ Below x1.heap.size x1 w') ?_ ?_
  · exact (invert_any _ _ x1 (sl_sub (HB.out.below hS) 0 24 (by omega) (by have := HL.out; omega)) (by rw [sub_len _ _ _ (by have := HL.out; omega)]; omega)).mono fun e w' ⟨u, h1, h2, h3⟩ => ⟨u, h1, by rw [HZ.out] at h2; exact h2, h3⟩
  rintro u1 x2 ⟨y1, hb⟩
  have Y1 : Hid (Byt x2 u1 Z) := y1
  clear y1
  have hS : Below w.heap.size w x2 := hS.trans (hb.mono hS.size)
  clear hb
  refine hK.out _ _ hS (fun _ => ?_)
  simp only [Act.put, List.setIfInBounds_toArray, List.set_cons_zero, List.set_cons_succ]
  clear hK K
  refine wpAnyH_ready (rs := [5]) (by kernel_rfl) (by simp) ?_
  refine AllReadyH.cons rfl (fun K hK => ?_) AllReadyH.nil
  refine step_callW _ (by rfl) (some 8) rfl 132 #[.tmp 5, .tmp 7] #[35, 35] rfl (fun q w' => by rfl) #[u1, sl (.slice ao 88 cap) 24 48] (by simp only [List.map_toArray, List.map_cons, List.map_nil]; rfl) (fun u w' => u = .bool (decide (Z = sub xs 24 48)) ∧ Below x2.heap.size x2 w') ?_ ?_
  · exact (oSame_any _ _ _ _ x2 Y1.out (sl_sub (HB.out.below hS) 24 48 (by omega) (by have := HL.out; omega))).mono fun e w' ⟨h1, n, h2⟩ => ⟨_, h1, rfl, by rw [h2]; exact below_drawn (Below.refl _ _) n⟩
  rintro _ x3 ⟨rfl, hb⟩
  have hS : Below w.heap.size w x3 := hS.trans (hb.mono hS.size)
  clear hb
  refine hK.out _ _ hS (fun _ => ?_)
  simp only [Act.put, List.setIfInBounds_toArray, List.set_cons_zero, List.set_cons_succ]
  clear hK K
  refine take_lawH 6 (some 2) (.bool (decide (Z = sub xs 24 48))) rfl rfl (by kernel_rfl) (by kernel_rfl) (by kernel_rfl) (fun _ _ _ h => h) (Or.inl ⟨by rfl, fun w' hw' => by rfl⟩) hS ?_
  simp only [Act.put, List.setIfInBounds_toArray, List.set_cons_zero, List.set_cons_succ]
  refine wpAnyH_done (by kernel_rfl) ?_ _
  go_wp2
  go_ret
  exact ⟨rfl, hS⟩
set_option maxHeartbeats 2000000 in
theorem comm_yes (v : Value) (xs : List Int) (w : World) (hb : Byt w v xs) (hl : xs.length = 88) :
    Calls Tryz.prog 101 #[v] w fun x w' => x = .returned (.bool (decide (xs.drop 80 = List.replicate 8 0))) ∧ Below w.heap.size w w' := by
  have HB : Hid (Byt w v xs) := hb
  obtain ⟨ao, cap, hv⟩ := byt_form hb hl
  subst hv
  have HL : Hid (xs.length = 88) := hl
  clear hb hl
  have SF : Hid (∀ w, Calls Tryz.prog 114 #[.int .u8 0, .int .i64 8] w fun e w' => ∃ v, e = .returned v ∧ Byt w' v (List.replicate 8 0) ∧ Below w.heap.size w w') := fun w => by
    have := fill_any 0 8 w (by omega)
    rw [show clamp 8 65536 = 8 by decide] at this
    exact this
  have HD : Hid (∀ w', Byt w' (.slice ao 88 cap) xs → Byt w' (sl (.slice ao 88 cap) 80 88) (xs.drop 80)) := fun w' h => by
    have := sl_from h 80 (by have := HL.out; omega)
    rw [HL.out] at this
    exact this
  generalize List.replicate 8 (0 : Int) = Z at *
  generalize xs.drop 80 = D at *
  go_enter Tryz.func101, Tryz.ntmps101
  go_wp2
  refine wp_region_held_drew (S := fun w' => Below w.heap.size w w') (by kernel_rfl) (Below.refl _ _).drew (fun hS => ?_)
  obtain ⟨x1, hx0⟩ : ∃ x, x = w.drew := ⟨_, rfl⟩
  rw [← hx0] at hS  ⊢
  clear hx0
  refine take_lawH 0 (some 3) (.slice ao 88 cap) rfl rfl (by kernel_rfl) (by kernel_rfl) (by kernel_rfl) (fun _ _ _ h => h) (Or.inl ⟨by rfl, fun w' hw' => by rfl⟩) hS ?_
  simp only [Act.put, List.setIfInBounds_toArray, List.set_cons_zero, List.set_cons_succ]
  refine take_lawH 1 (some 4) (.int .i64 88) rfl rfl (by kernel_rfl) (by kernel_rfl) (by kernel_rfl) (fun _ _ _ h => h) (Or.inl ⟨by rfl, fun w' hw' => by go_simp⟩) hS ?_
  simp only [Act.put, List.setIfInBounds_toArray, List.set_cons_zero, List.set_cons_succ]
  refine take_lawH 2 (some 5) (.bool true) rfl rfl (by kernel_rfl) (by kernel_rfl) (by kernel_rfl) (fun _ _ _ h => h) (Or.inl ⟨by rfl, fun w' hw' => by go_simp⟩) hS ?_
  simp only [Act.put, List.setIfInBounds_toArray, List.set_cons_zero, List.set_cons_succ]
  refine take_lawH 3 (some 6) (.bool true) rfl rfl (by kernel_rfl) (by kernel_rfl) (by kernel_rfl) (fun _ _ _ h => h) (Or.inl ⟨by rfl, fun w' hw' => by rfl⟩) hS ?_
  simp only [Act.put, List.setIfInBounds_toArray, List.set_cons_zero, List.set_cons_succ]
  refine take_lawH 4 (some 7) (.slice ao 88 cap) rfl rfl (by kernel_rfl) (by kernel_rfl) (by kernel_rfl) (fun _ _ _ h => h) (Or.inl ⟨by rfl, fun w' hw' => by rfl⟩) hS ?_
  simp only [Act.put, List.setIfInBounds_toArray, List.set_cons_zero, List.set_cons_succ]
  refine take_lawH 5 (some 8) (sl (.slice ao 88 cap) 80 88) rfl rfl (by kernel_rfl) (by kernel_rfl) (by kernel_rfl) (fun _ _ _ h => h) (Or.inl ⟨by rfl, fun w' hw' => by exact exec_from (.tmp 7) (.const (.int .i64 80)) rfl _ xs _ HB.out 80 88 rfl rfl HL.out (by omega) _⟩) hS ?_
  simp only [Act.put, List.setIfInBounds_toArray, List.set_cons_zero, List.set_cons_succ]
  refine wpAnyH_ready (rs := [6]) (by kernel_rfl) (by simp) ?_
  refine AllReadyH.cons rfl (fun K hK => ?_) AllReadyH.nil
  refine step_callW _ (by rfl) (some 9) rfl 114 #[.const (.int .u8 0), .const (.int .i64 8)] #[5, 3] rfl (fun q w' => by rfl) #[.int .u8 0, .int .i64 8] (by simp only [List.map_toArray, List.map_cons, List.map_nil]; rfl) (fun u w' => Byt w' u Z ∧ Below x1.heap.size x1 w') ?_ ?_
  · exact SF.out x1
  rintro u1 x2 ⟨y1, hb⟩
  have Y1 : Hid (Byt x2 u1 Z) := y1
  clear y1
  have hS : Below w.heap.size w x2 := hS.trans (hb.mono hS.size)
  clear hb
  refine hK.out _ _ hS (fun _ => ?_)
  simp only [Act.put, List.setIfInBounds_toArray, List.set_cons_zero, List.set_cons_succ]
  clear hK K
  refine wpAnyH_ready (rs := [7]) (by kernel_rfl) (by simp) ?_
  refine AllReadyH.cons rfl (fun K hK => ?_) AllReadyH.nil
  refine step_callW _ (by rfl) (some 10) rfl 132 #[.tmp 8, .tmp 9] #[35, 35] rfl (fun q w' => by rfl) #[sl (.slice ao 88 cap) 80 88, u1] (by simp only [List.map_toArray, List.map_cons, List.map_nil]; rfl) (fun u w' => u = .bool (decide (D = Z)) ∧ Below x2.heap.size x2 w') ?_ ?_
  · exact (oSame_any _ _ _ _ x2 (HD.out _ (HB.out.below hS)) Y1.out).mono fun e w' ⟨h1, n, h2⟩ => ⟨_, h1, rfl, by rw [h2]; exact below_drawn (Below.refl _ _) n⟩
  rintro _ x3 ⟨rfl, hb⟩
  have hS : Below w.heap.size w x3 := hS.trans (hb.mono hS.size)
  clear hb
  refine hK.out _ _ hS (fun _ => ?_)
  simp only [Act.put, List.setIfInBounds_toArray, List.set_cons_zero, List.set_cons_succ]
  clear hK K
  refine take_lawH 8 (some 11) (.bool (decide (D = Z))) rfl rfl (by kernel_rfl) (by kernel_rfl) (by kernel_rfl) (fun _ _ _ h => h) (Or.inl ⟨by rfl, fun w' hw' => by rfl⟩) hS ?_
  simp only [Act.put, List.setIfInBounds_toArray, List.set_cons_zero, List.set_cons_succ]
  refine take_lawH 9 (some 2) (.bool (decide (D = Z))) rfl rfl (by kernel_rfl) (by kernel_rfl) (by kernel_rfl) (fun _ _ _ h => h) (Or.inl ⟨by rfl, fun w' hw' => by rfl⟩) hS ?_
  simp only [Act.put, List.setIfInBounds_toArray, List.set_cons_zero, List.set_cons_succ]
  refine wpAnyH_done (by kernel_rfl) ?_ _
  go_wp2
  go_ret
  exact ⟨rfl, hS⟩
set_option maxHeartbeats 2000000 in
theorem mark_yes (n : Nat) (w : World) (h1 : 88 ≤ n) (h2 : n ≤ 4184) : Calls Tryz.prog 91 #[.int .i64 (n : Int)] w fun x w' => ∃ v, x = .returned v ∧ Own w.heap.size w' v (mark n) ∧ Below w.heap.size w w' := by
  have a1 : ¬ (n : Int) < 88 := by omega
  have a2 : ¬ (n : Int) > 4184 := by omega
  obtain ⟨k, hk⟩ : ∃ k : Nat, n = k + 8 := ⟨n - 8, by omega⟩
  have e : mark n = List.replicate k 255 ++ List.replicate 8 0 := by unfold mark; rw [hk, Nat.add_sub_cancel]
  have k1 : IntKind.i64.wrap ((n : Int) - 8) = (k : Int) := by rw [IntKind.wrap_i64]; omega
  have S1 : Hid (∀ w, Calls Tryz.prog 114 #[.int .u8 255, .int .i64 (k : Int)] w fun e w' => ∃ v, e = .returned v ∧ Byt w' v (List.replicate k 255) ∧ Below w.heap.size w w') := fun w => by
    have := fill_any 255 (k : Int) w (by omega)
    rw [show clamp (k : Int) 65536 = k by unfold clamp; omega] at this
    exact this
  have S2 : Hid (∀ w, Calls Tryz.prog 114 #[.int .u8 0, .int .i64 8] w fun e w' => ∃ v, e = .returned v ∧ Byt w' v (List.replicate 8 0) ∧ Below w.heap.size w w') := fun w => by
    have := fill_any 0 8 w (by omega)
    rw [show clamp 8 65536 = 8 by decide] at this
    exact this
  have L1 : Hid ((List.replicate k (255 : Int)).length = k ∧ (List.replicate 8 (0 : Int)).length = 8 ∧ 80 ≤ k ∧ k ≤ 4176) := ⟨by simp, by simp, by omega, by omega⟩
  rw [e]
  generalize List.replicate k (255 : Int) = X at *
  generalize List.replicate 8 (0 : Int) = Y at *
  clear e hk h1 h2
  have t0 : (0 : Nat) = 0 := rfl
  go_enter Tryz.func91, Tryz.ntmps91
  go_wp2_with (first
    | (have q2 := t2; go_at_call 113; refine (cat2_any _ _ _ X Y (Y1.out.below B2) Y2.out (by have := L1.out; omega) (by have := L1.out; omega) (by have := L1.out; omega)).mono ?_; rintro e9 w3 ⟨r, rfl, o3, B3⟩; have O3 : Hid (Own w2.heap.size w3 r (X ++ Y)) := o3; clear o3 t2)
    | (have q1 := t1; go_at_call 114; refine (S2.out _).mono ?_; rintro e9 w2 ⟨v2, rfl, y2, B2⟩; have Y2 : Hid (Byt w2 v2 Y) := y2; obtain ⟨bo, bc, rfl⟩ := byt_form y2 L1.out.2.1; clear y2 t1; have t2 : (0 : Nat) = 0 := rfl)
    | (have q0 := t0; go_at_call 114; refine (S1.out _).mono ?_; rintro e9 w1 ⟨v1, rfl, y1, B1⟩; have Y1 : Hid (Byt w1 v1 X) := y1; obtain ⟨ao, ac, rfl⟩ := byt_form y1 L1.out.1; clear y1 t0; have t1 : (0 : Nat) = 0 := rfl))
  go_ret
  have z1 := B1.size
  have z2 := B2.size
  exact ⟨_, rfl, own_less O3.out (by omega), (B1.trans (B2.mono z1)).trans (B3.mono (by omega))⟩
def tgo (tag : List Int) : List Int := if tag.length = 0 then List.replicate 32 255 else tag
theorem tgo_len {tag : List Int} (h : tag.length = 0 ∨ tag.length = 32) : (tgo tag).length = 32 := by
  unfold tgo
  split
  · simp
  · omega
theorem tgo_all {tag : List Int} (h : AllB tag) : AllB (tgo tag) := by
  unfold tgo
  split
  · exact allB_replicate 255 32 (by omega)
  · exact h
set_option maxHeartbeats 4000000 in
theorem end_tag (k n c l e t : Int) (v : Value) (tag : List Int) (w : World) (hb' : Byt w v tag) (hl : 0 ≤ l ∧ l ≤ 4294967295) (he : 0 ≤ e ∧ e ≤ 18446744073709551615) (ht : 0 ≤ t ∧ t ≤ 18446744073709551615) (hT : Tab w) (hr : Rh k n c) (h32 : tag.length = 32) :
    Calls Tryz.prog 115 #[.agg (hv k n c l e t).toArray, v] w fun x w' => ∃ v, x = .returned (.tuple #[v, .int .i64 0]) ∧ Own w.heap.size w' v (hend (hb k n c l e t) (tgo tag) (List.replicate 8 255)) ∧ Below w.heap.size w w' := by
  have hn : tag.length = 0 ∨ tag.length = 32 := .inr h32
  have SB : Hid (∀ w', Below w.heap.size w w' → Calls Tryz.prog 141 #[.agg (hv k n c l e t).toArray] w' fun x w'' => ∃ v, x = .returned (.tuple #[v, .int .i64 0]) ∧ Own w'.heap.size w'' v (hb k n c l e t) ∧ Below w'.heap.size w' w'') := fun w' q => hbytes_yes k n c l e t w' hr hl he ht (hT.below q)
  have SM : Hid (∀ w, Calls Tryz.prog 114 #[.int .u8 255, .int .i64 8] w fun e w' => ∃ v, e = .returned v ∧ Byt w' v (List.replicate 8 255) ∧ Below w.heap.size w w') := fun w => by
    have := fill_any 255 8 w (by omega)
    rw [show clamp 8 65536 = 8 by decide] at this
    exact this
  have AZ : Hid (AllB (hb k n c l e t)) := hb_all hr l e t
  have LN : Hid ((hb k n c l e t).length = 24 ∧ (inv (hb k n c l e t)).length = 24 ∧ (tgo tag).length = 32 ∧ (List.replicate 8 (255 : Int)).length = 8) := ⟨hb_len _ _ _ _ _ _, by rw [inv_len, hb_len], tgo_len hn, by simp⟩
  have eT : tgo tag = tag := by unfold tgo; rw [if_neg (by omega)]
  have HB0 : Hid (∀ w', Below w.heap.size w w' → Byt w' v (tgo tag)) := fun w' q => by rw [eT]; exact hb'.below q
  obtain ⟨ao, cap, rfl⟩ := byt_form hb' h32
  unfold hend
  generalize hb k n c l e t = Z at *
  generalize tgo tag = TG at *
  generalize List.replicate 8 (255 : Int) = M8 at *
  clear hb' hn hr hT hl he ht eT h32
  have t0 : (0 : Nat) = 0 := rfl
  go_enter Tryz.func115, Tryz.ntmps115
  go_wp2_with (first
      | (have q5 := t5; go_at_call 113; refine (cat4_any _ _ _ _ _ Z (inv Z) TG M8 (((O2.out.byt AZ.out).below B3).below B4) (Y3.out.below B4) (YT.out.below (B3.trans (B4.mono B3.size))) Y4.out (by have := LN.out; omega) (by have := LN.out; omega) (by have := LN.out; omega) (by have := LN.out; omega) (by have := LN.out; omega)).mono ?_; rintro e9 w5 ⟨r, rfl, o5, B5⟩; have O5 : Hid (Own w4.heap.size w5 r (Z ++ (inv Z ++ (TG ++ M8)))) := o5; clear o5 t5)
      | (have q4 := t4; go_at_call 114; refine (SM.out _).mono ?_; rintro e9 w4 ⟨v4, rfl, y4, B4⟩; have Y4 : Hid (Byt w4 v4 M8) := y4; obtain ⟨do4, dc, rfl⟩ := byt_form y4 LN.out.2.2.2; clear y4 t4; have t5 : (0 : Nat) = 0 := rfl)
      | (have q3 := t3; go_at_call 142; refine (invert_any _ Z _ YZ.out (by have := LN.out; omega)).mono ?_; rintro e9 w3 ⟨v3, rfl, y3, B3⟩; have Y3 : Hid (Byt w3 v3 (inv Z)) := y3; obtain ⟨io, ic, rfl⟩ := byt_form y3 LN.out.2.1; clear y3 t3; have t4 : (0 : Nat) = 0 := rfl)
      | (have q2 := t2; go_at_call 141; refine (SB.out _ B1).mono ?_; rintro e9 w2 ⟨v2, rfl, o2, B2⟩; have O2 : Hid (Own w1.heap.size w2 v2 Z) := o2; have C2 : Hid (Below w.heap.size w w2) := B1.trans (B2.mono B1.size); have YZ : Hid (Byt w2 v2 Z) := o2.byt AZ.out; obtain ⟨zo, zc, rfl⟩ := byt_form YZ.out LN.out.1; have YT : Hid (Byt w2 (.slice ao 32 cap) TG) := HB0.out _ C2.out; clear o2 t2; have t3 : (0 : Nat) = 0 := rfl)
      | (have q1 := t1; refine load_lawC _ rfl (hv k n c l e t) w.heap.size 0 rfl HV.out.1 rowy_head ?_; clear t1; have t2 : (0 : Nat) = 0 := rfl)
      | (have q0 := t0; refine box_lawC _ (hv k n c l e t) rfl ?_; intro w1 V1 B1 s1; have HV : Hid (Vr w1 w.heap.size (hv k n c l e t)) := V1; clear V1 t0; have t1 : (0 : Nat) = 0 := rfl))
  go_ret2
  have z1 := B1.size
  have z2 := B2.size
  have z3 := B3.size
  have z4 := B4.size
  exact ⟨_, rfl, own_less O5.out (by omega), ((C2.out.trans (B3.mono (by omega))).trans (B4.mono (by omega))).trans (B5.mono (by omega))⟩
set_option maxHeartbeats 4000000 in
theorem end_nil (k n c l e t : Int) (v : Value) (tag : List Int) (w : World) (hb' : Byt w v tag) (hl : 0 ≤ l ∧ l ≤ 4294967295) (he : 0 ≤ e ∧ e ≤ 18446744073709551615) (ht : 0 ≤ t ∧ t ≤ 18446744073709551615) (hT : Tab w) (hr : Rh k n c) (h0 : tag.length = 0) :
    Calls Tryz.prog 115 #[.agg (hv k n c l e t).toArray, v] w fun x w' => ∃ v, x = .returned (.tuple #[v, .int .i64 0]) ∧ Own w.heap.size w' v (hend (hb k n c l e t) (tgo tag) (List.replicate 8 255)) ∧ Below w.heap.size w w' := by
  have hn : tag.length = 0 ∨ tag.length = 32 := .inl h0
  have SB : Hid (∀ w', Below w.heap.size w w' → Calls Tryz.prog 141 #[.agg (hv k n c l e t).toArray] w' fun x w'' => ∃ v, x = .returned (.tuple #[v, .int .i64 0]) ∧ Own w'.heap.size w'' v (hb k n c l e t) ∧ Below w'.heap.size w' w'') := fun w' q => hbytes_yes k n c l e t w' hr hl he ht (hT.below q)
  have SM : Hid (∀ w, Calls Tryz.prog 114 #[.int .u8 255, .int .i64 8] w fun e w' => ∃ v, e = .returned v ∧ Byt w' v (List.replicate 8 255) ∧ Below w.heap.size w w') := fun w => by
    have := fill_any 255 8 w (by omega)
    rw [show clamp 8 65536 = 8 by decide] at this
    exact this
  have AZ : Hid (AllB (hb k n c l e t)) := hb_all hr l e t
  have LN : Hid ((hb k n c l e t).length = 24 ∧ (inv (hb k n c l e t)).length = 24 ∧ (tgo tag).length = 32 ∧ (List.replicate 8 (255 : Int)).length = 8) := ⟨hb_len _ _ _ _ _ _, by rw [inv_len, hb_len], tgo_len hn, by simp⟩
  have eT : tgo tag = List.replicate 32 255 := by unfold tgo; rw [if_pos h0]
  have SF : Hid (∀ w, Calls Tryz.prog 114 #[.int .u8 255, .int .i64 32] w fun e w' => ∃ v, e = .returned v ∧ Byt w' v (tgo tag) ∧ Below w.heap.size w w') := fun w => by
    have := fill_any 255 32 w (by omega)
    rw [show clamp 32 65536 = 32 by decide] at this
    rw [eT]; exact this
  obtain ⟨ao, cap, rfl⟩ := byt_form hb' h0
  unfold hend
  generalize hb k n c l e t = Z at *
  generalize tgo tag = TG at *
  generalize List.replicate 8 (255 : Int) = M8 at *
  clear hb' hn hr hT hl he ht eT h0
  have t0 : (0 : Nat) = 0 := rfl
  go_enter Tryz.func115, Tryz.ntmps115
  go_wp2_with (first
      | (have q5 := t5; go_at_call 113; refine (cat4_any _ _ _ _ _ Z (inv Z) TG M8 (((O2.out.byt AZ.out).below B3).below B4) (Y3.out.below B4) (YT.out.below (B3.trans (B4.mono B3.size))) Y4.out (by have := LN.out; omega) (by have := LN.out; omega) (by have := LN.out; omega) (by have := LN.out; omega) (by have := LN.out; omega)).mono ?_; rintro e9 w5 ⟨r, rfl, o5, B5⟩; have O5 : Hid (Own w4.heap.size w5 r (Z ++ (inv Z ++ (TG ++ M8)))) := o5; clear o5 t5)
      | (have q4 := t4; go_at_call 114; refine (SM.out _).mono ?_; rintro e9 w4 ⟨v4, rfl, y4, B4⟩; have Y4 : Hid (Byt w4 v4 M8) := y4; obtain ⟨do4, dc, rfl⟩ := byt_form y4 LN.out.2.2.2; clear y4 t4; have t5 : (0 : Nat) = 0 := rfl)
      | (have q3 := t3; go_at_call 142; refine (invert_any _ Z _ YZ.out (by have := LN.out; omega)).mono ?_; rintro e9 w3 ⟨v3, rfl, y3, B3⟩; have Y3 : Hid (Byt w3 v3 (inv Z)) := y3; obtain ⟨io, ic, rfl⟩ := byt_form y3 LN.out.2.1; clear y3 t3; have t4 : (0 : Nat) = 0 := rfl)
      | (have q2 := t2b; go_at_call 114; refine (SF.out _).mono ?_; rintro e9 w2 ⟨v2, rfl, y2, B2⟩; have YT : Hid (Byt w2 v2 TG) := y2; have O2 : Hid (Own w1.heap.size w2 (.slice zo 24 zc) Z) := own_low O2a.out B2; have C2 : Hid (Below w.heap.size w w2) := C2a.out.trans (B2.mono C2a.out.size); have YZ : Hid (Byt w2 (.slice zo 24 zc) Z) := O2.out.byt AZ.out; obtain ⟨tq, tc, rfl⟩ := byt_form y2 LN.out.2.2.1; clear y2 t2b; have t3 : (0 : Nat) = 0 := rfl)
      | (have q2 := t2; go_at_call 141; refine (SB.out _ B1).mono ?_; rintro e9 w2a ⟨v2, rfl, o2, B2a⟩; have O2a : Hid (Own w1.heap.size w2a v2 Z) := o2; have C2a : Hid (Below w.heap.size w w2a) := B1.trans (B2a.mono B1.size); have z2a := B2a.size; obtain ⟨zo, zc, rfl⟩ := byt_form (o2.byt AZ.out) LN.out.1; clear o2 t2; have t2b : (0 : Nat) = 0 := rfl)
      | (have q1 := t1; refine load_lawC _ rfl (hv k n c l e t) w.heap.size 0 rfl HV.out.1 rowy_head ?_; clear t1; have t2 : (0 : Nat) = 0 := rfl)
      | (have q0 := t0; refine box_lawC _ (hv k n c l e t) rfl ?_; intro w1 V1 B1 s1; have HV : Hid (Vr w1 w.heap.size (hv k n c l e t)) := V1; clear V1 t0; have t1 : (0 : Nat) = 0 := rfl))
  go_ret2
  have z1 := B1.size
  have z2 := B2.size
  have z3 := B3.size
  have z4 := B4.size
  exact ⟨_, rfl, own_less O5.out (by omega), ((C2.out.trans (B3.mono (by omega))).trans (B4.mono (by omega))).trans (B5.mono (by omega))⟩
theorem end_yes (k n c l e t : Int) (v : Value) (tag : List Int) (w : World) (hb' : Byt w v tag) (hl : 0 ≤ l ∧ l ≤ 4294967295) (he : 0 ≤ e ∧ e ≤ 18446744073709551615) (ht : 0 ≤ t ∧ t ≤ 18446744073709551615) (hT : Tab w) (hr : Rh k n c) (hn : tag.length = 0 ∨ tag.length = 32) :
    Calls Tryz.prog 115 #[.agg (hv k n c l e t).toArray, v] w fun x w' => ∃ v, x = .returned (.tuple #[v, .int .i64 0]) ∧ Own w.heap.size w' v (hend (hb k n c l e t) (tgo tag) (List.replicate 8 255)) ∧ Below w.heap.size w w' := by
  rcases hn with q | q
  · exact end_nil k n c l e t v tag w hb' hl he ht hT hr q
  · exact end_tag k n c l e t v tag w hb' hl he ht hT hr q
end Go.Proofs.YtakibiigcdgohaaGreatDoor.he
