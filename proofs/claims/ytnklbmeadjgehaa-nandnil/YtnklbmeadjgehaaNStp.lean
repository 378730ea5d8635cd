/- One law a kind of operation, over structs and slices of structs, where the order is the text's and where it is drawn. No claim of its own. -/
import Derived.Test.YtnklbmeadjgehaaNLay
import Derived.ArgAppend
namespace Go.Proofs.Ytnklbmeadjgehaa.na
open Go.RowKit Go.Proofs.Ytnklbmeadjgehaa.fa
set_option maxRecDepth 20000

/-- a type of one cell -/
def One (t : TypeId) : Prop := (∃ d, Try.prog.underlying t = some d ∧ d.isRow = false) ∧ (Try.prog.info? t).map (·.size) = some 1
theorem one_int : One 3 := ⟨⟨_, Try.underlying3, rfl⟩, by kernel_rfl⟩
theorem one_bool : One 4 := ⟨⟨_, Try.underlying4, rfl⟩, by kernel_rfl⟩
theorem one_bytes : One 53 := ⟨⟨_, Try.underlying53, rfl⟩, by kernel_rfl⟩
theorem one_errno : One 29 := ⟨⟨_, Try.underlying29, rfl⟩, by kernel_rfl⟩
theorem one_faults : One 24 := ⟨⟨_, Try.underlying24, rfl⟩, by kernel_rfl⟩
theorem one_oprs : One 61 := ⟨⟨_, Try.underlying61, rfl⟩, by kernel_rfl⟩
theorem one_states : One 78 := ⟨⟨_, Try.underlying78, rfl⟩, by kernel_rfl⟩
theorem one_ints : One 48 := ⟨⟨_, Try.underlying48, rfl⟩, by kernel_rfl⟩
theorem one_pages : One 47 := ⟨⟨_, Try.underlying47, rfl⟩, by kernel_rfl⟩
theorem one_blks : One 36 := ⟨⟨_, Try.underlying36, rfl⟩, by kernel_rfl⟩
theorem rowy_geo : Rowy 23 6 := ⟨⟨_, Try.underlying23, rfl⟩, by kernel_rfl⟩
theorem rowy_place : Rowy 43 2 := ⟨⟨_, Try.underlying43, rfl⟩, by kernel_rfl⟩
theorem rowy_op : Rowy 64 5 := ⟨⟨_, Try.underlying64, rfl⟩, by kernel_rfl⟩
theorem rowy_state : Rowy 84 3 := ⟨⟨_, Try.underlying84, rfl⟩, by kernel_rfl⟩
theorem rowy_chip : Rowy 80 11 := ⟨⟨_, Try.underlying80, rfl⟩, by kernel_rfl⟩
theorem rowy_deed : Rowy 99 2 := ⟨⟨_, Try.underlying99, rfl⟩, by kernel_rfl⟩
theorem rowy_blk : Rowy 50 5 := ⟨⟨_, Try.underlying50, rfl⟩, by kernel_rfl⟩
theorem rowy_chipR : Rowy 38 10 := ⟨⟨_, Try.underlying38, rfl⟩, by kernel_rfl⟩
theorem rowy_step : Rowy 45 5 := ⟨⟨_, Try.underlying45, rfl⟩, by kernel_rfl⟩
theorem rowy_case : Rowy 27 8 := ⟨⟨_, Try.underlying27, rfl⟩, by kernel_rfl⟩

/-- one cell is read -/
theorem load_one {t : TypeId} (ht : One t) {w : World} {b p : Nat} {v : Value} (h : w.cell? ⟨b, p, none⟩ = some v) : (Instr.loadAt t (.pointer (some ⟨b, p, none⟩))).run Try.prog w = .ok v w := by
  obtain ⟨⟨d, hd, hr⟩, -⟩ := ht
  have : (loadVar t ⟨b, p, none⟩).run Try.prog w = .ok v w := by
    cases d <;> first | (simp [TypeDesc.isRow] at hr; done) | simp [loadVar, isAgg, run_underlying hd, h]
  simp only [Instr.loadAt, Instr.sureAddr, Sem.run_bind, Sem.run_pure, Result.andThen_ok, this]

/-- 'append(s, x...)', s of the call's own: in place, or in a new row -/
theorem run_appT (w : World) {t ty e : TypeId} {z : Value} {k m0 : Nat} (hu : Try.prog.underlying t = some (.slice e)) (hi : (Try.prog.info? e).map (fun i => (i.zero, i.size, i.bytes)) = some (some z, k, m0)) (hz : z.cells.size = k) (hk : 0 < k)
    (v vy : Value) (es ys : List (List Value)) (hown : OwR 0 w v e k es) (hy : Rws w vy k ys) (h1 : ∀ u ∈ ys.flatten, u.oneCell' = true) (hn : es.length + ys.length ≤ 9223372036854775807) (hm : (es.length + ys.length) * m0 ≤ 140737488355328) (hp : 0 < ys.length) :
    ∃ v' w', (Builtin.append_ #[t, t] ty #[v, vy]).run Try.prog w = .ok v' w' ∧ OwR 0 w' v' e k (es ++ ys) ∧ w.grownBy w' v.ownBlock ∧ (v'.ownBlock = v.ownBlock ∨ ∃ k, v'.ownBlock = some k ∧ w.heap.size ≤ k) := by
  obtain ⟨i0, hi0, hz0, hz1, hz2⟩ := info_parts hi
  have hell : ∀ t, t < (es ++ ys).length → (el (es ++ ys) t).length = k := fun t ht => by
    rw [List.length_append] at ht
    obtain ⟨_, _, _, _, _, _, q4, _⟩ := hy
    rw [el_app]
    split
    · rename_i h; exact hown.2 t h
    · exact q4 _ (by omega)
  obtain ⟨ao, cap, rfl, q1, q2, q3, q4, q5⟩ := hy
  obtain ⟨b, off, rfl, hc⟩ := q5 hp
  have hnews : ∀ j u, ys.flatten[j]? = some u → w.cell? ((⟨b, off, none⟩ : Addr).add j) = some u := fun j u hj => by
    have hjl : j < ys.length * k := by rw [← flat_len q4]; exact (List.getElem?_eq_some_iff.1 hj).1
    have ej : j = j / k * k + j % k := by rw [Nat.mul_comm]; exact (Nat.div_add_mod j k).symm
    have ht : j / k < ys.length := (Nat.div_lt_iff_lt_mul hk).2 hjl
    have hmod : j % k < k := Nat.mod_lt _ hk
    rw [ej, flat_get q4 (j / k) (j % k) ht hmod] at hj
    have := hc (j / k) ht (j % k) u hj
    rw [Addr.add_mid, show off + j = off + j / k * k + j % k by omega]
    exact this
  have hb1 : es.length + ys.length ≤ maxLen := by simp only [maxLen]; omega
  have fin : ∀ v' w', w'.ownsRow 0 e k v' (es.length + ys.length) (es.flatten ++ ys.flatten) → OwR 0 w' v' e k (es ++ ys) := fun v' w' h => ⟨by rw [List.length_append, List.flatten_append]; exact h, hell⟩
  rcases hown.1.2 with ⟨rfl, hn0⟩ | ⟨gg, cp, cur, rfl, hbg, hg, hnc, hcm, hcs, htake⟩
  · have he : es = [] := List.eq_nil_of_length_eq_zero hn0
    subst he
    obtain ⟨v', w', hrun, r1, r2, r3⟩ := run_append_own (P := Try.prog) w w.heap.size t ty e i0 z k m0 hu hi0 hz0 hz1 hz2 hz hk (.slice none 0 0) 0 [] (World.ownsRow_nil w _ e k) ⟨b, off, none⟩ ys.length cap ys.flatten (flat_len q4) hnews h1 (by simpa using hb1) (by simpa using hm) (Nat.le_refl _)
    refine ⟨v', w', hrun, fin v' w' ?_, r2, ?_⟩
    · obtain ⟨a1, a2⟩ := r1
      refine ⟨by simpa using a1, ?_⟩
      rcases a2 with ⟨e1, e2⟩ | ⟨g', c', u', e1, e2, e3⟩
      · exact Or.inl ⟨e1, by simpa using e2⟩
      · exact Or.inr ⟨g', c', u', by simpa using e1, Nat.zero_le _, by simpa using e3⟩
    · have hlt := r1.lt
      cases hv : v'.ownBlock with
      | none => exact Or.inl rfl
      | some kk => exact Or.inr ⟨kk, rfl, (hlt kk hv).1⟩
  · by_cases hroom : es.length + ys.length ≤ cp
    · obtain ⟨v', w', hrun, r1, r2, r3⟩ := run_append_own (P := Try.prog) w 0 t ty e i0 z k m0 hu hi0 hz0 hz1 hz2 hz hk _ es.length es.flatten hown.1 ⟨b, off, none⟩ ys.length cap ys.flatten (flat_len q4) hnews h1 hb1 hm (Nat.zero_le _)
      have hr2 := run_append_room (P := Try.prog) w t ty e i0 hu hi0 gg es.length cp cur hg ⟨b, off, none⟩ ys.length cap ys.flatten (by rw [hz1]; exact flat_len q4) hnews h1 hroom (by
        rw [hz1, flat_len q4, hcs, ← Nat.add_mul]
        exact Nat.mul_le_mul_right k hroom)
      rw [hr2] at hrun
      injection hrun with e1 e2
      refine ⟨v', w', by rw [hr2, e1, e2], fin v' w' r1, r2, Or.inl ?_⟩
      rw [← e1]; rfl
    · obtain ⟨v', w', hrun, r1, r2⟩ := run_append_arg_grows (P := Try.prog) w t ty e i0 z k m0 hu hi0 hz0 hz1 hz2 hz hk ⟨gg, 0, none⟩ es.length cp es.flatten (flat_len hown.2) (fun j u hj => hown.1.cells rfl j u hj) ⟨b, off, none⟩ ys.length cap ys.flatten (flat_len q4) hnews (by omega) hb1 hm
      refine ⟨v', w', hrun, fin v' w' ?_, ⟨r2.os, r2.tape, r2.output, r2.size, fun j hj _ => r2.block j hj (by simp)⟩, ?_⟩
      · obtain ⟨a1, a2⟩ := r1
        refine ⟨a1, ?_⟩
        rcases a2 with e1 | ⟨g', c', u', e1, e2, e3⟩
        · exact Or.inl e1
        · exact Or.inr ⟨g', c', u', e1, Nat.zero_le _, e3⟩
      · have hlt := r1.lt
        rcases r1.2 with ⟨rfl, e2⟩ | ⟨g', c', u', rfl, e2, e3⟩
        · omega
        · exact Or.inr ⟨g', rfl, e2⟩

section
variable {ops : Array Oper} {o : Oper} {a : Act} {Q : Exit → Act → World → Prop} {K : Act → World → Prop} {E : Prop}
theorem step_appT (w : World) (hg : o.guard = none) (d : Option Tmp) (hd : o.dst = d) (s x : Operand) (t e : TypeId) (hop : o.op = .call { callee := .builtin .append, args := #[s, x], argTypes := #[t, t] })
    (hu : Try.prog.underlying t = some (.slice e)) (z : Value) (k m0 : Nat) (hi : (Try.prog.info? e).map (fun i => (i.zero, i.size, i.bytes)) = some (some z, k, m0)) (hz : z.cells.size = k) (hk : 0 < k)
    (v vy : Value) (es ys : List (List Value)) (hs : a.eval s = v) (hx : a.eval x = vy) (hown : OwR 0 w v e k es) (hy : Rws w vy k ys) (h1 : ∀ u ∈ ys.flatten, u.oneCell' = true) (hn : es.length + ys.length ≤ 9223372036854775807) (hm : (es.length + ys.length) * m0 ≤ 140737488355328) (hp : 0 < ys.length)
    (hK : ∀ v' w', OwR 0 w' v' e k (es ++ ys) → w.grownBy w' v.ownBlock → (v'.ownBlock = v.ownBlock ∨ ∃ k, v'.ownBlock = some k ∧ w.heap.size ≤ k) → K (a.put d v') w') :
    if Region.wanted o (yielded ops a.tmps) = true then Oper.wp Try.prog o a w K Q else E := by
  have hw : Region.wanted o (yielded ops a.tmps) = true := by simp [Region.wanted, hg]
  rw [if_pos hw]
  subst hd
  obtain ⟨v', w', hrun, r1, r2, r3⟩ := run_appT w (ty := o.type) hu hi hz hk v vy es ys hown hy h1 hn hm hp
  unfold Oper.wp
  simp [execOp, hop, resolve, invoke, builtin, hs, hx, hrun, Result.andThen]
  exact hK v' w' r1 r2 r3
theorem step_load (w : World) (hg : o.guard = none) (d : Option Tmp) (hd : o.dst = d) (x : Operand) (t : TypeId) (hop : o.op = Op.load t x) (p v : Value) (hx : a.eval x = p) (h : (Instr.loadAt t p).run Try.prog w = .ok v w)
    (hK : K (a.put d v) w) : if Region.wanted o (yielded ops a.tmps) = true then Oper.wp Try.prog o a w K Q else E := by
  have hw : Region.wanted o (yielded ops a.tmps) = true := by simp [Region.wanted, hg]
  rw [if_pos hw]
  subst hd
  unfold Oper.wp execOp
  simp only [hop, hx, Sem.run_bind, Result.andThen_ok, h]
  exact hK
/-- '[]T{x}' of a struct -/
theorem step_one (w : World) (hg : o.guard = none) (d : Option Tmp) (hd : o.dst = d) (x : Operand) (t e : TypeId) (hop : o.op = Op.buildSlice t 1 #[(0, x)]) (cs : List Value) (hx : a.eval x = .agg cs.toArray)
    (hrun : ∀ w : World, (Instr.buildSlice t 1 #[(0, .agg cs.toArray)]).run Try.prog w = .ok (.slice (some ⟨w.heap.size, 0, none⟩) 1 1) (w.alloc (.cells cs.toArray e)))
    (hK : ∀ w', Rws w' (.slice (some ⟨w.heap.size, 0, none⟩) 1 1) cs.length [cs] → Below w.heap.size w w' → K (a.put d (.slice (some ⟨w.heap.size, 0, none⟩) 1 1)) w') :
    if Region.wanted o (yielded ops a.tmps) = true then Oper.wp Try.prog o a w K Q else E := by
  have hw : Region.wanted o (yielded ops a.tmps) = true := by simp [Region.wanted, hg]
  rw [if_pos hw]
  subst hd
  unfold Oper.wp execOp
  simp only [hop, List.map_toArray, List.map_cons, List.map_nil, hx, Sem.run_bind, Sem.run_pure, Result.andThen_ok, hrun]
  refine hK _ ⟨_, 1, rfl, by simp, by omega, (by intro h; cases h), fun t ht => ?_, fun _ => ⟨w.heap.size, 0, rfl, fun t ht => ?_⟩⟩ ((Below.refl _ _).alloc (Nat.le_refl _) _)
  · have : t = 0 := by simpa using ht
    subst this; rfl
  · have : t = 0 := by simpa using ht
    subst this
    have := (Vr.new w e cs).1
    simpa [el] using this
/-- a variable for a struct -/
theorem step_newC (w : World) (hg : o.guard = none) (d : Option Tmp) (hd : o.dst = d) (t : TypeId) (hop : o.op = Op.alloc t) (cs : List Value) (hz : (Try.prog.info? t).map (fun i => (i.zero, i.size)) = some (some (.agg cs.toArray), cs.length))
    (hK : ∀ w', Vr w' w.heap.size cs → Below w.heap.size w w' → w.heap.size < w'.heap.size → K (a.put d (.pointer (some ⟨w.heap.size, 0, none⟩))) w') : if Region.wanted o (yielded ops a.tmps) = true then Oper.wp Try.prog o a w K Q else E := by
  have hw : Region.wanted o (yielded ops a.tmps) = true := by simp [Region.wanted, hg]
  rw [if_pos hw]
  subst hd
  have hz' := (zero_of_info hz).1
  unfold Oper.wp
  simp [execOp, hop, Instr.alloc, hz', newVar, newRow, Value.cells, Result.andThen]
  exact hK _ (Vr.new w t cs) ((Below.refl _ _).alloc (Nat.le_refl _) _) (by simp)
theorem step_boxC (w : World) (hg : o.guard = none) (d : Option Tmp) (hd : o.dst = d) (x : Operand) (t : TypeId) (hop : o.op = Op.box t x) (cs : List Value) (hx : a.eval x = .agg cs.toArray)
    (hK : ∀ w', Vr w' w.heap.size cs → Below w.heap.size w w' → w.heap.size < w'.heap.size → K (a.put d (.pointer (some ⟨w.heap.size, 0, none⟩))) w') : if Region.wanted o (yielded ops a.tmps) = true then Oper.wp Try.prog o a w K Q else E := by
  have hw : Region.wanted o (yielded ops a.tmps) = true := by simp [Region.wanted, hg]
  rw [if_pos hw]
  subst hd
  unfold Oper.wp
  simp [execOp, hop, hx, Instr.box, newVar, newRow, Value.cells, Result.andThen]
  exact hK _ (Vr.new w t cs) ((Below.refl _ _).alloc (Nat.le_refl _) _) (by simp)
/-- a struct is written into its variable -/
theorem step_storeC (w : World) (hg : o.guard = none) (d : Option Tmp) (hd : o.dst = d) (x y : Operand) (t : TypeId) (hop : o.op = Op.store t x y) (c : Nat) (cs0 cs : List Value) (hx : a.eval x = .pointer (some ⟨c, 0, none⟩)) (hy : a.eval y = .agg cs.toArray) (hV : Vr w c cs0) (hl : cs0.length = cs.length) (hs : (Try.prog.info? t).map (·.size) = some cs.length) (h1 : ∀ v ∈ cs, v.oneCell' = true)
    (hK : ∀ w', Vr w' c cs → w.grownBy w' (some c) → K (a.put d undef) w') : if Region.wanted o (yielded ops a.tmps) = true then Oper.wp Try.prog o a w K Q else E := by
  have hw : Region.wanted o (yielded ops a.tmps) = true := by simp [Region.wanted, hg]
  rw [if_pos hw]
  subst hd
  have ht : w.there c 0 cs.length := by rw [← hl]; exact hV.2
  refine wp_store_mid t x y hop c 0 cs.toArray hx hy (by simpa using ht) (by simpa using hs) (all_oneCell_toArray h1) ?_
  exact hK _ ⟨World.rangeAt_setCells_same w c 0 cs ht, World.there_setCells ht c 0 _⟩ (keep_cells w c 0 cs)
/-- one cell is written -/
theorem step_store1 (w : World) (hg : o.guard = none) (d : Option Tmp) (hd : o.dst = d) (x y : Operand) (t : TypeId) (hop : o.op = Op.store t x y) (b j : Nat) (v : Value) (hx : a.eval x = .pointer (some ⟨b, j, none⟩)) (hy : a.eval y = v) (hc : (w.cell? ⟨b, j, none⟩).isSome = true) (hf : w.frozen? ⟨b, j, none⟩ = false) (hi : (Try.prog.info? t).map (·.size) = some 1) (h1 : v.oneCell' = true) (hcv : v.cells = #[v])
    (hK : ∀ w', Hid (w' = w.setCell ⟨b, j, none⟩ v) → K (a.put d undef) w') : if Region.wanted o (yielded ops a.tmps) = true then Oper.wp Try.prog o a w K Q else E := by
  have hw : Region.wanted o (yielded ops a.tmps) = true := by simp [Region.wanted, hg]
  rw [if_pos hw]
  subst hd
  have hr : (storeVar t ⟨b, j, none⟩ v).run Try.prog w = .ok () (w.setCell ⟨b, j, none⟩ v) := by
    have e0 : ∀ i, i < [v].length → i = 0 := fun i hi => by simpa using hi
    have := run_storeCells_cells (P := Try.prog) b j [v] 0 w (fun i hi => by rw [e0 i hi]; simpa using hc) (fun i hi => by rw [e0 i hi]; simpa using hf) (fun u hu => by simp at hu; subst hu; exact h1)
    cases hq : Try.prog.info? t with
    | none => simp [hq] at hi
    | some i =>
      have hs : i.size = 1 := by simpa [hq] using hi
      simp only [Nat.add_zero] at this
      simp [storeVar, sizeOf, typeInfo, hq, hcv, hs]
      simpa [World.setCells] using this
  unfold Oper.wp execOp
  simp only [hop, hx, hy, Instr.storeAt, Instr.sureAddr, Sem.run_bind, Sem.run_pure, Result.andThen_ok, hr]
  exact hK _ rfl
end
theorem exec_loadN {ev : Operand → Value} {o : Oper} (t : TypeId) (x : Operand) (hop : o.op = Op.load t x) (p : Value) (hx : ev x = p) (v : Value) (w : World) (hr : (Instr.loadAt t p).run Try.prog w = .ok v w) : (execOp ev o).run Try.prog w = .ok (.value v) w := by
  unfold execOp
  simp only [hop, hx, Sem.run_bind, Result.andThen_ok, hr]
  rfl
theorem ld_geo {w : World} {b p : Nat} {g : List Int} (hl : g.length = 6) (h : w.rangeAt b p (g.map (Value.int .i64))) : (Instr.loadAt 23 (.pointer (some ⟨b, p, none⟩))).run Try.prog w = .ok (.agg (ints .i64 g)) w := load_cells (cs := g.map (Value.int .i64)) (by rw [List.length_map, hl]; exact rowy_geo) h
theorem ld_place {w : World} {b p : Nat} {g : List Int} (hl : g.length = 2) (h : w.rangeAt b p (g.map (Value.int .i64))) : (Instr.loadAt 43 (.pointer (some ⟨b, p, none⟩))).run Try.prog w = .ok (.agg (ints .i64 g)) w := load_cells (cs := g.map (Value.int .i64)) (by rw [List.length_map, hl]; exact rowy_place) h
end Go.Proofs.Ytnklbmeadjgehaa.na
