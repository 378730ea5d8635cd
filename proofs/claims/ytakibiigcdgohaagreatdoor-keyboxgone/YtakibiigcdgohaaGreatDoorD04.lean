/- Parts of the proof: what KeyboxGone reaches. No claim of its own. -/
import Derived.ArgAppend
import Derived.WalkKit
import Derived.Deep.QuietTactic
import Derived.Laws.AppendOwnNone
import Derived.Deep.RegionHeld3
import Derived.Deep.WholeRow
import Derived.Deep.MidRow
import Derived.Laws.StructEq
import Derived.Lib.SliceRun
import Derived.WalkSmall
import Derived.ProofKit
import Derived.OpenShut
import Derived.BigQuiet
import Derived.Test.YtakibiigcdgohaaGreatDoorD00
import Derived.Test.YtakibiigcdgohaaGreatDoorD01
import Derived.Test.YtakibiigcdgohaaGreatDoorD02
import Derived.Test.YtakibiigcdgohaaGreatDoorD03
set_option maxHeartbeats 8000000
namespace Go.Proofs.YtakibiigcdgohaaGreatDoor.na
open Go.RowKit Go.Proofs.YtakibiigcdgohaaGreatDoor.fa
set_option maxRecDepth 20000
def One (t : TypeId) : Prop := (∃ d, Tryz.prog.underlying t = some d ∧ d.isRow = false) ∧ (Tryz.prog.info? t).map (·.size) = some 1
theorem one_int : One 3 := ⟨⟨_, Tryz.underlying3, rfl⟩, by kernel_rfl⟩
theorem one_bool : One 4 := ⟨⟨_, Tryz.underlying4, rfl⟩, by kernel_rfl⟩
theorem one_bytes : One 35 := ⟨⟨_, Tryz.underlying35, rfl⟩, by kernel_rfl⟩
theorem one_errno : One 31 := ⟨⟨_, Tryz.underlying31, rfl⟩, by kernel_rfl⟩
theorem one_faults : One 24 := ⟨⟨_, Tryz.underlying24, rfl⟩, by kernel_rfl⟩
theorem one_oprs : One 82 := ⟨⟨_, Tryz.underlying82, rfl⟩, by kernel_rfl⟩
theorem one_states : One 81 := ⟨⟨_, Tryz.underlying81, rfl⟩, by kernel_rfl⟩
theorem one_ints : One 69 := ⟨⟨_, Tryz.underlying69, rfl⟩, by kernel_rfl⟩
theorem rowy_geo : Rowy 23 6 := ⟨⟨_, Tryz.underlying23, rfl⟩, by kernel_rfl⟩
theorem rowy_place : Rowy 112 2 := ⟨⟨_, Tryz.underlying112, rfl⟩, by kernel_rfl⟩
theorem rowy_op : Rowy 114 5 := ⟨⟨_, Tryz.underlying114, rfl⟩, by kernel_rfl⟩
theorem rowy_deed : Rowy 170 2 := ⟨⟨_, Tryz.underlying170, rfl⟩, by kernel_rfl⟩
theorem load_one {t : TypeId} (ht : One t) {w : World} {b p : Nat} {v : Value} (h : w.cell? ⟨b, p, none⟩ = some v) : (Instr.loadAt t (.pointer (some ⟨b, p, none⟩))).run Tryz.prog w = .ok v w := by
  obtain ⟨⟨d, hd, hr⟩, -⟩ := ht
  have : (loadVar t ⟨b, p, none⟩).run Tryz.prog w = .ok v w := by
    cases d <;> first | (simp [TypeDesc.isRow] at hr; done) | simp [loadVar, isAgg, run_underlying hd, h]
  simp only [Instr.loadAt, Instr.sureAddr, Sem.run_bind, Sem.run_pure, Result.andThen_ok, this]
theorem run_appT (w : World) {t ty e : TypeId} {z : Value} {k m0 : Nat} (hu : Tryz.prog.underlying t = some (.slice e)) (hi : (Tryz.prog.info? e).map (fun i => (i.zero, i.size, i.bytes)) = some (some z, k, m0)) (hz : z.cells.size = k) (hk : 0 < k)
    (v vy : Value) (es ys : List (List Value)) (hown : OwR 0 w v e k es) (hy : Rws w vy k ys) (h1 : ∀ u ∈ ys.flatten, u.oneCell' = true) (hn : es.length + ys.length ≤ 9223372036854775807) (hm : (es.length + ys.length) * m0 ≤ 140737488355328) (hp : 0 < ys.length) :
    ∃ v' w', (Builtin.append_ #[t, t] ty #[v, vy]).run Tryz.prog w = .ok v' w' ∧ OwR 0 w' v' e k (es ++ ys) ∧ w.grownBy w' v.ownBlock ∧ (v'.ownBlock = v.ownBlock ∨ ∃ k, v'.ownBlock = some k ∧ w.heap.size ≤ k) := by
  obtain ⟨i0, hi0, hz0, hz1, hz2⟩ := info_parts hi
  have hell : ∀ t, t < (es ++ ys).length → (el (es ++ ys) t).length = k := fun t ht => by
    rw [List.length_append] at ht
    obtain ⟨_, _, _, _, _, _, q4, _⟩ := hy
    rw [el_app]
    split
    · rename_i h; exact hown.2 t h
    · exact q4 _ (by omega)
  obtain ⟨ao, cap, rfl, q1, q2, q3, q4, q5⟩ := hy
  obtain ⟨b, off, rfl, hc⟩ := q5 hp
  have hnews : ∀ j u, ys.flatten[j]? = some u → w.cell? ((⟨b, off, none⟩ : Addr).add j) = some u := fun j u hj => by
    have hjl : j < ys.length * k := by rw [← flat_len q4]; exact (List.getElem?_eq_some_iff.1 hj).1
    have ej : j = j / k * k + j % k := by rw [Nat.mul_comm]; exact (Nat.div_add_mod j k).symm
    have ht : j / k < ys.length := (Nat.div_lt_iff_lt_mul hk).2 hjl
    have hmod : j % k < k := Nat.mod_lt _ hk
    rw [ej, flat_get q4 (j / k) (j % k) ht hmod] at hj
    have := hc (j / k) ht (j % k) u hj
    rw [Addr.add_mid, show off + j = off + j / k * k + j % k by omega]
    exact this
  have hb1 : es.length + ys.length ≤ maxLen := by simp only [maxLen]; omega
  have fin : ∀ v' w', w'.ownsRow 0 e k v' (es.length + ys.length) (es.flatten ++ ys.flatten) → OwR 0 w' v' e k (es ++ ys) := fun v' w' h => ⟨by rw [List.length_append, List.flatten_append]; exact h, hell⟩
  rcases hown.1.2 with ⟨rfl, hn0⟩ | ⟨gg, cp, cur, rfl, hbg, hg, hnc, hcm, hcs, htake⟩
  · have he : es = [] := List.eq_nil_of_length_eq_zero hn0
    subst he
    obtain ⟨v', w', hrun, r1, r2, r3⟩ := run_append_own (P := Tryz.prog) w w.heap.size t ty e i0 z k m0 hu hi0 hz0 hz1 hz2 hz hk (.slice none 0 0) 0 [] (World.ownsRow_nil w _ e k) ⟨b, off, none⟩ ys.length cap ys.flatten (flat_len q4) hnews h1 (by simpa using hb1) (by simpa using hm) (Nat.le_refl _)
    refine ⟨v', w', hrun, fin v' w' ?_, r2, ?_⟩
    · obtain ⟨a1, a2⟩ := r1
      refine ⟨by simpa using a1, ?_⟩
      rcases a2 with ⟨e1, e2⟩ | ⟨g', c', u', e1, e2, e3⟩
      · exact Or.inl ⟨e1, by simpa using e2⟩
      · exact Or.inr ⟨g', c', u', by simpa using e1, Nat.zero_le _, by simpa using e3⟩
    · have hlt := r1.lt
      cases hv : v'.ownBlock with
      | none => exact Or.inl rfl
      | some kk => exact Or.inr ⟨kk, rfl, (hlt kk hv).1⟩
  · by_cases hroom : es.length + ys.length ≤ cp
    · obtain ⟨v', w', hrun, r1, r2, r3⟩ := run_append_own (P := Tryz.prog) w 0 t ty e i0 z k m0 hu hi0 hz0 hz1 hz2 hz hk _ es.length es.flatten hown.1 ⟨b, off, none⟩ ys.length cap ys.flatten (flat_len q4) hnews h1 hb1 hm (Nat.zero_le _)
      have hr2 := run_append_room (P := Tryz.prog) w t ty e i0 hu hi0 gg es.length cp cur hg ⟨b, off, none⟩ ys.length cap ys.flatten (by rw [hz1]; exact flat_len q4) hnews h1 hroom (by
        rw [hz1, flat_len q4, hcs, ← Nat.add_mul]
        exact Nat.mul_le_mul_right k hroom)
      rw [hr2] at hrun
      injection hrun with e1 e2
      refine ⟨v', w', by rw [hr2, e1, e2], fin v' w' r1, r2, Or.inl ?_⟩
      rw [← e1]; rfl
    · obtain ⟨v', w', hrun, r1, r2⟩ := run_append_arg_grows (P := Tryz.prog) w t ty e i0 z k m0 hu hi0 hz0 hz1 hz2 hz hk ⟨gg, 0, none⟩ es.length cp es.flatten (flat_len hown.2) (fun j u hj => hown.1.cells rfl j u hj) ⟨b, off, none⟩ ys.length cap ys.flatten (flat_len q4) hnews (by omega) hb1 hm
      refine ⟨v', w', hrun, fin v' w' ?_, ⟨r2.os, r2.tape, r2.output, r2.size, fun j hj _ => r2.block j hj (by simp)⟩, ?_⟩
      · obtain ⟨a1, a2⟩ := r1
        refine ⟨a1, ?_⟩
        rcases a2 with e1 | ⟨g', c', u', e1, e2, e3⟩
        · exact Or.inl e1
        · exact Or.inr ⟨g', c', u', e1, Nat.zero_le _, e3⟩
      · have hlt := r1.lt
        rcases r1.2 with ⟨rfl, e2⟩ | ⟨g', c', u', rfl, e2, e3⟩
        · omega
        · exact Or.inr ⟨g', rfl, e2⟩
section
variable {ops : Array Oper} {o : Oper} {a : Act} {Q : Exit → Act → World → Prop} {K : Act → World → Prop} {E : Prop}
theorem step_appT (w : World) (hg : o.guard = none) (d : Option Tmp) (hd : o.dst = d) (s x : Operand) (t e : TypeId) (hop : o.op = .call { callee := .builtin .append, args := #[s, x], argTypes := #[t, t] })
    (hu : Tryz.prog.underlying t = some (.slice e)) (z : Value) (k m0 : Nat) (hi : (Tryz.prog.info? e).map (fun i => (i.zero, i.size, i.bytes)) = some (some z, k, m0)) (hz : z.cells.size = k) (hk : 0 < k)
    (v vy : Value) (es ys : List (List Value)) (hs : a.eval s = v) (hx : a.eval x = vy) (hown : OwR 0 w v e k es) (hy : Rws w vy k ys) (h1 : ∀ u ∈ ys.flatten, u.oneCell' = true) (hn : es.length + ys.length ≤ 9223372036854775807) (hm : (es.length + ys.length) * m0 ≤ 140737488355328) (hp : 0 < ys.length)
    (hK : ∀ v' w', OwR 0 w' v' e k (es ++ ys) → w.grownBy w' v.ownBlock → (v'.ownBlock = v.ownBlock ∨ ∃ k, v'.ownBlock = some k ∧ w.heap.size ≤ k) → K (a.put d v') w') :
    if Region.wanted o (yielded ops a.tmps) = true then Oper.wp Tryz.prog o a w K Q else E := by
  have hw : Region.wanted o (yielded ops a.tmps) = true := by simp [Region.wanted, hg]
  rw [if_pos hw]
  subst hd
  obtain ⟨v', w', hrun, r1, r2, r3⟩ := run_appT w (ty := o.type) hu hi hz hk v vy es ys hown hy h1 hn hm hp
  unfold Oper.wp
  simp [execOp, hop, resolve, invoke, builtin, hs, hx, hrun, Result.andThen]
  exact hK v' w' r1 r2 r3
theorem step_load (w : World) (hg : o.guard = none) (d : Option Tmp) (hd : o.dst = d) (x : Operand) (t : TypeId) (hop : o.op = Op.load t x) (p v : Value) (hx : a.eval x = p) (h : (Instr.loadAt t p).run Tryz.prog w = .ok v w)
    (hK : K (a.put d v) w) : if Region.wanted o (yielded ops a.tmps) = true then Oper.wp Tryz.prog o a w K Q else E := by
  have hw : Region.wanted o (yielded ops a.tmps) = true := by simp [Region.wanted, hg]
  rw [if_pos hw]
  subst hd
  unfold Oper.wp execOp
  simp only [hop, hx, Sem.run_bind, Result.andThen_ok, h]
  exact hK
theorem step_one (w : World) (hg : o.guard = none) (d : Option Tmp) (hd : o.dst = d) (x : Operand) (t e : TypeId) (hop : o.op = Op.buildSlice t 1 #[(0, x)]) (cs : List Value) (hx : a.eval x = .agg cs.toArray)
    (hrun : ∀ w : World, (Instr.buildSlice t 1 #[(0, .agg cs.toArray)]).run Tryz.prog w = .ok (.slice (some ⟨w.heap.size, 0, none⟩) 1 1) (w.alloc (.cells cs.toArray e)))
    (hK : ∀ w', Rws w' (.slice (some ⟨w.heap.size, 0, none⟩) 1 1) cs.length [cs] → Below w.heap.size w w' → K (a.put d (.slice (some ⟨w.heap.size, 0, none⟩) 1 1)) w') :
    if Region.wanted o (yielded ops a.tmps) = true then Oper.wp Tryz.prog o a w K Q else E := by
  have hw : Region.wanted o (yielded ops a.tmps) = true := by simp [Region.wanted, hg]
  rw [if_pos hw]
  subst hd
  unfold Oper.wp execOp
  simp only [hop, List.map_toArray, List.map_cons, List.map_nil, hx, Sem.run_bind, Sem.run_pure, Result.andThen_ok, hrun]
  refine hK _ ⟨_, 1, rfl, by simp, by omega, (by intro h; cases h), fun t ht => ?_, fun _ => ⟨w.heap.size, 0, rfl, fun t ht => ?_⟩⟩ ((Below.refl _ _).alloc (Nat.le_refl _) _)
  · have : t = 0 := by simpa using ht
    subst this; rfl
  · have : t = 0 := by simpa using ht
    subst this
    have := (Vr.new w e cs).1
    simpa [el] using this
theorem step_newC (w : World) (hg : o.guard = none) (d : Option Tmp) (hd : o.dst = d) (t : TypeId) (hop : o.op = Op.alloc t) (cs : List Value) (hz : (Tryz.prog.info? t).map (fun i => (i.zero, i.size)) = some (some (.agg cs.toArray), cs.length))
    (hK : ∀ w', Vr w' w.heap.size cs → Below w.heap.size w w' → w.heap.size < w'.heap.size → K (a.put d (.pointer (some ⟨w.heap.size, 0, none⟩))) w') : if Region.wanted o (yielded ops a.tmps) = true then Oper.wp Tryz.prog o a w K Q else E := by
  have hw : Region.wanted o (yielded ops a.tmps) = true := by simp [Region.wanted, hg]
  rw [if_pos hw]
  subst hd
  have hz' := (zero_of_info hz).1
  unfold Oper.wp
  simp [execOp, hop, Instr.alloc, hz', newVar, newRow, Value.cells, Result.andThen]
  exact hK _ (Vr.new w t cs) ((Below.refl _ _).alloc (Nat.le_refl _) _) (by simp)
theorem step_boxC (w : World) (hg : o.guard = none) (d : Option Tmp) (hd : o.dst = d) (x : Operand) (t : TypeId) (hop : o.op = Op.box t x) (cs : List Value) (hx : a.eval x = .agg cs.toArray)
    (hK : ∀ w', Vr w' w.heap.size cs → Below w.heap.size w w' → w.heap.size < w'.heap.size → K (a.put d (.pointer (some ⟨w.heap.size, 0, none⟩))) w') : if Region.wanted o (yielded ops a.tmps) = true then Oper.wp Tryz.prog o a w K Q else E := by
  have hw : Region.wanted o (yielded ops a.tmps) = true := by simp [Region.wanted, hg]
  rw [if_pos hw]
  subst hd
  unfold Oper.wp
  simp [execOp, hop, hx, Instr.box, newVar, newRow, Value.cells, Result.andThen]
  exact hK _ (Vr.new w t cs) ((Below.refl _ _).alloc (Nat.le_refl _) _) (by simp)
theorem step_store1 (w : World) (hg : o.guard = none) (d : Option Tmp) (hd : o.dst = d) (x y : Operand) (t : TypeId) (hop : o.op = Op.store t x y) (b j : Nat) (v : Value) (hx : a.eval x = .pointer (some ⟨b, j, none⟩)) (hy : a.eval y = v) (hc : (w.cell? ⟨b, j, none⟩).isSome = true) (hf : w.frozen? ⟨b, j, none⟩ = false) (hi : (Tryz.prog.info? t).map (·.size) = some 1) (h1 : v.oneCell' = true) (hcv : v.cells = #[v])
    (hK : ∀ w', Hid (w' = w.setCell ⟨b, j, none⟩ v) → K (a.put d undef) w') : if Region.wanted o (yielded ops a.tmps) = true then Oper.wp Tryz.prog o a w K Q else E := by
  have hw : Region.wanted o (yielded ops a.tmps) = true := by simp [Region.wanted, hg]
  rw [if_pos hw]
  subst hd
  have hr : (storeVar t ⟨b, j, none⟩ v).run Tryz.prog w = .ok () (w.setCell ⟨b, j, none⟩ v) := by
    have e0 : ∀ i, i < [v].length → i = 0 := fun i hi => by simpa using hi
    have := run_storeCells_cells (P := Tryz.prog) b j [v] 0 w (fun i hi => by rw [e0 i hi]; simpa using hc) (fun i hi => by rw [e0 i hi]; simpa using hf) (fun u hu => by simp at hu; subst hu; exact h1)
    cases hq : Tryz.prog.info? t with
    | none => simp [hq] at hi
    | some i =>
      have hs : i.size = 1 := by simpa [hq] using hi
      simp only [Nat.add_zero] at this
      simp [storeVar, sizeOf, typeInfo, hq, hcv, hs]
      simpa [World.setCells] using this
  unfold Oper.wp execOp
  simp only [hop, hx, hy, Instr.storeAt, Instr.sureAddr, Sem.run_bind, Sem.run_pure, Result.andThen_ok, hr]
  exact hK _ rfl
end
theorem exec_loadN {ev : Operand → Value} {o : Oper} (t : TypeId) (x : Operand) (hop : o.op = Op.load t x) (p : Value) (hx : ev x = p) (v : Value) (w : World) (hr : (Instr.loadAt t p).run Tryz.prog w = .ok v w) : (execOp ev o).run Tryz.prog w = .ok (.value v) w := by
  unfold execOp
  simp only [hop, hx, Sem.run_bind, Result.andThen_ok, hr]
  rfl
theorem ld_geo {w : World} {b p : Nat} {g : List Int} (hl : g.length = 6) (h : w.rangeAt b p (g.map (Value.int .i64))) : (Instr.loadAt 23 (.pointer (some ⟨b, p, none⟩))).run Tryz.prog w = .ok (.agg (ints .i64 g)) w := load_cells (cs := g.map (Value.int .i64)) (by rw [List.length_map, hl]; exact rowy_geo) h
theorem ld_place {w : World} {b p : Nat} {g : List Int} (hl : g.length = 2) (h : w.rangeAt b p (g.map (Value.int .i64))) : (Instr.loadAt 112 (.pointer (some ⟨b, p, none⟩))).run Tryz.prog w = .ok (.agg (ints .i64 g)) w := load_cells (cs := g.map (Value.int .i64)) (by rw [List.length_map, hl]; exact rowy_place) h
end Go.Proofs.YtakibiigcdgohaaGreatDoor.na
namespace Go.Proofs.YtakibiigcdgohaaGreatDoor.ge
open Go.RowKit
set_option maxRecDepth 20000
theorem info_intT : (Tryz.prog.info? 3).map (fun i => (i.zero, i.size, i.bytes)) = some (some (.int .i64 0), 1, 8) := by kernel_rfl
def Nums (w : World) (v : Value) (xs : List Int) : Prop :=
  ∃ ao cap, v = .slice ao xs.length cap ∧ xs.length ≤ cap ∧ cap ≤ 9223372036854775807 ∧ (ao = none → cap = 0) ∧
    (0 < xs.length → ∃ b off, ao = some ⟨b, off, none⟩ ∧ ∀ t, t < xs.length → w.cell? ⟨b, off + t, none⟩ = some (.int .i64 (gb xs t)))
theorem Nums.nil (w : World) : Nums w (.slice none 0 0) [] :=
  ⟨none, 0, rfl, by simp, by simp, fun _ => rfl, fun h => by simp at h⟩
def OwnI (B : Nat) (w : World) (v : Value) (cs : List Int) : Prop := w.ownsRow B 3 1 v cs.length (cs.map (Value.int .i64))
theorem OwnI.one (w : World) {B : Nat} (hB : B ≤ w.heap.size) (x : Int) : OwnI B (w.alloc (.cells #[.int .i64 x] 3)) (.slice (some ⟨w.heap.size, 0, none⟩) 1 1) [x] :=
  World.ownsRow_lit w #[.int .i64 x] 1 hB (by simp [maxLen]) (by simp)
theorem OwnI.nums {B : Nat} {w : World} {v : Value} {xs : List Int} (h : OwnI B w v xs) : Nums w v xs := by
  rcases h.2 with ⟨rfl, hn⟩ | ⟨g, cap, cur, rfl, hg, hb, hc, hm, hs, ht⟩
  · have : xs = [] := List.eq_nil_of_length_eq_zero (by omega)
    subst this
    exact Nums.nil w
  · refine ⟨some ⟨g, 0, none⟩, cap, rfl, hc, by simpa [maxLen] using hm, (by intro h; cases h), fun hp => ⟨g, 0, rfl, fun t ht' => ?_⟩⟩
    have := h.cells (g := g) rfl t (.int .i64 (gb xs t)) (by simp [gb, List.getD, ht'])
    rw [Addr.add_lit] at this
    simpa using this
theorem OwnI.ar {B : Nat} {w : World} {v : Value} {cs : List Int} (h : OwnI B w v cs) (hp : 0 < cs.length) : ∃ g cap, v = .slice (some ⟨g, 0, none⟩) cs.length cap ∧ cs.length ≤ cap ∧ cap ≤ 9223372036854775807 ∧ B ≤ g ∧ g < w.heap.size ∧ Ar w g 0 .i64 cs := by
  have hlt := World.ownsRow.lt h
  rcases h.2 with ⟨rfl, hn⟩ | ⟨g, cap, cur, rfl, hg, hb, hc, hm, hs, ht⟩
  · omega
  · refine ⟨g, cap, rfl, hc, by simpa [maxLen] using hm, hg, (hlt g rfl).2, Ar.mk fun i hi => ?_⟩
    rw [Nat.zero_add]
    refine ⟨?_, World.ownsRow.frozenAt h i⟩
    rw [World.ownsRow.cellAt h i (by omega)]
    simp [gb, List.getD, hi]
section
variable {ops : Array Oper} {o : Oper} {a : Act}
variable {Q : Exit → Act → World → Prop} {K : Act → World → Prop} {E : Prop}
theorem step_pushsI (w : World) (hw : Region.wanted o (yielded ops a.tmps) = true) (d : Option Tmp) (hd : o.dst = d) (s x : Operand) (hop : o.op = .call { callee := .builtin .append, args := #[s, x], argTypes := #[69, 69] })
    (B : Nat) (hB : B ≤ w.heap.size) (v vy : Value) (xs ys : List Int) (hs : a.eval s = v) (hx : a.eval x = vy) (hown : OwnI B w v xs) (hy : Nums w vy ys) (hn : xs.length ≤ 1000000) (hm : ys.length ≤ 1000000)
    (hK : ∀ v' w', OwnI B w' v' (xs ++ ys) → Below B w w' → w.grownBy w' v.ownBlock → K (a.put d v') w') : if Region.wanted o (yielded ops a.tmps) = true then Oper.wp Tryz.prog o a w K Q else E := by
  rw [if_pos hw]
  subst hd
  obtain ⟨i0, hi, hz0, hz1, hz2⟩ := info_parts info_intT
  obtain ⟨ao, cap, rfl, h1, h2, h4, h5⟩ := hy
  cases ao with
  | none =>
    have hc := h4 rfl
    subst hc
    have : ys = [] := List.eq_nil_of_length_eq_zero (by omega)
    subst this
    have hrun := run_append_owned_none (P := Tryz.prog) (w := w) B 69 o.type 3 i0 1 Tryz.underlying69 hi v xs.length _ hown
    have hx' : a.eval x = .slice none 0 0 := hx
    unfold Oper.wp
    simp [execOp, hop, resolve, invoke, builtin, hs, hx', hrun, Result.andThen]
    refine hK v w ?_ (Below.refl _ _) ?_
    · rwa [List.append_nil]
    · exact ⟨rfl, rfl, rfl, Nat.le_refl _, fun _ _ _ => rfl⟩
  | some ad =>
    refine wp_append_own _ s x 69 hop B 3 i0 (.int .i64 0) 1 8 Tryz.underlying69 hi hz0 hz1 hz2 rfl (by decide) v xs.length _ hs hown ad ys.length cap (ys.map (Value.int .i64)) hx (by simp) ?_ ?_ (by simp only [maxLen]; omega) (by omega) hB fun v' w' h1 h2 _ => ?_
    · intro j u hj
      have hjl : j < ys.length := by have := (List.getElem?_eq_some_iff.1 hj).1; simpa using this
      obtain ⟨b, off, e, hc⟩ := h5 (by omega)
      cases e
      rw [Addr.add_mid, hc j hjl, ← hj]
      simp [gb, List.getD, hjl]
    · intro u hu
      simp only [List.mem_map] at hu
      obtain ⟨y, _, rfl⟩ := hu
      rfl
    · refine hK v' w' ?_ ?_ h2
      · show w'.ownsRow B 3 1 v' (xs ++ ys).length ((xs ++ ys).map (Value.int .i64))
        simpa using h1
      · exact (Below.refl B w).grown h2 hB fun k hk => (World.ownsRow.lt hown k hk).1
variable {rest : List Oper}
theorem pushs_lawI (w : World) (hg : o.guard = none) (s x : Operand) (hop : o.op = .call { callee := .builtin .append, args := #[s, x], argTypes := #[69, 69] })
    (B : Nat) (hB : B ≤ w.heap.size) (v vy : Value) (xs ys : List Int) (hs : a.eval s = v) (hx : a.eval x = vy) (hown : OwnI B w v xs) (hy : Nums w vy ys) (hn : xs.length ≤ 1000000) (hm : ys.length ≤ 1000000)
    (hK : ∀ v' w', OwnI B w' v' (xs ++ ys) → Below B w w' → wpList Tryz.prog ops Q rest (a.put o.dst v') w') : wpList Tryz.prog ops Q (o :: rest) a w := by
  refine wpList_step fun K hK' => ?_
  exact step_pushsI w (by simp [Region.wanted, hg]) o.dst rfl s x hop B hB v vy xs ys hs hx hown hy hn hm fun v' w' h1 h2 _ => hK' _ _ (hK v' w' h1 h2)
end
theorem OwnI.below {B : Nat} {w w' : World} {v : Value} {xs : List Int} (h : OwnI B w v xs) (hb : Below w.heap.size w w') : OwnI B w' v xs :=
  World.ownsRow.kept (row := none) h ⟨hb.os, hb.tape, hb.output, hb.size, fun j hj _ => hb.block j hj⟩ (by cases hv : v.ownBlock <;> simp)
end Go.Proofs.YtakibiigcdgohaaGreatDoor.ge
namespace Go.Proofs.YtakibiigcdgohaaGreatDoor.na
open Go.RowKit Go.Proofs.YtakibiigcdgohaaGreatDoor.fa
set_option maxRecDepth 20000
theorem on_any (c : Nat) (on : Bool) (w : World) (h : w.cell? ⟨c, 7, none⟩ = some (.bool on)) :
    Calls Tryz.prog 38 #[.pointer (some ⟨c, 0, none⟩)] w fun e w' => e = .returned (.bool on) ∧ w' = w := by
  go_enter Tryz.func38, Tryz.ntmps38
  go_wp2
  go_ret
  exact ⟨rfl, rfl⟩
theorem ops_any (c : Nat) (ao : Option Addr) (n cap : Nat) (w : World) (h : w.cell? ⟨c, 10, none⟩ = some (.slice ao n cap)) :
    Calls Tryz.prog 23 #[.pointer (some ⟨c, 0, none⟩)] w fun e w' => e = .returned (.int .i64 (n : Int)) ∧ w' = w := by
  go_enter Tryz.func23, Tryz.ntmps23
  go_wp2
  go_ret
  exact ⟨rfl, rfl⟩
theorem has_any (c r N : Nat) (b : Int) (w : World) (h : w.cell? ⟨c, 9, none⟩ = some (.slice (some ⟨r, 0, none⟩) N N)) (t : Bool) (ht : t = decide (0 ≤ b ∧ b < N)) :
    Calls Tryz.prog 148 #[.pointer (some ⟨c, 0, none⟩), .int .i64 b] w fun e w' => e = .returned (.bool t) ∧ w' = w := by
  by_cases h0 : 0 ≤ b
  · have HT : Hid (decide (b < (N : Int)) = t) := by subst ht; show _ = _; simp [h0]
    clear ht
    go_enter Tryz.func148, Tryz.ntmps148
    go_wp2
    go_ret
    exact ⟨ret_bool HT.out, rfl⟩
  · have h1 : ¬ (0 ≤ b) := h0
    have HT : Hid (false = t) := by subst ht; show _ = _; simp [h0]
    have h2 : b < 0 := by omega
    clear ht
    go_enter Tryz.func148, Tryz.ntmps148
    go_wp2
    go_ret
    exact ⟨ret_bool HT.out, rfl⟩
theorem part_any (d L n sz : Nat) (w : World) (hs : 0 < sz) (hL : (n + 1) * sz ≤ L) (hm : L ≤ 16777216) (hn : n ≤ 16777216) (hz : sz ≤ 16777216) :
    Calls Tryz.prog 103 #[.slice (some ⟨d, 0, none⟩) L L, .int .i64 (n : Int), .int .i64 (sz : Int)] w fun e w' => e = .returned (.slice (some ⟨d, n * sz, none⟩) sz (L - n * sz)) ∧ w' = w := by
  obtain ⟨k, hk⟩ : ∃ k, k = n * sz := ⟨_, rfl⟩
  rw [Nat.succ_mul] at hL
  rw [← hk] at hL ⊢
  have q1 : IntKind.i64.wrap ((n : Int) * (sz : Int)) = (k : Int) := by
    have : (n : Int) * (sz : Int) = (k : Int) := by rw [hk]; simp
    rw [this, IntKind.wrap_i64]; omega
  have q2 : IntKind.i64.wrap ((n : Int) + 1) = (n : Int) + 1 := by rw [IntKind.wrap_i64]; omega
  have q3 : IntKind.i64.wrap (((n : Int) + 1) * (sz : Int)) = ((k + sz : Nat) : Int) := by
    have : ((n : Int) + 1) * (sz : Int) = ((k + sz : Nat) : Int) := by rw [hk, Int.add_mul]; simp
    rw [this, IntKind.wrap_i64]; omega
  have HE : Hid (k + sz - k = sz) := by show _ = _; omega
  have hne : ¬ (L = k) := by omega
  have i0 : (0 : Int) ≤ (k : Int) := by omega
  have i1 : (k : Int) ≤ ((k + sz : Nat) : Int) := by omega
  have i2 : ((k + sz : Nat) : Int) ≤ (L : Int) := by omega
  clear hk
  obtain ⟨m, hm'⟩ : ∃ m, m = k + sz := ⟨_, rfl⟩
  rw [← hm'] at q3 i1 i2 HE
  clear hm'
  go_enter Tryz.func103, Tryz.ntmps103
  go_wp2
  go_ret
  refine ⟨?_, rfl⟩
  rw [HE.out]
  rfl
def Mx (xs : List Int) (m : Int) : Prop := (∀ i, i < xs.length → gb xs i ≤ m) ∧ ∃ i, i < xs.length ∧ gb xs i = m
theorem max_any (b o n cap : Nat) (xs : List Int) (w : World) (h : Ar w b o .i64 xs) (hl : xs.length = n) (h0 : 0 < n) (hn : n ≤ cap) (hc : cap ≤ 9223372036854775807) :
    Calls Tryz.prog 117 #[.slice (some ⟨b, o, none⟩) n cap] w fun e w' => ∃ m, e = .returned (.int .i64 m) ∧ Mx xs m ∧ w' = w := by
  have H : Hid (Ar w b o .i64 xs) := h
  have c0 : w.cell? ⟨b, o, none⟩ = some (.int .i64 (gb xs 0)) := by have := h.cell 0 (by omega); rwa [Nat.add_zero] at this
  have i0 : ¬ ((n : Int) < 1) := by omega
  have i1 : (0 : Int) < (n : Int) := by omega
  clear h
  go_enter Tryz.func117, Tryz.ntmps117
  go_wp2
  go_loopw [3, 4] (fun m i wr => ∃ (k : Nat) (x : Int), 1 ≤ k ∧ k ≤ n ∧ m = .int .i64 x ∧ i = .int .i64 k ∧ Hid ((∀ i, i < k → gb xs i ≤ x) ∧ ∃ i, i < n ∧ gb xs i = x) ∧ wr = w) (fun _ i _ => n - (intOf i).toNat)
  case atStart => exact ⟨1, gb xs 0, by omega, by omega, rfl, rfl, ⟨fun i hi => by rw [show i = 0 by omega]; exact Int.le_refl _, 0, h0, rfl⟩, rfl⟩
  case round =>
    obtain ⟨k, x, hk1, hk, rfl, rfl, HX, hw⟩ := hrel
    subst hw
    have k0 : (0 : Int) ≤ (k : Int) := by omega
    by_cases hlt : k < n
    · have k1 : (k : Int) < (n : Int) := by omega
      have ck := H.out.cell k (by omega)
      obtain ⟨y, hy⟩ : ∃ y, gb xs k = y := ⟨_, rfl⟩
      rw [hy] at ck
      have HY : Hid (gb xs k = y) := hy
      clear hy c0
      go_wp2
      go_roundw
      case rel =>
        refine ⟨k + 1, _, by omega, by omega, rfl, by go_num, ⟨fun i hi => ?_, ?_⟩, trivial⟩
        · have hm : x ≤ (if x < y then y else x) ∧ y ≤ (if x < y then y else x) := by split <;> omega
          rcases Nat.lt_or_ge i k with q | q
          · exact Int.le_trans (HX.out.1 i q) hm.1
          · rw [show i = k by omega, HY.out]; exact hm.2
        · by_cases hxy : x < y
          · rw [if_pos hxy]; exact ⟨k, hlt, HY.out⟩
          · rw [if_neg hxy]; exact HX.out.2
      case measure => simp [intOf]; omega
    · have e : k = n := by omega
      subst e
      go_wp2
      go_ret
      exact ⟨_, rfl, ⟨fun i hi => HX.out.1 i (by omega), by rw [hl]; exact HX.out.2⟩, rfl⟩
section
variable {M : Nat → Bool} {w : World} {c r d : Nat} {q : Nat → Nat} {pv tv : Value} {g : List Int} {N P S : Nat} {pl : Pln} {X : Raw}
theorem Lay.st (h : Lay M w c r d q pv tv g N P S pl X) {b : Nat} (hb : b < N) : w.cell? ⟨r, b * 3, none⟩ = some (.slice (some ⟨q b, 0, none⟩) P P) ∧ w.cell? ⟨r, b * 3 + 1, none⟩ = some (.int .i64 (xe X b)) ∧ w.cell? ⟨r, b * 3 + 2, none⟩ = some (.bool (xs X b)) := by
  obtain ⟨-, -, -, -, -, h6, -⟩ := h
  have := (h6 b hb).1
  exact ⟨this 0 _ rfl, this 1 _ rfl, this 2 _ rfl⟩
theorem Lay.num (h : Lay M w c r d q pv tv g N P S pl X) : 7 ≤ N ∧ N ≤ 64 ∧ 4 ≤ P ∧ P ≤ 32 ∧ 120 ≤ S ∧ S ≤ 4184 := by
  obtain ⟨⟨-, hr, e1, e2, e3⟩, -⟩ := h
  obtain ⟨k1, k2, k3, -⟩ := hr.1
  omega
theorem Lay.bytes (h : Lay M w c r d q pv tv g N P S pl X) : P * S ≤ 133888 ∧ N * (P * S) ≤ 8568832 ∧ 0 < P * S := by
  obtain ⟨a1, a2, a3, a4, a5, a6⟩ := h.num
  have b1 : P * S ≤ 32 * 4184 := Nat.mul_le_mul a4 a6
  have b2 : N * (P * S) ≤ 64 * (32 * 4184) := Nat.mul_le_mul a2 b1
  have b3 : 4 * 120 ≤ P * S := Nat.mul_le_mul a3 a5
  omega
end
end Go.Proofs.YtakibiigcdgohaaGreatDoor.na
namespace Go.Proofs.YtakibiigcdgohaaGreatDoor.ge
open Go.RowKit
set_option maxRecDepth 20000
def spl (g : List Int) : List Int := [gb g 0, 7, 64, gb g 1, 4, 32, gb g 2, 32, 4096, gb g 3, 0, 8, gb g 4, 1, 1000, gb g 5, 1, 1000]
def kp (g : List Int) (i : Nat) : Bool := decide (gb (spl g) (i * 3 + 1) ≤ gb (spl g) (i * 3)) && decide (gb (spl g) (i * 3) ≤ gb (spl g) (i * 3 + 2))
theorem kept_iff (g : List Int) : Kept g ↔ ∀ i, i < 6 → kp g i = true := by
  constructor
  · rintro ⟨h0, h1, h2, h3, h4, h5⟩ i hi
    have : i = 0 ∨ i = 1 ∨ i = 2 ∨ i = 3 ∨ i = 4 ∨ i = 5 := by omega
    rcases this with rfl | rfl | rfl | rfl | rfl | rfl
    · exact Bool.and_eq_true_iff.2 ⟨decide_eq_true h0.1, decide_eq_true h0.2⟩
    · exact Bool.and_eq_true_iff.2 ⟨decide_eq_true h1.1, decide_eq_true h1.2⟩
    · exact Bool.and_eq_true_iff.2 ⟨decide_eq_true h2.1, decide_eq_true h2.2⟩
    · exact Bool.and_eq_true_iff.2 ⟨decide_eq_true h3.1, decide_eq_true h3.2⟩
    · exact Bool.and_eq_true_iff.2 ⟨decide_eq_true h4.1, decide_eq_true h4.2⟩
    · exact Bool.and_eq_true_iff.2 ⟨decide_eq_true h5.1, decide_eq_true h5.2⟩
  · intro h
    have f : ∀ i, i < 6 → gb (spl g) (i * 3 + 1) ≤ gb (spl g) (i * 3) ∧ gb (spl g) (i * 3) ≤ gb (spl g) (i * 3 + 2) := fun i hi => by
      have := Bool.and_eq_true_iff.1 (h i hi)
      exact ⟨of_decide_eq_true this.1, of_decide_eq_true this.2⟩
    exact ⟨f 0 (by omega), f 1 (by omega), f 2 (by omega), f 3 (by omega), f 4 (by omega), f 5 (by omega)⟩
theorem kept1_any (i b : Nat) (L : List Int) (w : World) (hA : Ar w b 0 .i64 L) (hl : L.length = 18) (hi : i < 6) (t : Bool) (ht : t = (decide (gb L (i * 3 + 1) ≤ gb L (i * 3)) && decide (gb L (i * 3) ≤ gb L (i * 3 + 2)))) :
    Calls Tryz.prog 75 #[.int .i64 i, .pointer (some ⟨b, 0, none⟩)] w fun e w' => e = .returned (.bool t) ∧ ∃ n, w' = w.drewN n := by
  have c0 := hA.cell0 (i * 3) (by omega)
  have c1 := hA.cell0 (i * 3 + 1) (by omega)
  have c2 := hA.cell0 (i * 3 + 2) (by omega)
  have i0 : (0 : Int) ≤ (i : Int) := by omega
  have i1 : (i : Int) < 6 := by omega
  have q1 : IntKind.i64.wrap (i : Int) = i := by rw [IntKind.wrap_i64]; omega
  clear hA hl hi
  generalize gb L (i * 3) = x0 at *
  generalize gb L (i * 3 + 1) = x1 at *
  generalize gb L (i * 3 + 2) = x2 at *
  by_cases h : x1 ≤ x0
  · have hd : decide (x1 ≤ x0) = true := decide_eq_true h
    rw [hd, Bool.true_and] at ht
    subst ht
    clear h
    go_enter Tryz.func75, Tryz.ntmps75
    go_wp2
    go_quiet (fail)
    go_wp2
    go_ret
    exact ⟨rfl, _, rfl⟩
  · have hd : decide (x1 ≤ x0) = false := decide_eq_false h
    rw [hd, Bool.false_and] at ht
    subst ht
    clear h
    go_enter Tryz.func75, Tryz.ntmps75
    go_wp2
    go_quiet (fail)
    go_wp2
    go_ret
    exact ⟨rfl, _, rfl⟩
theorem zero_spans : (Tryz.prog.info? 145).map (fun i => (i.zero, i.size)) = some (some (.agg (ints .i64 (List.replicate 18 0))), (List.replicate 18 (0 : Int)).length) := by kernel_rfl
theorem size_spans : (Tryz.prog.info? 145).map (·.size) = some 18 := by kernel_rfl
theorem kp_more {g : List Int} {k : Nat} (h : ∀ j, j < k → kp g j = true) (h' : kp g k = true) : ∀ j, j < k + 1 → kp g j = true := fun j hj => by
  by_cases e : j < k
  · exact h j e
  · have : j = k := by omega
    subst this; exact h'
theorem kept_any (g : List Int) (w : World) (hl : g.length = 6) (t : Bool) (ht : t = true ↔ Kept g) :
    Calls Tryz.prog 55 #[.agg (ints .i64 g)] w fun x w' => x = .returned (.bool t) ∧ Below w.heap.size w w' := by
  have HT : Hid (t = true ↔ ∀ i, i < 6 → kp g i = true) := ht.trans (kept_iff g)
  have S : Hid (∀ (i b : Nat) (w : World), Ar w b 0 .i64 (spl g) → i < 6 → Calls Tryz.prog 75 #[.int .i64 i, .pointer (some ⟨b, 0, none⟩)] w fun e w' => e = .returned (.bool (kp g i)) ∧ ∃ n, w' = w.drewN n) := fun i b w hA hi => kept1_any i b (spl g) w hA rfl hi _ rfl
  have hmf : ∀ (fn : Fn) (first cap : Array Value) (w : World), (Instr.makeFunc fn first cap).run Tryz.prog w = .ok (.func fn first cap) w := fun _ _ _ _ => rfl
  clear ht
  go_enter Tryz.func55, Tryz.ntmps55
  go_wp2_with (first
    | (refine store_lawF _ rfl (.tmp 3) (.tmp 24) 145 rfl .i64 (List.replicate 18 0) (spl g) _ rfl rfl X2 18 size_spans rfl rfl ?_; intro w3 X3 B3)
    | (refine new_lawF _ rfl 145 rfl .i64 (List.replicate 18 0) zero_spans ?_; intro w2 X2 B2 L2)
    | (refine box_lawF _ rfl (.tmp 0) 23 rfl .i64 g rfl ?_; intro w1 X1 B1 L1; obtain ⟨f0, f1, f2, f3, f4, f5⟩ := geo_cells X1 hl))
  have HB : Hid (Below w.heap.size w w3) := B1.trans ((B2.trans B3).mono (by omega))
  generalize hq : w1.heap.size = c at *
  have hcw : w.heap.size ≤ c := by omega
  clear X1 X2 B1 B2 B3 L1 L2 f0 f1 f2 f3 f4 f5 hq
  go_loopw [26] (fun i wr => ∃ k : Nat, k ≤ 6 ∧ i = .int .i64 k ∧ Hid (∀ j, j < k → kp g j = true) ∧ Hid (Ar wr c 0 .i64 (spl g)) ∧ Hid (Below w.heap.size w wr)) (fun i _ => 6 - (intOf i).toNat)
  case atStart => exact ⟨0, Nat.zero_le _, rfl, (fun j hj => by omega), X3, HB⟩
  case round =>
    obtain ⟨k, hk, rfl, HK, HX, HW⟩ := hrel
    obtain ⟨wa, rfl⟩ : ∃ wx, wx = wr := ⟨_, rfl⟩
    have k0 : (0 : Int) ≤ (k : Int) := by omega
    have q1 : IntKind.i64.wrap (k : Int) = k := by rw [IntKind.wrap_i64]; omega
    by_cases hlt : k < 6
    · have k1 : (k : Int) < 6 := by omega
      by_cases hp : kp g k = true
      · have S1 : Hid (Calls Tryz.prog 75 #[.int .i64 k, .pointer (some ⟨c, 0, none⟩)] wa fun e w' => e = .returned (.bool true) ∧ ∃ n, w' = wa.drewN n) := by
          have := S.out k c wa HX.out hlt
          rwa [hp] at this
        have HP : Hid (kp g k = true) := hp
        clear hp
        go_wp2_with (go_at_call 75; refine S1.out.mono ?_; rintro e wx ⟨rfl, n, hw⟩; obtain rfl := hw.symm)
        go_roundw
        case rel => exact ⟨k + 1, by omega, by go_num, kp_more HK.out HP.out, HX.out.drewN n, below_drewN HW.out n⟩
        case measure => simp [intOf]; omega
      · have S1 : Hid (Calls Tryz.prog 75 #[.int .i64 k, .pointer (some ⟨c, 0, none⟩)] wa fun e w' => e = .returned (.bool false) ∧ ∃ n, w' = wa.drewN n) := by
          have := S.out k c wa HX.out hlt
          rwa [Bool.eq_false_iff.2 hp] at this
        have ht : t = false := Bool.eq_false_iff.2 fun h => hp (HT.out.1 h k hlt)
        subst ht
        clear hp
        go_wp2_with (go_at_call 75; refine S1.out.mono ?_; rintro e wx ⟨rfl, n, hw⟩; obtain rfl := hw.symm)
        go_ret
        exact ⟨rfl, below_drewN HW.out n⟩
    · have hk6 : k = 6 := by omega
      subst hk6
      have ht : t = true := HT.out.2 HK.out
      subst ht
      go_wp2
      go_ret
      exact ⟨rfl, HW.out⟩
end Go.Proofs.YtakibiigcdgohaaGreatDoor.ge
namespace Go.Proofs.YtakibiigcdgohaaGreatDoor.ge
open Go.RowKit
set_option maxRecDepth 20000
section
variable {ops : Array Oper} {C : World → Prop} {K : Act → Prop} {o : Oper} {a : Act}
theorem q_skip (hw : Region.wanted o (yielded ops a.tmps) = false) (d : Option Tmp) (hd : o.dst = d) (hK : K (a.put d undef)) :
    if Region.wanted o (yielded ops a.tmps) = true then o.quiet Tryz.prog a C K else K (a.put o.dst undef) := by
  rw [if_neg (by rw [hw]; simp)]
  subst hd
  exact hK
theorem q_loadS (hw : Region.wanted o (yielded ops a.tmps) = true) (d : Option Tmp) (hd : o.dst = d) (x : Operand) (t : TypeId) (hop : o.op = Op.load t x) (p v : Value) (hx : a.eval x = p) (h : ∀ w, C w → (Instr.loadAt t p).run Tryz.prog w = .ok v w) (hK : K (a.put d v)) :
    if Region.wanted o (yielded ops a.tmps) = true then o.quiet Tryz.prog a C K else K (a.put o.dst undef) := by
  refine q_val hw d hd _ (fun w hC => ?_) hK
  unfold execOp
  simp only [hop, hx, Sem.run_bind, Result.andThen_ok, h w hC]
  rfl
end
theorem Hid.mk' {p : Prop} (h : p) : Hid p := h
theorem geo_class {w1 : World} {c : Nat} {g : List Int} (h : Ar w1 c 0 .i64 g) (hl : g.length = 6) : ∀ w', Below w1.heap.size w1 w' →
    w'.cell? ⟨c, 0, none⟩ = some (.int .i64 (gb g 0)) ∧ w'.cell? ⟨c, 1, none⟩ = some (.int .i64 (gb g 1)) ∧ w'.cell? ⟨c, 2, none⟩ = some (.int .i64 (gb g 2)) ∧ w'.cell? ⟨c, 3, none⟩ = some (.int .i64 (gb g 3)) ∧
    w'.cell? ⟨c, 4, none⟩ = some (.int .i64 (gb g 4)) ∧ w'.cell? ⟨c, 5, none⟩ = some (.int .i64 (gb g 5)) ∧ (Instr.loadAt 23 (.pointer (some ⟨c, 0, none⟩))).run Tryz.prog w' = .ok (.agg (ints .i64 g)) w' :=
  fun _ hb => by
    have a := h.below hb (h.lt (by omega))
    obtain ⟨f0, f1, f2, f3, f4, f5⟩ := geo_cells a hl
    exact ⟨f0, f1, f2, f3, f4, f5, load_geo a hl⟩
theorem call_class {f : FuncId} {vs : Array Value} {v : Value} (h : ∀ w, Calls Tryz.prog f vs w fun e w' => e = .returned v ∧ Below w.heap.size w w') (w1 : World) : ∀ w', Below w1.heap.size w1 w' → Calls Tryz.prog f vs w' fun e w'' => e = .returned v ∧ Below w1.heap.size w1 w'' :=
  fun w' hb => (h w').mono fun _ _ h' => ⟨h'.1, hb.trans (h'.2.mono hb.size)⟩
theorem check_k (g : List Int) (w : World) (hl : g.length = 6) (hk : ¬ Kept g) :
    Calls Tryz.prog 33 #[.agg (ints .i64 g)] w fun x w' => x = .returned (.int .i64 2) ∧ Below w.heap.size w w' := by
  have S : Hid (∀ w, Calls Tryz.prog 55 #[.agg (ints .i64 g)] w fun x w' => x = .returned (.bool false) ∧ Below w.heap.size w w') := fun w => kept_any g w hl false (iff_of_false Bool.false_ne_true hk)
  have t0 := tR
  clear hk
  go_enter Tryz.func33, Tryz.ntmps33
  go_wp2_with (first
    | (go_at_call 55; refine (S.out _).mono ?_; rintro e w2 ⟨rfl, B2⟩; have HX : Hid (Ar w2 w.heap.size 0 .i64 g) := HX.out.below B2 (by omega); obtain ⟨e0, e1, e2, e3, e4, e5⟩ := geo_cells HX.out hl)
    | (have q1 := HX; refine load_lawS _ (by rfl) _ _ rfl (load_geo HX.out hl) ?_)
    | (have q0 := t0; refine box_lawF _ rfl (.tmp 0) 23 rfl .i64 g rfl ?_; intro w1 X1 B1 L1; have HX : Hid (Ar w1 w.heap.size 0 .i64 g) := X1; obtain ⟨f0, f1, f2, f3, f4, f5⟩ := geo_cells X1 hl; clear X1 t0))
  go_ret
  exact ⟨rfl, B1.trans (B2.mono (by omega))⟩
theorem check_m (g : List Int) (w : World) (hl : g.length = 6) (hk : Kept g) (h16 : gb g 2 % 16 ≠ 0) :
    Calls Tryz.prog 33 #[.agg (ints .i64 g)] w fun x w' => x = .returned (.int .i64 2) ∧ Below w.heap.size w w' := by
  have S : Hid (∀ w, Calls Tryz.prog 55 #[.agg (ints .i64 g)] w fun x w' => x = .returned (.bool true) ∧ Below w.heap.size w w') := fun w => kept_any g w hl true (iff_of_true rfl hk)
  obtain ⟨m, hm⟩ : ∃ m, m = gb g 2 % 16 := ⟨_, rfl⟩
  have q1 : (gb g 2).tmod 16 = m := by rw [hm]; exact Int.tmod_eq_emod_of_nonneg (by obtain ⟨-, -, h, -⟩ := hk; omega)
  have m0 : m ≠ 0 := by omega
  have m1 : IntKind.i64.wrap m = m := by rw [IntKind.wrap_i64]; omega
  have t0 := tR
  clear hk h16 hm
  go_enter Tryz.func33, Tryz.ntmps33
  go_wp2_with (first
    | (go_at_call 55; refine (S.out _).mono ?_; rintro e w2 ⟨rfl, B2⟩; have HX : Hid (Ar w2 w.heap.size 0 .i64 g) := HX.out.below B2 (by omega); obtain ⟨e0, e1, e2, e3, e4, e5⟩ := geo_cells HX.out hl)
    | (have q1 := HX; refine load_lawS _ (by rfl) _ _ rfl (load_geo HX.out hl) ?_)
    | (have q0 := t0; refine box_lawF _ rfl (.tmp 0) 23 rfl .i64 g rfl ?_; intro w1 X1 B1 L1; have HX : Hid (Ar w1 w.heap.size 0 .i64 g) := X1; obtain ⟨f0, f1, f2, f3, f4, f5⟩ := geo_cells X1 hl; clear X1 t0))
  go_ret
  exact ⟨rfl, B1.trans (B2.mono (by omega))⟩
theorem check_r (g : List Int) (w : World) (hl : g.length = 6) (hk : Kept g) (h16 : gb g 2 % 16 = 0) (hr : gb g 1 < rec g) :
    Calls Tryz.prog 33 #[.agg (ints .i64 g)] w fun x w' => x = .returned (.int .i64 2) ∧ Below w.heap.size w w' := by
  have S : Hid (∀ w, Calls Tryz.prog 55 #[.agg (ints .i64 g)] w fun x w' => x = .returned (.bool true) ∧ Below w.heap.size w w') := fun w => kept_any g w hl true (iff_of_true rfl hk)
  obtain ⟨m, hm⟩ : ∃ m, m = gb g 2 % 16 := ⟨_, rfl⟩
  have q1 : (gb g 2).tmod 16 = m := by rw [hm]; exact Int.tmod_eq_emod_of_nonneg (by obtain ⟨-, -, h, -⟩ := hk; omega)
  have m0 : m = 0 := by omega
  subst m0
  have SR' : Hid (∀ w, Calls Tryz.prog 56 #[.agg (ints .i64 g)] w fun x w' => x = .returned (.int .i64 (rec g)) ∧ Below w.heap.size w w') := fun w => rec_any g w hl hk
  have SD' : Hid (∀ w, Calls Tryz.prog 57 #[.agg (ints .i64 g)] w fun x w' => x = .returned (.int .i64 (gb g 0 - 4)) ∧ Below w.heap.size w w') := fun w => db_any g w hl hk
  have q2 : IntKind.i64.wrap (gb g 3 + 3) = gb g 3 + 3 := by obtain ⟨-, -, -, h, -⟩ := hk; rw [IntKind.wrap_i64]; omega
  have t0 := tR
  clear hk h16 hm
  generalize rec g = z at *
  generalize gb g 0 - 4 = y at *
  go_enter Tryz.func33, Tryz.ntmps33
  go_wp2_with (first
    | (go_at_call 55; refine (S.out _).mono ?_; rintro e w2 ⟨rfl, B2⟩; have HX : Hid (Ar w2 w.heap.size 0 .i64 g) := HX.out.below B2 (by omega); obtain ⟨e0, e1, e2, e3, e4, e5⟩ := geo_cells HX.out hl)
    | (have q1 := HX; refine load_lawS _ (by rfl) _ _ rfl (load_geo HX.out hl) ?_)
    | (have q0 := t0; refine box_lawF _ rfl (.tmp 0) 23 rfl .i64 g rfl ?_; intro w1 X1 B1 L1; have HX : Hid (Ar w1 w.heap.size 0 .i64 g) := X1; obtain ⟨f0, f1, f2, f3, f4, f5⟩ := geo_cells X1 hl; clear X1 t0))
  have SR : Hid (∀ w', Below w2.heap.size w2 w' → Calls Tryz.prog 56 #[.agg (ints .i64 g)] w' fun x w'' => x = .returned (.int .i64 z) ∧ Below w2.heap.size w2 w'') := call_class SR'.out w2
  have SD : Hid (∀ w', Below w2.heap.size w2 w' → Calls Tryz.prog 57 #[.agg (ints .i64 g)] w' fun x w'' => x = .returned (.int .i64 y) ∧ Below w2.heap.size w2 w'') := call_class SD'.out w2
  have GC := Hid.mk' (geo_class HX.out hl)
  refine region_quietC (C := fun w' => Below w2.heap.size w2 w') (by kernel_rfl) (by kernel_rfl) (Below.refl _ _).drew ?_
  refine wpQuiet_step (fun K hK => ?_)
  refine q_loadS (by rfl) (some 12) rfl (.tmp 1) 23 rfl (.pointer (some ⟨w.heap.size, 0, none⟩)) (.agg (ints .i64 g)) rfl (fun w' h => (GC.out w' h).2.2.2.2.2.2) (hK _ ?_)
  simp only [Act.put, zE1, zE2, zE3]
  clear hK K
  refine wpQuiet_step (fun K hK => ?_)
  refine q_call (by rfl) (some 13) rfl 56 #[.tmp 12] #[23] rfl (fun q w' => by rfl) #[.agg (ints .i64 g)] (by simp only [List.map_toArray, List.map_cons, List.map_nil]; rfl) (.int .i64 z) SR.out (hK _ ?_)
  simp only [Act.put, zE1, zE2, zE3]
  clear hK K
  refine wpQuiet_step (fun K hK => ?_)
  refine q_val (by rfl) (some 14) rfl (.pointer (some ⟨w.heap.size, 1, none⟩)) (fun w' _ => by go_simp) (hK _ ?_)
  simp only [Act.put, zE1, zE2, zE3]
  clear hK K
  refine wpQuiet_step (fun K hK => ?_)
  refine q_get (by rfl) (some 15) rfl (.tmp 14) 3 rfl .i64 (gb g 1) w.heap.size (1) rfl Tryz.underlying3 (fun w' h => (GC.out w' h).2.1) (hK _ ?_)
  simp only [Act.put, zE1, zE2, zE3]
  clear hK K
  refine wpQuiet_step (fun K hK => ?_)
  refine q_val (by rfl) (some 16) rfl (.bool true) (fun w' _ => by go_simp) (hK _ ?_)
  simp only [Act.put, zE1, zE2, zE3]
  clear hK K
  refine wpQuiet_step (fun K hK => ?_)
  refine q_val (by rfl) (some 17) rfl (.bool true) (fun w' _ => by rfl) (hK _ ?_)
  simp only [Act.put, zE1, zE2, zE3]
  clear hK K
  refine wpQuiet_step (fun K hK => ?_)
  refine q_skip (by rfl) (some 18) rfl (hK _ ?_)
  simp only [Act.put, zE1, zE2, zE3]
  clear hK K
  refine wpQuiet_step (fun K hK => ?_)
  refine q_skip (by rfl) (some 19) rfl (hK _ ?_)
  simp only [Act.put, zE1, zE2, zE3]
  clear hK K
  refine wpQuiet_step (fun K hK => ?_)
  refine q_skip (by rfl) (some 20) rfl (hK _ ?_)
  simp only [Act.put, zE1, zE2, zE3]
  clear hK K
  refine wpQuiet_step (fun K hK => ?_)
  refine q_skip (by rfl) (some 21) rfl (hK _ ?_)
  simp only [Act.put, zE1, zE2, zE3]
  clear hK K
  refine wpQuiet_step (fun K hK => ?_)
  refine q_skip (by rfl) (some 22) rfl (hK _ ?_)
  simp only [Act.put, zE1, zE2, zE3]
  clear hK K
  refine wpQuiet_step (fun K hK => ?_)
  refine q_skip (by rfl) (some 23) rfl (hK _ ?_)
  simp only [Act.put, zE1, zE2, zE3]
  clear hK K
  refine wpQuiet_step (fun K hK => ?_)
  refine q_val (by rfl) (some 24) rfl (.bool true) (fun w' _ => by rfl) (hK _ ?_)
  simp only [Act.put, zE1, zE2, zE3]
  clear hK K
  refine wpQuiet_nil ?_
  intro w3 B3
  go_wp2
  go_ret
  exact ⟨rfl, B1.trans ((B2.mono (by omega)).trans (B3.mono (by have := B2.size; omega)))⟩
theorem check_s (g : List Int) (w : World) (hl : g.length = 6) (hk : Kept g) (h16 : gb g 2 % 16 = 0) (hr : rec g ≤ gb g 1) (hs : gb g 0 - 4 < gb g 3 + 3) :
    Calls Tryz.prog 33 #[.agg (ints .i64 g)] w fun x w' => x = .returned (.int .i64 2) ∧ Below w.heap.size w w' := by
  have S : Hid (∀ w, Calls Tryz.prog 55 #[.agg (ints .i64 g)] w fun x w' => x = .returned (.bool true) ∧ Below w.heap.size w w') := fun w => kept_any g w hl true (iff_of_true rfl hk)
  obtain ⟨m, hm⟩ : ∃ m, m = gb g 2 % 16 := ⟨_, rfl⟩
  have q1 : (gb g 2).tmod 16 = m := by rw [hm]; exact Int.tmod_eq_emod_of_nonneg (by obtain ⟨-, -, h, -⟩ := hk; omega)
  have m0 : m = 0 := by omega
  subst m0
  have SR' : Hid (∀ w, Calls Tryz.prog 56 #[.agg (ints .i64 g)] w fun x w' => x = .returned (.int .i64 (rec g)) ∧ Below w.heap.size w w') := fun w => rec_any g w hl hk
  have SD' : Hid (∀ w, Calls Tryz.prog 57 #[.agg (ints .i64 g)] w fun x w' => x = .returned (.int .i64 (gb g 0 - 4)) ∧ Below w.heap.size w w') := fun w => db_any g w hl hk
  have q2 : IntKind.i64.wrap (gb g 3 + 3) = gb g 3 + 3 := by obtain ⟨-, -, -, h, -⟩ := hk; rw [IntKind.wrap_i64]; omega
  have t0 := tR
  clear hk h16 hm
  generalize rec g = z at *
  generalize gb g 0 - 4 = y at *
  go_enter Tryz.func33, Tryz.ntmps33
  go_wp2_with (first
    | (go_at_call 55; refine (S.out _).mono ?_; rintro e w2 ⟨rfl, B2⟩; have HX : Hid (Ar w2 w.heap.size 0 .i64 g) := HX.out.below B2 (by omega); obtain ⟨e0, e1, e2, e3, e4, e5⟩ := geo_cells HX.out hl)
    | (have q1 := HX; refine load_lawS _ (by rfl) _ _ rfl (load_geo HX.out hl) ?_)
    | (have q0 := t0; refine box_lawF _ rfl (.tmp 0) 23 rfl .i64 g rfl ?_; intro w1 X1 B1 L1; have HX : Hid (Ar w1 w.heap.size 0 .i64 g) := X1; obtain ⟨f0, f1, f2, f3, f4, f5⟩ := geo_cells X1 hl; clear X1 t0))
  have SR : Hid (∀ w', Below w2.heap.size w2 w' → Calls Tryz.prog 56 #[.agg (ints .i64 g)] w' fun x w'' => x = .returned (.int .i64 z) ∧ Below w2.heap.size w2 w'') := call_class SR'.out w2
  have SD : Hid (∀ w', Below w2.heap.size w2 w' → Calls Tryz.prog 57 #[.agg (ints .i64 g)] w' fun x w'' => x = .returned (.int .i64 y) ∧ Below w2.heap.size w2 w'') := call_class SD'.out w2
  have GC := Hid.mk' (geo_class HX.out hl)
  refine region_quietC (C := fun w' => Below w2.heap.size w2 w') (by kernel_rfl) (by kernel_rfl) (Below.refl _ _).drew ?_
  refine wpQuiet_step (fun K hK => ?_)
  refine q_loadS (by rfl) (some 12) rfl (.tmp 1) 23 rfl (.pointer (some ⟨w.heap.size, 0, none⟩)) (.agg (ints .i64 g)) rfl (fun w' h => (GC.out w' h).2.2.2.2.2.2) (hK _ ?_)
  simp only [Act.put, zE1, zE2, zE3]
  clear hK K
  refine wpQuiet_step (fun K hK => ?_)
  refine q_call (by rfl) (some 13) rfl 56 #[.tmp 12] #[23] rfl (fun q w' => by rfl) #[.agg (ints .i64 g)] (by simp only [List.map_toArray, List.map_cons, List.map_nil]; rfl) (.int .i64 z) SR.out (hK _ ?_)
  simp only [Act.put, zE1, zE2, zE3]
  clear hK K
  refine wpQuiet_step (fun K hK => ?_)
  refine q_val (by rfl) (some 14) rfl (.pointer (some ⟨w.heap.size, 1, none⟩)) (fun w' _ => by go_simp) (hK _ ?_)
  simp only [Act.put, zE1, zE2, zE3]
  clear hK K
  refine wpQuiet_step (fun K hK => ?_)
  refine q_get (by rfl) (some 15) rfl (.tmp 14) 3 rfl .i64 (gb g 1) w.heap.size (1) rfl Tryz.underlying3 (fun w' h => (GC.out w' h).2.1) (hK _ ?_)
  simp only [Act.put, zE1, zE2, zE3]
  clear hK K
  refine wpQuiet_step (fun K hK => ?_)
  refine q_val (by rfl) (some 16) rfl (.bool false) (fun w' _ => by go_simp) (hK _ ?_)
  simp only [Act.put, zE1, zE2, zE3]
  clear hK K
  refine wpQuiet_step (fun K hK => ?_)
  refine q_val (by rfl) (some 17) rfl (.bool false) (fun w' _ => by rfl) (hK _ ?_)
  simp only [Act.put, zE1, zE2, zE3]
  clear hK K
  refine wpQuiet_step (fun K hK => ?_)
  refine q_loadS (by rfl) (some 18) rfl (.tmp 1) 23 rfl (.pointer (some ⟨w.heap.size, 0, none⟩)) (.agg (ints .i64 g)) rfl (fun w' h => (GC.out w' h).2.2.2.2.2.2) (hK _ ?_)
  simp only [Act.put, zE1, zE2, zE3]
  clear hK K
  refine wpQuiet_step (fun K hK => ?_)
  refine q_call (by rfl) (some 19) rfl 57 #[.tmp 18] #[23] rfl (fun q w' => by rfl) #[.agg (ints .i64 g)] (by simp only [List.map_toArray, List.map_cons, List.map_nil]; rfl) (.int .i64 y) SD.out (hK _ ?_)
  simp only [Act.put, zE1, zE2, zE3]
  clear hK K
  refine wpQuiet_step (fun K hK => ?_)
  refine q_val (by rfl) (some 20) rfl (.pointer (some ⟨w.heap.size, 3, none⟩)) (fun w' _ => by go_simp) (hK _ ?_)
  simp only [Act.put, zE1, zE2, zE3]
  clear hK K
  refine wpQuiet_step (fun K hK => ?_)
  refine q_get (by rfl) (some 21) rfl (.tmp 20) 3 rfl .i64 (gb g 3) w.heap.size (3) rfl Tryz.underlying3 (fun w' h => (GC.out w' h).2.2.2.1) (hK _ ?_)
  simp only [Act.put, zE1, zE2, zE3]
  clear hK K
  refine wpQuiet_step (fun K hK => ?_)
  refine q_val (by rfl) (some 22) rfl (.int .i64 (gb g 3 + 3)) (fun w' _ => by go_simp) (hK _ ?_)
  simp only [Act.put, zE1, zE2, zE3]
  clear hK K
  refine wpQuiet_step (fun K hK => ?_)
  refine q_val (by rfl) (some 23) rfl (.bool true) (fun w' _ => by go_simp) (hK _ ?_)
  simp only [Act.put, zE1, zE2, zE3]
  clear hK K
  refine wpQuiet_step (fun K hK => ?_)
  refine q_val (by rfl) (some 24) rfl (.bool true) (fun w' _ => by rfl) (hK _ ?_)
  simp only [Act.put, zE1, zE2, zE3]
  clear hK K
  refine wpQuiet_nil ?_
  intro w3 B3
  go_wp2
  go_ret
  exact ⟨rfl, B1.trans ((B2.mono (by omega)).trans (B3.mono (by have := B2.size; omega)))⟩
theorem check_o (g : List Int) (w : World) (hl : g.length = 6) (hk : Kept g) (h16 : gb g 2 % 16 = 0) (hr : rec g ≤ gb g 1) (hs : gb g 3 + 3 ≤ gb g 0 - 4) :
    Calls Tryz.prog 33 #[.agg (ints .i64 g)] w fun x w' => x = .returned (.int .i64 0) ∧ Below w.heap.size w w' := by
  have S : Hid (∀ w, Calls Tryz.prog 55 #[.agg (ints .i64 g)] w fun x w' => x = .returned (.bool true) ∧ Below w.heap.size w w') := fun w => kept_any g w hl true (iff_of_true rfl hk)
  obtain ⟨m, hm⟩ : ∃ m, m = gb g 2 % 16 := ⟨_, rfl⟩
  have q1 : (gb g 2).tmod 16 = m := by rw [hm]; exact Int.tmod_eq_emod_of_nonneg (by obtain ⟨-, -, h, -⟩ := hk; omega)
  have m0 : m = 0 := by omega
  subst m0
  have SR' : Hid (∀ w, Calls Tryz.prog 56 #[.agg (ints .i64 g)] w fun x w' => x = .returned (.int .i64 (rec g)) ∧ Below w.heap.size w w') := fun w => rec_any g w hl hk
  have SD' : Hid (∀ w, Calls Tryz.prog 57 #[.agg (ints .i64 g)] w fun x w' => x = .returned (.int .i64 (gb g 0 - 4)) ∧ Below w.heap.size w w') := fun w => db_any g w hl hk
  have q2 : IntKind.i64.wrap (gb g 3 + 3) = gb g 3 + 3 := by obtain ⟨-, -, -, h, -⟩ := hk; rw [IntKind.wrap_i64]; omega
  have t0 := tR
  clear hk h16 hm
  generalize rec g = z at *
  generalize gb g 0 - 4 = y at *
  go_enter Tryz.func33, Tryz.ntmps33
  go_wp2_with (first
    | (go_at_call 55; refine (S.out _).mono ?_; rintro e w2 ⟨rfl, B2⟩; have HX : Hid (Ar w2 w.heap.size 0 .i64 g) := HX.out.below B2 (by omega); obtain ⟨e0, e1, e2, e3, e4, e5⟩ := geo_cells HX.out hl)
    | (have q1 := HX; refine load_lawS _ (by rfl) _ _ rfl (load_geo HX.out hl) ?_)
    | (have q0 := t0; refine box_lawF _ rfl (.tmp 0) 23 rfl .i64 g rfl ?_; intro w1 X1 B1 L1; have HX : Hid (Ar w1 w.heap.size 0 .i64 g) := X1; obtain ⟨f0, f1, f2, f3, f4, f5⟩ := geo_cells X1 hl; clear X1 t0))
  have SR : Hid (∀ w', Below w2.heap.size w2 w' → Calls Tryz.prog 56 #[.agg (ints .i64 g)] w' fun x w'' => x = .returned (.int .i64 z) ∧ Below w2.heap.size w2 w'') := call_class SR'.out w2
  have SD : Hid (∀ w', Below w2.heap.size w2 w' → Calls Tryz.prog 57 #[.agg (ints .i64 g)] w' fun x w'' => x = .returned (.int .i64 y) ∧ Below w2.heap.size w2 w'') := call_class SD'.out w2
  have GC := Hid.mk' (geo_class HX.out hl)
  refine region_quietC (C := fun w' => Below w2.heap.size w2 w') (by kernel_rfl) (by kernel_rfl) (Below.refl _ _).drew ?_
  refine wpQuiet_step (fun K hK => ?_)
  refine q_loadS (by rfl) (some 12) rfl (.tmp 1) 23 rfl (.pointer (some ⟨w.heap.size, 0, none⟩)) (.agg (ints .i64 g)) rfl (fun w' h => (GC.out w' h).2.2.2.2.2.2) (hK _ ?_)
  simp only [Act.put, zE1, zE2, zE3]
  clear hK K
  refine wpQuiet_step (fun K hK => ?_)
  refine q_call (by rfl) (some 13) rfl 56 #[.tmp 12] #[23] rfl (fun q w' => by rfl) #[.agg (ints .i64 g)] (by simp only [List.map_toArray, List.map_cons, List.map_nil]; rfl) (.int .i64 z) SR.out (hK _ ?_)
  simp only [Act.put, zE1, zE2, zE3]
  clear hK K
  refine wpQuiet_step (fun K hK => ?_)
  refine q_val (by rfl) (some 14) rfl (.pointer (some ⟨w.heap.size, 1, none⟩)) (fun w' _ => by go_simp) (hK _ ?_)
  simp only [Act.put, zE1, zE2, zE3]
  clear hK K
  refine wpQuiet_step (fun K hK => ?_)
  refine q_get (by rfl) (some 15) rfl (.tmp 14) 3 rfl .i64 (gb g 1) w.heap.size (1) rfl Tryz.underlying3 (fun w' h => (GC.out w' h).2.1) (hK _ ?_)
  simp only [Act.put, zE1, zE2, zE3]
  clear hK K
  refine wpQuiet_step (fun K hK => ?_)
  refine q_val (by rfl) (some 16) rfl (.bool false) (fun w' _ => by go_simp) (hK _ ?_)
  simp only [Act.put, zE1, zE2, zE3]
  clear hK K
  refine wpQuiet_step (fun K hK => ?_)
  refine q_val (by rfl) (some 17) rfl (.bool false) (fun w' _ => by rfl) (hK _ ?_)
  simp only [Act.put, zE1, zE2, zE3]
  clear hK K
  refine wpQuiet_step (fun K hK => ?_)
  refine q_loadS (by rfl) (some 18) rfl (.tmp 1) 23 rfl (.pointer (some ⟨w.heap.size, 0, none⟩)) (.agg (ints .i64 g)) rfl (fun w' h => (GC.out w' h).2.2.2.2.2.2) (hK _ ?_)
  simp only [Act.put, zE1, zE2, zE3]
  clear hK K
  refine wpQuiet_step (fun K hK => ?_)
  refine q_call (by rfl) (some 19) rfl 57 #[.tmp 18] #[23] rfl (fun q w' => by rfl) #[.agg (ints .i64 g)] (by simp only [List.map_toArray, List.map_cons, List.map_nil]; rfl) (.int .i64 y) SD.out (hK _ ?_)
  simp only [Act.put, zE1, zE2, zE3]
  clear hK K
  refine wpQuiet_step (fun K hK => ?_)
  refine q_val (by rfl) (some 20) rfl (.pointer (some ⟨w.heap.size, 3, none⟩)) (fun w' _ => by go_simp) (hK _ ?_)
  simp only [Act.put, zE1, zE2, zE3]
  clear hK K
  refine wpQuiet_step (fun K hK => ?_)
  refine q_get (by rfl) (some 21) rfl (.tmp 20) 3 rfl .i64 (gb g 3) w.heap.size (3) rfl Tryz.underlying3 (fun w' h => (GC.out w' h).2.2.2.1) (hK _ ?_)
  simp only [Act.put, zE1, zE2, zE3]
  clear hK K
  refine wpQuiet_step (fun K hK => ?_)
  refine q_val (by rfl) (some 22) rfl (.int .i64 (gb g 3 + 3)) (fun w' _ => by go_simp) (hK _ ?_)
  simp only [Act.put, zE1, zE2, zE3]
  clear hK K
  refine wpQuiet_step (fun K hK => ?_)
  refine q_val (by rfl) (some 23) rfl (.bool false) (fun w' _ => by go_simp) (hK _ ?_)
  simp only [Act.put, zE1, zE2, zE3]
  clear hK K
  refine wpQuiet_step (fun K hK => ?_)
  refine q_val (by rfl) (some 24) rfl (.bool false) (fun w' _ => by rfl) (hK _ ?_)
  simp only [Act.put, zE1, zE2, zE3]
  clear hK K
  refine wpQuiet_nil ?_
  intro w3 B3
  go_wp2
  go_ret
  exact ⟨rfl, B1.trans ((B2.mono (by omega)).trans (B3.mono (by have := B2.size; omega)))⟩
theorem check_yes (g : List Int) (hl : g.length = 6) (h : Rt g) (w : World) :
    Calls Tryz.prog 33 #[.agg (ints .i64 g)] w fun x w' => x = .returned (.int .i64 0) ∧ Below w.heap.size w w' := check_o g w hl h.1 h.2.1 h.2.2.1 h.2.2.2
theorem check_no (g : List Int) (hl : g.length = 6) (h : ¬ Rt g) (w : World) :
    Calls Tryz.prog 33 #[.agg (ints .i64 g)] w fun x w' => x = .returned (.int .i64 2) ∧ Below w.heap.size w w' := by
  by_cases hk : Kept g
  · by_cases h1 : gb g 2 % 16 = 0
    · by_cases h2 : rec g ≤ gb g 1
      · exact check_s g w hl hk h1 h2 (Int.not_le.1 fun h3 => h ⟨hk, h1, h2, h3⟩)
      · exact check_r g w hl hk h1 (Int.not_le.1 h2)
    · exact check_m g w hl hk h1
  · exact check_k g w hl hk
end Go.Proofs.YtakibiigcdgohaaGreatDoor.ge
namespace Go.Proofs.YtakibiigcdgohaaGreatDoor.ge
open Go.RowKit
set_option maxRecDepth 20000
theorem psize_yes (g : List Int) (hl : g.length = 6) (h : Rt g) (w : World) :
    Calls Tryz.prog 37 #[.agg (ints .i64 g)] w fun x w' => x = .returned (.int .i64 (gb g 2 + 88)) ∧ Below w.heap.size w w' := by
  have S : Hid (∀ w, Calls Tryz.prog 33 #[.agg (ints .i64 g)] w fun x w' => x = .returned (.int .i64 0) ∧ Below w.heap.size w w') := check_yes g hl h
  have q1 : IntKind.i64.wrap (gb g 2 + 88) = gb g 2 + 88 := by obtain ⟨⟨-, -, h, -⟩, -⟩ := h; rw [IntKind.wrap_i64]; omega
  clear h
  have t0 := tR
  go_enter Tryz.func37, Tryz.ntmps37
  go_wp2_with (first
    | (have q1 := t1; go_at_call 33; refine (S.out _).mono ?_; rintro e w2 ⟨rfl, B2⟩; have HX : Hid (Ar w2 w.heap.size 0 .i64 g) := HX.out.below B2 (HX.out.lt (by omega)); obtain ⟨e0, e1, e2, e3, e4, e5⟩ := geo_cells HX.out hl; have BB : Hid (Below w.heap.size w w2) := BB.out.trans (B2.mono BB.out.size); have t2 := tR; clear B2 t1)
    | (have q1 := HX; refine load_lawS _ (by rfl) _ _ rfl (load_geo HX.out hl) ?_)
    | (have q0 := t0; refine box_lawF _ rfl (.tmp 0) 23 rfl .i64 g rfl ?_; intro w1 X1 B1 L1; have HX : Hid (Ar w1 w.heap.size 0 .i64 g) := X1; obtain ⟨f0, f1, f2, f3, f4, f5⟩ := geo_cells X1 hl; have BB : Hid (Below w.heap.size w w1) := B1; have t1 := tR; clear X1 t0 B1))
  go_ret
  exact ⟨rfl, BB.out⟩
theorem chunks_yes (g : List Int) (hl : g.length = 6) (h : Rt g) (w : World) :
    Calls Tryz.prog 79 #[.agg (ints .i64 g)] w fun x w' => x = .returned (.int .i64 (rec g)) ∧ Below w.heap.size w w' := by
  have S : Hid (∀ w, Calls Tryz.prog 33 #[.agg (ints .i64 g)] w fun x w' => x = .returned (.int .i64 0) ∧ Below w.heap.size w w') := check_yes g hl h
  have S2 : Hid (∀ w, Calls Tryz.prog 56 #[.agg (ints .i64 g)] w fun x w' => x = .returned (.int .i64 (rec g)) ∧ Below w.heap.size w w') := fun w => rec_any g w hl h.1
  generalize rec g = z at *
  clear h
  have t0 := tR
  go_enter Tryz.func79, Tryz.ntmps79
  go_wp2_with (first
    | (have q2 := t2; go_at_call 56; refine (S2.out _).mono ?_; rintro e w3 ⟨rfl, B3⟩; have HX : Hid (Ar w3 w.heap.size 0 .i64 g) := HX.out.below B3 (HX.out.lt (by omega)); obtain ⟨e0, e1, e2, e3, e4, e5⟩ := geo_cells HX.out hl; have BB : Hid (Below w.heap.size w w3) := BB.out.trans (B3.mono BB.out.size); have t3 := tR; clear B3 t2)
    | (have q1 := t1; go_at_call 33; refine (S.out _).mono ?_; rintro e w2 ⟨rfl, B2⟩; have HX : Hid (Ar w2 w.heap.size 0 .i64 g) := HX.out.below B2 (HX.out.lt (by omega)); obtain ⟨e0, e1, e2, e3, e4, e5⟩ := geo_cells HX.out hl; have BB : Hid (Below w.heap.size w w2) := BB.out.trans (B2.mono BB.out.size); have t2 := tR; clear B2 t1)
    | (have q1 := HX; refine load_lawS _ (by rfl) _ _ rfl (load_geo HX.out hl) ?_)
    | (have q0 := t0; refine box_lawF _ rfl (.tmp 0) 23 rfl .i64 g rfl ?_; intro w1 X1 B1 L1; have HX : Hid (Ar w1 w.heap.size 0 .i64 g) := X1; obtain ⟨f0, f1, f2, f3, f4, f5⟩ := geo_cells X1 hl; have BB : Hid (Below w.heap.size w w1) := B1; have t1 := tR; clear X1 t0 B1))
  go_ret
  exact ⟨rfl, BB.out⟩
end Go.Proofs.YtakibiigcdgohaaGreatDoor.ge
