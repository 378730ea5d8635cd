/- Parts of the proof: what KeyboxGone reaches. No claim of its own. -/
import Derived.Laws.AppendOwnNone
import Derived.Deep.WholeRow
import Derived.Deep.MidRow
import Derived.Laws.StructEq
import Derived.WalkKit
import Derived.Deep.QuietTactic
import Derived.WalkSmall
import Derived.ProofKit
import Derived.OpenShut
import Derived.BigQuiet
import Derived.Deep.RegionHeld3
import Derived.Deep.DeepCutAuto
import Derived.Lib.AppendZeros
import Derived.Lib.SliceRun
import Derived.Deep.DeepHandedRow
import Derived.Lib.LaidTab
import Derived.Deep.Matrix
import Derived.Lib.MakeNoZero
import Derived.ArgAppend
import Derived.Test.YtakibiigcdgohaaGreatDoorD00
import Derived.Test.YtakibiigcdgohaaGreatDoorD01
import Derived.Test.YtakibiigcdgohaaGreatDoorD02
import Derived.Test.YtakibiigcdgohaaGreatDoorD03
import Derived.Test.YtakibiigcdgohaaGreatDoorD04
import Derived.Test.YtakibiigcdgohaaGreatDoorD05
import Derived.Test.YtakibiigcdgohaaGreatDoorD06
import Derived.Test.YtakibiigcdgohaaGreatDoorD07
import Derived.Test.YtakibiigcdgohaaGreatDoorD08
import Derived.Test.YtakibiigcdgohaaGreatDoorD09
import Derived.Test.YtakibiigcdgohaaGreatDoorD10
import Derived.Test.YtakibiigcdgohaaGreatDoorD11
import Derived.Test.YtakibiigcdgohaaGreatDoorD12
import Derived.Test.YtakibiigcdgohaaGreatDoorD13
import Derived.Test.YtakibiigcdgohaaGreatDoorD14
import Derived.Test.YtakibiigcdgohaaGreatDoorD15
set_option maxHeartbeats 8000000
namespace Go.Proofs.YtakibiigcdgohaaGreatDoor.ck
open Go.RowKit
set_option maxRecDepth 20000
theorem info_row : (Tryz.prog.info? 35).map (fun i => (i.zero, i.size, i.bytes)) = some (some (.slice none 0 0), 1, 24) := by kernel_rfl
def Sle (v : Value) : Prop := ∃ ao n cap, v = .slice ao n cap
theorem sle_byt {w : World} {v : Value} {xs : List Int} (h : Byt w v xs) : Sle v := by
  obtain ⟨ao, cap, rfl, _⟩ := h
  exact ⟨_, _, _, rfl⟩
def Vals (w : World) (v : Value) (vs : List Value) : Prop :=
  ∃ ao cap, v = .slice ao vs.length cap ∧ vs.length ≤ cap ∧ cap ≤ 9223372036854775807 ∧ (ao = none → cap = 0) ∧
    (0 < vs.length → ∃ b off, ao = some ⟨b, off, none⟩ ∧ ∀ t, t < vs.length → w.cell? ⟨b, off + t, none⟩ = some (vs.getD t undef))
theorem Vals.below {w w' : World} {v : Value} {vs : List Value} (h : Vals w v vs) (hb : Below w.heap.size w w') : Vals w' v vs := by
  obtain ⟨ao, cap, rfl, h1, h2, h4, h5⟩ := h
  refine ⟨ao, cap, rfl, h1, h2, h4, fun hp => ?_⟩
  obtain ⟨b, off, rfl, hc⟩ := h5 hp
  refine ⟨b, off, rfl, fun t ht => ?_⟩
  have := hc t ht
  rw [hb.cell (World.block_lt_of_cell? w _ this)]
  exact this
theorem Vals.nil (w : World) : Vals w (.slice none 0 0) [] :=
  ⟨none, 0, rfl, by simp, by simp, fun _ => rfl, fun h => by simp at h⟩
def OwnR (B : Nat) (w : World) (v : Value) (vs : List Value) : Prop := w.ownsRow B 35 1 v vs.length vs
theorem OwnR.one (w : World) {B : Nat} (hB : B ≤ w.heap.size) (x : Value) : OwnR B (w.alloc (.cells #[x] 35)) (.slice (some ⟨w.heap.size, 0, none⟩) 1 1) [x] :=
  World.ownsRow_lit w #[x] 1 hB (by simp [maxLen]) (by simp)
theorem ownr_nil (B : Nat) (w : World) : OwnR B w (.slice none 0 0) [] := ⟨by simp, .inl ⟨rfl, rfl⟩⟩
theorem OwnR.vals {B : Nat} {w : World} {v : Value} {vs : List Value} (h : OwnR B w v vs) : Vals w v vs := by
  rcases h.2 with ⟨rfl, hn⟩ | ⟨g, cap, cur, rfl, hg, hb, hc, hm, hs, ht⟩
  · have : vs = [] := List.eq_nil_of_length_eq_zero (by omega)
    subst this
    exact Vals.nil w
  · refine ⟨some ⟨g, 0, none⟩, cap, rfl, hc, by simpa [maxLen] using hm, (by intro h; cases h), fun hp => ⟨g, 0, rfl, fun t ht' => ?_⟩⟩
    have := h.cells (g := g) rfl t (vs.getD t undef) (by simp [List.getD, ht'])
    rw [Addr.add_lit] at this
    simpa using this
theorem OwnR.below {B : Nat} {w w' : World} {v : Value} {vs : List Value} (h : OwnR B w v vs) (hb : Below w.heap.size w w') : OwnR B w' v vs :=
  World.ownsRow.kept (row := none) h ⟨hb.os, hb.tape, hb.output, hb.size, fun j hj _ => hb.block j hj⟩ (by cases hv : v.ownBlock <;> simp)
theorem OwnR.less {w : World} {B B' : Nat} {v : Value} {vs : List Value} (h : OwnR B w v vs) (hB : B' ≤ B) : OwnR B' w v vs := by
  obtain ⟨a1, a2⟩ := h
  refine ⟨a1, ?_⟩
  rcases a2 with e1 | ⟨g', c', u', e1, e2, e3⟩
  · exact .inl e1
  · exact .inr ⟨g', c', u', e1, by omega, e3⟩
section
variable {ops : Array Oper} {rest : List Oper} {o : Oper} {a : Act} {Q : Exit → Act → World → Prop} {K : Act → World → Prop} {E : Prop}
theorem step_oneR (w : World) (hw : Region.wanted o (yielded ops a.tmps) = true) (d : Option Tmp) (hd : o.dst = d) (x : Operand) (hop : o.op = Op.buildSlice 68 1 #[(0, x)]) (v : Value) (hv : Sle v) (hx : a.eval x = v)
    (hK : ∀ w', OwnR w.heap.size w' (.slice (some ⟨w.heap.size, 0, none⟩) 1 1) [v] → Below w.heap.size w w' → K (a.put d (.slice (some ⟨w.heap.size, 0, none⟩) 1 1)) w') : if Region.wanted o (yielded ops a.tmps) = true then Oper.wp Tryz.prog o a w K Q else E := by
  rw [if_pos hw]
  subst hd
  obtain ⟨ao, n, cap, rfl⟩ := hv
  have hrun : (Instr.buildSlice 68 1 #[(0, .slice ao n cap)]).run Tryz.prog w = .ok (.slice (some ⟨w.heap.size, 0, none⟩) 1 1) (w.alloc (.cells #[.slice ao n cap] 35)) := by kernel_rfl
  unfold Oper.wp execOp
  simp only [hop, List.map_toArray, List.map_cons, List.map_nil, hx, Sem.run_bind, Sem.run_pure, Result.andThen_ok, hrun]
  exact hK _ (OwnR.one w (Nat.le_refl _) _) ((Below.refl _ _).alloc (Nat.le_refl _) _)
theorem step_pushsR (w : World) (hw : Region.wanted o (yielded ops a.tmps) = true) (d : Option Tmp) (hd : o.dst = d) (s x : Operand) (hop : o.op = .call { callee := .builtin .append, args := #[s, x], argTypes := #[68, 68] })
    (B : Nat) (hB : B ≤ w.heap.size) (v vy : Value) (vs us : List Value) (hs : a.eval s = v) (hx : a.eval x = vy) (hown : OwnR B w v vs) (hy : Vals w vy us) (hu : ∀ u ∈ us, Sle u) (hn : vs.length ≤ 1000000) (hm : us.length ≤ 1000000)
    (hK : ∀ v' w', OwnR B w' v' (vs ++ us) → Below B w w' → w.grownBy w' v.ownBlock → K (a.put d v') w') : if Region.wanted o (yielded ops a.tmps) = true then Oper.wp Tryz.prog o a w K Q else E := by
  rw [if_pos hw]
  subst hd
  obtain ⟨i0, hi, hz0, hz1, hz2⟩ := info_parts info_row
  obtain ⟨ao, cap, rfl, h1, h2, h4, h5⟩ := hy
  cases ao with
  | none =>
    have hc := h4 rfl
    subst hc
    have : us = [] := List.eq_nil_of_length_eq_zero (by omega)
    subst this
    have hrun := run_append_owned_none (P := Tryz.prog) (w := w) B 68 o.type 35 i0 1 Tryz.underlying68 hi v vs.length _ hown
    have hx' : a.eval x = .slice none 0 0 := hx
    unfold Oper.wp
    simp [execOp, hop, resolve, invoke, builtin, hs, hx', hrun, Result.andThen]
    refine hK v w ?_ (Below.refl _ _) ?_
    · rwa [List.append_nil]
    · exact ⟨rfl, rfl, rfl, Nat.le_refl _, fun _ _ _ => rfl⟩
  | some ad =>
    refine wp_append_own _ s x 68 hop B 35 i0 (.slice none 0 0) 1 24 Tryz.underlying68 hi hz0 hz1 hz2 rfl (by decide) v vs.length _ hs hown ad us.length cap us hx (by simp) ?_ ?_ (by simp only [maxLen]; omega) (by omega) hB fun v' w' h1 h2 _ => ?_
    · intro j u hj
      have hjl : j < us.length := (List.getElem?_eq_some_iff.1 hj).1
      obtain ⟨b, off, e, hc⟩ := h5 (by omega)
      cases e
      rw [Addr.add_mid, hc j hjl, ← hj]
      simp [List.getD, hjl]
    · intro u hu'
      obtain ⟨ao, n, c, rfl⟩ := hu u hu'
      rfl
    · refine hK v' w' ?_ ?_ h2
      · show w'.ownsRow B 35 1 v' (vs ++ us).length (vs ++ us)
        simpa using h1
      · exact (Below.refl B w).grown h2 hB fun k hk => (World.ownsRow.lt hown k hk).1
theorem one_lawR (w : World) (hg : o.guard = none) (x : Operand) (hop : o.op = Op.buildSlice 68 1 #[(0, x)]) (v : Value) (hv : Sle v) (hx : a.eval x = v)
    (hK : ∀ w', OwnR w.heap.size w' (.slice (some ⟨w.heap.size, 0, none⟩) 1 1) [v] → Below w.heap.size w w' → wpList Tryz.prog ops Q rest (a.put o.dst (.slice (some ⟨w.heap.size, 0, none⟩) 1 1)) w') : wpList Tryz.prog ops Q (o :: rest) a w := by
  refine wpList_step fun K hK' => ?_
  exact step_oneR w (by simp [Region.wanted, hg]) o.dst rfl x hop v hv hx fun w' h1 h2 => hK' _ _ (hK w' h1 h2)
end
def Pgs (w : World) (v : Value) (ls : List (List Int)) : Prop := ∃ vs, Vals w v vs ∧ vs.length = ls.length ∧ ∀ i, i < ls.length → Byt w (vs.getD i undef) (ls.getD i [])
theorem Pgs.below {w w' : World} {v : Value} {ls : List (List Int)} (h : Pgs w v ls) (hb : Below w.heap.size w w') : Pgs w' v ls := by
  obtain ⟨vs, h1, h2, h3⟩ := h
  exact ⟨vs, h1.below hb, h2, fun i hi => (h3 i hi).below hb⟩
end Go.Proofs.YtakibiigcdgohaaGreatDoor.ck
namespace Go.Proofs.YtakibiigcdgohaaGreatDoor.ck
open Go.RowKit Go.Proofs.YtakibiigcdgohaaGreatDoor.fa Go.Proofs.YtakibiigcdgohaaGreatDoor.he Go.Proofs.YtakibiigcdgohaaGreatDoor.pa
set_option maxRecDepth 20000
theorem rec_nc (g0 g1 g3 g4 g5 : Int) (S : Nat) : ge.rec [g0, g1, (S : Int), g3, g4, g5] = (nc S : Int) := by
  have e : gb [g0, g1, (S : Int), g3, g4, g5] 2 = (S : Int) := rfl
  unfold ge.rec nc
  rw [e, Int.natCast_ediv, show ((624 + S - 1 : Nat) : Int) = 624 + (S : Int) - 1 by omega]
theorem rt_sec {g0 g1 g3 g4 g5 : Int} {S : Nat} (h : ge.Rt [g0, g1, (S : Int), g3, g4, g5]) : 32 ≤ S ∧ S ≤ 4096 := sec_le h
theorem chunks_nc {g0 g1 g3 g4 g5 : Int} {S : Nat} (h : ge.Rt [g0, g1, (S : Int), g3, g4, g5]) (w : World) :
    Calls Tryz.prog 79 #[.agg (ints .i64 [g0, g1, (S : Int), g3, g4, g5])] w fun x w' => x = .returned (.int .i64 (nc S : Int)) ∧ Below w.heap.size w w' := by
  have := ge.chunks_yes [g0, g1, (S : Int), g3, g4, g5] rfl h w
  rwa [rec_nc] at this
theorem rchunks_nc {g0 g1 g3 g4 g5 : Int} {S : Nat} (h : ge.Rt [g0, g1, (S : Int), g3, g4, g5]) (w : World) :
    Calls Tryz.prog 22 #[.agg (ints .i64 [g0, g1, (S : Int), g3, g4, g5])] w fun x w' => x = .returned (.int .i64 (nc S : Int)) ∧ Below w.heap.size w w' := by
  have := ge.rchunks_any [g0, g1, (S : Int), g3, g4, g5] rfl h.1 w
  rwa [rec_nc] at this
theorem exec_mul {ev : Operand → Value} {o : Oper} {w : World} (x y : Operand) (hop : o.op = Op.binOp .mul 3 x y 3) (A B q : Int) (hx : ev x = .int .i64 A) (hy : ev y = .int .i64 B) (hq : IntKind.i64.wrap (A * B) = q) : (execOp ev o).run Tryz.prog w = .ok (.value (.int .i64 q)) w := by
  subst hq
  unfold execOp
  simp only [hop, hx, hy]
  rfl
theorem exec_add {ev : Operand → Value} {o : Oper} {w : World} (x y : Operand) (hop : o.op = Op.binOp .add 3 x y 3) (A B q : Int) (hx : ev x = .int .i64 A) (hy : ev y = .int .i64 B) (hq : IntKind.i64.wrap (A + B) = q) : (execOp ev o).run Tryz.prog w = .ok (.value (.int .i64 q)) w := by
  subst hq
  unfold execOp
  simp only [hop, hx, hy]
  rfl
theorem exec_sub {ev : Operand → Value} {o : Oper} {w : World} (x y : Operand) (hop : o.op = Op.binOp .sub 3 x y 3) (A B q : Int) (hx : ev x = .int .i64 A) (hy : ev y = .int .i64 B) (hq : IntKind.i64.wrap (A - B) = q) : (execOp ev o).run Tryz.prog w = .ok (.value (.int .i64 q)) w := by
  subst hq
  unfold execOp
  simp only [hop, hx, hy]
  rfl
theorem wrap_small {x : Int} (h : 0 ≤ x ∧ x ≤ 1000000) : IntKind.i64.wrap x = x := by rw [IntKind.wrap_i64]; omega
theorem mul_small {k S : Nat} (h1 : k ≤ 20) (h2 : S ≤ 4096) : k * S ≤ 81920 := by
  have := Nat.mul_le_mul h1 h2
  omega
theorem wrap_mul {k S : Nat} (h1 : k ≤ 20) (h2 : S ≤ 4096) : IntKind.i64.wrap ((k : Int) * (S : Int)) = ((k * S : Nat) : Int) := by
  have := mul_small h1 h2
  rw [← Int.natCast_mul]
  exact wrap_small ⟨by omega, by omega⟩
def slm : Value → Nat → Nat → Value
  | .slice ao _ _, l, h => sliced ao l h h 1
  | _, _, _ => undef
theorem slm_byt {w : World} {v : Value} {xs : List Int} (hb : Byt w v xs) (l h : Nat) (hl : l < h) (hh : h ≤ xs.length) : Byt w (slm v l h) (sub xs l h) := by
  obtain ⟨ao, cap, rfl, h1, h2, h3, h4, h5⟩ := hb
  have hlen : ((xs.take h).drop l).length = h - l := by simp; omega
  show Byt w (sliced ao l h h 1) ((xs.take h).drop l)
  unfold sliced
  rw [if_neg (by omega)]
  refine ⟨ao.map (·.add (l * 1)), h - l, by rw [hlen], by omega, by omega, ?_, ?_, fun _ => ?_⟩
  · intro t
    by_cases ht : t < h - l
    · rw [gb_cut xs l h t ht]; exact h3 _
    · have : gb ((xs.take h).drop l) t = 0 := by
        simp only [gb, List.getD, List.getElem?_eq_none (show ((xs.take h).drop l).length ≤ t by omega)]; rfl
      omega
  · intro e
    obtain ⟨b, off, rfl, _⟩ := h5 (by omega)
    simp at e
  · obtain ⟨b, off, rfl, hc⟩ := h5 (by omega)
    refine ⟨b, off + l, by simp [Addr.add], fun t ht => ?_⟩
    rw [gb_cut xs l h t (by omega)]
    have := hc (l + t) (by omega)
    rwa [← Nat.add_assoc] at this
theorem slm_sle {w : World} {v : Value} {xs : List Int} (hb : Byt w v xs) (l h : Nat) : Sle (slm v l h) := by
  obtain ⟨ao, cap, rfl, -⟩ := hb
  exact ⟨_, _, _, rfl⟩
section
variable {ops : Array Oper} {rest : List Oper} {a : Act} {Q : Exit → Act → World → Prop}
theorem cut_max {o : Oper} (w : World) (hg : o.guard = none) (s x y z : Operand) (hop : o.op = Op.slice 35 s (some x) (some y) (some z)) (v : Value) (xs : List Int) (l h : Nat)
    (hs : a.eval s = v) (hx : a.eval x = .int .i64 (l : Int)) (hy : a.eval y = .int .i64 (h : Int)) (hz : a.eval z = .int .i64 (h : Int)) (hl : l ≤ h) (hh : h ≤ xs.length) (hb : Byt w v xs)
    (hK : wpList Tryz.prog ops Q rest (a.put o.dst (slm v l h)) w) :
    wpList Tryz.prog ops Q (o :: rest) a w := by
  refine wpList_plain hg fun K hK' => ?_
  obtain ⟨ao, cap, rfl, h1, -⟩ := hb
  have hrun := run_slice_lhm (P := Tryz.prog) w 35 ao xs.length cap und_bytes .i64 .i64 .i64 (l : Int) (h : Int) (h : Int) (by omega) (by omega) (by omega) (by omega)
  rw [elem_bytes, run_size_u8] at hrun
  unfold Oper.wp
  simp [execOp, hop, hs, hx, hy, hz, run_sliceAt_slice w 35 _ _ _ _ und_bytes, hrun, Result.andThen]
  exact hK' _ _ hK
theorem two_lawK {o : Oper} (w : World) (hg : o.guard = none) (x y : Operand) (hop : o.op = Op.buildSlice 68 2 #[(0, x), (1, y)]) (u v : Value) (hu : Sle u) (hv : Sle v) (hx : a.eval x = u) (hy : a.eval y = v)
    (hK : ∀ w', Vr w' w.heap.size [u, v] → Below w.heap.size w w' → wpList Tryz.prog ops Q rest (a.put o.dst (.slice (some ⟨w.heap.size, 0, none⟩) 2 2)) w') : wpList Tryz.prog ops Q (o :: rest) a w := by
  refine wpList_plain hg fun K hK' => ?_
  obtain ⟨uo, un, uc, rfl⟩ := hu
  obtain ⟨vo, vn, vc, rfl⟩ := hv
  have hrun : (Instr.buildSlice 68 2 #[(0, .slice uo un uc), (1, .slice vo vn vc)]).run Tryz.prog w = .ok (.slice (some ⟨w.heap.size, 0, none⟩) 2 2) (w.alloc (.cells #[.slice uo un uc, .slice vo vn vc] 35)) := by kernel_rfl
  unfold Oper.wp execOp
  simp only [hop, List.map_toArray, List.map_cons, List.map_nil, hx, hy, Sem.run_bind, Sem.run_pure, Result.andThen_ok, hrun]
  exact hK' _ _ (hK _ (Vr.new w 35 [.slice uo un uc, .slice vo vn vc]) ((Below.refl _ _).alloc (Nat.le_refl _) _))
theorem make_lawR {o : Oper} (w : World) (hg : o.guard = none) (l c : Operand) (hop : o.op = Op.makeSlice 68 l c)
    (L : Int) (n : Nat) (hl : a.eval l = .int .i64 L) (hc : a.eval c = .int .i64 L) (hL : L = (n : Int)) (hn : n ≤ 1000000)
    (hK : ∀ w', Vr w' w.heap.size (List.replicate n (.slice none 0 0)) → NoB w' w.heap.size → Below w.heap.size w w' → wpList Tryz.prog ops Q rest (a.put o.dst (.slice (some ⟨w.heap.size, 0, none⟩) n n)) w') :
    wpList Tryz.prog ops Q (o :: rest) a w := by
  obtain ⟨i0, hi, hz0, hz1, hz2⟩ := info_parts info_row
  refine wpList_make_full w hg l c 68 hop w.heap.size 35 i0 (.slice none 0 0) 1 Tryz.underlying68 hi hz0 hz1 .i64 .i64 L L n hl hc hL hL (by rw [hz2]; omega) (by simp only [maxLen]; omega) (Nat.le_refl _) fun w' h1 h2 => ?_
  have e : (madeCells (Value.slice none 0 0).cells (n * 1)).toList = List.replicate n (Value.slice none 0 0) := by
    rw [Nat.mul_one]
    show (madeCells #[Value.slice none 0 0] n).toList = _
    rw [toList_madeCells_one]
  have hcell : ∀ i, i < n → w'.cell? ⟨w.heap.size, i, none⟩ = some (.slice none 0 0) := fun i hi => by
    rw [h1.cellAt i (by omega), e]
    simp [hi]
  refine hK w' ⟨fun i v hv => ?_, fun i hi => ⟨?_, ?_⟩⟩ ?_ ((Below.refl _ w).grown h2 (Nat.le_refl _) (fun k hk => by cases hk))
  · rw [List.getElem?_replicate] at hv
    split at hv
    · rw [Nat.zero_add, hcell i (by assumption)]
      exact hv
    · cases hv
  · rw [List.length_replicate] at hi
    rw [Nat.zero_add, hcell i hi]; rfl
  · rw [Nat.zero_add]; exact h1.frozenAt i
  · intro j y hj
    rcases h1.2 with ⟨h', _⟩ | ⟨g', cap', cur, h', _, hg', hle, _, hsz, htake⟩
    · cases h'
    · cases h'
      rw [cell_of_row w' w.heap.size j cur 35 (0, 0) hg'] at hj
      have hcur : cur.toList = List.replicate n (Value.slice none 0 0) := by
        have z := htake
        rw [e] at z
        have q : cur.toList.length ≤ n * 1 := by simpa using Nat.le_of_eq hsz
        rwa [List.take_of_length_le q] at z
      have : cur.toList[j]? = some (.int .u8 y) := by simpa using hj
      rw [hcur, List.getElem?_replicate] at this
      split at this
      · cases this
      · cases this
theorem heap_one (w : World) (b o : Nat) (v : Value) (k : Nat) (h : k ≠ b) : (w.setCell ⟨b, o, none⟩ v).heap[k]? = w.heap[k]? := Below.heap_setCell w ⟨b, o, none⟩ v k h
theorem nob_one {w : World} {g j : Nat} {v old : Value} (h : NoB w g) (ho : w.cell? ⟨g, j, none⟩ = some old) (hv : ∀ y, v ≠ .int .u8 y) : NoB (w.setCell ⟨g, j, none⟩ v) g := fun i y e => by
  by_cases q : i = j
  · subst q
    rw [World.cell?_setCell_same _ _ _ ho] at e
    exact hv y (Option.some.inj e)
  · rw [World.cell?_setCell_other _ _ _ _ (by intro z; injection z with _ z2; omega)] at e
    exact h i y e
theorem set_lawK {d : Option Tmp} {x y : Operand} {t ty : TypeId} {pos : String} {af : Array Edge} (w : World) (cs : List Value) (c j : Nat) (v : Value) (hx : a.eval x = .pointer (some ⟨c, j, none⟩)) (hy : a.eval y = v) (hV : Vr w c cs) (hN : NoB w c) (hj : j < cs.length) (h1 : v.oneCell' = true) (hc : v.cells = #[v]) (hv : ∀ y, v ≠ .int .u8 y) (hi : (Tryz.prog.info? t).map (·.size) = some 1)
    (hK : ∀ w', Vr w' c (cs.set j v) → NoB w' c → Below c w w' → (∀ k, k ≠ c → w'.heap[k]? = w.heap[k]?) → wpList Tryz.prog ops Q rest (a.put d undef) w') :
    wpList Tryz.prog ops Q (⟨d, Op.store t x y, ty, pos, af, none⟩ :: rest) a w := by
  refine wpList_plain rfl fun K hK' => ?_
  have hcell := hV.cell j _ (List.getElem?_eq_getElem hj)
  have hf := hV.free j hj
  have hr : (storeVar t ⟨c, j, none⟩ v).run Tryz.prog w = .ok () (w.setCell ⟨c, j, none⟩ v) := by
    have e0 : ∀ i, i < [v].length → i = 0 := fun i hi => by simpa using hi
    have := run_storeCells_cells (P := Tryz.prog) c j [v] 0 w (fun i hi => by rw [e0 i hi]; simp [hcell]) (fun i hi => by rw [e0 i hi]; simpa using hf) (fun z hz => by simp at hz; subst hz; exact h1)
    cases hq : Tryz.prog.info? t with
    | none => simp [hq] at hi
    | some i =>
      have hs : i.size = 1 := by simpa [hq] using hi
      simp only [Nat.add_zero] at this
      simp [storeVar, sizeOf, typeInfo, hq, hc, hs]
      simpa [World.setCells] using this
  unfold Oper.wp execOp
  simp only [hx, hy, Instr.storeAt, Instr.sureAddr, Sem.run_bind, Sem.run_pure, Result.andThen_ok, hr]
  exact hK' _ _ (hK _ (hV.set j hj v) (nob_one hN hcell hv) ((Below.refl c w).setCell (p := ⟨c, j, none⟩) (Nat.le_refl _) _) (fun k hk => heap_one w c j v k hk))
end
def rowk (f : Nat → Value) (n k : Nat) : List Value := (List.range n).map fun j => if j < k then f j else .slice none 0 0
theorem rowk_len (f : Nat → Value) (n k : Nat) : (rowk f n k).length = n := by simp [rowk]
theorem rowk_zero (f : Nat → Value) (n : Nat) : rowk f n 0 = List.replicate n (.slice none 0 0) := by
  refine List.ext_getElem (by simp [rowk]) fun i h1 h2 => by simp [rowk]
theorem rowk_set (f : Nat → Value) (n k : Nat) : (rowk f n k).set k (f k) = rowk f n (k + 1) := by
  refine List.ext_getElem (by simp [rowk]) fun i h1 h2 => ?_
  rw [List.getElem_set]
  by_cases e : k = i
  · subst e; simp [rowk]
  · rw [if_neg e]
    simp only [rowk, List.getElem_map, List.getElem_range]
    by_cases q : i < k
    · rw [if_pos q, if_pos (by omega)]
    · rw [if_neg q, if_neg (by omega)]
theorem rowk_at (f : Nat → Value) (n k i : Nat) (h1 : i < n) (h2 : i < k) : (rowk f n k)[i]? = some (f i) := by simp [rowk, h1, h2]
theorem Pgs.at {w : World} {v : Value} {ls : List (List Int)} (h : Pgs w v ls) : ∃ ao cap, v = .slice ao ls.length cap ∧ ls.length ≤ cap ∧ cap ≤ 9223372036854775807 ∧ (0 < ls.length → ∃ b off, ao = some ⟨b, off, none⟩ ∧ ∀ i, i < ls.length → ∃ u, w.cell? ⟨b, off + i, none⟩ = some u ∧ Byt w u (ls.getD i [])) := by
  obtain ⟨vs, ⟨ao, cap, rfl, h1, h2, h3, h4⟩, h5, h6⟩ := h
  rw [h5] at h1 h4 ⊢
  refine ⟨ao, cap, rfl, h1, h2, fun hp => ?_⟩
  obtain ⟨b, off, rfl, hc⟩ := h4 hp
  exact ⟨b, off, rfl, fun i hi => ⟨_, hc i hi, h6 i hi⟩⟩
theorem pgs_of {w : World} {c : Nat} {vs : List Value} {ls : List (List Int)} (hV : Vr w c vs) (hl : vs.length = ls.length) (hm : ls.length ≤ 1000000) (h : ∀ i, i < ls.length → Byt w (vs.getD i undef) (ls.getD i [])) : Pgs w (.slice (some ⟨c, 0, none⟩) ls.length ls.length) ls := by
  refine ⟨vs, ⟨some ⟨c, 0, none⟩, ls.length, by rw [hl], by omega, by omega, (by intro e; cases e), fun hp => ⟨c, 0, rfl, fun t ht => ?_⟩⟩, hl, h⟩
  rw [Nat.zero_add]
  exact hV.cell t _ (by simp [List.getD, ht])
end Go.Proofs.YtakibiigcdgohaaGreatDoor.ck
namespace Go.Proofs.YtakibiigcdgohaaGreatDoor.vb
open Go.RowKit Go.Proofs.YtakibiigcdgohaaGreatDoor.fa Go.Proofs.YtakibiigcdgohaaGreatDoor.he Go.Proofs.YtakibiigcdgohaaGreatDoor.pa Go.Proofs.YtakibiigcdgohaaGreatDoor.ck
set_option maxRecDepth 20000
structure Ch where
  c : Nat
  r : Nat
  d : Nat
  q : Nat → Nat
  pv : Value
  N : Nat
  P : Nat
  S : Nat
  g3 : Int
  g4 : Int
  g5 : Int
  pl : na.Pln
def Ch.g (H : Ch) : List Int := [(H.N : Int), (H.P : Int), (H.S : Int), H.g3, H.g4, H.g5]
def Ch.T (H : Ch) : Nat := H.S + 88
def Cs (H : Ch) (M : Nat → Bool) (w : World) (s : na.St) (l : List na.Opn) : Prop :=
  (∃ tv, na.Lay M w H.c H.r H.d H.q H.pv tv H.g H.N H.P H.T H.pl (na.raw H.N H.P s l)) ∧ na.Mlt M w ∧ na.Wf H.N H.P H.T s ∧ na.Lsp H.N H.P s ∧ l.length = na.ops s ∧ ∀ o ∈ l, (o.2.2.2.1 : List Int).length ≤ 4184
def bxc (c : Nat) (b : Bx) : List Value := [.pointer (some ⟨c, 0, none⟩), .int .i64 b.cur, .int .u64 b.gen, .bool (b.cln 0), .bool (b.cln 1), .bool (b.cln 2), .bool (b.cln 3), .bool (b.bad 0), .bool (b.bad 1), .bool (b.bad 2), .bool (b.bad 3), .bool (b.lk 0), .bool (b.lk 1), .bool (b.lk 2), .bool (b.lk 3)]
def hfl (l : List na.Opn) : Bool := l.any fun o => decide (o.1 = 3 ∧ o.2.2.2.2 ≠ 0)
def mb (M : Nat → Bool) (B : Nat) : Nat → Bool := fun k => M k || decide (k = B)
def Bs (H : Ch) (M : Nat → Bool) (w : World) (B : Nat) (b : Bx) (l : List na.Opn) : Prop :=
  Cs H M w b.s l ∧ na.Pla (na.hid (mb M B) w) H.pv H.pl ∧ Vr w B (bxc H.c b) ∧ NoB w B ∧ M B = false ∧ b.hf = hfl l
def Fr (M : Nat → Bool) (w : World) (B : Nat) (M' : Nat → Bool) (w' : World) : Prop := (∀ k, k < w.heap.size → M' k = M k) ∧ na.Frm (mb M B) w w'
section
variable {H : Ch} {M M' M2 : Nat → Bool} {w w' w2 : World} {B : Nat} {b b' : Bx} {l l' : List na.Opn} {s' : na.St}
theorem mb_no {k : Nat} (h : mb M B k = false) : M k = false ∧ k ≠ B := by
  unfold mb at h
  simp only [Bool.or_eq_false_iff, decide_eq_false_iff_not] at h
  exact h
theorem mb_eq (h : ∀ k, k < w.heap.size → M' k = M k) : ∀ k, k < w.heap.size → mb M' B k = mb M B k := fun k hk => by unfold mb; rw [h k hk]
theorem frm_mb (h : na.Frm M w w') : na.Frm (mb M B) w w' := ⟨h.1, h.2.1, h.2.2.1, h.2.2.2.1, fun k hk q => h.2.2.2.2 k hk (mb_no q).1⟩
theorem Fr.refl (M : Nat → Bool) (w : World) (B : Nat) : Fr M w B M w := ⟨fun _ _ => rfl, na.Frm.refl _ _⟩
theorem Fr.size (h : Fr M w B M' w') : w.heap.size ≤ w'.heap.size := h.2.size
theorem Fr.trans (h : Fr M w B M' w') (h2 : Fr M' w' B M2 w2) : Fr M w B M2 w2 :=
  ⟨fun k hk => (h2.1 k (Nat.lt_of_lt_of_le hk h.size)).trans (h.1 k hk), h.2.trans h2.2 fun k hk q => by rw [mb_eq h.1 k hk]; exact q⟩
theorem Fr.hid (h : Fr M w B M' w') : Below (na.hid (mb M B) w).heap.size (na.hid (mb M B) w) (na.hid (mb M' B) w') := h.2.hid (mb_eq h.1)
theorem Fr.byt {v : Value} {xs : List Int} (h : Fr M w B M' w') (hb : Byt (na.hid (mb M B) w) v xs) : Byt (na.hid (mb M' B) w') v xs := hb.below h.hid
theorem Fr.block (h : Fr M w B M' w') {k : Nat} (hk : k < w.heap.size) (h1 : M k = false) (h2 : k ≠ B) : w'.heap[k]? = w.heap[k]? := h.2.block hk (by unfold mb; rw [h1]; simp [h2])
theorem Fr.of_below (h : Below w.heap.size w w') : Fr M w B M w' := ⟨fun _ _ => rfl, na.Frm.of_below h⟩
theorem Fr.below {B0 : Nat} (h : Fr M w B M' w') (h0 : B0 ≤ w.heap.size) (hM : ∀ k, M k = true → B0 ≤ k) (hB : B0 ≤ B) : Below B0 w w' := h.2.below h0 fun k hk => by
  unfold mb at hk
  simp only [Bool.or_eq_true, decide_eq_true_eq] at hk
  rcases hk with q | q
  · exact hM k q
  · exact q ▸ hB
theorem Fr.up {B0 : Nat} (h : Fr M w B M' w') (h0 : B0 ≤ w.heap.size) (hM : ∀ k, M k = true → B0 ≤ k) : ∀ k, M' k = true → B0 ≤ k := fun k hk => by
  by_cases q : k < w.heap.size
  · exact hM k (by rw [← h.1 k q]; exact hk)
  · omega
theorem Bs.lt (h : Bs H M w B b l) : B < w.heap.size := range_lt h.2.2.1.1 (Nat.succ_pos _)
theorem Bs.num (h : Bs H M w B b l) : 7 ≤ H.N ∧ H.N ≤ 64 ∧ 4 ≤ H.P ∧ H.P ≤ 32 ∧ 120 ≤ H.T ∧ H.T ≤ 4184 := by
  obtain ⟨⟨⟨tv, z⟩, -⟩, -⟩ := h
  exact z.num
theorem Bs.off (h : Bs H M w B b l) : M B = false := h.2.2.2.2.1
theorem byt_mb {v : Value} {xs : List Int} (h : Byt (na.hid (mb M B) w) v xs) : Byt (na.hid M w) v xs := na.byt_less h fun k q => by unfold mb; rw [q]; rfl
theorem dl_snoc {l : List na.Opn} {o : na.Opn} (h : ∀ o ∈ l, (o.2.2.2.1 : List Int).length ≤ 4184) (ho : (o.2.2.2.1 : List Int).length ≤ 4184) : ∀ q ∈ l ++ [o], (q.2.2.2.1 : List Int).length ≤ 4184 := fun q hq => by
  rcases List.mem_append.1 hq with z | z
  · exact h q z
  · rw [List.mem_singleton.1 z]; exact ho
theorem Bs.op (h : Bs H M w B b l) (hs : Cs H M' w' s' l') (h1 : ∀ k, k < w.heap.size → M' k = M k) (h2 : na.Frm M w w') (hf : Bool) (he : hf = hfl l') : Bs H M' w' B { b with s := s', hf := hf } l' ∧ Fr M w B M' w' := by
  have f : Fr M w B M' w' := ⟨h1, frm_mb h2⟩
  have e : w'.heap[B]? = w.heap[B]? := h2.block h.lt h.off
  exact ⟨⟨hs, h.2.1.below f.hid, h.2.2.1.heap e, h.2.2.2.1.heap e, by rw [h1 B h.lt]; exact h.off, he⟩, f⟩
theorem Cs.below (h : Cs H M w s' l) (hb : Below w.heap.size w w') : Cs H M w' s' l := by
  obtain ⟨⟨tv, h1⟩, h2, h3⟩ := h
  exact ⟨⟨tv, h1.below hb⟩, fun k hk => Nat.lt_of_lt_of_le (h2 k hk) hb.size, h3⟩
theorem Bs.below (h : Bs H M w B b l) (hb : Below w.heap.size w w') : Bs H M w' B b l := by
  have e : w'.heap[B]? = w.heap[B]? := hb.block B h.lt
  exact ⟨h.1.below hb, h.2.1.below (na.Frm.of_below hb).hid0, h.2.2.1.heap e, h.2.2.2.1.heap e, h.off, h.2.2.2.2.2⟩
theorem Bs.put (h : Bs H M w B b l) (hV : Vr w' B (bxc H.c b')) (hN : NoB w' B) (hk : ∀ k, k ≠ B → w'.heap[k]? = w.heap[k]?) (hb : Below B w w') (hs : b'.s = b.s) (hf : b'.hf = b.hf) : Bs H M w' B b' l ∧ Fr M w B M w' := by
  have hg : w.grownBy w' (some B) := ⟨hb.os, hb.tape, hb.output, hb.size, fun k _ q => hk k fun e => q (by rw [e])⟩
  have f : Fr M w B M w' := ⟨fun _ _ => rfl, na.Frm.grown hg fun k e => by injection e with e; unfold mb; simp [e]⟩
  obtain ⟨⟨⟨tv, z1⟩, z2, z3⟩, z4, z5, z6, z7, z8⟩ := h
  have p : na.Pla (na.hid (mb M B) w') H.pv H.pl := z4.below f.hid
  refine ⟨⟨⟨⟨tv, ?_⟩, fun k q => Nat.lt_of_lt_of_le (z2 k q) hb.size, by rw [hs]; exact z3⟩, p, hV, hN, z7, hf.trans z8⟩, f⟩
  rw [hs]
  exact z1.put hg z7 z6 (na.pla_less p fun k q => by unfold mb; rw [q]; rfl)
end
theorem set_cln (c : Nat) (b : Bx) (x : Bool) : ∀ k, k < 4 → (bxc c b).set (3 + k) (.bool x) = bxc c { b with cln := na.at1 b.cln k x }
  | 0, _ => rfl
  | 1, _ => rfl
  | 2, _ => rfl
  | 3, _ => rfl
  | _ + 4, h => absurd h (by omega)
theorem set_bad (c : Nat) (b : Bx) (x : Bool) : ∀ k, k < 4 → (bxc c b).set (7 + k) (.bool x) = bxc c { b with bad := na.at1 b.bad k x }
  | 0, _ => rfl
  | 1, _ => rfl
  | 2, _ => rfl
  | 3, _ => rfl
  | _ + 4, h => absurd h (by omega)
theorem set_lk (c : Nat) (b : Bx) (x : Bool) : ∀ k, k < 4 → (bxc c b).set (11 + k) (.bool x) = bxc c { b with lk := na.at1 b.lk k x }
  | 0, _ => rfl
  | 1, _ => rfl
  | 2, _ => rfl
  | 3, _ => rfl
  | _ + 4, h => absurd h (by omega)
theorem get_cln (c : Nat) (b : Bx) : ∀ k, k < 4 → (bxc c b)[3 + k]? = some (.bool (b.cln k))
  | 0, _ => rfl
  | 1, _ => rfl
  | 2, _ => rfl
  | 3, _ => rfl
  | _ + 4, h => absurd h (by omega)
theorem get_bad (c : Nat) (b : Bx) : ∀ k, k < 4 → (bxc c b)[7 + k]? = some (.bool (b.bad k))
  | 0, _ => rfl
  | 1, _ => rfl
  | 2, _ => rfl
  | 3, _ => rfl
  | _ + 4, h => absurd h (by omega)
theorem get_lk (c : Nat) (b : Bx) : ∀ k, k < 4 → (bxc c b)[11 + k]? = some (.bool (b.lk k))
  | 0, _ => rfl
  | 1, _ => rfl
  | 2, _ => rfl
  | 3, _ => rfl
  | _ + 4, h => absurd h (by omega)
theorem hfl_snoc (l : List na.Opn) (o : na.Opn) : hfl (l ++ [o]) = (hfl l || decide (o.1 = 3 ∧ o.2.2.2.2 ≠ 0)) := by simp [hfl]
section
variable {H : Ch} {M : Nat → Bool} {w : World} {B : Nat} {b : Bx} {l : List na.Opn}
def Opd (H : Ch) (M : Nat → Bool) (w : World) (B : Nat) (x : Int) (b' : Bx) (e : Ending) (w' : World) : Prop := ∃ M' l', e = .returned (.int .i64 x) ∧ Bs H M' w' B b' l' ∧ Fr M w B M' w'
theorem ers_bs (h : Bs H M w B b l) (k : Nat) (hk : k < 4) (ho : na.off b.s = false) (hn : na.ops b.s ≤ 1000000) :
    Calls Tryz.prog 95 #[.pointer (some ⟨H.c, 0, none⟩), .int .i64 (k : Int)] w (Opd H M w B (na.ans (H.pl (na.ops b.s))) { b with s := na.edo H.P H.T H.pl b.s k }) := by
  have hN := h.num
  obtain ⟨⟨tv, z1⟩, z2, z3, z4, z5, z6⟩ := h.1
  refine (na.pers_do z1 z2 z3 z5 hn k (by unfold na.eno; rw [ho, if_neg (by simp), if_neg (by simp; omega)])).mono ?_
  rintro e w' ⟨M', tv', h1, h2, h3, h4, h5⟩
  obtain ⟨q1, q2⟩ := h.op (s' := na.edo H.P H.T H.pl b.s k) ⟨⟨tv', h2⟩, h5, na.edo_wf z3 H.pl k, na.lsp_edo z4 H.pl k, by rw [List.length_append, z5]; rfl, dl_snoc z6 (Nat.zero_le _)⟩ h3 h4 b.hf (by rw [hfl_snoc, h.2.2.2.2.2]; simp [na.opn])
  exact ⟨M', _, h1, q1, q2⟩
theorem ers_off (h : Bs H M w B b l) (k : Int) (ho : na.off b.s = true) : Calls Tryz.prog 95 #[.pointer (some ⟨H.c, 0, none⟩), .int .i64 k] w (Opd H M w B 4 b) := by
  obtain ⟨⟨tv, z1⟩, -⟩ := h.1
  refine (na.pers_no z1 k 4 (by unfold na.eno; rw [if_pos ho])).mono ?_
  rintro e w' ⟨h1, h2⟩
  exact ⟨M, l, h1, h.below h2, Fr.of_below h2⟩
theorem scr_bs (h : Bs H M w B b l) (k : Nat) (hk : k < 4) (ho : na.off b.s = false) (hn : na.ops b.s ≤ 1000000) :
    Calls Tryz.prog 96 #[.pointer (some ⟨H.c, 0, none⟩), .int .i64 (k : Int)] w (Opd H M w B (na.ans (H.pl (na.ops b.s))) { b with s := na.sdo H.P H.T H.pl b.s k, hf := b.hf || decide (na.ans (H.pl (na.ops b.s)) ≠ 0) }) := by
  have hN := h.num
  obtain ⟨⟨tv, z1⟩, z2, z3, z4, z5, z6⟩ := h.1
  refine (na.pscr_do z1 z2 z3 z5 hn k (by unfold na.eno; rw [ho, if_neg (by simp), if_neg (by simp; omega)])).mono ?_
  rintro e w' ⟨M', tv', h1, h2, h3, h4, h5⟩
  obtain ⟨q1, q2⟩ := h.op (s' := na.sdo H.P H.T H.pl b.s k) ⟨⟨tv', h2⟩, h5, na.sdo_wf z3 H.pl k, na.lsp_sdo z4 H.pl k, by rw [List.length_append, z5]; rfl, dl_snoc z6 (Nat.zero_le _)⟩ h3 h4 (b.hf || decide (na.ans (H.pl (na.ops b.s)) ≠ 0)) (by rw [hfl_snoc, h.2.2.2.2.2]; simp [na.opn])
  exact ⟨M', _, h1, q1, q2⟩
theorem prg_bs (h : Bs H M w B b l) (k p : Nat) (hn : na.ops b.s ≤ 1000000) (vb : Value) (ys : List Int) (hy : Byt (na.hid (mb M B) w) vb ys) :
    Calls Tryz.prog 71 #[.pointer (some ⟨H.c, 0, none⟩), .agg (ints .i64 [(k : Int), (p : Int)]), vb] w (Opd H M w B (prg H.N H.P H.T H.pl b.s k p ys).2 { b with s := (prg H.N H.P H.T H.pl b.s k p ys).1 }) := by
  obtain ⟨⟨tv, z1⟩, z2, z3, z4, z5, z6⟩ := h.1
  unfold prg
  split
  · rename_i x hx
    refine (na.pprog_no z1 z4 (k : Int) (p : Int) vb ys (na.hid_byt hy) x hx).mono ?_
    rintro e w' ⟨h1, h2⟩
    exact ⟨M, l, h1, h.below h2, Fr.of_below h2⟩
  · rename_i hx
    have hp := na.pno_none hx
    simp only [Int.toNat_natCast] at hp
    refine (na.pprog_do z1 z2 z3 z4 z5 hn k p vb ys (byt_mb hy) hx).mono ?_
    rintro e w' ⟨M', tv', h1, h2, h3, h4, h5⟩
    obtain ⟨q1, q2⟩ := h.op (s' := na.pdo H.T H.pl b.s k p ys) ⟨⟨tv', h2⟩, h5, na.pdo_wf z3 H.pl k p ys (by omega) hp.2.2.2.1, na.lsp_pdo z3 z4 H.pl k p (by omega) ys, by rw [List.length_append, z5]; rfl, dl_snoc z6 (by show ys.length ≤ 4184; have := h.num; omega)⟩ h3 h4 b.hf (by rw [hfl_snoc, h.2.2.2.2.2]; simp [na.opn])
    exact ⟨M', _, h1, q1, q2⟩
end
section
variable {ops : Array Oper} {rest : List Oper} {a : Act} {Q : Exit → Act → World → Prop} {H : Ch} {M : Nat → Bool} {w : World} {B : Nat} {b : Bx} {l : List na.Opn}
theorem flag_law {d : Option Tmp} {x y : Operand} {ty : TypeId} {pos : String} {af : Array Edge} (h : Bs H M w B b l) (j : Nat) (v : Bool) (b' : Bx) (hx : a.eval x = .pointer (some ⟨B, j, none⟩)) (hy : a.eval y = .bool v) (hj : j < 15) (he : (bxc H.c b).set j (.bool v) = bxc H.c b') (hs : b'.s = b.s) (hf : b'.hf = b.hf)
    (hK : ∀ w', Bs H M w' B b' l → Fr M w B M w' → wpList Tryz.prog ops Q rest (a.put d undef) w') :
    wpList Tryz.prog ops Q (⟨d, Op.store 4 x y, ty, pos, af, none⟩ :: rest) a w :=
  set_lawK w (bxc H.c b) B j (.bool v) hx hy h.2.2.1 h.2.2.2.1 hj rfl rfl (fun y z => by cases z) (by kernel_rfl) fun w' h1 h2 h3 h4 => by
    rw [he] at h1
    obtain ⟨q1, q2⟩ := h.put h1 h2 h4 h3 hs hf
    exact hK w' q1 q2
theorem step_flag {o : Oper} {K : Act → World → Prop} {E : Prop} (h : Bs H M w B b l) (hg : o.guard = none) (d : Option Tmp) (hd : o.dst = d) (x y : Operand) (hop : o.op = Op.store 4 x y) (j : Nat) (v : Bool) (b' : Bx) (hx : a.eval x = .pointer (some ⟨B, j, none⟩)) (hy : a.eval y = .bool v) (hj : j < 15) (he : (bxc H.c b).set j (.bool v) = bxc H.c b') (hs : b'.s = b.s) (hf : b'.hf = b.hf)
    (hK : ∀ w', Bs H M w' B b' l → Fr M w B M w' → K (a.put d undef) w') : if Region.wanted o (yielded ops a.tmps) = true then Oper.wp Tryz.prog o a w K Q else E := by
  have hw : Region.wanted o (yielded ops a.tmps) = true := by simp [Region.wanted, hg]
  rw [if_pos hw]
  subst hd
  have hV := h.2.2.1
  have hj' : j < (bxc H.c b).length := hj
  have hcell := hV.cell j _ (List.getElem?_eq_getElem hj')
  have hfr := hV.free j hj'
  have hi : (Tryz.prog.info? 4).map (·.size) = some 1 := by kernel_rfl
  have hr : (storeVar 4 ⟨B, j, none⟩ (.bool v)).run Tryz.prog w = .ok () (w.setCell ⟨B, j, none⟩ (.bool v)) := by
    have e0 : ∀ i, i < [Value.bool v].length → i = 0 := fun i hi => by simpa using hi
    have := run_storeCells_cells (P := Tryz.prog) B j [.bool v] 0 w (fun i hi => by rw [e0 i hi]; simp [hcell]) (fun i hi => by rw [e0 i hi]; simpa using hfr) (fun z hz => by simp at hz; subst hz; rfl)
    cases hq : Tryz.prog.info? 4 with
    | none => simp [hq] at hi
    | some i =>
      have hs : i.size = 1 := by simpa [hq] using hi
      simp only [Nat.add_zero] at this
      simp [storeVar, sizeOf, typeInfo, hq, Value.cells, hs]
      simpa [World.setCells] using this
  unfold Oper.wp execOp
  simp only [hop, hx, hy, Instr.storeAt, Instr.sureAddr, Sem.run_bind, Sem.run_pure, Result.andThen_ok, hr]
  have h1 := hV.set j hj' (.bool v)
  rw [he] at h1
  obtain ⟨q1, q2⟩ := h.put h1 (nob_one h.2.2.2.1 hcell fun y z => by cases z) (fun k hk => heap_one w B j (.bool v) k hk) ((Below.refl B w).setCell (p := ⟨B, j, none⟩) (Nat.le_refl _) _) hs hf
  exact hK _ q1 q2
end
end Go.Proofs.YtakibiigcdgohaaGreatDoor.vb
namespace Go.Proofs.YtakibiigcdgohaaGreatDoor.vb
open Go.RowKit Go.Proofs.YtakibiigcdgohaaGreatDoor.fa Go.Proofs.YtakibiigcdgohaaGreatDoor.he Go.Proofs.YtakibiigcdgohaaGreatDoor.pa Go.Proofs.YtakibiigcdgohaaGreatDoor.ck
set_option maxRecDepth 20000
section
variable {H : Ch} {M : Nat → Bool} {w : World} {B : Nat} {b b1 b2 : Bx} {l : List na.Opn}
theorem destroy_pow (h : Bs H M w B b l) (k : Nat) (hk : k < 4) (se : Calls Tryz.prog 95 #[.pointer (some ⟨H.c, 0, none⟩), .int .i64 (k : Int)] w (Opd H M w B 4 b1)) :
    Calls Tryz.prog 72 #[.pointer (some ⟨B, 0, none⟩), .int .i64 (k : Int)] w (Opd H M w B 4 b1) := by
  have SE : Hid (∀ w0, w0 = w → Calls Tryz.prog 95 #[.pointer (some ⟨H.c, 0, none⟩), .int .i64 (k : Int)] w0 (Opd H M w B 4 b1)) := fun w0 e => by subst e; exact se
  have c0 := h.2.2.1.cell 0 _ rfl
  have lk1 : (0 : Int) ≤ (k : Int) := by omega
  have lk2 : (k : Int) < 4 := by omega
  have HK : Hid (k < 4) := hk
  clear se h hk
  have t0 := tR
  go_enter Tryz.func72, Tryz.ntmps72
  go_wp2_with (first
    | (have q0 := t0; go_at_call 95; refine (SE.out w rfl).mono ?_; rintro e9 w1 ⟨M1, l1, rfl, b9, f9⟩; have HB : Hid (Bs H M1 w1 B b1 l1) := b9; have HF : Hid (Fr M w B M1 w1) := f9; clear b9 f9 c0; have c0 := HB.out.2.2.1.cell 0 _ rfl; clear t0; have t1 := tR))
  go_ret
  exact ⟨_, _, rfl, HB.out, HF.out⟩
theorem destroy_ok (h : Bs H M w B b l) (k : Nat) (hk : k < 4) (se : Calls Tryz.prog 95 #[.pointer (some ⟨H.c, 0, none⟩), .int .i64 (k : Int)] w (Opd H M w B 0 b1)) :
    Calls Tryz.prog 72 #[.pointer (some ⟨B, 0, none⟩), .int .i64 (k : Int)] w (Opd H M w B 0 { b1 with cln := na.at1 b1.cln k true, lk := na.at1 b1.lk k false }) := by
  have SE : Hid (∀ w0, w0 = w → Calls Tryz.prog 95 #[.pointer (some ⟨H.c, 0, none⟩), .int .i64 (k : Int)] w0 (Opd H M w B 0 b1)) := fun w0 e => by subst e; exact se
  have c0 := h.2.2.1.cell 0 _ rfl
  have lk1 : (0 : Int) ≤ (k : Int) := by omega
  have lk2 : (k : Int) < 4 := by omega
  have HK : Hid (k < 4) := hk
  clear se h hk
  have t0 := tR
  go_enter Tryz.func72, Tryz.ntmps72
  go_wp2_with (first
    | (have q0 := t0; go_at_call 95; refine (SE.out w rfl).mono ?_; rintro e9 w1 ⟨M1, l1, rfl, b9, f9⟩; have HB : Hid (Bs H M1 w1 B b1 l1) := b9; have HF : Hid (Fr M w B M1 w1) := f9; clear b9 f9 c0; have c0 := HB.out.2.2.1.cell 0 _ rfl; clear t0; have t1 := tR))
  have HB : Hid (Bs H M1 w1.drew B b1 l1) := HB.out.below (fa.below_drawn (Below.refl _ _) 1)
  have HF : Hid (Fr M w B M1 w1.drew) := HF.out.trans (Fr.of_below (fa.below_drawn (Below.refl _ _) 1))
  refine wp_region_held_drew (S := fun w' => Below w'.heap.size w' w') (by kernel_rfl) (Below.refl _ _) (fun hS => ?_)
  obtain ⟨x1, hx0⟩ : ∃ x, x = w1.drew := ⟨_, rfl⟩
  rw [← hx0] at hS HB HF ⊢
  clear hx0
  refine tkH 0 (some 17) (.pointer (some ⟨B, 0, none⟩)) rfl rfl (Or.inl ⟨by rfl, fun w' hw' => by rfl⟩) hS ?_
  simp only [Act.put, zE1, zE2, zE3]
  refine tkH 1 (some 18) (.int .i64 (k : Int)) rfl rfl (Or.inl ⟨by rfl, fun w' hw' => by rfl⟩) hS ?_
  simp only [Act.put, zE1, zE2, zE3]
  refine tkH 2 (some 19) (.pointer (some ⟨B, 0, none⟩)) rfl rfl (Or.inl ⟨by rfl, fun w' hw' => by rfl⟩) hS ?_
  simp only [Act.put, zE1, zE2, zE3]
  refine tkH 3 (some 20) (.int .i64 (k : Int)) rfl rfl (Or.inl ⟨by rfl, fun w' hw' => by rfl⟩) hS ?_
  simp only [Act.put, zE1, zE2, zE3]
  refine tkH 4 (some 21) (.pointer (some ⟨B, 0, none⟩)) rfl rfl (Or.inl ⟨by rfl, fun w' hw' => by go_simp⟩) hS ?_
  simp only [Act.put, zE1, zE2, zE3]
  refine tkH 5 (some 22) (.pointer (some ⟨B, 3, none⟩)) rfl rfl (Or.inl ⟨by rfl, fun w' hw' => by go_simp⟩) hS ?_
  simp only [Act.put, zE1, zE2, zE3]
  refine tkH 6 (some 23) (.pointer (some ⟨B, 3 + k, none⟩)) rfl rfl (Or.inl ⟨by rfl, fun w' hw' => by go_simp⟩) hS ?_
  simp only [Act.put, zE1, zE2, zE3]
  refine tkH 8 (some 24) (.pointer (some ⟨B, 0, none⟩)) rfl rfl (Or.inl ⟨by rfl, fun w' hw' => by go_simp⟩) hS ?_
  simp only [Act.put, zE1, zE2, zE3]
  refine tkH 9 (some 25) (.pointer (some ⟨B, 11, none⟩)) rfl rfl (Or.inl ⟨by rfl, fun w' hw' => by go_simp⟩) hS ?_
  simp only [Act.put, zE1, zE2, zE3]
  refine wpAnyH_ready (rs := [7]) (by kernel_rfl) (by simp) ?_
  refine AllReadyH.cons rfl (fun K hK => ?_) AllReadyH.nil
  refine step_flag HB.out rfl none rfl (.tmp 23) (.const (.bool true)) rfl (3 + k) true { b1 with cln := na.at1 b1.cln k true } rfl rfl (by have := HK.out; omega) (set_cln H.c b1 true k HK.out) rfl rfl ?_
  intro x2 b9 f9
  have HB : Hid (Bs H M1 x2 B { b1 with cln := na.at1 b1.cln k true } l1) := b9
  have HF : Hid (Fr M w B M1 x2) := HF.out.trans f9
  have hS : Below x2.heap.size x2 x2 := Below.refl _ _
  clear b9 f9
  refine hK.out _ _ hS (fun _ => ?_)
  simp only [Act.put]
  clear hK K
  refine tkH 10 (some 26) (.pointer (some ⟨B, 11 + k, none⟩)) rfl rfl (Or.inl ⟨by rfl, fun w' hw' => by go_simp⟩) hS ?_
  simp only [Act.put, zE1, zE2, zE3]
  refine wpAnyH_ready (rs := [11]) (by kernel_rfl) (by simp) ?_
  refine AllReadyH.cons rfl (fun K hK => ?_) AllReadyH.nil
  refine step_flag HB.out rfl none rfl (.tmp 26) (.const (.bool false)) rfl (11 + k) false { b1 with cln := na.at1 b1.cln k true, lk := na.at1 b1.lk k false } rfl rfl (by have := HK.out; omega) (set_lk H.c { b1 with cln := na.at1 b1.cln k true } false k HK.out) rfl rfl ?_
  intro x3 b9 f9
  have HB : Hid (Bs H M1 x3 B { b1 with cln := na.at1 b1.cln k true, lk := na.at1 b1.lk k false } l1) := b9
  have HF : Hid (Fr M w B M1 x3) := HF.out.trans f9
  have hS : Below x3.heap.size x3 x3 := Below.refl _ _
  clear b9 f9
  refine hK.out _ _ hS (fun _ => ?_)
  simp only [Act.put]
  clear hK K
  refine wpAnyH_done (by kernel_rfl) ?_ _
  go_wp2
  go_ret
  exact ⟨_, _, rfl, HB.out, HF.out⟩
theorem destroy_scp (h : Bs H M w B b l) (k : Nat) (hk : k < 4) (se : Calls Tryz.prog 95 #[.pointer (some ⟨H.c, 0, none⟩), .int .i64 (k : Int)] w (Opd H M w B 5 b1))
    (ss : ∀ M' w' l', Bs H M' w' B { b1 with bad := na.at1 b1.bad k true } l' → Calls Tryz.prog 96 #[.pointer (some ⟨H.c, 0, none⟩), .int .i64 (k : Int)] w' (Opd H M' w' B 4 b2)) :
    Calls Tryz.prog 72 #[.pointer (some ⟨B, 0, none⟩), .int .i64 (k : Int)] w (Opd H M w B 4 b2) := by
  have SE : Hid (∀ w0, w0 = w → Calls Tryz.prog 95 #[.pointer (some ⟨H.c, 0, none⟩), .int .i64 (k : Int)] w0 (Opd H M w B 5 b1)) := fun w0 e => by subst e; exact se
  have c0 := h.2.2.1.cell 0 _ rfl
  have lk1 : (0 : Int) ≤ (k : Int) := by omega
  have lk2 : (k : Int) < 4 := by omega
  have HK : Hid (k < 4) := hk
  have SS : Hid (∀ M' w' l', Bs H M' w' B { b1 with bad := na.at1 b1.bad k true } l' → Calls Tryz.prog 96 #[.pointer (some ⟨H.c, 0, none⟩), .int .i64 (k : Int)] w' (Opd H M' w' B 4 b2)) := ss
  clear se h hk ss
  have t0 := tR
  go_enter Tryz.func72, Tryz.ntmps72
  go_wp2_with (first
    | (have q2 := t2; go_at_call 96; refine (SS.out M1 w2 l1 HB.out).mono ?_; rintro e9 w3 ⟨M3, l3, rfl, b9, f9⟩; have HF : Hid (Fr M w B M3 w3) := HF.out.trans f9; have HB : Hid (Bs H M3 w3 B b2 l3) := b9; clear b9 f9 c0; clear t2; have t3 := tR)
    | (have q1 := t1; (with_reducible refine at_store ?_); refine flag_law HB.out (7 + k) true { b1 with bad := na.at1 b1.bad k true } rfl rfl (by have := HK.out; omega) (set_bad H.c b1 true k HK.out) rfl rfl ?_; intro w2 b9 f9; have HB : Hid (Bs H M1 w2 B { b1 with bad := na.at1 b1.bad k true } l1) := b9; have HF : Hid (Fr M w B M1 w2) := HF.out.trans f9; clear b9 f9 c0; have c0 := HB.out.2.2.1.cell 0 _ rfl; clear t1; have t2 := tR)
    | (have q0 := t0; go_at_call 95; refine (SE.out w rfl).mono ?_; rintro e9 w1 ⟨M1, l1, rfl, b9, f9⟩; have HB : Hid (Bs H M1 w1 B b1 l1) := b9; have HF : Hid (Fr M w B M1 w1) := f9; clear b9 f9 c0; have c0 := HB.out.2.2.1.cell 0 _ rfl; clear t0; have t1 := tR))
  go_ret
  exact ⟨_, _, rfl, HB.out, HF.out⟩
theorem destroy_sc0 (h : Bs H M w B b l) (k : Nat) (hk : k < 4) (se : Calls Tryz.prog 95 #[.pointer (some ⟨H.c, 0, none⟩), .int .i64 (k : Int)] w (Opd H M w B 5 b1))
    (ss : ∀ M' w' l', Bs H M' w' B { b1 with bad := na.at1 b1.bad k true } l' → Calls Tryz.prog 96 #[.pointer (some ⟨H.c, 0, none⟩), .int .i64 (k : Int)] w' (Opd H M' w' B 0 b2)) :
    Calls Tryz.prog 72 #[.pointer (some ⟨B, 0, none⟩), .int .i64 (k : Int)] w (Opd H M w B 0 { b2 with lk := na.at1 b2.lk k false }) := by
  have SE : Hid (∀ w0, w0 = w → Calls Tryz.prog 95 #[.pointer (some ⟨H.c, 0, none⟩), .int .i64 (k : Int)] w0 (Opd H M w B 5 b1)) := fun w0 e => by subst e; exact se
  have c0 := h.2.2.1.cell 0 _ rfl
  have lk1 : (0 : Int) ≤ (k : Int) := by omega
  have lk2 : (k : Int) < 4 := by omega
  have HK : Hid (k < 4) := hk
  have SS : Hid (∀ M' w' l', Bs H M' w' B { b1 with bad := na.at1 b1.bad k true } l' → Calls Tryz.prog 96 #[.pointer (some ⟨H.c, 0, none⟩), .int .i64 (k : Int)] w' (Opd H M' w' B 0 b2)) := ss
  clear se h hk ss
  have t0 := tR
  go_enter Tryz.func72, Tryz.ntmps72
  go_wp2_with (first
    | (have q3 := t3; (with_reducible refine at_store ?_); refine flag_law HB.out (11 + k) false { b2 with lk := na.at1 b2.lk k false } rfl rfl (by have := HK.out; omega) (set_lk H.c b2 false k HK.out) rfl rfl ?_; intro w4 b9 f9; have HB : Hid (Bs H M3 w4 B { b2 with lk := na.at1 b2.lk k false } l3) := b9; have HF : Hid (Fr M w B M3 w4) := HF.out.trans f9; clear b9 f9; clear t3; have t4 := tR)
    | (have q2 := t2; go_at_call 96; refine (SS.out M1 w2 l1 HB.out).mono ?_; rintro e9 w3 ⟨M3, l3, rfl, b9, f9⟩; have HF : Hid (Fr M w B M3 w3) := HF.out.trans f9; have HB : Hid (Bs H M3 w3 B b2 l3) := b9; clear b9 f9 c0; clear t2; have t3 := tR)
    | (have q1 := t1; (with_reducible refine at_store ?_); refine flag_law HB.out (7 + k) true { b1 with bad := na.at1 b1.bad k true } rfl rfl (by have := HK.out; omega) (set_bad H.c b1 true k HK.out) rfl rfl ?_; intro w2 b9 f9; have HB : Hid (Bs H M1 w2 B { b1 with bad := na.at1 b1.bad k true } l1) := b9; have HF : Hid (Fr M w B M1 w2) := HF.out.trans f9; clear b9 f9 c0; have c0 := HB.out.2.2.1.cell 0 _ rfl; clear t1; have t2 := tR)
    | (have q0 := t0; go_at_call 95; refine (SE.out w rfl).mono ?_; rintro e9 w1 ⟨M1, l1, rfl, b9, f9⟩; have HB : Hid (Bs H M1 w1 B b1 l1) := b9; have HF : Hid (Fr M w B M1 w1) := f9; clear b9 f9 c0; have c0 := HB.out.2.2.1.cell 0 _ rfl; clear t0; have t1 := tR))
  go_ret
  exact ⟨_, _, rfl, HB.out, HF.out⟩
theorem destroy_sc5 (h : Bs H M w B b l) (k : Nat) (hk : k < 4) (se : Calls Tryz.prog 95 #[.pointer (some ⟨H.c, 0, none⟩), .int .i64 (k : Int)] w (Opd H M w B 5 b1))
    (ss : ∀ M' w' l', Bs H M' w' B { b1 with bad := na.at1 b1.bad k true } l' → Calls Tryz.prog 96 #[.pointer (some ⟨H.c, 0, none⟩), .int .i64 (k : Int)] w' (Opd H M' w' B 5 b2)) :
    Calls Tryz.prog 72 #[.pointer (some ⟨B, 0, none⟩), .int .i64 (k : Int)] w (Opd H M w B 0 { b2 with lk := na.at1 b2.lk k true }) := by
  have SE : Hid (∀ w0, w0 = w → Calls Tryz.prog 95 #[.pointer (some ⟨H.c, 0, none⟩), .int .i64 (k : Int)] w0 (Opd H M w B 5 b1)) := fun w0 e => by subst e; exact se
  have c0 := h.2.2.1.cell 0 _ rfl
  have lk1 : (0 : Int) ≤ (k : Int) := by omega
  have lk2 : (k : Int) < 4 := by omega
  have HK : Hid (k < 4) := hk
  have SS : Hid (∀ M' w' l', Bs H M' w' B { b1 with bad := na.at1 b1.bad k true } l' → Calls Tryz.prog 96 #[.pointer (some ⟨H.c, 0, none⟩), .int .i64 (k : Int)] w' (Opd H M' w' B 5 b2)) := ss
  clear se h hk ss
  have t0 := tR
  go_enter Tryz.func72, Tryz.ntmps72
  go_wp2_with (first
    | (have q3 := t3; (with_reducible refine at_store ?_); refine flag_law HB.out (11 + k) true { b2 with lk := na.at1 b2.lk k true } rfl rfl (by have := HK.out; omega) (set_lk H.c b2 true k HK.out) rfl rfl ?_; intro w4 b9 f9; have HB : Hid (Bs H M3 w4 B { b2 with lk := na.at1 b2.lk k true } l3) := b9; have HF : Hid (Fr M w B M3 w4) := HF.out.trans f9; clear b9 f9; clear t3; have t4 := tR)
    | (have q2 := t2; go_at_call 96; refine (SS.out M1 w2 l1 HB.out).mono ?_; rintro e9 w3 ⟨M3, l3, rfl, b9, f9⟩; have HF : Hid (Fr M w B M3 w3) := HF.out.trans f9; have HB : Hid (Bs H M3 w3 B b2 l3) := b9; clear b9 f9 c0; clear t2; have t3 := tR)
    | (have q1 := t1; (with_reducible refine at_store ?_); refine flag_law HB.out (7 + k) true { b1 with bad := na.at1 b1.bad k true } rfl rfl (by have := HK.out; omega) (set_bad H.c b1 true k HK.out) rfl rfl ?_; intro w2 b9 f9; have HB : Hid (Bs H M1 w2 B { b1 with bad := na.at1 b1.bad k true } l1) := b9; have HF : Hid (Fr M w B M1 w2) := HF.out.trans f9; clear b9 f9 c0; have c0 := HB.out.2.2.1.cell 0 _ rfl; clear t1; have t2 := tR)
    | (have q0 := t0; go_at_call 95; refine (SE.out w rfl).mono ?_; rintro e9 w1 ⟨M1, l1, rfl, b9, f9⟩; have HB : Hid (Bs H M1 w1 B b1 l1) := b9; have HF : Hid (Fr M w B M1 w1) := f9; clear b9 f9 c0; have c0 := HB.out.2.2.1.cell 0 _ rfl; clear t0; have t1 := tR))
  go_ret
  exact ⟨_, _, rfl, HB.out, HF.out⟩
theorem at1_eq {f : Nat → Bool} {k : Nat} {x : Bool} (h : f k = x) : na.at1 f k x = f := funext fun j => by
  unfold na.at1
  split
  · rename_i e; rw [e, h]
  · rfl
section
variable {P T : Nat} {pl : na.Pln} {b : Bx} {k : Nat} {m m2 : List Int}
theorem dst_e0 (ho : na.off b.s = true) : dst P T pl b k = (b, 4) := by unfold dst; rw [if_pos ho]
theorem dst_e1 (ho : na.off b.s = false) (hp : pl (na.ops b.s) = none) : dst P T pl b k = ({ b with s := na.edo P T pl b.s k, cln := na.at1 b.cln k true, lk := na.at1 b.lk k false }, 0) := by
  unfold dst
  rw [if_neg (by rw [ho]; exact Bool.false_ne_true)]
  simp only [hp]
theorem dst_e2 (ho : na.off b.s = false) (hp : pl (na.ops b.s) = some (true, m)) : dst P T pl b k = ({ b with s := na.edo P T pl b.s k }, 4) := by
  unfold dst
  rw [if_neg (by rw [ho]; exact Bool.false_ne_true)]
  simp only [hp]
theorem dst_e3 (ho : na.off b.s = false) (hp : pl (na.ops b.s) = some (false, m)) (hq : pl (na.ops b.s + 1) = none) (hc : b.cln k = false) : dst P T pl b k = ({ b with s := na.sdo P T pl (na.edo P T pl b.s k) k, bad := na.at1 b.bad k true, lk := na.at1 b.lk k false }, 5) := by
  unfold dst
  rw [if_neg (by rw [ho]; exact Bool.false_ne_true)]
  simp only [hp, hq, at1_eq hc]
theorem dst_e4 (ho : na.off b.s = false) (hp : pl (na.ops b.s) = some (false, m)) (hq : pl (na.ops b.s + 1) = some (true, m2)) (hc : b.cln k = false) : dst P T pl b k = ({ b with s := na.sdo P T pl (na.edo P T pl b.s k) k, bad := na.at1 b.bad k true, hf := true }, 4) := by
  unfold dst
  rw [if_neg (by rw [ho]; exact Bool.false_ne_true)]
  simp only [hp, hq, at1_eq hc]
theorem dst_e5 (ho : na.off b.s = false) (hp : pl (na.ops b.s) = some (false, m)) (hq : pl (na.ops b.s + 1) = some (false, m2)) (hc : b.cln k = false) : dst P T pl b k = ({ b with s := na.sdo P T pl (na.edo P T pl b.s k) k, bad := na.at1 b.bad k true, lk := na.at1 b.lk k true, hf := true }, 5) := by
  unfold dst
  rw [if_neg (by rw [ho]; exact Bool.false_ne_true)]
  simp only [hp, hq, at1_eq hc]
end
theorem destroy_any (h : Bs H M w B b l) (k : Nat) (hk : k < 4) (hc : b.cln k = false) (hn : na.ops b.s ≤ 999990) :
    Calls Tryz.prog 72 #[.pointer (some ⟨B, 0, none⟩), .int .i64 (k : Int)] w (Opd H M w B (if (dst H.P H.T H.pl b k).2 = 4 then 4 else 0) (dst H.P H.T H.pl b k).1) := by
  cases ho : na.off b.s with
  | true =>
    rw [dst_e0 ho]
    exact destroy_pow h k hk (ers_off h k ho)
  | false =>
    have se := ers_bs h k hk ho (by omega)
    match hp : H.pl (na.ops b.s) with
    | none =>
      rw [hp] at se
      rw [dst_e1 ho hp]
      have := destroy_ok h k hk se
      exact this
    | some (true, m) =>
      rw [hp] at se
      rw [dst_e2 ho hp]
      have := destroy_pow h k hk se
      exact this
    | some (false, m) =>
      rw [hp] at se
      have o1 : na.off (na.edo H.P H.T H.pl b.s k) = false := by show na.crs (H.pl (na.ops b.s)) = false; rw [hp]; rfl
      have sc : ∀ M' w' l', Bs H M' w' B { b with s := na.edo H.P H.T H.pl b.s k, bad := na.at1 b.bad k true } l' → Calls Tryz.prog 96 #[.pointer (some ⟨H.c, 0, none⟩), .int .i64 (k : Int)] w' (Opd H M' w' B (na.ans (H.pl (na.ops b.s + 1))) { b with s := na.sdo H.P H.T H.pl (na.edo H.P H.T H.pl b.s k) k, bad := na.at1 b.bad k true, hf := b.hf || decide (na.ans (H.pl (na.ops b.s + 1)) ≠ 0) }) := fun M' w' l' z => scr_bs z k hk o1 (show na.ops b.s + 1 ≤ 1000000 by omega)
      match hq : H.pl (na.ops b.s + 1) with
      | none =>
        rw [hq] at sc
        rw [dst_e3 ho hp hq hc]
        have := destroy_sc0 h k hk se sc
        rw [show (b.hf || decide (na.ans none ≠ 0)) = b.hf from Bool.or_false _] at this
        exact this
      | some (true, m2) =>
        rw [hq] at sc
        rw [dst_e4 ho hp hq hc]
        have := destroy_scp h k hk se sc
        rw [show (b.hf || decide (na.ans (some (true, m2)) ≠ 0)) = true from Bool.or_true _] at this
        exact this
      | some (false, m2) =>
        rw [hq] at sc
        rw [dst_e5 ho hp hq hc]
        have := destroy_sc5 h k hk se sc
        rw [show (b.hf || decide (na.ans (some (false, m2)) ≠ 0)) = true from Bool.or_true _] at this
        exact this
theorem cleanse_t (h : Bs H M w B b l) (k : Nat) (hk : k < 4) (hc : b.cln k = true) : Calls Tryz.prog 70 #[.pointer (some ⟨B, 0, none⟩), .int .i64 (k : Int)] w (Opd H M w B 0 b) := by
  have c0 := h.2.2.1.cell (3 + k) _ (get_cln H.c b k hk)
  rw [hc] at c0
  have lk1 : (0 : Int) ≤ (k : Int) := by omega
  have lk2 : (k : Int) < 4 := by omega
  have HB : Hid (Bs H M w B b l) := h
  clear h hc hk
  go_enter Tryz.func70, Tryz.ntmps70
  go_wp2
  go_ret
  exact ⟨_, _, rfl, HB.out, Fr.refl _ _ _⟩
theorem cleanse_f (h : Bs H M w B b l) (k : Nat) (hk : k < 4) (hc : b.cln k = false) (hn : na.ops b.s ≤ 999990) : Calls Tryz.prog 70 #[.pointer (some ⟨B, 0, none⟩), .int .i64 (k : Int)] w (Opd H M w B (if (dst H.P H.T H.pl b k).2 = 4 then 4 else 0) (dst H.P H.T H.pl b k).1) := by
  have SD : Hid (∀ w0, w0 = w → Calls Tryz.prog 72 #[.pointer (some ⟨B, 0, none⟩), .int .i64 (k : Int)] w0 (Opd H M w B (if (dst H.P H.T H.pl b k).2 = 4 then 4 else 0) (dst H.P H.T H.pl b k).1)) := fun w0 e => by subst e; exact destroy_any h k hk hc hn
  have c0 := h.2.2.1.cell (3 + k) _ (get_cln H.c b k hk)
  rw [hc] at c0
  have lk1 : (0 : Int) ≤ (k : Int) := by omega
  have lk2 : (k : Int) < 4 := by omega
  clear h hc hk hn
  generalize (if (dst H.P H.T H.pl b k).2 = 4 then (4 : Int) else 0) = x at SD ⊢
  generalize (dst H.P H.T H.pl b k).1 = b' at SD ⊢
  have t0 := tR
  go_enter Tryz.func70, Tryz.ntmps70
  go_wp2_with (first
    | (have q0 := t0; go_at_call 72; refine (SD.out w rfl).mono ?_; rintro e9 w1 ⟨M1, l1, rfl, b9, f9⟩; have HB : Hid (Bs H M1 w1 B b' l1) := b9; have HF : Hid (Fr M w B M1 w1) := f9; clear b9 f9 c0; clear t0; have t1 := tR))
  go_ret
  exact ⟨_, _, rfl, HB.out, HF.out⟩
end
end Go.Proofs.YtakibiigcdgohaaGreatDoor.vb
