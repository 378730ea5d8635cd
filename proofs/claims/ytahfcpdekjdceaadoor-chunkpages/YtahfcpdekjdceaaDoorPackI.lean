/- Texts put together (a claim holds few files). No claim of its own. -/
import Derived.Test.YtahfcpdekjdceaaDoorPackH
import Derived.Test.YtahfcpdekjdceaaDoorPackB
import Derived.Test.YtahfcpdekjdceaaDoorPackA
import Derived.Laws.AppendOwnNone
/- What page's split, Read and Done answer. No claim of its own. -/
namespace Go.Proofs.YtahfcpdekjdceaaDoor.pa
open Go.RowKit Go.Proofs.YtahfcpdekjdceaaDoor.fa Go.Proofs.YtahfcpdekjdceaaDoor.he
set_option maxRecDepth 20000

/-- a block that holds no byte -/
def NoB (w : World) (g : Nat) : Prop := ∀ j y, w.cell? ⟨g, j, none⟩ ≠ some (.int .u8 y)
theorem NoB.heap {w w' : World} {g : Nat} (h : NoB w g) (e : w'.heap[g]? = w.heap[g]?) : NoB w' g := fun j y => by
  rw [World.cell?_of_block (w := w) (w' := w') (a := ⟨g, j, none⟩) e]
  exact h j y
theorem vr_there1 {w : World} {c : Nat} {cs : List Value} (h : Vr w c cs) (j : Nat) (hj : j < cs.length) : (w.cell? ⟨c, j, none⟩).isSome = true := by
  rw [h.cell j _ (List.getElem?_eq_getElem hj)]; rfl
theorem NoB.set {w : World} {g : Nat} {cs0 cs : List Value} (h : NoB w g) (hV : Vr w g cs0) (hl : cs0.length = cs.length) (hc : ∀ v ∈ cs, ∀ y, v ≠ .int .u8 y) : NoB (w.setCells g 0 cs) g := fun j y e => by
  by_cases hj : j < cs.length
  · have := World.cell?_setCells_in g cs 0 w (fun i hi => by rw [Nat.zero_add]; exact vr_there1 hV i (by omega)) j hj
    rw [Nat.zero_add] at this
    rw [this] at e
    exact hc _ (List.getElem_mem hj) y (Option.some.inj e)
  · rw [World.cell?_setCells_out g cs 0 w ⟨g, j, none⟩ (fun _ _ => Or.inr (by simp; omega))] at e
    exact h j y e
/-- bytes last where a block without bytes is written -/
theorem byt_nob {w w' : World} {c : Nat} {v : Value} {xs : List Int} (h : Byt w v xs) (hn : NoB w c) (hk : ∀ k, k ≠ c → w'.heap[k]? = w.heap[k]?) : Byt w' v xs := by
  obtain ⟨ao, cap, rfl, h1, h2, h3, h4, h5⟩ := h
  refine ⟨ao, cap, rfl, h1, h2, h3, h4, fun hp => ?_⟩
  obtain ⟨b, off, rfl, hc⟩ := h5 hp
  refine ⟨b, off, rfl, fun t ht => ?_⟩
  have hb : b ≠ c := fun e => by subst e; exact hn _ _ (hc t ht)
  rw [World.cell?_of_block (w := w) (w' := w') (a := ⟨b, off + t, none⟩) (hk b hb)]
  exact hc t ht
/-- a struct's variable; its block holds no byte -/
theorem new_lawN {ops : Array Oper} {rest : List Oper} {a : Act} {Q : Exit → Act → World → Prop} {d : Option Tmp} {t ty : TypeId} {pos : String} {af : Array Edge} (w : World) (cs : List Value) (hz : (Tryd.prog.info? t).map (fun i => (i.zero, i.size)) = some (some (.agg cs.toArray), cs.length)) (hc : ∀ v ∈ cs, ∀ y, v ≠ .int .u8 y)
    (hK : ∀ w', Vr w' w.heap.size cs → NoB w' w.heap.size → Below w.heap.size w w' → wpList Tryd.prog ops Q rest (a.put d (.pointer (some ⟨w.heap.size, 0, none⟩))) w') :
    wpList Tryd.prog ops Q (⟨d, Op.alloc t, ty, pos, af, none⟩ :: rest) a w := by
  refine wpList_plain rfl fun K hK' => ?_
  have hz' := (zero_of_info hz).1
  unfold Oper.wp
  simp [execOp, Instr.alloc, hz', newVar, newRow, Value.cells, Result.andThen]
  refine hK' _ _ (hK _ (Vr.new w t cs) (fun j y e => ?_) ((Below.refl _ _).alloc (Nat.le_refl _) _))
  rw [cell_of_row (w.alloc (.cells cs.toArray t)) w.heap.size j _ t (0, 0) (heap_alloc_last w _)] at e
  have e : cs[j]? = some (.int .u8 y) := by simpa using e
  exact hc _ (List.mem_of_getElem? e) y rfl
/-- a page's cells, the reference's -/
def pg9 (k n c l e t : Int) (pv tv : Value) (d : Bool) : List Value := [.int .i64 k, .int .i64 n, .int .i64 c, .int .u32 l, .int .u64 e, .int .u64 t, pv, tv, .bool d]
def pg10 (k n c l e t : Int) (pv tv : Value) (d o : Bool) : List Value := [.int .i64 k, .int .i64 n, .int .i64 c, .int .u32 l, .int .u64 e, .int .u64 t, pv, tv, .bool d, .bool o]
def Z9 : List Value := pg9 0 0 0 0 0 0 (.slice none 0 0) (.slice none 0 0) false
def Z10 : List Value := pg10 0 0 0 0 0 0 (.slice none 0 0) (.slice none 0 0) false false
def Z2 : List Value := [.slice none 0 0, .slice none 0 0]
def Sle (v : Value) : Prop := ∃ ao n cap, v = .slice ao n cap
theorem byt_sle {w : World} {v : Value} {xs : List Int} (h : Byt w v xs) : Sle v := by
  obtain ⟨ao, cap, e, _⟩ := h
  exact ⟨ao, _, cap, e⟩
theorem hv_nob (k n c l e t : Int) : ∀ v ∈ hv k n c l e t, ∀ y, v ≠ .int .u8 y := by
  intro v h y q
  subst q
  simp [hv] at h
theorem pg9_nob (k n c l e t : Int) (ao bo : Option Addr) (n1 n2 c1 c2 : Nat) (d : Bool) : ∀ v ∈ pg9 k n c l e t (.slice ao n1 c1) (.slice bo n2 c2) d, ∀ y, v ≠ .int .u8 y := by
  intro v h y q
  subst q
  simp [pg9] at h
theorem pg10_nob (k n c l e t : Int) (ao bo : Option Addr) (n1 n2 c1 c2 : Nat) (d o : Bool) : ∀ v ∈ pg10 k n c l e t (.slice ao n1 c1) (.slice bo n2 c2) d o, ∀ y, v ≠ .int .u8 y := by
  intro v h y q
  subst q
  simp [pg10] at h
theorem z2_nob (ao bo : Option Addr) (n1 n2 c1 c2 : Nat) : ∀ v ∈ ([.slice ao n1 c1, .slice bo n2 c2] : List Value), ∀ y, v ≠ .int .u8 y := by
  intro v h y q
  subst q
  simp at h
theorem pg9_one (k n c l e t : Int) (ao bo : Option Addr) (n1 n2 c1 c2 : Nat) (d : Bool) : ∀ v ∈ pg9 k n c l e t (.slice ao n1 c1) (.slice bo n2 c2) d, v.oneCell' = true := by
  intro v h
  simp only [pg9, List.mem_cons, List.not_mem_nil, or_false] at h
  rcases h with rfl | rfl | rfl | rfl | rfl | rfl | rfl | rfl | rfl <;> rfl
theorem pg10_one (k n c l e t : Int) (ao bo : Option Addr) (n1 n2 c1 c2 : Nat) (d o : Bool) : ∀ v ∈ pg10 k n c l e t (.slice ao n1 c1) (.slice bo n2 c2) d o, v.oneCell' = true := by
  intro v h
  simp only [pg10, List.mem_cons, List.not_mem_nil, or_false] at h
  rcases h with rfl | rfl | rfl | rfl | rfl | rfl | rfl | rfl | rfl | rfl <;> rfl
theorem z2_one (ao bo : Option Addr) (n1 n2 c1 c2 : Nat) : ∀ v ∈ ([.slice ao n1 c1, .slice bo n2 c2] : List Value), v.oneCell' = true := by
  intro v h
  simp only [List.mem_cons, List.not_mem_nil, or_false] at h
  rcases h with rfl | rfl <;> rfl
theorem rowy_page : Rowy 64 9 := ⟨⟨_, Tryd.underlying64, rfl⟩, by kernel_rfl⟩
theorem rowy_rpage : Rowy 70 10 := ⟨⟨_, Tryd.underlying70, rfl⟩, by kernel_rfl⟩
theorem rowy_parts : Rowy 76 2 := ⟨⟨_, Tryd.underlying76, rfl⟩, by kernel_rfl⟩
theorem zero_page : (Tryd.prog.info? 64).map (fun i => (i.zero, i.size)) = some (some (.agg Z9.toArray), 9) := by kernel_rfl
theorem zero_rpage : (Tryd.prog.info? 70).map (fun i => (i.zero, i.size)) = some (some (.agg Z10.toArray), 10) := by kernel_rfl
theorem zero_parts : (Tryd.prog.info? 76).map (fun i => (i.zero, i.size)) = some (some (.agg Z2.toArray), 2) := by kernel_rfl
/-- a type of one cell -/
def One (t : TypeId) : Prop := (∃ d, Tryd.prog.underlying t = some d ∧ d.isRow = false) ∧ (Tryd.prog.info? t).map (·.size) = some 1
theorem one_bytes : One 24 := ⟨⟨_, Tryd.underlying24, rfl⟩, by kernel_rfl⟩
theorem one_bool : One 4 := ⟨⟨_, Tryd.underlying4, rfl⟩, by kernel_rfl⟩
theorem load_one {t : TypeId} (ht : One t) {w : World} {b p : Nat} {v : Value} (h : w.cell? ⟨b, p, none⟩ = some v) : (Instr.loadAt t (.pointer (some ⟨b, p, none⟩))).run Tryd.prog w = .ok v w := by
  obtain ⟨⟨d, hd, hr⟩, -⟩ := ht
  have : (loadVar t ⟨b, p, none⟩).run Tryd.prog w = .ok v w := by
    cases d <;> first | (simp [TypeDesc.isRow] at hr; done) | simp [loadVar, isAgg, run_underlying hd, h]
  simp only [Instr.loadAt, Instr.sureAddr, Sem.run_bind, Sem.run_pure, Result.andThen_ok, this]
theorem exec_build {ev : Operand → Value} {o : Oper} (t : TypeId) (parts : Array (Nat × Operand)) (hop : o.op = Op.build t parts) (v : Value) (w : World) (hrun : (Instr.build t (parts.map fun (i, x) => (i, ev x))).run Tryd.prog w = .ok v w) : (execOp ev o).run Tryd.prog w = .ok (.value v) w := by
  unfold execOp
  simp only [hop, Sem.run_bind, Sem.run_pure, Result.andThen_ok, hrun]
/-- a page's bytes, cut in two -/
theorem cut_two {w : World} {v : Value} {xs : List Int} {S : Nat} (hb : Byt w v xs) (hl : xs.length = S + 88) : ∃ s0 c0 s1 c1, sl v 0 S = .slice s0 S c0 ∧ sl v S (S + 88) = .slice s1 88 c1 ∧ Byt w (.slice s0 S c0) (xs.take S) ∧ Byt w (.slice s1 88 c1) (xs.drop S) := by
  have h1 := sl_to hb S (by omega)
  have h2 := sl_from hb S (by omega)
  rw [hl] at h2
  obtain ⟨s0, c0, e0⟩ := byt_form h1 (n := S) (by simp; omega)
  obtain ⟨s1, c1, e1⟩ := byt_form h2 (n := 88) (by simp; omega)
  rw [e0] at h1
  rw [e1] at h2
  exact ⟨s0, c0, s1, c1, e0, e1, h1, h2⟩

set_option maxHeartbeats 2000000 in
theorem split_any (g0 g1 g3 g4 g5 : Int) (S : Nat) (v : Value) (xs : List Int) (w : World) (hb : Byt w v xs) (hl : xs.length = S + 88) (s0 s1 : Option Addr) (c0 c1 : Nat) (e0 : sl v 0 S = .slice s0 S c0) (e1 : sl v S (S + 88) = .slice s1 88 c1) :
    Calls Tryd.prog 42 #[.agg (ints .i64 [g0, g1, (S : Int), g3, g4, g5]), v] w fun x w' => x = .returned (.agg ([.slice s0 S c0, .slice s1 88 c1] : List Value).toArray) ∧ Below w.heap.size w w' := by
  have HE : Hid (sl v 0 S = .slice s0 S c0 ∧ sl v S (S + 88) = .slice s1 88 c1) := ⟨e0, e1⟩
  have HB : Hid (Byt w v xs) := hb
  have HL : Hid (xs.length = S + 88) := hl
  clear hb hl e0 e1
  have t0 : (0 : Nat) = 0 := rfl
  go_enter Tryd.func42, Tryd.ntmps42
  go_wp2_with (first
    | (have q1 := t1; (with_reducible refine at_alloc ?_); refine new_lawN _ Z2 zero_parts (z2_nob _ _ _ _ _ _) ?_; intro w2 X9 N9 B9; have LT_HB0_HV4 : Hid (w.heap.size < w1.heap.size) := range_lt HB0.out.1 (Nat.succ_pos _); have LE_HV4 : Hid (w.heap.size ≤ w1.heap.size) := BB.out.size; have HB0 : Hid (Vr w2 w.heap.size [.int .i64 g0, .int .i64 g1, .int .i64 (S : Int), .int .i64 g3, .int .i64 g4, .int .i64 g5]) := HB0.out.below B9 (range_lt HB0.out.1 (Nat.succ_pos _)); have HV4 : Hid (Vr w2 w1.heap.size Z2) := X9; have NB_HV4 : Hid (NoB w2 w1.heap.size) := N9; have BB : Hid (Below w.heap.size w w2) := BB.out.trans (B9.mono BB.out.size); clear hb0_0 hb0_1 hb0_2 hb0_3 hb0_4 hb0_5; have hb0_0 := HB0.out.cell 0 _ rfl; have hb0_1 := HB0.out.cell 1 _ rfl; have hb0_2 := HB0.out.cell 2 _ rfl; have hb0_3 := HB0.out.cell 3 _ rfl; have hb0_4 := HB0.out.cell 4 _ rfl; have hb0_5 := HB0.out.cell 5 _ rfl; clear X9 N9 B9; clear t1; have t2 : (1 : Nat) = 1 := rfl)
    | (have q0 := t0; refine box_lawC _ [.int .i64 g0, .int .i64 g1, .int .i64 (S : Int), .int .i64 g3, .int .i64 g4, .int .i64 g5] rfl ?_; intro w1 X9 B9 l9; have HB0 : Hid (Vr w1 w.heap.size [.int .i64 g0, .int .i64 g1, .int .i64 (S : Int), .int .i64 g3, .int .i64 g4, .int .i64 g5]) := X9; have BB : Hid (Below w.heap.size w w1) := B9; have hb0_0 := HB0.out.cell 0 _ rfl; have hb0_1 := HB0.out.cell 1 _ rfl; have hb0_2 := HB0.out.cell 2 _ rfl; have hb0_3 := HB0.out.cell 3 _ rfl; have hb0_4 := HB0.out.cell 4 _ rfl; have hb0_5 := HB0.out.cell 5 _ rfl; clear X9 B9 l9; clear t0; have t1 : (1 : Nat) = 1 := rfl))
  have HV4 : Hid (Vr w2.drew w1.heap.size Z2) := HV4.out.drewN 1
  have BB : Hid (Below w.heap.size w w2.drew) := BB.out.drew
  refine wp_region_held_drew (S := fun w' => Below w1.heap.size w2 w') (by kernel_rfl) (Below.refl _ _).drew (fun hS => ?_)
  obtain ⟨x1, hx0⟩ : ∃ x, x = w2.drew := ⟨_, rfl⟩
  rw [← hx0] at hS HV4 BB ⊢
  clear hx0
  refine take_lawH 0 (some 5) (v) rfl rfl (by kernel_rfl) (by kernel_rfl) (by kernel_rfl) (fun _ _ _ h => h) (Or.inl ⟨by rfl, fun w' hw' => by rfl⟩) hS ?_
  simp only [Act.put, List.setIfInBounds_toArray, List.set_cons_zero, List.set_cons_succ]
  refine take_lawH 1 (some 6) (.pointer (some ⟨w.heap.size, 2, none⟩)) rfl rfl (by kernel_rfl) (by kernel_rfl) (by kernel_rfl) (fun _ _ _ h => h) (Or.inl ⟨by rfl, fun w' hw' => by go_simp⟩) hS ?_
  simp only [Act.put, List.setIfInBounds_toArray, List.set_cons_zero, List.set_cons_succ]
  refine take_lawH 2 (some 7) (.int .i64 (S : Int)) rfl rfl (by kernel_rfl) (by kernel_rfl) (by kernel_rfl) (fun _ _ _ h => h) (Or.inl ⟨by rfl, fun w' hw' => by exact exec_loadN 3 (.tmp 6) rfl _ rfl _ _ (ld_int ((HB0.out.below hw' LT_HB0_HV4.out).cell 2 _ rfl))⟩) hS ?_
  simp only [Act.put, List.setIfInBounds_toArray, List.set_cons_zero, List.set_cons_succ]
  refine take_lawH 3 (some 8) (.slice s0 S c0) rfl rfl (by kernel_rfl) (by kernel_rfl) (by kernel_rfl) (fun _ _ _ h => h) (Or.inl ⟨by rfl, fun w' hw' => by rw [← HE.out.1]; exact exec_to (.tmp 5) (.tmp 7) rfl v xs _ HB.out S rfl rfl (by have := HL.out; omega) _⟩) hS ?_
  simp only [Act.put, List.setIfInBounds_toArray, List.set_cons_zero, List.set_cons_succ]
  refine take_lawH 4 (some 9) (v) rfl rfl (by kernel_rfl) (by kernel_rfl) (by kernel_rfl) (fun _ _ _ h => h) (Or.inl ⟨by rfl, fun w' hw' => by rfl⟩) hS ?_
  simp only [Act.put, List.setIfInBounds_toArray, List.set_cons_zero, List.set_cons_succ]
  refine take_lawH 5 (some 10) (.pointer (some ⟨w.heap.size, 2, none⟩)) rfl rfl (by kernel_rfl) (by kernel_rfl) (by kernel_rfl) (fun _ _ _ h => h) (Or.inl ⟨by rfl, fun w' hw' => by go_simp⟩) hS ?_
  simp only [Act.put, List.setIfInBounds_toArray, List.set_cons_zero, List.set_cons_succ]
  refine take_lawH 6 (some 11) (.int .i64 (S : Int)) rfl rfl (by kernel_rfl) (by kernel_rfl) (by kernel_rfl) (fun _ _ _ h => h) (Or.inl ⟨by rfl, fun w' hw' => by exact exec_loadN 3 (.tmp 10) rfl _ rfl _ _ (ld_int ((HB0.out.below hw' LT_HB0_HV4.out).cell 2 _ rfl))⟩) hS ?_
  simp only [Act.put, List.setIfInBounds_toArray, List.set_cons_zero, List.set_cons_succ]
  refine take_lawH 7 (some 12) (.slice s1 88 c1) rfl rfl (by kernel_rfl) (by kernel_rfl) (by kernel_rfl) (fun _ _ _ h => h) (Or.inl ⟨by rfl, fun w' hw' => by rw [← HE.out.2]; exact exec_from (.tmp 9) (.tmp 11) rfl v xs _ HB.out S (S + 88) rfl rfl HL.out (by omega) _⟩) hS ?_
  simp only [Act.put, List.setIfInBounds_toArray, List.set_cons_zero, List.set_cons_succ]
  refine take_lawH 8 (some 13) (.agg ([.slice s0 S c0, .slice s1 88 c1] : List Value).toArray) rfl rfl (by kernel_rfl) (by kernel_rfl) (by kernel_rfl) (fun _ _ _ h => h) (Or.inl ⟨by rfl, fun w' hw' => by exact exec_build 76 _ rfl _ _ (by kernel_rfl)⟩) hS ?_
  simp only [Act.put, List.setIfInBounds_toArray, List.set_cons_zero, List.set_cons_succ]
  refine wpAnyH_ready (rs := [9]) (by kernel_rfl) (by simp) ?_
  refine AllReadyH.cons rfl (fun K hK => ?_) AllReadyH.nil
  refine step_storeC _ rfl none rfl (.tmp 4) (.tmp 13) 76 rfl w1.heap.size Z2 ([.slice s0 S c0, .slice s1 88 c1] : List Value) rfl rfl HV4.out rfl rowy_parts.2 (z2_one _ _ _ _ _ _) ?_
  intro x2 v9 B9
  have HQ : Hid (Vr x2 w1.heap.size ([.slice s0 S c0, .slice s1 88 c1] : List Value)) := v9
  have BB : Hid (Below w.heap.size w x2) := BB.out.trans (B9.mono LE_HV4.out)
  have hS : Below w1.heap.size w2 x2 := hS.trans B9
  clear v9 B9
  refine hK.out _ _ hS (fun _ => ?_)
  simp only [Act.put]
  clear hK K
  refine wpAnyH_done (by kernel_rfl) ?_ _
  go_wp2
  exact bodyPost_ret (v := .agg ([.slice s0 S c0, .slice s1 88 c1] : List Value).toArray) (results_c rfl _ _ w1.heap.size _ rowy_parts rfl HQ.out.1) rfl ⟨rfl, BB.out⟩

set_option maxHeartbeats 4000000 in
theorem read_geo (g0 g1 g2 g3 g4 g5 : Int) (v : Value) (xs : List Int) (w : World) (hb : Byt w v xs) (hr : ¬ ge.Rt [g0, g1, g2, g3, g4, g5]) :
    Calls Tryd.prog 31 #[.agg (ints .i64 [g0, g1, g2, g3, g4, g5]), v] w fun x w' => x = .returned (.tuple #[.agg Z9.toArray, .int .i64 2]) ∧ Below w.heap.size w w' := by
  have _ := hb
  have SK : Hid (∀ w0, Calls Tryd.prog 20 #[.agg (ints .i64 [g0, g1, g2, g3, g4, g5])] w0 fun x w' => x = .returned (.int .i64 2) ∧ Below w0.heap.size w0 w') := ge.check_no [g0, g1, g2, g3, g4, g5] rfl hr
  clear hr hb
  have t0 : (0 : Nat) = 0 := rfl
  go_enter Tryd.func31, Tryd.ntmps31
  go_wp2_with (first
    | (have q4 := t4; (with_reducible refine at_store ?_); refine store_lawC _ Z9 w1.heap.size 0 rfl rfl HV4.out.2 rowy_page.2 (pg9_one _ _ _ _ _ _ _ _ _ _ _ _ _) ?_; intro w4 E9 R9 T9 B9; have K9 : ∀ k, k ≠ w1.heap.size → w4.heap[k]? = w3.heap[k]? := (by rw [E9.out]; exact fun k hk => heap_cells _ _ _ _ k hk); have HB0 : Hid (Vr w4 w.heap.size [.int .i64 g0, .int .i64 g1, .int .i64 g2, .int .i64 g3, .int .i64 g4, .int .i64 g5]) := HB0.out.heap (K9 _ (Nat.ne_of_lt LT_HB0_HV4.out)); have NB_HV4 : Hid (NoB w4 w1.heap.size) := (by rw [E9.out]; exact NB_HV4.out.set HV4.out rfl (pg9_nob _ _ _ _ _ _ _ _ _ _ _ _ _)); have HV4 : Hid (Vr w4 w1.heap.size Z9) := ⟨R9, T9⟩; have BB : Hid (Below w.heap.size w w4) := BB.out.trans (B9.mono LE_HV4.out); clear hb0_0 hb0_1 hb0_2 hb0_3 hb0_4 hb0_5; have hb0_0 := HB0.out.cell 0 _ rfl; have hb0_1 := HB0.out.cell 1 _ rfl; have hb0_2 := HB0.out.cell 2 _ rfl; have hb0_3 := HB0.out.cell 3 _ rfl; have hb0_4 := HB0.out.cell 4 _ rfl; have hb0_5 := HB0.out.cell 5 _ rfl; clear E9 R9 T9 B9 K9; clear t4; have t5 : (1 : Nat) = 1 := rfl)
    | (have q3 := t3; refine build_law _ rfl 64 _ rfl (.agg Z9.toArray) (by kernel_rfl) ?_; clear t3; have t4 : (1 : Nat) = 1 := rfl)
    | (have q2 := t2; go_at_call 20; refine (SK.out w2).mono ?_; rintro e9 w3 ⟨rfl, B9⟩; have HB0 : Hid (Vr w3 w.heap.size [.int .i64 g0, .int .i64 g1, .int .i64 g2, .int .i64 g3, .int .i64 g4, .int .i64 g5]) := HB0.out.below B9 (range_lt HB0.out.1 (Nat.succ_pos _)); have NB_HV4 : Hid (NoB w3 w1.heap.size) := NB_HV4.out.heap (B9.block _ (range_lt HV4.out.1 (Nat.succ_pos _))); have HV4 : Hid (Vr w3 w1.heap.size Z9) := HV4.out.below B9 (range_lt HV4.out.1 (Nat.succ_pos _)); have BB : Hid (Below w.heap.size w w3) := BB.out.trans (B9.mono BB.out.size); clear hb0_0 hb0_1 hb0_2 hb0_3 hb0_4 hb0_5; have hb0_0 := HB0.out.cell 0 _ rfl; have hb0_1 := HB0.out.cell 1 _ rfl; have hb0_2 := HB0.out.cell 2 _ rfl; have hb0_3 := HB0.out.cell 3 _ rfl; have hb0_4 := HB0.out.cell 4 _ rfl; have hb0_5 := HB0.out.cell 5 _ rfl; clear B9; clear t2; have t3 : (1 : Nat) = 1 := rfl)
    | (have q1 := t1; (with_reducible refine at_alloc ?_); refine new_lawN _ Z9 zero_page (pg9_nob _ _ _ _ _ _ _ _ _ _ _ _ _) ?_; intro w2 X9 N9 B9; have LT_HB0_HV4 : Hid (w.heap.size < w1.heap.size) := range_lt HB0.out.1 (Nat.succ_pos _); have LE_HV4 : Hid (w.heap.size ≤ w1.heap.size) := BB.out.size; have HB0 : Hid (Vr w2 w.heap.size [.int .i64 g0, .int .i64 g1, .int .i64 g2, .int .i64 g3, .int .i64 g4, .int .i64 g5]) := HB0.out.below B9 (range_lt HB0.out.1 (Nat.succ_pos _)); have HV4 : Hid (Vr w2 w1.heap.size Z9) := X9; have NB_HV4 : Hid (NoB w2 w1.heap.size) := N9; have BB : Hid (Below w.heap.size w w2) := BB.out.trans (B9.mono BB.out.size); clear hb0_0 hb0_1 hb0_2 hb0_3 hb0_4 hb0_5; have hb0_0 := HB0.out.cell 0 _ rfl; have hb0_1 := HB0.out.cell 1 _ rfl; have hb0_2 := HB0.out.cell 2 _ rfl; have hb0_3 := HB0.out.cell 3 _ rfl; have hb0_4 := HB0.out.cell 4 _ rfl; have hb0_5 := HB0.out.cell 5 _ rfl; clear X9 N9 B9; clear t1; have t2 : (1 : Nat) = 1 := rfl)
    | (have q0 := t0; refine box_lawC _ [.int .i64 g0, .int .i64 g1, .int .i64 g2, .int .i64 g3, .int .i64 g4, .int .i64 g5] rfl ?_; intro w1 X9 B9 l9; have HB0 : Hid (Vr w1 w.heap.size [.int .i64 g0, .int .i64 g1, .int .i64 g2, .int .i64 g3, .int .i64 g4, .int .i64 g5]) := X9; have BB : Hid (Below w.heap.size w w1) := B9; have hb0_0 := HB0.out.cell 0 _ rfl; have hb0_1 := HB0.out.cell 1 _ rfl; have hb0_2 := HB0.out.cell 2 _ rfl; have hb0_3 := HB0.out.cell 3 _ rfl; have hb0_4 := HB0.out.cell 4 _ rfl; have hb0_5 := HB0.out.cell 5 _ rfl; clear X9 B9 l9; clear t0; have t1 : (1 : Nat) = 1 := rfl))
  exact bodyPost_ret (v := .tuple #[.agg Z9.toArray, .int .i64 2]) (results_cv rfl _ _ w1.heap.size _ _ rowy_page rfl rfl HV4.out.1) rfl ⟨rfl, BB.out⟩

set_option maxHeartbeats 4000000 in
theorem read_size (g0 g1 g3 g4 g5 : Int) (S : Nat) (v : Value) (xs : List Int) (w : World) (hb : Byt w v xs) (hr : ge.Rt [g0, g1, (S : Int), g3, g4, g5]) (hl : xs.length ≠ S + 88) :
    Calls Tryd.prog 31 #[.agg (ints .i64 [g0, g1, (S : Int), g3, g4, g5]), v] w fun x w' => x = .returned (.tuple #[.agg Z9.toArray, .int .i64 2]) ∧ Below w.heap.size w w' := by
  have SK : Hid (∀ w0, Calls Tryd.prog 20 #[.agg (ints .i64 [g0, g1, (S : Int), g3, g4, g5])] w0 fun x w' => x = .returned (.int .i64 0) ∧ Below w0.heap.size w0 w') := ge.check_yes [g0, g1, (S : Int), g3, g4, g5] rfl hr
  have SZ : Hid (∀ w0, Calls Tryd.prog 41 #[.agg (ints .i64 [g0, g1, (S : Int), g3, g4, g5])] w0 fun x w' => x = .returned (.int .i64 ((S + 88 : Nat) : Int)) ∧ Below w0.heap.size w0 w') := fun w0 => ge.psize_yes [g0, g1, (S : Int), g3, g4, g5] rfl hr w0
  obtain ⟨vo, vn, vc, hvf, hvn⟩ : ∃ vo vn vc, v = .slice vo vn vc ∧ xs.length = vn := (by obtain ⟨ao, cap, e, _⟩ := hb; exact ⟨ao, _, cap, e, rfl⟩)
  subst hvf
  rw [hvn] at hl
  generalize S + 88 = T at SZ hl
  have n1 : ((vn : Int) != (T : Int)) = true := bne_iff_ne.2 (by omega)
  clear hr hb hl hvn
  have t0 : (0 : Nat) = 0 := rfl
  go_enter Tryd.func31, Tryd.ntmps31
  go_wp2_with (first
    | (have q5 := t5; (with_reducible refine at_store ?_); refine store_lawC _ Z9 w1.heap.size 0 rfl rfl HV4.out.2 rowy_page.2 (pg9_one _ _ _ _ _ _ _ _ _ _ _ _ _) ?_; intro w5 E9 R9 T9 B9; have K9 : ∀ k, k ≠ w1.heap.size → w5.heap[k]? = w4.heap[k]? := (by rw [E9.out]; exact fun k hk => heap_cells _ _ _ _ k hk); have HB0 : Hid (Vr w5 w.heap.size [.int .i64 g0, .int .i64 g1, .int .i64 (S : Int), .int .i64 g3, .int .i64 g4, .int .i64 g5]) := HB0.out.heap (K9 _ (Nat.ne_of_lt LT_HB0_HV4.out)); have NB_HV4 : Hid (NoB w5 w1.heap.size) := (by rw [E9.out]; exact NB_HV4.out.set HV4.out rfl (pg9_nob _ _ _ _ _ _ _ _ _ _ _ _ _)); have HV4 : Hid (Vr w5 w1.heap.size Z9) := ⟨R9, T9⟩; have BB : Hid (Below w.heap.size w w5) := BB.out.trans (B9.mono LE_HV4.out); clear hb0_0 hb0_1 hb0_2 hb0_3 hb0_4 hb0_5; have hb0_0 := HB0.out.cell 0 _ rfl; have hb0_1 := HB0.out.cell 1 _ rfl; have hb0_2 := HB0.out.cell 2 _ rfl; have hb0_3 := HB0.out.cell 3 _ rfl; have hb0_4 := HB0.out.cell 4 _ rfl; have hb0_5 := HB0.out.cell 5 _ rfl; clear E9 R9 T9 B9 K9; clear t5; have t6 : (1 : Nat) = 1 := rfl)
    | (have q4 := t4; refine build_law _ rfl 64 _ rfl (.agg Z9.toArray) (by kernel_rfl) ?_; clear t4; have t5 : (1 : Nat) = 1 := rfl)
    | (have q3 := t3; go_at_call 41; refine (SZ.out w3).mono ?_; rintro e9 w4 ⟨rfl, B9⟩; have HB0 : Hid (Vr w4 w.heap.size [.int .i64 g0, .int .i64 g1, .int .i64 (S : Int), .int .i64 g3, .int .i64 g4, .int .i64 g5]) := HB0.out.below B9 (range_lt HB0.out.1 (Nat.succ_pos _)); have NB_HV4 : Hid (NoB w4 w1.heap.size) := NB_HV4.out.heap (B9.block _ (range_lt HV4.out.1 (Nat.succ_pos _))); have HV4 : Hid (Vr w4 w1.heap.size Z9) := HV4.out.below B9 (range_lt HV4.out.1 (Nat.succ_pos _)); have BB : Hid (Below w.heap.size w w4) := BB.out.trans (B9.mono BB.out.size); clear hb0_0 hb0_1 hb0_2 hb0_3 hb0_4 hb0_5; have hb0_0 := HB0.out.cell 0 _ rfl; have hb0_1 := HB0.out.cell 1 _ rfl; have hb0_2 := HB0.out.cell 2 _ rfl; have hb0_3 := HB0.out.cell 3 _ rfl; have hb0_4 := HB0.out.cell 4 _ rfl; have hb0_5 := HB0.out.cell 5 _ rfl; clear B9; clear t3; have t4 : (1 : Nat) = 1 := rfl)
    | (have q2 := t2; go_at_call 20; refine (SK.out w2).mono ?_; rintro e9 w3 ⟨rfl, B9⟩; have HB0 : Hid (Vr w3 w.heap.size [.int .i64 g0, .int .i64 g1, .int .i64 (S : Int), .int .i64 g3, .int .i64 g4, .int .i64 g5]) := HB0.out.below B9 (range_lt HB0.out.1 (Nat.succ_pos _)); have NB_HV4 : Hid (NoB w3 w1.heap.size) := NB_HV4.out.heap (B9.block _ (range_lt HV4.out.1 (Nat.succ_pos _))); have HV4 : Hid (Vr w3 w1.heap.size Z9) := HV4.out.below B9 (range_lt HV4.out.1 (Nat.succ_pos _)); have BB : Hid (Below w.heap.size w w3) := BB.out.trans (B9.mono BB.out.size); clear hb0_0 hb0_1 hb0_2 hb0_3 hb0_4 hb0_5; have hb0_0 := HB0.out.cell 0 _ rfl; have hb0_1 := HB0.out.cell 1 _ rfl; have hb0_2 := HB0.out.cell 2 _ rfl; have hb0_3 := HB0.out.cell 3 _ rfl; have hb0_4 := HB0.out.cell 4 _ rfl; have hb0_5 := HB0.out.cell 5 _ rfl; clear B9; clear t2; have t3 : (1 : Nat) = 1 := rfl)
    | (have q1 := t1; (with_reducible refine at_alloc ?_); refine new_lawN _ Z9 zero_page (pg9_nob _ _ _ _ _ _ _ _ _ _ _ _ _) ?_; intro w2 X9 N9 B9; have LT_HB0_HV4 : Hid (w.heap.size < w1.heap.size) := range_lt HB0.out.1 (Nat.succ_pos _); have LE_HV4 : Hid (w.heap.size ≤ w1.heap.size) := BB.out.size; have HB0 : Hid (Vr w2 w.heap.size [.int .i64 g0, .int .i64 g1, .int .i64 (S : Int), .int .i64 g3, .int .i64 g4, .int .i64 g5]) := HB0.out.below B9 (range_lt HB0.out.1 (Nat.succ_pos _)); have HV4 : Hid (Vr w2 w1.heap.size Z9) := X9; have NB_HV4 : Hid (NoB w2 w1.heap.size) := N9; have BB : Hid (Below w.heap.size w w2) := BB.out.trans (B9.mono BB.out.size); clear hb0_0 hb0_1 hb0_2 hb0_3 hb0_4 hb0_5; have hb0_0 := HB0.out.cell 0 _ rfl; have hb0_1 := HB0.out.cell 1 _ rfl; have hb0_2 := HB0.out.cell 2 _ rfl; have hb0_3 := HB0.out.cell 3 _ rfl; have hb0_4 := HB0.out.cell 4 _ rfl; have hb0_5 := HB0.out.cell 5 _ rfl; clear X9 N9 B9; clear t1; have t2 : (1 : Nat) = 1 := rfl)
    | (have q0 := t0; refine box_lawC _ [.int .i64 g0, .int .i64 g1, .int .i64 (S : Int), .int .i64 g3, .int .i64 g4, .int .i64 g5] rfl ?_; intro w1 X9 B9 l9; have HB0 : Hid (Vr w1 w.heap.size [.int .i64 g0, .int .i64 g1, .int .i64 (S : Int), .int .i64 g3, .int .i64 g4, .int .i64 g5]) := X9; have BB : Hid (Below w.heap.size w w1) := B9; have hb0_0 := HB0.out.cell 0 _ rfl; have hb0_1 := HB0.out.cell 1 _ rfl; have hb0_2 := HB0.out.cell 2 _ rfl; have hb0_3 := HB0.out.cell 3 _ rfl; have hb0_4 := HB0.out.cell 4 _ rfl; have hb0_5 := HB0.out.cell 5 _ rfl; clear X9 B9 l9; clear t0; have t1 : (1 : Nat) = 1 := rfl))
  exact bodyPost_ret (v := .tuple #[.agg Z9.toArray, .int .i64 2]) (results_cv rfl _ _ w1.heap.size _ _ rowy_page rfl rfl HV4.out.1) rfl ⟨rfl, BB.out⟩
theorem read_not (g0 g1 g3 g4 g5 : Int) (S : Nat) (v : Value) (xs : List Int) (w : World) (hb : Byt w v xs) (h : ¬ (ge.Rt [g0, g1, (S : Int), g3, g4, g5] ∧ xs.length = S + 88)) :
    Calls Tryd.prog 31 #[.agg (ints .i64 [g0, g1, (S : Int), g3, g4, g5]), v] w fun x w' => x = .returned (.tuple #[.agg Z9.toArray, .int .i64 2]) ∧ Below w.heap.size w w' := by
  by_cases hr : ge.Rt [g0, g1, (S : Int), g3, g4, g5]
  · exact read_size g0 g1 g3 g4 g5 S v xs w hb hr fun q => h ⟨hr, q⟩
  · exact read_geo g0 g1 S g3 g4 g5 v xs w hb hr

set_option maxHeartbeats 4000000 in
theorem read_none (g0 g1 g3 g4 g5 : Int) (S : Nat) (v : Value) (xs : List Int) (w : World) (hb : Byt w v xs) (hr : ge.Rt [g0, g1, (S : Int), g3, g4, g5]) (hl : xs.length = S + 88) (hT : Tab w) (h : ¬ Tl (xs.drop S)) :
    Calls Tryd.prog 31 #[.agg (ints .i64 [g0, g1, (S : Int), g3, g4, g5]), v] w fun x w' => x = .returned (.tuple #[.agg Z9.toArray, .int .i64 1]) ∧ Below w.heap.size w w' := by
  have SK : Hid (∀ w0, Calls Tryd.prog 20 #[.agg (ints .i64 [g0, g1, (S : Int), g3, g4, g5])] w0 fun x w' => x = .returned (.int .i64 0) ∧ Below w0.heap.size w0 w') := ge.check_yes [g0, g1, (S : Int), g3, g4, g5] rfl hr
  have SZ : Hid (∀ w0, Calls Tryd.prog 41 #[.agg (ints .i64 [g0, g1, (S : Int), g3, g4, g5])] w0 fun x w' => x = .returned (.int .i64 ((S + 88 : Nat) : Int)) ∧ Below w0.heap.size w0 w') := fun w0 => ge.psize_yes [g0, g1, (S : Int), g3, g4, g5] rfl hr w0
  obtain ⟨s0, c0, s1, c1, e0, e1, y0, y1⟩ := cut_two hb hl
  have SS : Hid (∀ w0, Below w.heap.size w w0 → Calls Tryd.prog 42 #[.agg (ints .i64 [g0, g1, (S : Int), g3, g4, g5]), v] w0 fun x w' => x = .returned (.agg ([.slice s0 S c0, .slice s1 88 c1] : List Value).toArray) ∧ Below w0.heap.size w0 w') := fun w0 hw => split_any g0 g1 g3 g4 g5 S v xs w0 (hb.below hw) hl s0 s1 c0 c1 e0 e1
  obtain ⟨vo, vn, vc, hvf, hvn⟩ : ∃ vo vn vc, v = .slice vo vn vc ∧ xs.length = vn := (by obtain ⟨ao, cap, e, _⟩ := hb; exact ⟨ao, _, cap, e, rfl⟩)
  subst hvf
  have hvn : vn = S + 88 := by omega
  subst hvn
  have SH : Hid (∀ w0, Below w.heap.size w w0 → Calls Tryd.prog 43 #[.slice s1 88 c1] w0 fun x w' => x = .returned (.tuple #[.agg (hv 0 0 0 0 0 0).toArray, .slice none 0 0, .int .i64 1]) ∧ Below w0.heap.size w0 w') := fun w0 hw => he.read_no _ _ w0 (y1.below hw) (by simp; omega) (hT.below hw) h
  generalize S + 88 = T at SZ SS ⊢
  clear hr hb hl e0 e1 y0 y1 hT h
  have t0 : (0 : Nat) = 0 := rfl
  go_enter Tryd.func31, Tryd.ntmps31
  go_wp2_with (first
    | (have q11 := t11; (with_reducible refine at_store ?_); refine store_lawC _ Z9 w1.heap.size 0 rfl rfl HV4.out.2 rowy_page.2 (pg9_one _ _ _ _ _ _ _ _ _ _ _ _ _) ?_; intro w11 E9 R9 T9 B9; have K9 : ∀ k, k ≠ w1.heap.size → w11.heap[k]? = w10.heap[k]? := (by rw [E9.out]; exact fun k hk => heap_cells _ _ _ _ k hk); have HB0 : Hid (Vr w11 w.heap.size [.int .i64 g0, .int .i64 g1, .int .i64 (S : Int), .int .i64 g3, .int .i64 g4, .int .i64 g5]) := HB0.out.heap (K9 _ (Nat.ne_of_lt LT_HB0_HV4.out)); have NB_HV6 : Hid (NoB w11 w5.heap.size) := NB_HV6.out.heap (K9 _ (Nat.ne_of_gt LT_HV4_HV6.out)); have HV6 : Hid (Vr w11 w5.heap.size ([.slice s0 S c0, .slice s1 88 c1] : List Value)) := HV6.out.heap (K9 _ (Nat.ne_of_gt LT_HV4_HV6.out)); have NB_HV7 : Hid (NoB w11 w8.heap.size) := NB_HV7.out.heap (K9 _ (Nat.ne_of_gt LT_HV4_HV7.out)); have HV7 : Hid (Vr w11 w8.heap.size (hv 0 0 0 0 0 0)) := HV7.out.heap (K9 _ (Nat.ne_of_gt LT_HV4_HV7.out)); have NB_HV4 : Hid (NoB w11 w1.heap.size) := (by rw [E9.out]; exact NB_HV4.out.set HV4.out rfl (pg9_nob _ _ _ _ _ _ _ _ _ _ _ _ _)); have HV4 : Hid (Vr w11 w1.heap.size Z9) := ⟨R9, T9⟩; have BB : Hid (Below w.heap.size w w11) := BB.out.trans (B9.mono LE_HV4.out); clear hb0_0 hb0_1 hb0_2 hb0_3 hb0_4 hb0_5 hv6_0 hv6_1; have hb0_0 := HB0.out.cell 0 _ rfl; have hb0_1 := HB0.out.cell 1 _ rfl; have hb0_2 := HB0.out.cell 2 _ rfl; have hb0_3 := HB0.out.cell 3 _ rfl; have hb0_4 := HB0.out.cell 4 _ rfl; have hb0_5 := HB0.out.cell 5 _ rfl; have hv6_0 := HV6.out.cell 0 _ rfl; have hv6_1 := HV6.out.cell 1 _ rfl; clear E9 R9 T9 B9 K9; clear t11; have t12 : (1 : Nat) = 1 := rfl)
    | (have q10 := t10; refine build_law _ rfl 64 _ rfl (.agg Z9.toArray) (by kernel_rfl) ?_; clear t10; have t11 : (1 : Nat) = 1 := rfl)
    | (have q9 := t9; (with_reducible refine at_store ?_); refine store_lawC _ (hv 0 0 0 0 0 0) w8.heap.size 0 rfl rfl HV7.out.2 rowy_head.2 (hv_one _ _ _ _ _ _) ?_; intro w10 E9 R9 T9 B9; have K9 : ∀ k, k ≠ w8.heap.size → w10.heap[k]? = w9.heap[k]? := (by rw [E9.out]; exact fun k hk => heap_cells _ _ _ _ k hk); have HB0 : Hid (Vr w10 w.heap.size [.int .i64 g0, .int .i64 g1, .int .i64 (S : Int), .int .i64 g3, .int .i64 g4, .int .i64 g5]) := HB0.out.heap (K9 _ (Nat.ne_of_lt LT_HB0_HV7.out)); have NB_HV4 : Hid (NoB w10 w1.heap.size) := NB_HV4.out.heap (K9 _ (Nat.ne_of_lt LT_HV4_HV7.out)); have HV4 : Hid (Vr w10 w1.heap.size Z9) := HV4.out.heap (K9 _ (Nat.ne_of_lt LT_HV4_HV7.out)); have NB_HV6 : Hid (NoB w10 w5.heap.size) := NB_HV6.out.heap (K9 _ (Nat.ne_of_lt LT_HV6_HV7.out)); have HV6 : Hid (Vr w10 w5.heap.size ([.slice s0 S c0, .slice s1 88 c1] : List Value)) := HV6.out.heap (K9 _ (Nat.ne_of_lt LT_HV6_HV7.out)); have NB_HV7 : Hid (NoB w10 w8.heap.size) := (by rw [E9.out]; exact NB_HV7.out.set HV7.out rfl (hv_nob _ _ _ _ _ _)); have HV7 : Hid (Vr w10 w8.heap.size (hv 0 0 0 0 0 0)) := ⟨R9, T9⟩; have BB : Hid (Below w.heap.size w w10) := BB.out.trans (B9.mono LE_HV7.out); clear hb0_0 hb0_1 hb0_2 hb0_3 hb0_4 hb0_5 hv6_0 hv6_1; have hb0_0 := HB0.out.cell 0 _ rfl; have hb0_1 := HB0.out.cell 1 _ rfl; have hb0_2 := HB0.out.cell 2 _ rfl; have hb0_3 := HB0.out.cell 3 _ rfl; have hb0_4 := HB0.out.cell 4 _ rfl; have hb0_5 := HB0.out.cell 5 _ rfl; have hv6_0 := HV6.out.cell 0 _ rfl; have hv6_1 := HV6.out.cell 1 _ rfl; clear E9 R9 T9 B9 K9; clear t9; have t10 : (1 : Nat) = 1 := rfl)
    | (have q8 := t8; (with_reducible refine at_alloc ?_); refine new_lawN _ (hv 0 0 0 0 0 0) zero_head (hv_nob _ _ _ _ _ _) ?_; intro w9 X9 N9 B9; have LT_HB0_HV7 : Hid (w.heap.size < w8.heap.size) := range_lt HB0.out.1 (Nat.succ_pos _); have LT_HV4_HV7 : Hid (w1.heap.size < w8.heap.size) := range_lt HV4.out.1 (Nat.succ_pos _); have LT_HV6_HV7 : Hid (w5.heap.size < w8.heap.size) := range_lt HV6.out.1 (Nat.succ_pos _); have LE_HV7 : Hid (w.heap.size ≤ w8.heap.size) := BB.out.size; have HB0 : Hid (Vr w9 w.heap.size [.int .i64 g0, .int .i64 g1, .int .i64 (S : Int), .int .i64 g3, .int .i64 g4, .int .i64 g5]) := HB0.out.below B9 (range_lt HB0.out.1 (Nat.succ_pos _)); have NB_HV4 : Hid (NoB w9 w1.heap.size) := NB_HV4.out.heap (B9.block _ (range_lt HV4.out.1 (Nat.succ_pos _))); have HV4 : Hid (Vr w9 w1.heap.size Z9) := HV4.out.below B9 (range_lt HV4.out.1 (Nat.succ_pos _)); have NB_HV6 : Hid (NoB w9 w5.heap.size) := NB_HV6.out.heap (B9.block _ (range_lt HV6.out.1 (Nat.succ_pos _))); have HV6 : Hid (Vr w9 w5.heap.size ([.slice s0 S c0, .slice s1 88 c1] : List Value)) := HV6.out.below B9 (range_lt HV6.out.1 (Nat.succ_pos _)); have HV7 : Hid (Vr w9 w8.heap.size (hv 0 0 0 0 0 0)) := X9; have NB_HV7 : Hid (NoB w9 w8.heap.size) := N9; have BB : Hid (Below w.heap.size w w9) := BB.out.trans (B9.mono BB.out.size); clear hb0_0 hb0_1 hb0_2 hb0_3 hb0_4 hb0_5 hv6_0 hv6_1; have hb0_0 := HB0.out.cell 0 _ rfl; have hb0_1 := HB0.out.cell 1 _ rfl; have hb0_2 := HB0.out.cell 2 _ rfl; have hb0_3 := HB0.out.cell 3 _ rfl; have hb0_4 := HB0.out.cell 4 _ rfl; have hb0_5 := HB0.out.cell 5 _ rfl; have hv6_0 := HV6.out.cell 0 _ rfl; have hv6_1 := HV6.out.cell 1 _ rfl; clear X9 N9 B9; clear t8; have t9 : (1 : Nat) = 1 := rfl)
    | (have q7 := t7; go_at_call 43; refine (SH.out w7 BB.out).mono ?_; rintro e9 w8 ⟨rfl, B9⟩; have HB0 : Hid (Vr w8 w.heap.size [.int .i64 g0, .int .i64 g1, .int .i64 (S : Int), .int .i64 g3, .int .i64 g4, .int .i64 g5]) := HB0.out.below B9 (range_lt HB0.out.1 (Nat.succ_pos _)); have NB_HV4 : Hid (NoB w8 w1.heap.size) := NB_HV4.out.heap (B9.block _ (range_lt HV4.out.1 (Nat.succ_pos _))); have HV4 : Hid (Vr w8 w1.heap.size Z9) := HV4.out.below B9 (range_lt HV4.out.1 (Nat.succ_pos _)); have NB_HV6 : Hid (NoB w8 w5.heap.size) := NB_HV6.out.heap (B9.block _ (range_lt HV6.out.1 (Nat.succ_pos _))); have HV6 : Hid (Vr w8 w5.heap.size ([.slice s0 S c0, .slice s1 88 c1] : List Value)) := HV6.out.below B9 (range_lt HV6.out.1 (Nat.succ_pos _)); have BB : Hid (Below w.heap.size w w8) := BB.out.trans (B9.mono BB.out.size); clear hb0_0 hb0_1 hb0_2 hb0_3 hb0_4 hb0_5 hv6_0 hv6_1; have hb0_0 := HB0.out.cell 0 _ rfl; have hb0_1 := HB0.out.cell 1 _ rfl; have hb0_2 := HB0.out.cell 2 _ rfl; have hb0_3 := HB0.out.cell 3 _ rfl; have hb0_4 := HB0.out.cell 4 _ rfl; have hb0_5 := HB0.out.cell 5 _ rfl; have hv6_0 := HV6.out.cell 0 _ rfl; have hv6_1 := HV6.out.cell 1 _ rfl; clear B9; clear t7; have t8 : (1 : Nat) = 1 := rfl)
    | (have q6 := t6; (with_reducible refine at_store ?_); refine store_lawC _ ([.slice s0 S c0, .slice s1 88 c1] : List Value) w5.heap.size 0 rfl rfl HV6.out.2 rowy_parts.2 (z2_one _ _ _ _ _ _) ?_; intro w7 E9 R9 T9 B9; have K9 : ∀ k, k ≠ w5.heap.size → w7.heap[k]? = w6.heap[k]? := (by rw [E9.out]; exact fun k hk => heap_cells _ _ _ _ k hk); have HB0 : Hid (Vr w7 w.heap.size [.int .i64 g0, .int .i64 g1, .int .i64 (S : Int), .int .i64 g3, .int .i64 g4, .int .i64 g5]) := HB0.out.heap (K9 _ (Nat.ne_of_lt LT_HB0_HV6.out)); have NB_HV4 : Hid (NoB w7 w1.heap.size) := NB_HV4.out.heap (K9 _ (Nat.ne_of_lt LT_HV4_HV6.out)); have HV4 : Hid (Vr w7 w1.heap.size Z9) := HV4.out.heap (K9 _ (Nat.ne_of_lt LT_HV4_HV6.out)); have NB_HV6 : Hid (NoB w7 w5.heap.size) := (by rw [E9.out]; exact NB_HV6.out.set HV6.out rfl (z2_nob _ _ _ _ _ _)); have HV6 : Hid (Vr w7 w5.heap.size ([.slice s0 S c0, .slice s1 88 c1] : List Value)) := ⟨R9, T9⟩; have BB : Hid (Below w.heap.size w w7) := BB.out.trans (B9.mono LE_HV6.out); clear hb0_0 hb0_1 hb0_2 hb0_3 hb0_4 hb0_5; have hb0_0 := HB0.out.cell 0 _ rfl; have hb0_1 := HB0.out.cell 1 _ rfl; have hb0_2 := HB0.out.cell 2 _ rfl; have hb0_3 := HB0.out.cell 3 _ rfl; have hb0_4 := HB0.out.cell 4 _ rfl; have hb0_5 := HB0.out.cell 5 _ rfl; have hv6_0 := HV6.out.cell 0 _ rfl; have hv6_1 := HV6.out.cell 1 _ rfl; clear E9 R9 T9 B9 K9; clear t6; have t7 : (1 : Nat) = 1 := rfl)
    | (have q5 := t5; (with_reducible refine at_alloc ?_); refine new_lawN _ Z2 zero_parts (z2_nob _ _ _ _ _ _) ?_; intro w6 X9 N9 B9; have LT_HB0_HV6 : Hid (w.heap.size < w5.heap.size) := range_lt HB0.out.1 (Nat.succ_pos _); have LT_HV4_HV6 : Hid (w1.heap.size < w5.heap.size) := range_lt HV4.out.1 (Nat.succ_pos _); have LE_HV6 : Hid (w.heap.size ≤ w5.heap.size) := BB.out.size; have HB0 : Hid (Vr w6 w.heap.size [.int .i64 g0, .int .i64 g1, .int .i64 (S : Int), .int .i64 g3, .int .i64 g4, .int .i64 g5]) := HB0.out.below B9 (range_lt HB0.out.1 (Nat.succ_pos _)); have NB_HV4 : Hid (NoB w6 w1.heap.size) := NB_HV4.out.heap (B9.block _ (range_lt HV4.out.1 (Nat.succ_pos _))); have HV4 : Hid (Vr w6 w1.heap.size Z9) := HV4.out.below B9 (range_lt HV4.out.1 (Nat.succ_pos _)); have HV6 : Hid (Vr w6 w5.heap.size Z2) := X9; have NB_HV6 : Hid (NoB w6 w5.heap.size) := N9; have BB : Hid (Below w.heap.size w w6) := BB.out.trans (B9.mono BB.out.size); clear hb0_0 hb0_1 hb0_2 hb0_3 hb0_4 hb0_5; have hb0_0 := HB0.out.cell 0 _ rfl; have hb0_1 := HB0.out.cell 1 _ rfl; have hb0_2 := HB0.out.cell 2 _ rfl; have hb0_3 := HB0.out.cell 3 _ rfl; have hb0_4 := HB0.out.cell 4 _ rfl; have hb0_5 := HB0.out.cell 5 _ rfl; clear X9 N9 B9; clear t5; have t6 : (1 : Nat) = 1 := rfl)
    | (have q4 := t4; go_at_call 42; refine (SS.out w4 BB.out).mono ?_; rintro e9 w5 ⟨rfl, B9⟩; have HB0 : Hid (Vr w5 w.heap.size [.int .i64 g0, .int .i64 g1, .int .i64 (S : Int), .int .i64 g3, .int .i64 g4, .int .i64 g5]) := HB0.out.below B9 (range_lt HB0.out.1 (Nat.succ_pos _)); have NB_HV4 : Hid (NoB w5 w1.heap.size) := NB_HV4.out.heap (B9.block _ (range_lt HV4.out.1 (Nat.succ_pos _))); have HV4 : Hid (Vr w5 w1.heap.size Z9) := HV4.out.below B9 (range_lt HV4.out.1 (Nat.succ_pos _)); have BB : Hid (Below w.heap.size w w5) := BB.out.trans (B9.mono BB.out.size); clear hb0_0 hb0_1 hb0_2 hb0_3 hb0_4 hb0_5; have hb0_0 := HB0.out.cell 0 _ rfl; have hb0_1 := HB0.out.cell 1 _ rfl; have hb0_2 := HB0.out.cell 2 _ rfl; have hb0_3 := HB0.out.cell 3 _ rfl; have hb0_4 := HB0.out.cell 4 _ rfl; have hb0_5 := HB0.out.cell 5 _ rfl; clear B9; clear t4; have t5 : (1 : Nat) = 1 := rfl)
    | (have q3 := t3; go_at_call 41; refine (SZ.out w3).mono ?_; rintro e9 w4 ⟨rfl, B9⟩; have HB0 : Hid (Vr w4 w.heap.size [.int .i64 g0, .int .i64 g1, .int .i64 (S : Int), .int .i64 g3, .int .i64 g4, .int .i64 g5]) := HB0.out.below B9 (range_lt HB0.out.1 (Nat.succ_pos _)); have NB_HV4 : Hid (NoB w4 w1.heap.size) := NB_HV4.out.heap (B9.block _ (range_lt HV4.out.1 (Nat.succ_pos _))); have HV4 : Hid (Vr w4 w1.heap.size Z9) := HV4.out.below B9 (range_lt HV4.out.1 (Nat.succ_pos _)); have BB : Hid (Below w.heap.size w w4) := BB.out.trans (B9.mono BB.out.size); clear hb0_0 hb0_1 hb0_2 hb0_3 hb0_4 hb0_5; have hb0_0 := HB0.out.cell 0 _ rfl; have hb0_1 := HB0.out.cell 1 _ rfl; have hb0_2 := HB0.out.cell 2 _ rfl; have hb0_3 := HB0.out.cell 3 _ rfl; have hb0_4 := HB0.out.cell 4 _ rfl; have hb0_5 := HB0.out.cell 5 _ rfl; clear B9; clear t3; have t4 : (1 : Nat) = 1 := rfl)
    | (have q2 := t2; go_at_call 20; refine (SK.out w2).mono ?_; rintro e9 w3 ⟨rfl, B9⟩; have HB0 : Hid (Vr w3 w.heap.size [.int .i64 g0, .int .i64 g1, .int .i64 (S : Int), .int .i64 g3, .int .i64 g4, .int .i64 g5]) := HB0.out.below B9 (range_lt HB0.out.1 (Nat.succ_pos _)); have NB_HV4 : Hid (NoB w3 w1.heap.size) := NB_HV4.out.heap (B9.block _ (range_lt HV4.out.1 (Nat.succ_pos _))); have HV4 : Hid (Vr w3 w1.heap.size Z9) := HV4.out.below B9 (range_lt HV4.out.1 (Nat.succ_pos _)); have BB : Hid (Below w.heap.size w w3) := BB.out.trans (B9.mono BB.out.size); clear hb0_0 hb0_1 hb0_2 hb0_3 hb0_4 hb0_5; have hb0_0 := HB0.out.cell 0 _ rfl; have hb0_1 := HB0.out.cell 1 _ rfl; have hb0_2 := HB0.out.cell 2 _ rfl; have hb0_3 := HB0.out.cell 3 _ rfl; have hb0_4 := HB0.out.cell 4 _ rfl; have hb0_5 := HB0.out.cell 5 _ rfl; clear B9; clear t2; have t3 : (1 : Nat) = 1 := rfl)
    | (have q1 := t1; (with_reducible refine at_alloc ?_); refine new_lawN _ Z9 zero_page (pg9_nob _ _ _ _ _ _ _ _ _ _ _ _ _) ?_; intro w2 X9 N9 B9; have LT_HB0_HV4 : Hid (w.heap.size < w1.heap.size) := range_lt HB0.out.1 (Nat.succ_pos _); have LE_HV4 : Hid (w.heap.size ≤ w1.heap.size) := BB.out.size; have HB0 : Hid (Vr w2 w.heap.size [.int .i64 g0, .int .i64 g1, .int .i64 (S : Int), .int .i64 g3, .int .i64 g4, .int .i64 g5]) := HB0.out.below B9 (range_lt HB0.out.1 (Nat.succ_pos _)); have HV4 : Hid (Vr w2 w1.heap.size Z9) := X9; have NB_HV4 : Hid (NoB w2 w1.heap.size) := N9; have BB : Hid (Below w.heap.size w w2) := BB.out.trans (B9.mono BB.out.size); clear hb0_0 hb0_1 hb0_2 hb0_3 hb0_4 hb0_5; have hb0_0 := HB0.out.cell 0 _ rfl; have hb0_1 := HB0.out.cell 1 _ rfl; have hb0_2 := HB0.out.cell 2 _ rfl; have hb0_3 := HB0.out.cell 3 _ rfl; have hb0_4 := HB0.out.cell 4 _ rfl; have hb0_5 := HB0.out.cell 5 _ rfl; clear X9 N9 B9; clear t1; have t2 : (1 : Nat) = 1 := rfl)
    | (have q0 := t0; refine box_lawC _ [.int .i64 g0, .int .i64 g1, .int .i64 (S : Int), .int .i64 g3, .int .i64 g4, .int .i64 g5] rfl ?_; intro w1 X9 B9 l9; have HB0 : Hid (Vr w1 w.heap.size [.int .i64 g0, .int .i64 g1, .int .i64 (S : Int), .int .i64 g3, .int .i64 g4, .int .i64 g5]) := X9; have BB : Hid (Below w.heap.size w w1) := B9; have hb0_0 := HB0.out.cell 0 _ rfl; have hb0_1 := HB0.out.cell 1 _ rfl; have hb0_2 := HB0.out.cell 2 _ rfl; have hb0_3 := HB0.out.cell 3 _ rfl; have hb0_4 := HB0.out.cell 4 _ rfl; have hb0_5 := HB0.out.cell 5 _ rfl; clear X9 B9 l9; clear t0; have t1 : (1 : Nat) = 1 := rfl))
  exact bodyPost_ret (v := .tuple #[.agg Z9.toArray, .int .i64 1]) (results_cv rfl _ _ w1.heap.size _ _ rowy_page rfl rfl HV4.out.1) rfl ⟨rfl, BB.out⟩

set_option maxHeartbeats 4000000 in
theorem read_page (g0 g1 g3 g4 g5 : Int) (S : Nat) (v : Value) (xs : List Int) (w : World) (hb : Byt w v xs) (hr : ge.Rt [g0, g1, (S : Int), g3, g4, g5]) (hl : xs.length = S + 88) (hT : Tab w) (h : Tl (xs.drop S)) :
    Calls Tryd.prog 31 #[.agg (ints .i64 [g0, g1, (S : Int), g3, g4, g5]), v] w fun x w' => ∃ po pc uo uc, x = .returned (.tuple #[.agg (pg9 (qk (xs.drop S)) (qn (xs.drop S)) (qc (xs.drop S)) (ql (xs.drop S)) (qe (xs.drop S)) (qt (xs.drop S)) (.slice po S pc) (.slice uo 32 uc) (decide ((xs.drop S).drop 80 = List.replicate 8 0))).toArray, .int .i64 0]) ∧ Byt w' (.slice po S pc) (xs.take S) ∧ Byt w' (.slice uo 32 uc) (sub (xs.drop S) 48 80) ∧ Below w.heap.size w w' := by
  have ⟨s8, s9⟩ := sec_le hr
  have SK : Hid (∀ w0, Calls Tryd.prog 20 #[.agg (ints .i64 [g0, g1, (S : Int), g3, g4, g5])] w0 fun x w' => x = .returned (.int .i64 0) ∧ Below w0.heap.size w0 w') := ge.check_yes [g0, g1, (S : Int), g3, g4, g5] rfl hr
  have SZ : Hid (∀ w0, Calls Tryd.prog 41 #[.agg (ints .i64 [g0, g1, (S : Int), g3, g4, g5])] w0 fun x w' => x = .returned (.int .i64 ((S + 88 : Nat) : Int)) ∧ Below w0.heap.size w0 w') := fun w0 => ge.psize_yes [g0, g1, (S : Int), g3, g4, g5] rfl hr w0
  obtain ⟨s0, c0, s1, c1, e0, e1, y0, y1⟩ := cut_two hb hl
  have SS : Hid (∀ w0, Below w.heap.size w w0 → Calls Tryd.prog 42 #[.agg (ints .i64 [g0, g1, (S : Int), g3, g4, g5]), v] w0 fun x w' => x = .returned (.agg ([.slice s0 S c0, .slice s1 88 c1] : List Value).toArray) ∧ Below w0.heap.size w0 w') := fun w0 hw => split_any g0 g1 g3 g4 g5 S v xs w0 (hb.below hw) hl s0 s1 c0 c1 e0 e1
  obtain ⟨vo, vn, vc, hvf, hvn⟩ : ∃ vo vn vc, v = .slice vo vn vc ∧ xs.length = vn := (by obtain ⟨ao, cap, e, _⟩ := hb; exact ⟨ao, _, cap, e, rfl⟩)
  subst hvf
  have hvn : vn = S + 88 := by omega
  subst hvn
  have SH : Hid (∀ w0, Below w.heap.size w w0 → Calls Tryd.prog 43 #[.slice s1 88 c1] w0 fun x w' => ∃ uo uc, x = .returned (.tuple #[.agg (hv (qk (xs.drop S)) (qn (xs.drop S)) (qc (xs.drop S)) (ql (xs.drop S)) (qe (xs.drop S)) (qt (xs.drop S))).toArray, .slice uo 32 uc, .int .i64 0]) ∧ Byt w' (.slice uo 32 uc) (sub (xs.drop S) 48 80) ∧ Below w0.heap.size w0 w') := fun w0 hw => (he.read_yes _ _ w0 (y1.below hw) (by simp; omega) (hT.below hw) h).mono (by rintro _ _ ⟨u, rfl, h1, h2⟩; obtain ⟨ao, cap, rfl⟩ := byt_form h1 (n := 32) (sub_len _ _ _ (by simp; omega)); exact ⟨ao, cap, rfl, h1, h2⟩)
  have SC : Hid (∀ w0, Below w.heap.size w w0 → Calls Tryd.prog 44 #[.slice s0 S c0] w0 fun x w' => ∃ v', x = .returned v' ∧ (∃ po pc, v' = .slice po S pc ∧ Byt w' (.slice po S pc) (xs.take S)) ∧ Below w0.heap.size w0 w') := fun w0 hw => (clone_byt w0 _ _ (y0.below hw) (by simp; omega) (by simp; omega)).mono (by rintro _ _ ⟨u, rfl, h1, h2⟩; have h1 := h1.byt y0.all; obtain ⟨ao, cap, rfl⟩ := byt_form h1 (n := S) (by simp; omega); exact ⟨_, rfl, ⟨ao, cap, rfl, h1⟩, h2⟩)
  have SD : Hid (∀ w0, Below w.heap.size w w0 → Calls Tryd.prog 45 #[.slice s1 88 c1] w0 fun x w' => x = .returned (.bool (decide ((xs.drop S).drop 80 = List.replicate 8 0))) ∧ Below w0.heap.size w0 w') := fun w0 hw => comm_yes _ _ w0 (y1.below hw) (by simp; omega)
  generalize S + 88 = T at SZ SS ⊢
  generalize decide ((xs.drop S).drop 80 = List.replicate 8 0) = D at SD ⊢
  generalize sub (xs.drop S) 48 80 = U at SH ⊢
  generalize qk (xs.drop S) = k at SH ⊢
  generalize qn (xs.drop S) = n at SH ⊢
  generalize qc (xs.drop S) = c at SH ⊢
  generalize ql (xs.drop S) = l at SH ⊢
  generalize qe (xs.drop S) = e at SH ⊢
  generalize qt (xs.drop S) = t at SH ⊢
  generalize xs.take S = Q at SC ⊢
  clear hr hb hl e0 e1 y0 y1 hT h s8 s9
  have t0 : (0 : Nat) = 0 := rfl
  go_enter Tryd.func31, Tryd.ntmps31
  go_wp2_with (first
    | (have q9 := t9; (with_reducible refine at_store ?_); refine store_lawC _ (hv k n c l e t) w8.heap.size 0 rfl rfl HV7.out.2 rowy_head.2 (hv_one _ _ _ _ _ _) ?_; intro w10 E9 R9 T9 B9; have K9 : ∀ k, k ≠ w8.heap.size → w10.heap[k]? = w9.heap[k]? := (by rw [E9.out]; exact fun k hk => heap_cells _ _ _ _ k hk); have HB0 : Hid (Vr w10 w.heap.size [.int .i64 g0, .int .i64 g1, .int .i64 (S : Int), .int .i64 g3, .int .i64 g4, .int .i64 g5]) := HB0.out.heap (K9 _ (Nat.ne_of_lt LT_HB0_HV7.out)); have NB_HV4 : Hid (NoB w10 w1.heap.size) := NB_HV4.out.heap (K9 _ (Nat.ne_of_lt LT_HV4_HV7.out)); have HV4 : Hid (Vr w10 w1.heap.size Z9) := HV4.out.heap (K9 _ (Nat.ne_of_lt LT_HV4_HV7.out)); have NB_HV6 : Hid (NoB w10 w5.heap.size) := NB_HV6.out.heap (K9 _ (Nat.ne_of_lt LT_HV6_HV7.out)); have HV6 : Hid (Vr w10 w5.heap.size ([.slice s0 S c0, .slice s1 88 c1] : List Value)) := HV6.out.heap (K9 _ (Nat.ne_of_lt LT_HV6_HV7.out)); have HY : Hid (Byt w10 (.slice uo 32 uc) U) := byt_nob HY.out NB_HV7.out K9; have NB_HV7 : Hid (NoB w10 w8.heap.size) := (by rw [E9.out]; exact NB_HV7.out.set HV7.out rfl (hv_nob _ _ _ _ _ _)); have HV7 : Hid (Vr w10 w8.heap.size (hv k n c l e t)) := ⟨R9, T9⟩; have BB : Hid (Below w.heap.size w w10) := BB.out.trans (B9.mono LE_HV7.out); clear hb0_0 hb0_1 hb0_2 hb0_3 hb0_4 hb0_5 hv6_0 hv6_1; have hb0_0 := HB0.out.cell 0 _ rfl; have hb0_1 := HB0.out.cell 1 _ rfl; have hb0_2 := HB0.out.cell 2 _ rfl; have hb0_3 := HB0.out.cell 3 _ rfl; have hb0_4 := HB0.out.cell 4 _ rfl; have hb0_5 := HB0.out.cell 5 _ rfl; have hv6_0 := HV6.out.cell 0 _ rfl; have hv6_1 := HV6.out.cell 1 _ rfl; clear E9 R9 T9 B9 K9; clear t9; have t10 : (1 : Nat) = 1 := rfl)
    | (have q8 := t8; (with_reducible refine at_alloc ?_); refine new_lawN _ (hv 0 0 0 0 0 0) zero_head (hv_nob _ _ _ _ _ _) ?_; intro w9 X9 N9 B9; have LT_HB0_HV7 : Hid (w.heap.size < w8.heap.size) := range_lt HB0.out.1 (Nat.succ_pos _); have LT_HV4_HV7 : Hid (w1.heap.size < w8.heap.size) := range_lt HV4.out.1 (Nat.succ_pos _); have LT_HV6_HV7 : Hid (w5.heap.size < w8.heap.size) := range_lt HV6.out.1 (Nat.succ_pos _); have LE_HV7 : Hid (w.heap.size ≤ w8.heap.size) := BB.out.size; have HB0 : Hid (Vr w9 w.heap.size [.int .i64 g0, .int .i64 g1, .int .i64 (S : Int), .int .i64 g3, .int .i64 g4, .int .i64 g5]) := HB0.out.below B9 (range_lt HB0.out.1 (Nat.succ_pos _)); have NB_HV4 : Hid (NoB w9 w1.heap.size) := NB_HV4.out.heap (B9.block _ (range_lt HV4.out.1 (Nat.succ_pos _))); have HV4 : Hid (Vr w9 w1.heap.size Z9) := HV4.out.below B9 (range_lt HV4.out.1 (Nat.succ_pos _)); have NB_HV6 : Hid (NoB w9 w5.heap.size) := NB_HV6.out.heap (B9.block _ (range_lt HV6.out.1 (Nat.succ_pos _))); have HV6 : Hid (Vr w9 w5.heap.size ([.slice s0 S c0, .slice s1 88 c1] : List Value)) := HV6.out.below B9 (range_lt HV6.out.1 (Nat.succ_pos _)); have HY : Hid (Byt w9 (.slice uo 32 uc) U) := HY.out.below B9; have HV7 : Hid (Vr w9 w8.heap.size (hv 0 0 0 0 0 0)) := X9; have NB_HV7 : Hid (NoB w9 w8.heap.size) := N9; have BB : Hid (Below w.heap.size w w9) := BB.out.trans (B9.mono BB.out.size); clear hb0_0 hb0_1 hb0_2 hb0_3 hb0_4 hb0_5 hv6_0 hv6_1; have hb0_0 := HB0.out.cell 0 _ rfl; have hb0_1 := HB0.out.cell 1 _ rfl; have hb0_2 := HB0.out.cell 2 _ rfl; have hb0_3 := HB0.out.cell 3 _ rfl; have hb0_4 := HB0.out.cell 4 _ rfl; have hb0_5 := HB0.out.cell 5 _ rfl; have hv6_0 := HV6.out.cell 0 _ rfl; have hv6_1 := HV6.out.cell 1 _ rfl; clear X9 N9 B9; clear t8; have t9 : (1 : Nat) = 1 := rfl)
    | (have q7 := t7; go_at_call 43; refine (SH.out w7 BB.out).mono ?_; rintro e9 w8 ⟨uo, uc, rfl, Y9, B9⟩; have HB0 : Hid (Vr w8 w.heap.size [.int .i64 g0, .int .i64 g1, .int .i64 (S : Int), .int .i64 g3, .int .i64 g4, .int .i64 g5]) := HB0.out.below B9 (range_lt HB0.out.1 (Nat.succ_pos _)); have NB_HV4 : Hid (NoB w8 w1.heap.size) := NB_HV4.out.heap (B9.block _ (range_lt HV4.out.1 (Nat.succ_pos _))); have HV4 : Hid (Vr w8 w1.heap.size Z9) := HV4.out.below B9 (range_lt HV4.out.1 (Nat.succ_pos _)); have NB_HV6 : Hid (NoB w8 w5.heap.size) := NB_HV6.out.heap (B9.block _ (range_lt HV6.out.1 (Nat.succ_pos _))); have HV6 : Hid (Vr w8 w5.heap.size ([.slice s0 S c0, .slice s1 88 c1] : List Value)) := HV6.out.below B9 (range_lt HV6.out.1 (Nat.succ_pos _)); have HY : Hid (Byt w8 (.slice uo 32 uc) U) := Y9; have BB : Hid (Below w.heap.size w w8) := BB.out.trans (B9.mono BB.out.size); clear hb0_0 hb0_1 hb0_2 hb0_3 hb0_4 hb0_5 hv6_0 hv6_1; have hb0_0 := HB0.out.cell 0 _ rfl; have hb0_1 := HB0.out.cell 1 _ rfl; have hb0_2 := HB0.out.cell 2 _ rfl; have hb0_3 := HB0.out.cell 3 _ rfl; have hb0_4 := HB0.out.cell 4 _ rfl; have hb0_5 := HB0.out.cell 5 _ rfl; have hv6_0 := HV6.out.cell 0 _ rfl; have hv6_1 := HV6.out.cell 1 _ rfl; clear B9 Y9; clear t7; have t8 : (1 : Nat) = 1 := rfl)
    | (have q6 := t6; (with_reducible refine at_store ?_); refine store_lawC _ ([.slice s0 S c0, .slice s1 88 c1] : List Value) w5.heap.size 0 rfl rfl HV6.out.2 rowy_parts.2 (z2_one _ _ _ _ _ _) ?_; intro w7 E9 R9 T9 B9; have K9 : ∀ k, k ≠ w5.heap.size → w7.heap[k]? = w6.heap[k]? := (by rw [E9.out]; exact fun k hk => heap_cells _ _ _ _ k hk); have HB0 : Hid (Vr w7 w.heap.size [.int .i64 g0, .int .i64 g1, .int .i64 (S : Int), .int .i64 g3, .int .i64 g4, .int .i64 g5]) := HB0.out.heap (K9 _ (Nat.ne_of_lt LT_HB0_HV6.out)); have NB_HV4 : Hid (NoB w7 w1.heap.size) := NB_HV4.out.heap (K9 _ (Nat.ne_of_lt LT_HV4_HV6.out)); have HV4 : Hid (Vr w7 w1.heap.size Z9) := HV4.out.heap (K9 _ (Nat.ne_of_lt LT_HV4_HV6.out)); have NB_HV6 : Hid (NoB w7 w5.heap.size) := (by rw [E9.out]; exact NB_HV6.out.set HV6.out rfl (z2_nob _ _ _ _ _ _)); have HV6 : Hid (Vr w7 w5.heap.size ([.slice s0 S c0, .slice s1 88 c1] : List Value)) := ⟨R9, T9⟩; have BB : Hid (Below w.heap.size w w7) := BB.out.trans (B9.mono LE_HV6.out); clear hb0_0 hb0_1 hb0_2 hb0_3 hb0_4 hb0_5; have hb0_0 := HB0.out.cell 0 _ rfl; have hb0_1 := HB0.out.cell 1 _ rfl; have hb0_2 := HB0.out.cell 2 _ rfl; have hb0_3 := HB0.out.cell 3 _ rfl; have hb0_4 := HB0.out.cell 4 _ rfl; have hb0_5 := HB0.out.cell 5 _ rfl; have hv6_0 := HV6.out.cell 0 _ rfl; have hv6_1 := HV6.out.cell 1 _ rfl; clear E9 R9 T9 B9 K9; clear t6; have t7 : (1 : Nat) = 1 := rfl)
    | (have q5 := t5; (with_reducible refine at_alloc ?_); refine new_lawN _ Z2 zero_parts (z2_nob _ _ _ _ _ _) ?_; intro w6 X9 N9 B9; have LT_HB0_HV6 : Hid (w.heap.size < w5.heap.size) := range_lt HB0.out.1 (Nat.succ_pos _); have LT_HV4_HV6 : Hid (w1.heap.size < w5.heap.size) := range_lt HV4.out.1 (Nat.succ_pos _); have LE_HV6 : Hid (w.heap.size ≤ w5.heap.size) := BB.out.size; have HB0 : Hid (Vr w6 w.heap.size [.int .i64 g0, .int .i64 g1, .int .i64 (S : Int), .int .i64 g3, .int .i64 g4, .int .i64 g5]) := HB0.out.below B9 (range_lt HB0.out.1 (Nat.succ_pos _)); have NB_HV4 : Hid (NoB w6 w1.heap.size) := NB_HV4.out.heap (B9.block _ (range_lt HV4.out.1 (Nat.succ_pos _))); have HV4 : Hid (Vr w6 w1.heap.size Z9) := HV4.out.below B9 (range_lt HV4.out.1 (Nat.succ_pos _)); have HV6 : Hid (Vr w6 w5.heap.size Z2) := X9; have NB_HV6 : Hid (NoB w6 w5.heap.size) := N9; have BB : Hid (Below w.heap.size w w6) := BB.out.trans (B9.mono BB.out.size); clear hb0_0 hb0_1 hb0_2 hb0_3 hb0_4 hb0_5; have hb0_0 := HB0.out.cell 0 _ rfl; have hb0_1 := HB0.out.cell 1 _ rfl; have hb0_2 := HB0.out.cell 2 _ rfl; have hb0_3 := HB0.out.cell 3 _ rfl; have hb0_4 := HB0.out.cell 4 _ rfl; have hb0_5 := HB0.out.cell 5 _ rfl; clear X9 N9 B9; clear t5; have t6 : (1 : Nat) = 1 := rfl)
    | (have q4 := t4; go_at_call 42; refine (SS.out w4 BB.out).mono ?_; rintro e9 w5 ⟨rfl, B9⟩; have HB0 : Hid (Vr w5 w.heap.size [.int .i64 g0, .int .i64 g1, .int .i64 (S : Int), .int .i64 g3, .int .i64 g4, .int .i64 g5]) := HB0.out.below B9 (range_lt HB0.out.1 (Nat.succ_pos _)); have NB_HV4 : Hid (NoB w5 w1.heap.size) := NB_HV4.out.heap (B9.block _ (range_lt HV4.out.1 (Nat.succ_pos _))); have HV4 : Hid (Vr w5 w1.heap.size Z9) := HV4.out.below B9 (range_lt HV4.out.1 (Nat.succ_pos _)); have BB : Hid (Below w.heap.size w w5) := BB.out.trans (B9.mono BB.out.size); clear hb0_0 hb0_1 hb0_2 hb0_3 hb0_4 hb0_5; have hb0_0 := HB0.out.cell 0 _ rfl; have hb0_1 := HB0.out.cell 1 _ rfl; have hb0_2 := HB0.out.cell 2 _ rfl; have hb0_3 := HB0.out.cell 3 _ rfl; have hb0_4 := HB0.out.cell 4 _ rfl; have hb0_5 := HB0.out.cell 5 _ rfl; clear B9; clear t4; have t5 : (1 : Nat) = 1 := rfl)
    | (have q3 := t3; go_at_call 41; refine (SZ.out w3).mono ?_; rintro e9 w4 ⟨rfl, B9⟩; have HB0 : Hid (Vr w4 w.heap.size [.int .i64 g0, .int .i64 g1, .int .i64 (S : Int), .int .i64 g3, .int .i64 g4, .int .i64 g5]) := HB0.out.below B9 (range_lt HB0.out.1 (Nat.succ_pos _)); have NB_HV4 : Hid (NoB w4 w1.heap.size) := NB_HV4.out.heap (B9.block _ (range_lt HV4.out.1 (Nat.succ_pos _))); have HV4 : Hid (Vr w4 w1.heap.size Z9) := HV4.out.below B9 (range_lt HV4.out.1 (Nat.succ_pos _)); have BB : Hid (Below w.heap.size w w4) := BB.out.trans (B9.mono BB.out.size); clear hb0_0 hb0_1 hb0_2 hb0_3 hb0_4 hb0_5; have hb0_0 := HB0.out.cell 0 _ rfl; have hb0_1 := HB0.out.cell 1 _ rfl; have hb0_2 := HB0.out.cell 2 _ rfl; have hb0_3 := HB0.out.cell 3 _ rfl; have hb0_4 := HB0.out.cell 4 _ rfl; have hb0_5 := HB0.out.cell 5 _ rfl; clear B9; clear t3; have t4 : (1 : Nat) = 1 := rfl)
    | (have q2 := t2; go_at_call 20; refine (SK.out w2).mono ?_; rintro e9 w3 ⟨rfl, B9⟩; have HB0 : Hid (Vr w3 w.heap.size [.int .i64 g0, .int .i64 g1, .int .i64 (S : Int), .int .i64 g3, .int .i64 g4, .int .i64 g5]) := HB0.out.below B9 (range_lt HB0.out.1 (Nat.succ_pos _)); have NB_HV4 : Hid (NoB w3 w1.heap.size) := NB_HV4.out.heap (B9.block _ (range_lt HV4.out.1 (Nat.succ_pos _))); have HV4 : Hid (Vr w3 w1.heap.size Z9) := HV4.out.below B9 (range_lt HV4.out.1 (Nat.succ_pos _)); have BB : Hid (Below w.heap.size w w3) := BB.out.trans (B9.mono BB.out.size); clear hb0_0 hb0_1 hb0_2 hb0_3 hb0_4 hb0_5; have hb0_0 := HB0.out.cell 0 _ rfl; have hb0_1 := HB0.out.cell 1 _ rfl; have hb0_2 := HB0.out.cell 2 _ rfl; have hb0_3 := HB0.out.cell 3 _ rfl; have hb0_4 := HB0.out.cell 4 _ rfl; have hb0_5 := HB0.out.cell 5 _ rfl; clear B9; clear t2; have t3 : (1 : Nat) = 1 := rfl)
    | (have q1 := t1; (with_reducible refine at_alloc ?_); refine new_lawN _ Z9 zero_page (pg9_nob _ _ _ _ _ _ _ _ _ _ _ _ _) ?_; intro w2 X9 N9 B9; have LT_HB0_HV4 : Hid (w.heap.size < w1.heap.size) := range_lt HB0.out.1 (Nat.succ_pos _); have LE_HV4 : Hid (w.heap.size ≤ w1.heap.size) := BB.out.size; have HB0 : Hid (Vr w2 w.heap.size [.int .i64 g0, .int .i64 g1, .int .i64 (S : Int), .int .i64 g3, .int .i64 g4, .int .i64 g5]) := HB0.out.below B9 (range_lt HB0.out.1 (Nat.succ_pos _)); have HV4 : Hid (Vr w2 w1.heap.size Z9) := X9; have NB_HV4 : Hid (NoB w2 w1.heap.size) := N9; have BB : Hid (Below w.heap.size w w2) := BB.out.trans (B9.mono BB.out.size); clear hb0_0 hb0_1 hb0_2 hb0_3 hb0_4 hb0_5; have hb0_0 := HB0.out.cell 0 _ rfl; have hb0_1 := HB0.out.cell 1 _ rfl; have hb0_2 := HB0.out.cell 2 _ rfl; have hb0_3 := HB0.out.cell 3 _ rfl; have hb0_4 := HB0.out.cell 4 _ rfl; have hb0_5 := HB0.out.cell 5 _ rfl; clear X9 N9 B9; clear t1; have t2 : (1 : Nat) = 1 := rfl)
    | (have q0 := t0; refine box_lawC _ [.int .i64 g0, .int .i64 g1, .int .i64 (S : Int), .int .i64 g3, .int .i64 g4, .int .i64 g5] rfl ?_; intro w1 X9 B9 l9; have HB0 : Hid (Vr w1 w.heap.size [.int .i64 g0, .int .i64 g1, .int .i64 (S : Int), .int .i64 g3, .int .i64 g4, .int .i64 g5]) := X9; have BB : Hid (Below w.heap.size w w1) := B9; have hb0_0 := HB0.out.cell 0 _ rfl; have hb0_1 := HB0.out.cell 1 _ rfl; have hb0_2 := HB0.out.cell 2 _ rfl; have hb0_3 := HB0.out.cell 3 _ rfl; have hb0_4 := HB0.out.cell 4 _ rfl; have hb0_5 := HB0.out.cell 5 _ rfl; clear X9 B9 l9; clear t0; have t1 : (1 : Nat) = 1 := rfl))
  have HY : Hid (Byt w10.drew (.slice uo 32 uc) U) := he.byt_drawn HY.out 1
  have HV4 : Hid (Vr w10.drew w1.heap.size Z9) := HV4.out.drewN 1
  have NB_HV4 : Hid (NoB w10.drew w1.heap.size) := NB_HV4.out
  have BB : Hid (Below w.heap.size w w10.drew) := BB.out.drew
  refine wp_region_held_drew (S := fun w' => w'.rangeAt w8.heap.size 0 (hv k n c l e t) ∧ w'.rangeAt w5.heap.size 0 ([.slice s0 S c0, .slice s1 88 c1] : List Value)) (by kernel_rfl) ⟨HV7.out.1, HV6.out.1⟩ (fun hS => ?_)
  obtain ⟨x1, hx0⟩ : ∃ x, x = w10.drew := ⟨_, rfl⟩
  rw [← hx0] at hS HY HV4 NB_HV4 BB ⊢
  clear hx0
  refine take_lawH 0 (some 35) (.agg (hv k n c l e t).toArray) rfl rfl (by kernel_rfl) (by kernel_rfl) (by kernel_rfl) (fun _ _ _ h => h) (Or.inl ⟨by rfl, fun w' hw' => by exact exec_loadN 57 (.tmp 7) rfl _ rfl _ _ (load_cells rowy_head hw'.1)⟩) hS ?_
  simp only [Act.put, List.setIfInBounds_toArray, List.set_cons_zero, List.set_cons_succ]
  refine take_lawH 1 (some 36) (.pointer (some ⟨w5.heap.size, 0, none⟩)) rfl rfl (by kernel_rfl) (by kernel_rfl) (by kernel_rfl) (fun _ _ _ h => h) (Or.inl ⟨by rfl, fun w' hw' => by go_simp⟩) hS ?_
  simp only [Act.put, List.setIfInBounds_toArray, List.set_cons_zero, List.set_cons_succ]
  refine take_lawH 2 (some 37) (.slice s0 S c0) rfl rfl (by kernel_rfl) (by kernel_rfl) (by kernel_rfl) (fun _ _ _ h => h) (Or.inl ⟨by rfl, fun w' hw' => by exact exec_loadN 24 (.tmp 36) rfl _ rfl _ _ (load_one one_bytes (hw'.2 0 _ rfl))⟩) hS ?_
  simp only [Act.put, List.setIfInBounds_toArray, List.set_cons_zero, List.set_cons_succ]
  refine take_lawH 4 (some 39) (.slice uo 32 uc) rfl rfl (by kernel_rfl) (by kernel_rfl) (by kernel_rfl) (fun _ _ _ h => h) (Or.inl ⟨by rfl, fun w' hw' => by rfl⟩) hS ?_
  simp only [Act.put, List.setIfInBounds_toArray, List.set_cons_zero, List.set_cons_succ]
  refine take_lawH 5 (some 40) (.pointer (some ⟨w5.heap.size, 1, none⟩)) rfl rfl (by kernel_rfl) (by kernel_rfl) (by kernel_rfl) (fun _ _ _ h => h) (Or.inl ⟨by rfl, fun w' hw' => by go_simp⟩) hS ?_
  simp only [Act.put, List.setIfInBounds_toArray, List.set_cons_zero, List.set_cons_succ]
  refine take_lawH 6 (some 41) (.slice s1 88 c1) rfl rfl (by kernel_rfl) (by kernel_rfl) (by kernel_rfl) (fun _ _ _ h => h) (Or.inl ⟨by rfl, fun w' hw' => by exact exec_loadN 24 (.tmp 40) rfl _ rfl _ _ (load_one one_bytes (hw'.2 1 _ rfl))⟩) hS ?_
  simp only [Act.put, List.setIfInBounds_toArray, List.set_cons_zero, List.set_cons_succ]
  refine wpAnyH_ready (rs := [3]) (by kernel_rfl) (by simp) ?_
  refine AllReadyH.cons rfl (fun K hK => ?_) AllReadyH.nil
  refine step_callW _ (by rfl) (some 38) rfl 44 #[.tmp 37] #[24] rfl (fun q w' => by rfl) #[.slice s0 S c0] (by simp only [List.map_toArray, List.map_cons, List.map_nil]; rfl) (fun u w' => (∃ po pc, u = .slice po S pc ∧ Byt w' (.slice po S pc) Q) ∧ Below x1.heap.size x1 w') ?_ ?_
  · exact SC.out _ BB.out
  rintro _ x2 ⟨⟨po, pc, rfl, y9⟩, hb⟩
  have HP : Hid (Byt x2 (.slice po S pc) Q) := y9
  have HY : Hid (Byt x2 (.slice uo 32 uc) U) := HY.out.below hb
  have NB_HV4 : Hid (NoB x2 w1.heap.size) := NB_HV4.out.heap (hb.block _ (range_lt HV4.out.1 (Nat.succ_pos _)))
  have HV4 : Hid (Vr x2 w1.heap.size Z9) := HV4.out.below hb (range_lt HV4.out.1 (Nat.succ_pos _))
  have BB : Hid (Below w.heap.size w x2) := BB.out.trans (hb.mono BB.out.size)
  have hS : x2.rangeAt w8.heap.size 0 (hv k n c l e t) ∧ x2.rangeAt w5.heap.size 0 ([.slice s0 S c0, .slice s1 88 c1] : List Value) := ⟨range_heap hS.1 (hb.block _ (range_lt hS.1 (Nat.succ_pos _))), range_heap hS.2 (hb.block _ (range_lt hS.2 (Nat.succ_pos _)))⟩
  clear hb y9
  refine hK.out _ _ hS (fun _ => ?_)
  simp only [Act.put, List.setIfInBounds_toArray, List.set_cons_zero, List.set_cons_succ]
  clear hK K
  refine wpAnyH_ready (rs := [7]) (by kernel_rfl) (by simp) ?_
  refine AllReadyH.cons rfl (fun K hK => ?_) AllReadyH.nil
  refine step_callW _ (by rfl) (some 42) rfl 45 #[.tmp 41] #[24] rfl (fun q w' => by rfl) #[.slice s1 88 c1] (by simp only [List.map_toArray, List.map_cons, List.map_nil]; rfl) (fun u w' => u = .bool D ∧ Below x2.heap.size x2 w') ?_ ?_
  · exact (SD.out _ BB.out).mono fun _ _ ⟨h1, h2⟩ => ⟨_, h1, rfl, h2⟩
  rintro _ x3 ⟨rfl, hb⟩
  have HP : Hid (Byt x3 (.slice po S pc) Q) := HP.out.below hb
  have HY : Hid (Byt x3 (.slice uo 32 uc) U) := HY.out.below hb
  have NB_HV4 : Hid (NoB x3 w1.heap.size) := NB_HV4.out.heap (hb.block _ (range_lt HV4.out.1 (Nat.succ_pos _)))
  have HV4 : Hid (Vr x3 w1.heap.size Z9) := HV4.out.below hb (range_lt HV4.out.1 (Nat.succ_pos _))
  have BB : Hid (Below w.heap.size w x3) := BB.out.trans (hb.mono BB.out.size)
  have hS : x3.rangeAt w8.heap.size 0 (hv k n c l e t) ∧ x3.rangeAt w5.heap.size 0 ([.slice s0 S c0, .slice s1 88 c1] : List Value) := ⟨range_heap hS.1 (hb.block _ (range_lt hS.1 (Nat.succ_pos _))), range_heap hS.2 (hb.block _ (range_lt hS.2 (Nat.succ_pos _)))⟩
  clear hb
  refine hK.out _ _ hS (fun _ => ?_)
  simp only [Act.put, List.setIfInBounds_toArray, List.set_cons_zero, List.set_cons_succ]
  clear hK K
  refine take_lawH 8 (some 43) (.agg (pg9 k n c l e t (.slice po S pc) (.slice uo 32 uc) D).toArray) rfl rfl (by kernel_rfl) (by kernel_rfl) (by kernel_rfl) (fun _ _ _ h => h) (Or.inl ⟨by rfl, fun w' hw' => by exact exec_build 64 _ rfl _ _ (by kernel_rfl)⟩) hS ?_
  simp only [Act.put, List.setIfInBounds_toArray, List.set_cons_zero, List.set_cons_succ]
  refine wpAnyH_ready (rs := [9]) (by kernel_rfl) (by simp) ?_
  refine AllReadyH.cons rfl (fun K hK => ?_) AllReadyH.nil
  refine step_storeK _ rfl none rfl (.tmp 4) (.tmp 43) 64 rfl w1.heap.size Z9 (pg9 k n c l e t (.slice po S pc) (.slice uo 32 uc) D) rfl rfl HV4.out rfl rowy_page.2 (pg9_one _ _ _ _ _ _ _ _ _ _ _ _ _) ?_
  intro x4 v9 B9 K9
  have HP : Hid (Byt x4 (.slice po S pc) Q) := byt_nob HP.out NB_HV4.out K9
  have HY : Hid (Byt x4 (.slice uo 32 uc) U) := byt_nob HY.out NB_HV4.out K9
  have HQ : Hid (Vr x4 w1.heap.size (pg9 k n c l e t (.slice po S pc) (.slice uo 32 uc) D)) := v9
  have BB : Hid (Below w.heap.size w x4) := BB.out.trans (B9.mono LE_HV4.out)
  have hS : x4.rangeAt w8.heap.size 0 (hv k n c l e t) ∧ x4.rangeAt w5.heap.size 0 ([.slice s0 S c0, .slice s1 88 c1] : List Value) := ⟨range_heap hS.1 (K9 _ (Nat.ne_of_gt LT_HV4_HV7.out)), range_heap hS.2 (K9 _ (Nat.ne_of_gt LT_HV4_HV6.out))⟩
  clear v9 B9 K9
  refine hK.out _ _ hS (fun _ => ?_)
  simp only [Act.put]
  clear hK K
  refine take_lawH 10 (some 5) (.int .i64 0) rfl rfl (by kernel_rfl) (by kernel_rfl) (by kernel_rfl) (fun _ _ _ h => h) (Or.inl ⟨by rfl, fun w' hw' => by rfl⟩) hS ?_
  simp only [Act.put, List.setIfInBounds_toArray, List.set_cons_zero, List.set_cons_succ]
  refine wpAnyH_done (by kernel_rfl) ?_ _
  go_wp2
  exact bodyPost_ret (v := .tuple #[.agg (pg9 k n c l e t (.slice po S pc) (.slice uo 32 uc) D).toArray, .int .i64 0]) (results_cv rfl _ _ w1.heap.size _ _ rowy_page rfl rfl HQ.out.1) rfl ⟨_, _, _, _, rfl, HP.out, HY.out, BB.out⟩
end Go.Proofs.YtahfcpdekjdceaaDoor.pa

/- A record on pages, as lists: its sectors, its pages, what pages hold. No claim of its own. -/
namespace Go.Proofs.YtahfcpdekjdceaaDoor.ck
open Go.RowKit Go.Proofs.YtahfcpdekjdceaaDoor.fa Go.Proofs.YtahfcpdekjdceaaDoor.he
set_option maxRecDepth 20000

/-- how many pages a record takes -/
def nc (S : Nat) : Nat := (624 + S - 1) / S
theorem nc_le {S : Nat} (h1 : 32 ≤ S) (_h2 : S ≤ 4096) : 1 ≤ nc S ∧ nc S ≤ 20 ∧ 624 ≤ nc S * S ∧ nc S * S < 624 + S := by
  have e := Nat.div_add_mod (624 + S - 1) S
  have m := Nat.mod_lt (624 + S - 1) (show 0 < S by omega)
  have e' : S * nc S + (624 + S - 1) % S = 624 + S - 1 := e
  rw [Nat.mul_comm] at e'
  have h3 : 624 ≤ nc S * S := by omega
  refine ⟨?_, ?_, h3, by omega⟩
  · cases h : nc S with
    | zero => rw [h] at h3; omega
    | succ k => omega
  · refine Nat.le_of_not_lt fun hn => ?_
    have : 21 * S ≤ nc S * S := Nat.mul_le_mul_right _ hn
    omega
/-- the record's bytes, and 0xff up to a multiple of the sector -/
def pd (S : Nat) (xs : List Int) : List Int := xs ++ List.replicate (nc S * S - 624) 255
theorem pd_len {S : Nat} {xs : List Int} (h1 : 32 ≤ S) (h2 : S ≤ 4096) (hl : xs.length = 624) : (pd S xs).length = nc S * S := by
  have := nc_le h1 h2
  simp [pd, hl]; omega
theorem pd_all {S : Nat} {xs : List Int} (h : AllB xs) : AllB (pd S xs) := allB_app h (allB_replicate 255 _ (by omega))
theorem pd_take {S : Nat} {xs : List Int} (hl : xs.length = 624) : (pd S xs).take 624 = xs := List.take_left' hl
/-- the i-th sector -/
def sec (S : Nat) (xs : List Int) (i : Nat) : List Int := sub (pd S xs) (i * S) (i * S + S)
theorem sec_end {S i : Nat} (h : i < nc S) : i * S + S ≤ nc S * S := by
  have : (i + 1) * S ≤ nc S * S := Nat.mul_le_mul_right _ h
  rwa [Nat.succ_mul] at this
theorem sec_len {S i : Nat} {xs : List Int} (h1 : 32 ≤ S) (h2 : S ≤ 4096) (hl : xs.length = 624) (hi : i < nc S) : (sec S xs i).length = S := by
  unfold sec
  rw [sub_len _ _ _ (by rw [pd_len h1 h2 hl]; exact sec_end hi)]
  omega
theorem sec_all {S : Nat} {xs : List Int} (h : AllB xs) (i : Nat) : AllB (sec S xs i) := allB_sub (pd_all h) _ _
/-- the first k parts of a list, one behind the other -/
def parts (f : Nat → List Int) : Nat → List Int
  | 0 => []
  | k + 1 => parts f k ++ f k
theorem parts_len {f : Nat → List Int} {S n : Nat} (h : ∀ i, i < n → (f i).length = S) (k : Nat) (hk : k ≤ n) : (parts f k).length = k * S := by
  induction k with
  | zero => simp [parts]
  | succ k ih => rw [parts, List.length_append, ih (by omega), h k (by omega), Nat.succ_mul]
theorem parts_congr {f f' : Nat → List Int} (k : Nat) (h : ∀ i, i < k → f i = f' i) : parts f k = parts f' k := by
  induction k with
  | zero => rfl
  | succ k ih => rw [parts, parts, ih fun i hi => h i (by omega), h k (by omega)]
theorem parts_all {f : Nat → List Int} (k : Nat) (h : ∀ i, i < k → AllB (f i)) : AllB (parts f k) := by
  induction k with
  | zero => exact allB_mem fun x hx => by cases hx
  | succ k ih => exact allB_app (ih fun i hi => h i (by omega)) (h k (by omega))
theorem sec_parts (S : Nat) (xs : List Int) (k : Nat) : parts (sec S xs) k = (pd S xs).take (k * S) := by
  induction k with
  | zero => simp [parts]
  | succ k ih =>
    rw [parts, ih, Nat.succ_mul]
    unfold sec sub
    rw [List.drop_take, List.take_add, Nat.add_sub_cancel_left]
/-- the sectors are the record, and 0xff behind -/
theorem sec_whole {S : Nat} {xs : List Int} (h1 : 32 ≤ S) (h2 : S ≤ 4096) (hl : xs.length = 624) : (parts (sec S xs) (nc S)).take 624 = xs := by
  rw [sec_parts, List.take_of_length_le (show (pd S xs).length ≤ nc S * S by rw [pd_len h1 h2 hl]; exact Nat.le_refl _), pd_take hl]
/-- the end of the i-th page; with 0xff, or noughts, in its last eight bytes -/
def kend (S : Nat) (i : Nat) (gen : Int) (mk : List Int) : List Int := hend (hb 4 (i : Int) 0 (nc S : Int) gen 0) (List.replicate 32 255) mk
def pgk (S : Nat) (xs : List Int) (gen : Int) (mk : List Int) (i : Nat) : List Int := sec S xs i ++ kend S i gen mk
theorem rh_k {S i : Nat} (h1 : 32 ≤ S) (h2 : S ≤ 4096) (hi : i < nc S) : Rh 4 (i : Int) 0 := by
  have := nc_le h1 h2
  exact ⟨by omega, by omega, by omega, by omega, by omega, by omega⟩
theorem kend_len {S i : Nat} {gen : Int} {mk : List Int} (h : mk.length = 8) : (kend S i gen mk).length = 88 := hend_len (hb_len _ _ _ _ _ _) (by simp) h
theorem pgk_len {S i : Nat} {xs : List Int} {gen : Int} {mk : List Int} (h1 : 32 ≤ S) (h2 : S ≤ 4096) (hl : xs.length = 624) (hi : i < nc S) (h : mk.length = 8) : (pgk S xs gen mk i).length = S + 88 := by
  unfold pgk
  rw [List.length_append, sec_len h1 h2 hl hi, kend_len h]
theorem pgk_drop {S i : Nat} {xs : List Int} {gen : Int} {mk : List Int} (h1 : 32 ≤ S) (h2 : S ≤ 4096) (hl : xs.length = 624) (hi : i < nc S) : (pgk S xs gen mk i).drop S = kend S i gen mk ∧ (pgk S xs gen mk i).take S = sec S xs i := by
  have := sec_len h1 h2 hl hi
  exact ⟨List.drop_left' this, List.take_left' this⟩
/-- a page (S + 88 bytes) tells the head of a record's i-th page, of a generation -/
def Kpg (S : Nat) (gen : Int) (i : Nat) (ys : List Int) : Prop :=
  ys.length = S + 88 ∧ Tl (ys.drop S) ∧ qk (ys.drop S) = 4 ∧ qn (ys.drop S) = (i : Int) ∧ he.qc (ys.drop S) = 0 ∧ ql (ys.drop S) = (nc S : Int) ∧ qe (ys.drop S) = gen ∧ qt (ys.drop S) = 0
/-- it is committed -/
def Kcm (S : Nat) (ys : List Int) : Prop := (ys.drop S).drop 80 = List.replicate 8 0
/-- the generation that the first page tells -/
def kgen (S : Nat) (ps : List (List Int)) : Int := qe ((ps.getD 0 []).drop S)
/-- pages hold a record -/
def Khd (S : Nat) (ps : List (List Int)) : Prop := nc S ≤ ps.length ∧ (∀ i, i < nc S → Kpg S (kgen S ps) i (ps.getD i [])) ∧ Kcm S (ps.getD (nc S - 1) [])
/-- its bytes -/
def krec (S : Nat) (ps : List (List Int)) : List Int := (parts (fun i => (ps.getD i []).take S) (nc S)).take 624
theorem krec_len {S : Nat} {ps : List (List Int)} (h1 : 32 ≤ S) (h2 : S ≤ 4096) (h : Khd S ps) : (krec S ps).length = 624 := by
  unfold krec
  rw [List.length_take, parts_len (S := S) (n := nc S) (fun i hi => by rw [List.length_take, (h.2.1 i hi).1]; omega) _ (Nat.le_refl _)]
  have := nc_le h1 h2
  omega
theorem pgk_tells {S i : Nat} {xs : List Int} {gen : Int} {mk : List Int} (h1 : 32 ≤ S) (h2 : S ≤ 4096) (hl : xs.length = 624) (hi : i < nc S) (hg : 0 ≤ gen ∧ gen ≤ 18446744073709551615) (hm : mk.length = 8) : Kpg S gen i (pgk S xs gen mk i) := by
  have n := nc_le h1 h2
  have q := q_hb (k := 4) (n := (i : Int)) (c := 0) (l := (nc S : Int)) (e := gen) (t := 0) (inv (hb 4 (i : Int) 0 (nc S : Int) gen 0) ++ (List.replicate 32 255 ++ mk)) ⟨by omega, by omega⟩ hg ⟨by omega, by omega⟩
  unfold Kpg
  rw [(pgk_drop h1 h2 hl hi).1]
  exact ⟨pgk_len h1 h2 hl hi hm, hend_tl (rh_k h1 h2 hi) _ _ (by simp), q⟩
theorem pgk_cm {S i : Nat} {xs : List Int} {gen : Int} {mk : List Int} (h1 : 32 ≤ S) (h2 : S ≤ 4096) (hl : xs.length = 624) (hi : i < nc S) : Kcm S (pgk S xs gen mk i) ↔ mk = List.replicate 8 0 := by
  unfold Kcm
  rw [(pgk_drop h1 h2 hl hi).1]
  unfold kend
  rw [(hend_sub (hb_len _ _ _ _ _ _) (by simp)).2.2.2]
/-- a record's pages, the last one with the given mark -/
def kps (S : Nat) (xs : List Int) (gen : Int) (mk : List Int) : List (List Int) := (List.range (nc S)).map fun i => if i + 1 = nc S then pgk S xs gen mk i else pgk S xs gen (List.replicate 8 255) i
theorem kps_at {S : Nat} {xs : List Int} {gen : Int} {mk : List Int} (i : Nat) (hi : i < nc S) : (kps S xs gen mk).getD i [] = if i + 1 = nc S then pgk S xs gen mk i else pgk S xs gen (List.replicate 8 255) i := by
  simp [kps, List.getD, hi]
theorem kps_len (S : Nat) (xs : List Int) (gen : Int) (mk : List Int) : (kps S xs gen mk).length = nc S := by simp [kps]
theorem kps_take {S i : Nat} {xs : List Int} {gen : Int} {mk : List Int} (h1 : 32 ≤ S) (h2 : S ≤ 4096) (hl : xs.length = 624) (hi : i < nc S) : ((kps S xs gen mk).getD i []).take S = sec S xs i := by
  rw [kps_at i hi]
  split
  · exact (pgk_drop h1 h2 hl hi).2
  · exact (pgk_drop h1 h2 hl hi).2
theorem kps_tells {S i : Nat} {xs : List Int} {gen : Int} {mk : List Int} (h1 : 32 ≤ S) (h2 : S ≤ 4096) (hl : xs.length = 624) (hi : i < nc S) (hg : 0 ≤ gen ∧ gen ≤ 18446744073709551615) (hm : mk.length = 8) : Kpg S gen i ((kps S xs gen mk).getD i []) := by
  rw [kps_at i hi]
  split
  · exact pgk_tells h1 h2 hl hi hg hm
  · exact pgk_tells h1 h2 hl hi hg (by simp)
theorem kps_gen {S : Nat} {xs : List Int} {gen : Int} {mk : List Int} (h1 : 32 ≤ S) (h2 : S ≤ 4096) (hl : xs.length = 624) (hg : 0 ≤ gen ∧ gen ≤ 18446744073709551615) (hm : mk.length = 8) : kgen S (kps S xs gen mk) = gen := by
  have n := nc_le h1 h2
  exact (kps_tells h1 h2 hl (by omega) hg hm (i := 0)).2.2.2.2.2.2.1
/-- the last one committed: they hold it -/
theorem kps_hold {S : Nat} {xs : List Int} {gen : Int} (h1 : 32 ≤ S) (h2 : S ≤ 4096) (hl : xs.length = 624) (hg : 0 ≤ gen ∧ gen ≤ 18446744073709551615) :
    Khd S (kps S xs gen (List.replicate 8 0)) ∧ kgen S (kps S xs gen (List.replicate 8 0)) = gen ∧ krec S (kps S xs gen (List.replicate 8 0)) = xs := by
  have n := nc_le h1 h2
  have e := kps_gen (mk := List.replicate 8 0) h1 h2 hl hg (by simp)
  refine ⟨⟨by rw [kps_len]; exact Nat.le_refl _, fun i hi => ?_, ?_⟩, e, ?_⟩
  · rw [e]; exact kps_tells h1 h2 hl hi hg (by simp)
  · rw [kps_at _ (by omega), if_pos (by omega)]
    exact (pgk_cm h1 h2 hl (by omega)).2 rfl
  · unfold krec
    rw [parts_congr (f' := sec S xs) _ fun i hi => kps_take h1 h2 hl hi]
    exact sec_whole h1 h2 hl
/-- not committed: they hold none -/
theorem kps_not {S : Nat} {xs : List Int} {gen : Int} (h1 : 32 ≤ S) (h2 : S ≤ 4096) (hl : xs.length = 624) : ¬ Khd S (kps S xs gen (List.replicate 8 255)) := fun h => by
  have n := nc_le h1 h2
  have c := h.2.2
  rw [kps_at _ (by omega), if_pos (by omega), pgk_cm h1 h2 hl (by omega)] at c
  exact absurd c (by decide)
/-- one less: they hold none -/
theorem khd_few {S : Nat} {ps : List (List Int)} (h : ps.length < nc S) : ¬ Khd S ps := fun q => by
  have := q.1
  omega
end Go.Proofs.YtahfcpdekjdceaaDoor.ck

/- Rows of slices ([][]byte): what one holds, how one is made and grown. No claim of its own. -/
namespace Go.Proofs.YtahfcpdekjdceaaDoor.ck
open Go.RowKit
set_option maxRecDepth 20000

theorem info_row : (Tryd.prog.info? 24).map (fun i => (i.zero, i.size, i.bytes)) = some (some (.slice none 0 0), 1, 24) := by kernel_rfl
/-- a value that is a slice -/
def Sle (v : Value) : Prop := ∃ ao n cap, v = .slice ao n cap
theorem sle_byt {w : World} {v : Value} {xs : List Int} (h : Byt w v xs) : Sle v := by
  obtain ⟨ao, cap, rfl, _⟩ := h
  exact ⟨_, _, _, rfl⟩
/-- the slice value v holds the values vs in w -/
def Vals (w : World) (v : Value) (vs : List Value) : Prop :=
  ∃ ao cap, v = .slice ao vs.length cap ∧ vs.length ≤ cap ∧ cap ≤ 9223372036854775807 ∧ (ao = none → cap = 0) ∧
    (0 < vs.length → ∃ b off, ao = some ⟨b, off, none⟩ ∧ ∀ t, t < vs.length → w.cell? ⟨b, off + t, none⟩ = some (vs.getD t undef))
theorem Vals.below {w w' : World} {v : Value} {vs : List Value} (h : Vals w v vs) (hb : Below w.heap.size w w') : Vals w' v vs := by
  obtain ⟨ao, cap, rfl, h1, h2, h4, h5⟩ := h
  refine ⟨ao, cap, rfl, h1, h2, h4, fun hp => ?_⟩
  obtain ⟨b, off, rfl, hc⟩ := h5 hp
  refine ⟨b, off, rfl, fun t ht => ?_⟩
  have := hc t ht
  rw [hb.cell (World.block_lt_of_cell? w _ this)]
  exact this
theorem Vals.nil (w : World) : Vals w (.slice none 0 0) [] :=
  ⟨none, 0, rfl, by simp, by simp, fun _ => rfl, fun h => by simp at h⟩
/-- v owns the values vs, in a block from B on -/
def OwnR (B : Nat) (w : World) (v : Value) (vs : List Value) : Prop := w.ownsRow B 24 1 v vs.length vs
theorem OwnR.empty (w : World) {B : Nat} (hB : B ≤ w.heap.size) : OwnR B (w.alloc (.cells #[] 24)) (.slice (some ⟨w.heap.size, 0, none⟩) 0 0) [] :=
  World.ownsRow_made w #[] 0 hB (by simp [maxLen]) (by simp)
theorem OwnR.one (w : World) {B : Nat} (hB : B ≤ w.heap.size) (x : Value) : OwnR B (w.alloc (.cells #[x] 24)) (.slice (some ⟨w.heap.size, 0, none⟩) 1 1) [x] :=
  World.ownsRow_lit w #[x] 1 hB (by simp [maxLen]) (by simp)
theorem ownr_nil (B : Nat) (w : World) : OwnR B w (.slice none 0 0) [] := ⟨by simp, .inl ⟨rfl, rfl⟩⟩
theorem OwnR.vals {B : Nat} {w : World} {v : Value} {vs : List Value} (h : OwnR B w v vs) : Vals w v vs := by
  rcases h.2 with ⟨rfl, hn⟩ | ⟨g, cap, cur, rfl, hg, hb, hc, hm, hs, ht⟩
  · have : vs = [] := List.eq_nil_of_length_eq_zero (by omega)
    subst this
    exact Vals.nil w
  · refine ⟨some ⟨g, 0, none⟩, cap, rfl, hc, by simpa [maxLen] using hm, (by intro h; cases h), fun hp => ⟨g, 0, rfl, fun t ht' => ?_⟩⟩
    have := h.cells (g := g) rfl t (vs.getD t undef) (by simp [List.getD, ht'])
    rw [Addr.add_lit] at this
    simpa using this
theorem OwnR.below {B : Nat} {w w' : World} {v : Value} {vs : List Value} (h : OwnR B w v vs) (hb : Below w.heap.size w w') : OwnR B w' v vs :=
  World.ownsRow.kept (row := none) h ⟨hb.os, hb.tape, hb.output, hb.size, fun j hj _ => hb.block j hj⟩ (by cases hv : v.ownBlock <;> simp)
theorem OwnR.less {w : World} {B B' : Nat} {v : Value} {vs : List Value} (h : OwnR B w v vs) (hB : B' ≤ B) : OwnR B' w v vs := by
  obtain ⟨a1, a2⟩ := h
  refine ⟨a1, ?_⟩
  rcases a2 with e1 | ⟨g', c', u', e1, e2, e3⟩
  · exact .inl e1
  · exact .inr ⟨g', c', u', e1, by omega, e3⟩

section
variable {ops : Array Oper} {rest : List Oper} {o : Oper} {a : Act} {Q : Exit → Act → World → Prop} {K : Act → World → Prop} {E : Prop}
/-- '[][]byte{}', in a region that draws its order -/
theorem step_nilR (w : World) (hw : Region.wanted o (yielded ops a.tmps) = true) (d : Option Tmp) (hd : o.dst = d) (hop : o.op = Op.buildSlice 26 0 #[])
    (hK : ∀ w', OwnR w.heap.size w' (.slice (some ⟨w.heap.size, 0, none⟩) 0 0) [] → Below w.heap.size w w' → K (a.put d (.slice (some ⟨w.heap.size, 0, none⟩) 0 0)) w') : if Region.wanted o (yielded ops a.tmps) = true then Oper.wp Tryd.prog o a w K Q else E := by
  rw [if_pos hw]
  subst hd
  have hrun : (Instr.buildSlice 26 0 #[]).run Tryd.prog w = .ok (.slice (some ⟨w.heap.size, 0, none⟩) 0 0) (w.alloc (.cells #[] 24)) := by kernel_rfl
  unfold Oper.wp execOp
  simp only [hop, List.map_toArray, List.map_nil, Sem.run_bind, Sem.run_pure, Result.andThen_ok, hrun]
  exact hK _ (OwnR.empty w (Nat.le_refl _)) ((Below.refl _ _).alloc (Nat.le_refl _) _)
/-- '[][]byte{x}' -/
theorem step_oneR (w : World) (hw : Region.wanted o (yielded ops a.tmps) = true) (d : Option Tmp) (hd : o.dst = d) (x : Operand) (hop : o.op = Op.buildSlice 26 1 #[(0, x)]) (v : Value) (hv : Sle v) (hx : a.eval x = v)
    (hK : ∀ w', OwnR w.heap.size w' (.slice (some ⟨w.heap.size, 0, none⟩) 1 1) [v] → Below w.heap.size w w' → K (a.put d (.slice (some ⟨w.heap.size, 0, none⟩) 1 1)) w') : if Region.wanted o (yielded ops a.tmps) = true then Oper.wp Tryd.prog o a w K Q else E := by
  rw [if_pos hw]
  subst hd
  obtain ⟨ao, n, cap, rfl⟩ := hv
  have hrun : (Instr.buildSlice 26 1 #[(0, .slice ao n cap)]).run Tryd.prog w = .ok (.slice (some ⟨w.heap.size, 0, none⟩) 1 1) (w.alloc (.cells #[.slice ao n cap] 24)) := by kernel_rfl
  unfold Oper.wp execOp
  simp only [hop, List.map_toArray, List.map_cons, List.map_nil, hx, Sem.run_bind, Sem.run_pure, Result.andThen_ok, hrun]
  exact hK _ (OwnR.one w (Nat.le_refl _) _) ((Below.refl _ _).alloc (Nat.le_refl _) _)
/-- 'append(out, s...)', out of the call's own -/
theorem step_pushsR (w : World) (hw : Region.wanted o (yielded ops a.tmps) = true) (d : Option Tmp) (hd : o.dst = d) (s x : Operand) (hop : o.op = .call { callee := .builtin .append, args := #[s, x], argTypes := #[26, 26] })
    (B : Nat) (hB : B ≤ w.heap.size) (v vy : Value) (vs us : List Value) (hs : a.eval s = v) (hx : a.eval x = vy) (hown : OwnR B w v vs) (hy : Vals w vy us) (hu : ∀ u ∈ us, Sle u) (hn : vs.length ≤ 1000000) (hm : us.length ≤ 1000000)
    (hK : ∀ v' w', OwnR B w' v' (vs ++ us) → Below B w w' → w.grownBy w' v.ownBlock → K (a.put d v') w') : if Region.wanted o (yielded ops a.tmps) = true then Oper.wp Tryd.prog o a w K Q else E := by
  rw [if_pos hw]
  subst hd
  obtain ⟨i0, hi, hz0, hz1, hz2⟩ := info_parts info_row
  obtain ⟨ao, cap, rfl, h1, h2, h4, h5⟩ := hy
  cases ao with
  | none =>
    have hc := h4 rfl
    subst hc
    have : us = [] := List.eq_nil_of_length_eq_zero (by omega)
    subst this
    have hrun := run_append_owned_none (P := Tryd.prog) (w := w) B 26 o.type 24 i0 1 Tryd.underlying26 hi v vs.length _ hown
    have hx' : a.eval x = .slice none 0 0 := hx
    unfold Oper.wp
    simp [execOp, hop, resolve, invoke, builtin, hs, hx', hrun, Result.andThen]
    refine hK v w ?_ (Below.refl _ _) ?_
    · rwa [List.append_nil]
    · exact ⟨rfl, rfl, rfl, Nat.le_refl _, fun _ _ _ => rfl⟩
  | some ad =>
    refine wp_append_own _ s x 26 hop B 24 i0 (.slice none 0 0) 1 24 Tryd.underlying26 hi hz0 hz1 hz2 rfl (by decide) v vs.length _ hs hown ad us.length cap us hx (by simp) ?_ ?_ (by simp only [maxLen]; omega) (by omega) hB fun v' w' h1 h2 _ => ?_
    · intro j u hj
      have hjl : j < us.length := (List.getElem?_eq_some_iff.1 hj).1
      obtain ⟨b, off, e, hc⟩ := h5 (by omega)
      cases e
      rw [Addr.add_mid, hc j hjl, ← hj]
      simp [List.getD, hjl]
    · intro u hu'
      obtain ⟨ao, n, c, rfl⟩ := hu u hu'
      rfl
    · refine hK v' w' ?_ ?_ h2
      · show w'.ownsRow B 24 1 v' (vs ++ us).length (vs ++ us)
        simpa using h1
      · exact (Below.refl B w).grown h2 hB fun k hk => (World.ownsRow.lt hown k hk).1
theorem nil_lawR (w : World) (hg : o.guard = none) (hop : o.op = Op.buildSlice 26 0 #[])
    (hK : ∀ w', OwnR w.heap.size w' (.slice (some ⟨w.heap.size, 0, none⟩) 0 0) [] → Below w.heap.size w w' → wpList Tryd.prog ops Q rest (a.put o.dst (.slice (some ⟨w.heap.size, 0, none⟩) 0 0)) w') : wpList Tryd.prog ops Q (o :: rest) a w := by
  refine wpList_step fun K hK' => ?_
  exact step_nilR w (by simp [Region.wanted, hg]) o.dst rfl hop fun w' h1 h2 => hK' _ _ (hK w' h1 h2)
theorem one_lawR (w : World) (hg : o.guard = none) (x : Operand) (hop : o.op = Op.buildSlice 26 1 #[(0, x)]) (v : Value) (hv : Sle v) (hx : a.eval x = v)
    (hK : ∀ w', OwnR w.heap.size w' (.slice (some ⟨w.heap.size, 0, none⟩) 1 1) [v] → Below w.heap.size w w' → wpList Tryd.prog ops Q rest (a.put o.dst (.slice (some ⟨w.heap.size, 0, none⟩) 1 1)) w') : wpList Tryd.prog ops Q (o :: rest) a w := by
  refine wpList_step fun K hK' => ?_
  exact step_oneR w (by simp [Region.wanted, hg]) o.dst rfl x hop v hv hx fun w' h1 h2 => hK' _ _ (hK w' h1 h2)
theorem pushs_lawR (w : World) (hg : o.guard = none) (s x : Operand) (hop : o.op = .call { callee := .builtin .append, args := #[s, x], argTypes := #[26, 26] })
    (B : Nat) (hB : B ≤ w.heap.size) (v vy : Value) (vs us : List Value) (hs : a.eval s = v) (hx : a.eval x = vy) (hown : OwnR B w v vs) (hy : Vals w vy us) (hu : ∀ u ∈ us, Sle u) (hn : vs.length ≤ 1000000) (hm : us.length ≤ 1000000)
    (hK : ∀ v' w', OwnR B w' v' (vs ++ us) → Below B w w' → wpList Tryd.prog ops Q rest (a.put o.dst v') w') : wpList Tryd.prog ops Q (o :: rest) a w := by
  refine wpList_step fun K hK' => ?_
  exact step_pushsR w (by simp [Region.wanted, hg]) o.dst rfl s x hop B hB v vy vs us hs hx hown hy hu hn hm fun v' w' h1 h2 _ => hK' _ _ (hK v' w' h1 h2)
end
/-- a row of slices of bytes -/
def Pgs (w : World) (v : Value) (ls : List (List Int)) : Prop := ∃ vs, Vals w v vs ∧ vs.length = ls.length ∧ ∀ i, i < ls.length → Byt w (vs.getD i undef) (ls.getD i [])
theorem Pgs.below {w w' : World} {v : Value} {ls : List (List Int)} (h : Pgs w v ls) (hb : Below w.heap.size w w') : Pgs w' v ls := by
  obtain ⟨vs, h1, h2, h3⟩ := h
  exact ⟨vs, h1.below hb, h2, fun i hi => (h3 i hi).below hb⟩
theorem Pgs.nil (w : World) : Pgs w (.slice none 0 0) [] := ⟨[], Vals.nil w, rfl, fun i hi => by simp at hi⟩
end Go.Proofs.YtahfcpdekjdceaaDoor.ck

