/- Texts put together (a claim holds few files). No claim of its own. -/
import Derived.Test.YtahfcpdekjdceaaDoorPackI
import Derived.Test.YtahfcpdekjdceaaDoorPackH
/- What stage 19's texts share: whole numbers, slices cut to their length, rows that are made, one cell of a row that is written. No claim of its own. -/
namespace Go.Proofs.YtahfcpdekjdceaaDoor.ck
open Go.RowKit Go.Proofs.YtahfcpdekjdceaaDoor.fa Go.Proofs.YtahfcpdekjdceaaDoor.he Go.Proofs.YtahfcpdekjdceaaDoor.pa
set_option maxRecDepth 20000

theorem rec_nc (g0 g1 g3 g4 g5 : Int) (S : Nat) : ge.rec [g0, g1, (S : Int), g3, g4, g5] = (nc S : Int) := by
  have e : gb [g0, g1, (S : Int), g3, g4, g5] 2 = (S : Int) := rfl
  unfold ge.rec nc
  rw [e, Int.natCast_ediv, show ((624 + S - 1 : Nat) : Int) = 624 + (S : Int) - 1 by omega]
theorem rt_sec {g0 g1 g3 g4 g5 : Int} {S : Nat} (h : ge.Rt [g0, g1, (S : Int), g3, g4, g5]) : 32 ≤ S ∧ S ≤ 4096 := sec_le h
theorem chunks_nc {g0 g1 g3 g4 g5 : Int} {S : Nat} (h : ge.Rt [g0, g1, (S : Int), g3, g4, g5]) (w : World) :
    Calls Tryd.prog 29 #[.agg (ints .i64 [g0, g1, (S : Int), g3, g4, g5])] w fun x w' => x = .returned (.int .i64 (nc S : Int)) ∧ Below w.heap.size w w' := by
  have := ge.chunks_yes [g0, g1, (S : Int), g3, g4, g5] rfl h w
  rwa [rec_nc] at this
theorem rchunks_nc {g0 g1 g3 g4 g5 : Int} {S : Nat} (h : ge.Rt [g0, g1, (S : Int), g3, g4, g5]) (w : World) :
    Calls Tryd.prog 25 #[.agg (ints .i64 [g0, g1, (S : Int), g3, g4, g5])] w fun x w' => x = .returned (.int .i64 (nc S : Int)) ∧ Below w.heap.size w w' := by
  have := ge.rchunks_any [g0, g1, (S : Int), g3, g4, g5] rfl h.1 w
  rwa [rec_nc] at this
theorem exec_mul {ev : Operand → Value} {o : Oper} {w : World} (x y : Operand) (hop : o.op = Op.binOp .mul 3 x y 3) (A B q : Int) (hx : ev x = .int .i64 A) (hy : ev y = .int .i64 B) (hq : IntKind.i64.wrap (A * B) = q) : (execOp ev o).run Tryd.prog w = .ok (.value (.int .i64 q)) w := by
  subst hq
  unfold execOp
  simp only [hop, hx, hy]
  rfl
theorem exec_add {ev : Operand → Value} {o : Oper} {w : World} (x y : Operand) (hop : o.op = Op.binOp .add 3 x y 3) (A B q : Int) (hx : ev x = .int .i64 A) (hy : ev y = .int .i64 B) (hq : IntKind.i64.wrap (A + B) = q) : (execOp ev o).run Tryd.prog w = .ok (.value (.int .i64 q)) w := by
  subst hq
  unfold execOp
  simp only [hop, hx, hy]
  rfl
theorem exec_sub {ev : Operand → Value} {o : Oper} {w : World} (x y : Operand) (hop : o.op = Op.binOp .sub 3 x y 3) (A B q : Int) (hx : ev x = .int .i64 A) (hy : ev y = .int .i64 B) (hq : IntKind.i64.wrap (A - B) = q) : (execOp ev o).run Tryd.prog w = .ok (.value (.int .i64 q)) w := by
  subst hq
  unfold execOp
  simp only [hop, hx, hy]
  rfl
/-- whole numbers of a sector's place -/
theorem wrap_small {x : Int} (h : 0 ≤ x ∧ x ≤ 1000000) : IntKind.i64.wrap x = x := by rw [IntKind.wrap_i64]; omega
theorem mul_small {k S : Nat} (h1 : k ≤ 20) (h2 : S ≤ 4096) : k * S ≤ 81920 := by
  have := Nat.mul_le_mul h1 h2
  omega
theorem wrap_mul {k S : Nat} (h1 : k ≤ 20) (h2 : S ≤ 4096) : IntKind.i64.wrap ((k : Int) * (S : Int)) = ((k * S : Nat) : Int) := by
  have := mul_small h1 h2
  rw [← Int.natCast_mul]
  exact wrap_small ⟨by omega, by omega⟩

/-- 'v[l:h:h]', as a value -/
def slm : Value → Nat → Nat → Value
  | .slice ao _ _, l, h => sliced ao l h h 1
  | _, _, _ => undef
theorem slm_byt {w : World} {v : Value} {xs : List Int} (hb : Byt w v xs) (l h : Nat) (hl : l < h) (hh : h ≤ xs.length) : Byt w (slm v l h) (sub xs l h) := by
  obtain ⟨ao, cap, rfl, h1, h2, h3, h4, h5⟩ := hb
  have hlen : ((xs.take h).drop l).length = h - l := by simp; omega
  show Byt w (sliced ao l h h 1) ((xs.take h).drop l)
  unfold sliced
  rw [if_neg (by omega)]
  refine ⟨ao.map (·.add (l * 1)), h - l, by rw [hlen], by omega, by omega, ?_, ?_, fun _ => ?_⟩
  · intro t
    by_cases ht : t < h - l
    · rw [gb_cut xs l h t ht]; exact h3 _
    · have : gb ((xs.take h).drop l) t = 0 := by
        simp only [gb, List.getD, List.getElem?_eq_none (show ((xs.take h).drop l).length ≤ t by omega)]; rfl
      omega
  · intro e
    obtain ⟨b, off, rfl, _⟩ := h5 (by omega)
    simp at e
  · obtain ⟨b, off, rfl, hc⟩ := h5 (by omega)
    refine ⟨b, off + l, by simp [Addr.add], fun t ht => ?_⟩
    rw [gb_cut xs l h t (by omega)]
    have := hc (l + t) (by omega)
    rwa [← Nat.add_assoc] at this
theorem slm_sle {w : World} {v : Value} {xs : List Int} (hb : Byt w v xs) (l h : Nat) : Sle (slm v l h) := by
  obtain ⟨ao, cap, rfl, -⟩ := hb
  exact ⟨_, _, _, rfl⟩
section
variable {ops : Array Oper} {rest : List Oper} {a : Act} {Q : Exit → Act → World → Prop}
theorem cut_max {o : Oper} (w : World) (hg : o.guard = none) (s x y z : Operand) (hop : o.op = Op.slice 24 s (some x) (some y) (some z)) (v : Value) (xs : List Int) (l h : Nat)
    (hs : a.eval s = v) (hx : a.eval x = .int .i64 (l : Int)) (hy : a.eval y = .int .i64 (h : Int)) (hz : a.eval z = .int .i64 (h : Int)) (hl : l ≤ h) (hh : h ≤ xs.length) (hb : Byt w v xs)
    (hK : wpList Tryd.prog ops Q rest (a.put o.dst (slm v l h)) w) :
    wpList Tryd.prog ops Q (o :: rest) a w := by
  refine wpList_plain hg fun K hK' => ?_
  obtain ⟨ao, cap, rfl, h1, -⟩ := hb
  have hrun := run_slice_lhm (P := Tryd.prog) w 24 ao xs.length cap und_bytes .i64 .i64 .i64 (l : Int) (h : Int) (h : Int) (by omega) (by omega) (by omega) (by omega)
  rw [elem_bytes, run_size_u8] at hrun
  unfold Oper.wp
  simp [execOp, hop, hs, hx, hy, hz, run_sliceAt_slice w 24 _ _ _ _ und_bytes, hrun, Result.andThen]
  exact hK' _ _ hK
/-- '[][]byte{x, y}' -/
theorem two_lawK {o : Oper} (w : World) (hg : o.guard = none) (x y : Operand) (hop : o.op = Op.buildSlice 26 2 #[(0, x), (1, y)]) (u v : Value) (hu : Sle u) (hv : Sle v) (hx : a.eval x = u) (hy : a.eval y = v)
    (hK : ∀ w', Vr w' w.heap.size [u, v] → Below w.heap.size w w' → wpList Tryd.prog ops Q rest (a.put o.dst (.slice (some ⟨w.heap.size, 0, none⟩) 2 2)) w') : wpList Tryd.prog ops Q (o :: rest) a w := by
  refine wpList_plain hg fun K hK' => ?_
  obtain ⟨uo, un, uc, rfl⟩ := hu
  obtain ⟨vo, vn, vc, rfl⟩ := hv
  have hrun : (Instr.buildSlice 26 2 #[(0, .slice uo un uc), (1, .slice vo vn vc)]).run Tryd.prog w = .ok (.slice (some ⟨w.heap.size, 0, none⟩) 2 2) (w.alloc (.cells #[.slice uo un uc, .slice vo vn vc] 24)) := by kernel_rfl
  unfold Oper.wp execOp
  simp only [hop, List.map_toArray, List.map_cons, List.map_nil, hx, hy, Sem.run_bind, Sem.run_pure, Result.andThen_ok, hrun]
  exact hK' _ _ (hK _ (Vr.new w 24 [.slice uo un uc, .slice vo vn vc]) ((Below.refl _ _).alloc (Nat.le_refl _) _))
/-- 'make([][]byte, n)' -/
theorem make_lawR {o : Oper} (w : World) (hg : o.guard = none) (l c : Operand) (hop : o.op = Op.makeSlice 26 l c)
    (L : Int) (n : Nat) (hl : a.eval l = .int .i64 L) (hc : a.eval c = .int .i64 L) (hL : L = (n : Int)) (hn : n ≤ 1000000)
    (hK : ∀ w', Vr w' w.heap.size (List.replicate n (.slice none 0 0)) → NoB w' w.heap.size → Below w.heap.size w w' → wpList Tryd.prog ops Q rest (a.put o.dst (.slice (some ⟨w.heap.size, 0, none⟩) n n)) w') :
    wpList Tryd.prog ops Q (o :: rest) a w := by
  obtain ⟨i0, hi, hz0, hz1, hz2⟩ := info_parts info_row
  refine wpList_make_full w hg l c 26 hop w.heap.size 24 i0 (.slice none 0 0) 1 Tryd.underlying26 hi hz0 hz1 .i64 .i64 L L n hl hc hL hL (by rw [hz2]; omega) (by simp only [maxLen]; omega) (Nat.le_refl _) fun w' h1 h2 => ?_
  have e : (madeCells (Value.slice none 0 0).cells (n * 1)).toList = List.replicate n (Value.slice none 0 0) := by
    rw [Nat.mul_one]
    show (madeCells #[Value.slice none 0 0] n).toList = _
    rw [toList_madeCells_one]
  have hcell : ∀ i, i < n → w'.cell? ⟨w.heap.size, i, none⟩ = some (.slice none 0 0) := fun i hi => by
    rw [h1.cellAt i (by omega), e]
    simp [hi]
  refine hK w' ⟨fun i v hv => ?_, fun i hi => ⟨?_, ?_⟩⟩ ?_ ((Below.refl _ w).grown h2 (Nat.le_refl _) (fun k hk => by cases hk))
  · rw [List.getElem?_replicate] at hv
    split at hv
    · rw [Nat.zero_add, hcell i (by assumption)]
      exact hv
    · cases hv
  · rw [List.length_replicate] at hi
    rw [Nat.zero_add, hcell i hi]; rfl
  · rw [Nat.zero_add]; exact h1.frozenAt i
  · intro j y hj
    rcases h1.2 with ⟨h', _⟩ | ⟨g', cap', cur, h', _, hg', hle, _, hsz, htake⟩
    · cases h'
    · cases h'
      rw [cell_of_row w' w.heap.size j cur 24 (0, 0) hg'] at hj
      have hcur : cur.toList = List.replicate n (Value.slice none 0 0) := by
        have z := htake
        rw [e] at z
        have q : cur.toList.length ≤ n * 1 := by simpa using Nat.le_of_eq hsz
        rwa [List.take_of_length_le q] at z
      have : cur.toList[j]? = some (.int .u8 y) := by simpa using hj
      rw [hcur, List.getElem?_replicate] at this
      split at this
      · cases this
      · cases this
theorem heap_one (w : World) (b o : Nat) (v : Value) (k : Nat) (h : k ≠ b) : (w.setCell ⟨b, o, none⟩ v).heap[k]? = w.heap[k]? := Below.heap_setCell w ⟨b, o, none⟩ v k h
theorem nob_one {w : World} {g j : Nat} {v old : Value} (h : NoB w g) (ho : w.cell? ⟨g, j, none⟩ = some old) (hv : ∀ y, v ≠ .int .u8 y) : NoB (w.setCell ⟨g, j, none⟩ v) g := fun i y e => by
  by_cases q : i = j
  · subst q
    rw [World.cell?_setCell_same _ _ _ ho] at e
    exact hv y (Option.some.inj e)
  · rw [World.cell?_setCell_other _ _ _ _ (by intro z; injection z with _ z2; omega)] at e
    exact h i y e
/-- one cell of a row, or of a variable, whose block holds no byte is written -/
theorem set_lawK {d : Option Tmp} {x y : Operand} {t ty : TypeId} {pos : String} {af : Array Edge} (w : World) (cs : List Value) (c j : Nat) (v : Value) (hx : a.eval x = .pointer (some ⟨c, j, none⟩)) (hy : a.eval y = v) (hV : Vr w c cs) (hN : NoB w c) (hj : j < cs.length) (h1 : v.oneCell' = true) (hc : v.cells = #[v]) (hv : ∀ y, v ≠ .int .u8 y) (hi : (Tryd.prog.info? t).map (·.size) = some 1)
    (hK : ∀ w', Vr w' c (cs.set j v) → NoB w' c → Below c w w' → (∀ k, k ≠ c → w'.heap[k]? = w.heap[k]?) → wpList Tryd.prog ops Q rest (a.put d undef) w') :
    wpList Tryd.prog ops Q (⟨d, Op.store t x y, ty, pos, af, none⟩ :: rest) a w := by
  refine wpList_plain rfl fun K hK' => ?_
  have hcell := hV.cell j _ (List.getElem?_eq_getElem hj)
  have hf := hV.free j hj
  have hr : (storeVar t ⟨c, j, none⟩ v).run Tryd.prog w = .ok () (w.setCell ⟨c, j, none⟩ v) := by
    have e0 : ∀ i, i < [v].length → i = 0 := fun i hi => by simpa using hi
    have := run_storeCells_cells (P := Tryd.prog) c j [v] 0 w (fun i hi => by rw [e0 i hi]; simp [hcell]) (fun i hi => by rw [e0 i hi]; simpa using hf) (fun z hz => by simp at hz; subst hz; exact h1)
    cases hq : Tryd.prog.info? t with
    | none => simp [hq] at hi
    | some i =>
      have hs : i.size = 1 := by simpa [hq] using hi
      simp only [Nat.add_zero] at this
      simp [storeVar, sizeOf, typeInfo, hq, hc, hs]
      simpa [World.setCells] using this
  unfold Oper.wp execOp
  simp only [hx, hy, Instr.storeAt, Instr.sureAddr, Sem.run_bind, Sem.run_pure, Result.andThen_ok, hr]
  exact hK' _ _ (hK _ (hV.set j hj v) (nob_one hN hcell hv) ((Below.refl c w).setCell (p := ⟨c, j, none⟩) (Nat.le_refl _) _) (fun k hk => heap_one w c j v k hk))
end
/-- a row of n slices of which the first k are written -/
def rowk (f : Nat → Value) (n k : Nat) : List Value := (List.range n).map fun j => if j < k then f j else .slice none 0 0
theorem rowk_len (f : Nat → Value) (n k : Nat) : (rowk f n k).length = n := by simp [rowk]
theorem rowk_zero (f : Nat → Value) (n : Nat) : rowk f n 0 = List.replicate n (.slice none 0 0) := by
  refine List.ext_getElem (by simp [rowk]) fun i h1 h2 => by simp [rowk]
theorem rowk_set (f : Nat → Value) (n k : Nat) : (rowk f n k).set k (f k) = rowk f n (k + 1) := by
  refine List.ext_getElem (by simp [rowk]) fun i h1 h2 => ?_
  rw [List.getElem_set]
  by_cases e : k = i
  · subst e; simp [rowk]
  · rw [if_neg e]
    simp only [rowk, List.getElem_map, List.getElem_range]
    by_cases q : i < k
    · rw [if_pos q, if_pos (by omega)]
    · rw [if_neg q, if_neg (by omega)]
theorem rowk_at (f : Nat → Value) (n k i : Nat) (h1 : i < n) (h2 : i < k) : (rowk f n k)[i]? = some (f i) := by simp [rowk, h1, h2]
/-- what a row of slices holds, cell by cell -/
theorem Pgs.at {w : World} {v : Value} {ls : List (List Int)} (h : Pgs w v ls) : ∃ ao cap, v = .slice ao ls.length cap ∧ ls.length ≤ cap ∧ cap ≤ 9223372036854775807 ∧ (0 < ls.length → ∃ b off, ao = some ⟨b, off, none⟩ ∧ ∀ i, i < ls.length → ∃ u, w.cell? ⟨b, off + i, none⟩ = some u ∧ Byt w u (ls.getD i [])) := by
  obtain ⟨vs, ⟨ao, cap, rfl, h1, h2, h3, h4⟩, h5, h6⟩ := h
  rw [h5] at h1 h4 ⊢
  refine ⟨ao, cap, rfl, h1, h2, fun hp => ?_⟩
  obtain ⟨b, off, rfl, hc⟩ := h4 hp
  exact ⟨b, off, rfl, fun i hi => ⟨_, hc i hi, h6 i hi⟩⟩
theorem pgs_of {w : World} {c : Nat} {vs : List Value} {ls : List (List Int)} (hV : Vr w c vs) (hl : vs.length = ls.length) (hm : ls.length ≤ 1000000) (h : ∀ i, i < ls.length → Byt w (vs.getD i undef) (ls.getD i [])) : Pgs w (.slice (some ⟨c, 0, none⟩) ls.length ls.length) ls := by
  refine ⟨vs, ⟨some ⟨c, 0, none⟩, ls.length, by rw [hl], by omega, by omega, (by intro e; cases e), fun hp => ⟨c, 0, rfl, fun t ht => ?_⟩⟩, hl, h⟩
  rw [Nat.zero_add]
  exact hV.cell t _ (by simp [List.getD, ht])
theorem getD_map {α β : Type} (f : α → β) (l : List α) (i : Nat) (a : α) (b : β) (h : i < l.length) : (l.map f).getD i b = f (l.getD i a) := by simp [List.getD, h]
end Go.Proofs.YtahfcpdekjdceaaDoor.ck

/- What chunk's headOf and the reference's head answer. No claim of its own. -/
namespace Go.Proofs.YtahfcpdekjdceaaDoor.ck
open Go.RowKit Go.Proofs.YtahfcpdekjdceaaDoor.fa Go.Proofs.YtahfcpdekjdceaaDoor.he Go.Proofs.YtahfcpdekjdceaaDoor.pa
set_option maxRecDepth 20000

set_option maxHeartbeats 4000000 in
theorem headof_any (g0 g1 g3 g4 g5 : Int) (S : Nat) (i gen : Int) (w : World) (hr : ge.Rt [g0, g1, (S : Int), g3, g4, g5]) :
    Calls Tryd.prog 23 #[.agg (ints .i64 [g0, g1, (S : Int), g3, g4, g5]), .int .i64 i, .int .u64 gen] w fun x w' => x = .returned (.agg (hv 4 i 0 (nc S : Int) gen 0).toArray) ∧ Below w.heap.size w w' := by
  have SC : Hid (∀ w0, Calls Tryd.prog 29 #[.agg (ints .i64 [g0, g1, (S : Int), g3, g4, g5])] w0 fun x w' => x = .returned (.int .i64 (nc S : Int)) ∧ Below w0.heap.size w0 w') := fun w0 => chunks_nc hr w0
  have ⟨s1, s2⟩ := rt_sec hr
  have hn := nc_le s1 s2
  have z1 : IntKind.u32.wrap (nc S : Int) = (nc S : Int) := by rw [IntKind.wrap_u32]; omega
  generalize (nc S : Int) = N at SC z1 ⊢
  clear hr s1 s2 hn
  have t0 : (0 : Nat) = 0 := rfl
  go_enter Tryd.func23, Tryd.ntmps23
  go_wp2_with (first
    | (have q4 := t4; (with_reducible refine at_store ?_); refine store_lawC _ (hv 4 i 0 N gen 0) w1.heap.size 0 rfl rfl HV6.out.2 rowy_head.2 (hv_one _ _ _ _ _ _) ?_; intro w4 E9 R9 T9 B9; have K9 : ∀ k, k ≠ w1.heap.size → w4.heap[k]? = w3.heap[k]? := (by rw [E9.out]; exact fun k hk => heap_cells _ _ _ _ k hk); have HB0 : Hid (Vr w4 w.heap.size [.int .i64 g0, .int .i64 g1, .int .i64 (S : Int), .int .i64 g3, .int .i64 g4, .int .i64 g5]) := HB0.out.heap (K9 _ (Nat.ne_of_lt LT_HB0_HV6.out)); have NB_HV6 : Hid (NoB w4 w1.heap.size) := (by rw [E9.out]; exact NB_HV6.out.set HV6.out rfl (hv_nob _ _ _ _ _ _)); have HV6 : Hid (Vr w4 w1.heap.size (hv 4 i 0 N gen 0)) := ⟨R9, T9⟩; have BB : Hid (Below w.heap.size w w4) := BB.out.trans (B9.mono LE_HV6.out); clear hb0_0 hb0_1 hb0_2 hb0_3 hb0_4 hb0_5; have hb0_0 := HB0.out.cell 0 _ rfl; have hb0_1 := HB0.out.cell 1 _ rfl; have hb0_2 := HB0.out.cell 2 _ rfl; have hb0_3 := HB0.out.cell 3 _ rfl; have hb0_4 := HB0.out.cell 4 _ rfl; have hb0_5 := HB0.out.cell 5 _ rfl; clear E9 R9 T9 B9 K9; clear t4; have t5 : (1 : Nat) = 1 := rfl)
    | (have q3 := t3; refine build_law _ rfl 57 _ rfl (.agg (hv 4 i 0 N gen 0).toArray) (by kernel_rfl) ?_; clear t3; have t4 : (1 : Nat) = 1 := rfl)
    | (have q2 := t2; go_at_call 29; refine (SC.out w2).mono ?_; rintro e9 w3 ⟨rfl, B9⟩; have HB0 : Hid (Vr w3 w.heap.size [.int .i64 g0, .int .i64 g1, .int .i64 (S : Int), .int .i64 g3, .int .i64 g4, .int .i64 g5]) := HB0.out.below B9 (range_lt HB0.out.1 (Nat.succ_pos _)); have NB_HV6 : Hid (NoB w3 w1.heap.size) := NB_HV6.out.heap (B9.block _ (range_lt HV6.out.1 (Nat.succ_pos _))); have HV6 : Hid (Vr w3 w1.heap.size (hv 0 0 0 0 0 0)) := HV6.out.below B9 (range_lt HV6.out.1 (Nat.succ_pos _)); have BB : Hid (Below w.heap.size w w3) := BB.out.trans (B9.mono BB.out.size); clear hb0_0 hb0_1 hb0_2 hb0_3 hb0_4 hb0_5; have hb0_0 := HB0.out.cell 0 _ rfl; have hb0_1 := HB0.out.cell 1 _ rfl; have hb0_2 := HB0.out.cell 2 _ rfl; have hb0_3 := HB0.out.cell 3 _ rfl; have hb0_4 := HB0.out.cell 4 _ rfl; have hb0_5 := HB0.out.cell 5 _ rfl; clear B9; clear t2; have t3 : (1 : Nat) = 1 := rfl)
    | (have q1 := t1; (with_reducible refine at_alloc ?_); refine new_lawN _ (hv 0 0 0 0 0 0) zero_head (hv_nob _ _ _ _ _ _) ?_; intro w2 X9 N9 B9; have LT_HB0_HV6 : Hid (w.heap.size < w1.heap.size) := range_lt HB0.out.1 (Nat.succ_pos _); have LE_HV6 : Hid (w.heap.size ≤ w1.heap.size) := BB.out.size; have HB0 : Hid (Vr w2 w.heap.size [.int .i64 g0, .int .i64 g1, .int .i64 (S : Int), .int .i64 g3, .int .i64 g4, .int .i64 g5]) := HB0.out.below B9 (range_lt HB0.out.1 (Nat.succ_pos _)); have HV6 : Hid (Vr w2 w1.heap.size (hv 0 0 0 0 0 0)) := X9; have NB_HV6 : Hid (NoB w2 w1.heap.size) := N9; have BB : Hid (Below w.heap.size w w2) := BB.out.trans (B9.mono BB.out.size); clear hb0_0 hb0_1 hb0_2 hb0_3 hb0_4 hb0_5; have hb0_0 := HB0.out.cell 0 _ rfl; have hb0_1 := HB0.out.cell 1 _ rfl; have hb0_2 := HB0.out.cell 2 _ rfl; have hb0_3 := HB0.out.cell 3 _ rfl; have hb0_4 := HB0.out.cell 4 _ rfl; have hb0_5 := HB0.out.cell 5 _ rfl; clear X9 N9 B9; clear t1; have t2 : (1 : Nat) = 1 := rfl)
    | (have q0 := t0; refine box_lawC _ [.int .i64 g0, .int .i64 g1, .int .i64 (S : Int), .int .i64 g3, .int .i64 g4, .int .i64 g5] rfl ?_; intro w1 X9 B9 l9; have HB0 : Hid (Vr w1 w.heap.size [.int .i64 g0, .int .i64 g1, .int .i64 (S : Int), .int .i64 g3, .int .i64 g4, .int .i64 g5]) := X9; have BB : Hid (Below w.heap.size w w1) := B9; have hb0_0 := HB0.out.cell 0 _ rfl; have hb0_1 := HB0.out.cell 1 _ rfl; have hb0_2 := HB0.out.cell 2 _ rfl; have hb0_3 := HB0.out.cell 3 _ rfl; have hb0_4 := HB0.out.cell 4 _ rfl; have hb0_5 := HB0.out.cell 5 _ rfl; clear X9 B9 l9; clear t0; have t1 : (1 : Nat) = 1 := rfl))
  exact bodyPost_ret (v := .agg (hv 4 i 0 N gen 0).toArray) (results_c rfl _ _ w1.heap.size _ rowy_head rfl HV6.out.1) rfl ⟨rfl, BB.out⟩

set_option maxHeartbeats 4000000 in
theorem rhead_any (g0 g1 g3 g4 g5 : Int) (S : Nat) (i gen : Int) (w : World) (hr : ge.Rt [g0, g1, (S : Int), g3, g4, g5]) :
    Calls Tryd.prog 28 #[.agg (ints .i64 [g0, g1, (S : Int), g3, g4, g5]), .int .i64 i, .int .u64 gen] w fun x w' => x = .returned (.agg (hv 4 i 0 (nc S : Int) gen 0).toArray) ∧ Below w.heap.size w w' := by
  have SC : Hid (∀ w0, Calls Tryd.prog 25 #[.agg (ints .i64 [g0, g1, (S : Int), g3, g4, g5])] w0 fun x w' => x = .returned (.int .i64 (nc S : Int)) ∧ Below w0.heap.size w0 w') := fun w0 => rchunks_nc hr w0
  have ⟨s1, s2⟩ := rt_sec hr
  have hn := nc_le s1 s2
  have z1 : IntKind.u32.wrap (nc S : Int) = (nc S : Int) := by rw [IntKind.wrap_u32]; omega
  generalize (nc S : Int) = N at SC z1 ⊢
  clear hr s1 s2 hn
  have t0 : (0 : Nat) = 0 := rfl
  go_enter Tryd.func28, Tryd.ntmps28
  go_wp2_with (first
    | (have q4 := t4; (with_reducible refine at_store ?_); refine store_lawC _ (hv 4 i 0 N gen 0) w1.heap.size 0 rfl rfl HV6.out.2 rowy_head.2 (hv_one _ _ _ _ _ _) ?_; intro w4 E9 R9 T9 B9; have K9 : ∀ k, k ≠ w1.heap.size → w4.heap[k]? = w3.heap[k]? := (by rw [E9.out]; exact fun k hk => heap_cells _ _ _ _ k hk); have HB0 : Hid (Vr w4 w.heap.size [.int .i64 g0, .int .i64 g1, .int .i64 (S : Int), .int .i64 g3, .int .i64 g4, .int .i64 g5]) := HB0.out.heap (K9 _ (Nat.ne_of_lt LT_HB0_HV6.out)); have NB_HV6 : Hid (NoB w4 w1.heap.size) := (by rw [E9.out]; exact NB_HV6.out.set HV6.out rfl (hv_nob _ _ _ _ _ _)); have HV6 : Hid (Vr w4 w1.heap.size (hv 4 i 0 N gen 0)) := ⟨R9, T9⟩; have BB : Hid (Below w.heap.size w w4) := BB.out.trans (B9.mono LE_HV6.out); clear hb0_0 hb0_1 hb0_2 hb0_3 hb0_4 hb0_5; have hb0_0 := HB0.out.cell 0 _ rfl; have hb0_1 := HB0.out.cell 1 _ rfl; have hb0_2 := HB0.out.cell 2 _ rfl; have hb0_3 := HB0.out.cell 3 _ rfl; have hb0_4 := HB0.out.cell 4 _ rfl; have hb0_5 := HB0.out.cell 5 _ rfl; clear E9 R9 T9 B9 K9; clear t4; have t5 : (1 : Nat) = 1 := rfl)
    | (have q3 := t3; refine build_law _ rfl 57 _ rfl (.agg (hv 4 i 0 N gen 0).toArray) (by kernel_rfl) ?_; clear t3; have t4 : (1 : Nat) = 1 := rfl)
    | (have q2 := t2; go_at_call 25; refine (SC.out w2).mono ?_; rintro e9 w3 ⟨rfl, B9⟩; have HB0 : Hid (Vr w3 w.heap.size [.int .i64 g0, .int .i64 g1, .int .i64 (S : Int), .int .i64 g3, .int .i64 g4, .int .i64 g5]) := HB0.out.below B9 (range_lt HB0.out.1 (Nat.succ_pos _)); have NB_HV6 : Hid (NoB w3 w1.heap.size) := NB_HV6.out.heap (B9.block _ (range_lt HV6.out.1 (Nat.succ_pos _))); have HV6 : Hid (Vr w3 w1.heap.size (hv 0 0 0 0 0 0)) := HV6.out.below B9 (range_lt HV6.out.1 (Nat.succ_pos _)); have BB : Hid (Below w.heap.size w w3) := BB.out.trans (B9.mono BB.out.size); clear hb0_0 hb0_1 hb0_2 hb0_3 hb0_4 hb0_5; have hb0_0 := HB0.out.cell 0 _ rfl; have hb0_1 := HB0.out.cell 1 _ rfl; have hb0_2 := HB0.out.cell 2 _ rfl; have hb0_3 := HB0.out.cell 3 _ rfl; have hb0_4 := HB0.out.cell 4 _ rfl; have hb0_5 := HB0.out.cell 5 _ rfl; clear B9; clear t2; have t3 : (1 : Nat) = 1 := rfl)
    | (have q1 := t1; (with_reducible refine at_alloc ?_); refine new_lawN _ (hv 0 0 0 0 0 0) zero_head (hv_nob _ _ _ _ _ _) ?_; intro w2 X9 N9 B9; have LT_HB0_HV6 : Hid (w.heap.size < w1.heap.size) := range_lt HB0.out.1 (Nat.succ_pos _); have LE_HV6 : Hid (w.heap.size ≤ w1.heap.size) := BB.out.size; have HB0 : Hid (Vr w2 w.heap.size [.int .i64 g0, .int .i64 g1, .int .i64 (S : Int), .int .i64 g3, .int .i64 g4, .int .i64 g5]) := HB0.out.below B9 (range_lt HB0.out.1 (Nat.succ_pos _)); have HV6 : Hid (Vr w2 w1.heap.size (hv 0 0 0 0 0 0)) := X9; have NB_HV6 : Hid (NoB w2 w1.heap.size) := N9; have BB : Hid (Below w.heap.size w w2) := BB.out.trans (B9.mono BB.out.size); clear hb0_0 hb0_1 hb0_2 hb0_3 hb0_4 hb0_5; have hb0_0 := HB0.out.cell 0 _ rfl; have hb0_1 := HB0.out.cell 1 _ rfl; have hb0_2 := HB0.out.cell 2 _ rfl; have hb0_3 := HB0.out.cell 3 _ rfl; have hb0_4 := HB0.out.cell 4 _ rfl; have hb0_5 := HB0.out.cell 5 _ rfl; clear X9 N9 B9; clear t1; have t2 : (1 : Nat) = 1 := rfl)
    | (have q0 := t0; refine box_lawC _ [.int .i64 g0, .int .i64 g1, .int .i64 (S : Int), .int .i64 g3, .int .i64 g4, .int .i64 g5] rfl ?_; intro w1 X9 B9 l9; have HB0 : Hid (Vr w1 w.heap.size [.int .i64 g0, .int .i64 g1, .int .i64 (S : Int), .int .i64 g3, .int .i64 g4, .int .i64 g5]) := X9; have BB : Hid (Below w.heap.size w w1) := B9; have hb0_0 := HB0.out.cell 0 _ rfl; have hb0_1 := HB0.out.cell 1 _ rfl; have hb0_2 := HB0.out.cell 2 _ rfl; have hb0_3 := HB0.out.cell 3 _ rfl; have hb0_4 := HB0.out.cell 4 _ rfl; have hb0_5 := HB0.out.cell 5 _ rfl; clear X9 B9 l9; clear t0; have t1 : (1 : Nat) = 1 := rfl))
  exact bodyPost_ret (v := .agg (hv 4 i 0 N gen 0).toArray) (results_c rfl _ _ w1.heap.size _ rowy_head rfl HV6.out.1) rfl ⟨rfl, BB.out⟩
end Go.Proofs.YtahfcpdekjdceaaDoor.ck

/- What chunk's sectors answers. No claim of its own. -/
namespace Go.Proofs.YtahfcpdekjdceaaDoor.ck
open Go.RowKit Go.Proofs.YtahfcpdekjdceaaDoor.fa Go.Proofs.YtahfcpdekjdceaaDoor.he Go.Proofs.YtahfcpdekjdceaaDoor.pa
set_option maxRecDepth 20000

/-- a record's sectors, as a list -/
def secs (S : Nat) (xs : List Int) : List (List Int) := (List.range (nc S)).map (sec S xs)
theorem secs_len (S : Nat) (xs : List Int) : (secs S xs).length = nc S := by simp [secs]
theorem secs_at (S : Nat) (xs : List Int) (i : Nat) (h : i < nc S) : (secs S xs).getD i [] = sec S xs i := by simp [secs, List.getD, h]

set_option maxHeartbeats 4000000 in
theorem sectors_any (g0 g1 g3 g4 g5 : Int) (S : Nat) (v : Value) (xs : List Int) (w : World) (hb : Byt w v xs) (hl : xs.length = 624) (hr : ge.Rt [g0, g1, (S : Int), g3, g4, g5]) :
    Calls Tryd.prog 21 #[.agg (ints .i64 [g0, g1, (S : Int), g3, g4, g5]), v] w fun x w' => ∃ r, x = .returned r ∧ Pgs w' r (secs S xs) ∧ Below w.heap.size w w' := by
  have ⟨s1, s2⟩ := rt_sec hr
  have hn := nc_le s1 s2
  have SC : Hid (∀ w0, Calls Tryd.prog 29 #[.agg (ints .i64 [g0, g1, (S : Int), g3, g4, g5])] w0 fun x w' => x = .returned (.int .i64 (nc S : Int)) ∧ Below w0.heap.size w0 w') := fun w0 => chunks_nc hr w0
  have SF : Hid (∀ w0, Calls Tryd.prog 37 #[.int .u8 255, .int .i64 (((nc S * S : Nat) : Int) - 624)] w0 fun e w' => ∃ v, e = .returned v ∧ Byt w' v (List.replicate (nc S * S - 624) 255) ∧ Below w0.heap.size w0 w') := fun w0 => by
    have z := fill_any 255 (((nc S * S : Nat) : Int) - 624) w0 (by omega)
    rw [show clamp (((nc S * S : Nat) : Int) - 624) 65536 = nc S * S - 624 by unfold clamp; omega] at z
    exact z
  have SX : Hid (∀ w1 c fv, Byt w1 fv (List.replicate (nc S * S - 624) 255) → Vr w1 c [v, fv] → Below w.heap.size w w1 → Calls Tryd.prog 36 #[.slice (some ⟨c, 0, none⟩) 2 2] w1 fun e w' => ∃ r, e = .returned r ∧ Own w1.heap.size w' r (pd S xs) ∧ Below w1.heap.size w1 w') := fun w1 c fv hf hV hB => by
    have e : cats [xs, List.replicate (nc S * S - 624) 255] 2 = pd S xs := by simp [cats, pd]
    have z := concat_any c 2 (fun k => ([v, fv] : List Value).getD k undef) [xs, List.replicate (nc S * S - 624) 255] w1 rfl (by omega) (fun k hk => by
      match k, hk with
      | 0, _ => exact hb.below hB
      | 1, _ => exact hf) (fun k hk => by
      have hk : k < 2 := hk
      match k, hk with
      | 0, _ => show xs.length ≤ 10000; omega
      | 1, _ => show (List.replicate (nc S * S - 624) (255 : Int)).length ≤ 10000; rw [List.length_replicate]; omega) (by rw [e, pd_len s1 s2 hl]; omega) (fun k hk => by
      match k, hk with
      | 0, _ => exact hV.cell 0 _ rfl
      | 1, _ => exact hV.cell 1 _ rfl)
    rwa [e] at z
  have XL : Hid ((pd S xs).length = nc S * S) := pd_len s1 s2 hl
  have XA : Hid (AllB (pd S xs)) := pd_all hb.all
  have XS : Hid (∀ i, i < nc S → sub (pd S xs) (i * S) (i * S + S) = (secs S xs).getD i []) := fun i hi => by rw [secs_at S xs i hi]; rfl
  have SE : Hid (∀ i, i < nc S → i * S + S ≤ nc S * S) := fun i hi => sec_end hi
  have SL : Hid ((secs S xs).length = nc S) := secs_len S xs
  obtain ⟨ao, cap, rfl⟩ := byt_form hb hl
  generalize secs S xs = ss at XS SL ⊢
  generalize pd S xs = X at SX XL XA XS
  generalize List.replicate (nc S * S - 624) (255 : Int) = F at SF SX
  have hM : (nc S : Int) * (S : Int) = ((nc S * S : Nat) : Int) := (Int.natCast_mul _ _).symm
  generalize nc S * S = M at SF XL SE hM hn
  generalize nc S = N at SC XS SE SL hM hn
  have NL : Hid (N ≤ 1000000) := (by show N ≤ 1000000; omega)
  have SP : Hid (0 < S) := (by show 0 < S; omega)
  have m1 : (624 : Int) ≤ (M : Int) := by omega
  have m2 : (M : Int) ≤ 10000 := by omega
  have n20 : N ≤ 20 := hn.2.1
  have s4 : S ≤ 4096 := s2
  clear hr hb hl hn s1 s2
  have t0 : (0 : Nat) = 0 := rfl
  go_enter Tryd.func21, Tryd.ntmps21
  go_wp2_with (first
    | (have q5 := t5; at_make; have HXm := HX; have HB0m := HB0; have BW := BB; refine make_lawR _ rfl _ _ rfl _ N rfl rfl rfl NL.out ?_; intro w6 v9 n9 B9; have HB0 : Hid (Vr w6 w.heap.size [.int .i64 g0, .int .i64 g1, .int .i64 (S : Int), .int .i64 g3, .int .i64 g4, .int .i64 g5]) := HB0.out.below B9 (range_lt HB0.out.1 (Nat.succ_pos _)); have HF : Hid (Byt w6 fv F) := HF.out.below B9; have HT : Hid (Vr w6 w3.heap.size [.slice ao 624 cap, fv]) := HT.out.below B9 (range_lt HT.out.1 (Nat.succ_pos _)); have HX : Hid (Byt w6 r X) := HX.out.below B9; have HR : Hid (Vr w6 w5.heap.size (rowk (fun j => slm r (j * S) (j * S + S)) N 0)) := (by show Vr _ _ _; rw [rowk_zero]; exact v9); have NB : Hid (NoB w6 w5.heap.size) := n9; have BL : Hid (Below w5.heap.size w5 w6) := B9; have BB : Hid (Below w.heap.size w w6) := BB.out.trans (B9.mono BB.out.size); clear hb0_0 hb0_1 hb0_2 hb0_3 hb0_4 hb0_5; have hb0_0 := HB0.out.cell 0 _ rfl; have hb0_1 := HB0.out.cell 1 _ rfl; have hb0_2 := HB0.out.cell 2 _ rfl; have hb0_3 := HB0.out.cell 3 _ rfl; have hb0_4 := HB0.out.cell 4 _ rfl; have hb0_5 := HB0.out.cell 5 _ rfl; clear HX HB0; have HX := HXm; have HB0 := HB0m; clear HXm HB0m; clear B9 v9 n9; clear t5; have t6 : (1 : Nat) = 1 := rfl)
    | (have q4 := t4; go_at_call 36; refine (SX.out w4 _ fv HF.out HT.out BB.out).mono ?_; rintro e9 w5 ⟨r, rfl, o9, B9⟩; have HB0 : Hid (Vr w5 w.heap.size [.int .i64 g0, .int .i64 g1, .int .i64 (S : Int), .int .i64 g3, .int .i64 g4, .int .i64 g5]) := HB0.out.below B9 (range_lt HB0.out.1 (Nat.succ_pos _)); have HF : Hid (Byt w5 fv F) := HF.out.below B9; have HT : Hid (Vr w5 w3.heap.size [.slice ao 624 cap, fv]) := HT.out.below B9 (range_lt HT.out.1 (Nat.succ_pos _)); have HX : Hid (Byt w5 r X) := o9.byt XA.out; have BB : Hid (Below w.heap.size w w5) := BB.out.trans (B9.mono BB.out.size); clear hb0_0 hb0_1 hb0_2 hb0_3 hb0_4 hb0_5; have hb0_0 := HB0.out.cell 0 _ rfl; have hb0_1 := HB0.out.cell 1 _ rfl; have hb0_2 := HB0.out.cell 2 _ rfl; have hb0_3 := HB0.out.cell 3 _ rfl; have hb0_4 := HB0.out.cell 4 _ rfl; have hb0_5 := HB0.out.cell 5 _ rfl; clear B9 o9; clear t4; have t5 : (1 : Nat) = 1 := rfl)
    | (have q3 := t3; refine two_lawK _ rfl (.tmp 13) (.tmp 21) rfl (.slice ao 624 cap) fv ⟨_, _, _, rfl⟩ (sle_byt HF.out) rfl rfl ?_; intro w4 v9 B9; have HB0 : Hid (Vr w4 w.heap.size [.int .i64 g0, .int .i64 g1, .int .i64 (S : Int), .int .i64 g3, .int .i64 g4, .int .i64 g5]) := HB0.out.below B9 (range_lt HB0.out.1 (Nat.succ_pos _)); have HF : Hid (Byt w4 fv F) := HF.out.below B9; have HT : Hid (Vr w4 w3.heap.size [.slice ao 624 cap, fv]) := v9; have BB : Hid (Below w.heap.size w w4) := BB.out.trans (B9.mono BB.out.size); clear hb0_0 hb0_1 hb0_2 hb0_3 hb0_4 hb0_5; have hb0_0 := HB0.out.cell 0 _ rfl; have hb0_1 := HB0.out.cell 1 _ rfl; have hb0_2 := HB0.out.cell 2 _ rfl; have hb0_3 := HB0.out.cell 3 _ rfl; have hb0_4 := HB0.out.cell 4 _ rfl; have hb0_5 := HB0.out.cell 5 _ rfl; clear B9 v9; clear t3; have t4 : (1 : Nat) = 1 := rfl)
    | (have q2 := t2; go_at_call 37; refine (SF.out w2).mono ?_; rintro e9 w3 ⟨fv, rfl, y9, B9⟩; have HB0 : Hid (Vr w3 w.heap.size [.int .i64 g0, .int .i64 g1, .int .i64 (S : Int), .int .i64 g3, .int .i64 g4, .int .i64 g5]) := HB0.out.below B9 (range_lt HB0.out.1 (Nat.succ_pos _)); have HF : Hid (Byt w3 fv F) := y9; have BB : Hid (Below w.heap.size w w3) := BB.out.trans (B9.mono BB.out.size); clear hb0_0 hb0_1 hb0_2 hb0_3 hb0_4 hb0_5; have hb0_0 := HB0.out.cell 0 _ rfl; have hb0_1 := HB0.out.cell 1 _ rfl; have hb0_2 := HB0.out.cell 2 _ rfl; have hb0_3 := HB0.out.cell 3 _ rfl; have hb0_4 := HB0.out.cell 4 _ rfl; have hb0_5 := HB0.out.cell 5 _ rfl; clear B9 y9; clear t2; have t3 : (1 : Nat) = 1 := rfl)
    | (have q1 := t1; go_at_call 29; refine (SC.out w1).mono ?_; rintro e9 w2 ⟨rfl, B9⟩; have HB0 : Hid (Vr w2 w.heap.size [.int .i64 g0, .int .i64 g1, .int .i64 (S : Int), .int .i64 g3, .int .i64 g4, .int .i64 g5]) := HB0.out.below B9 (range_lt HB0.out.1 (Nat.succ_pos _)); have BB : Hid (Below w.heap.size w w2) := BB.out.trans (B9.mono BB.out.size); clear hb0_0 hb0_1 hb0_2 hb0_3 hb0_4 hb0_5; have hb0_0 := HB0.out.cell 0 _ rfl; have hb0_1 := HB0.out.cell 1 _ rfl; have hb0_2 := HB0.out.cell 2 _ rfl; have hb0_3 := HB0.out.cell 3 _ rfl; have hb0_4 := HB0.out.cell 4 _ rfl; have hb0_5 := HB0.out.cell 5 _ rfl; clear B9; clear t1; have t2 : (1 : Nat) = 1 := rfl)
    | (have q0 := t0; refine box_lawC _ [.int .i64 g0, .int .i64 g1, .int .i64 (S : Int), .int .i64 g3, .int .i64 g4, .int .i64 g5] rfl ?_; intro w1 X9 B9 l9; have HB0 : Hid (Vr w1 w.heap.size [.int .i64 g0, .int .i64 g1, .int .i64 (S : Int), .int .i64 g3, .int .i64 g4, .int .i64 g5]) := X9; have BB : Hid (Below w.heap.size w w1) := B9; have hb0_0 := HB0.out.cell 0 _ rfl; have hb0_1 := HB0.out.cell 1 _ rfl; have hb0_2 := HB0.out.cell 2 _ rfl; have hb0_3 := HB0.out.cell 3 _ rfl; have hb0_4 := HB0.out.cell 4 _ rfl; have hb0_5 := HB0.out.cell 5 _ rfl; clear X9 B9 l9; clear t0; have t1 : (1 : Nat) = 1 := rfl))
  have BZ : Hid (Below w.heap.size w w5) := BW.out
  go_loopw [28] (fun i wr => ∃ k : Nat, k ≤ N ∧ i = .int .i64 (k : Int) ∧ Vr wr w5.heap.size (rowk (fun j => slm r (j * S) (j * S + S)) N k) ∧ NoB wr w5.heap.size ∧ Below w5.heap.size w5 wr) (fun i _ => N - (intOf i).toNat)
  case atStart => exact ⟨0, Nat.zero_le _, rfl, HR.out, NB.out, BL.out⟩
  case round =>
    obtain ⟨k, hk, rfl, hV, hN, hB⟩ := hrel
    have HV : Hid (Vr wr w5.heap.size (rowk (fun j => slm r (j * S) (j * S + S)) N k)) := hV
    have HN : Hid (NoB wr w5.heap.size) := hN
    have BB : Hid (Below w5.heap.size w5 wr) := hB
    clear hV hN hB HR NB BL
    by_cases hlt : k < N
    · have lk : (k : Int) < (N : Int) := by omega
      obtain ⟨p0, e0⟩ : ∃ z : Nat, z = k * S := ⟨_, rfl⟩
      obtain ⟨p1, e1⟩ : ∃ z : Nat, z = k * S + S := ⟨_, rfl⟩
      have e2 : (k + 1) * S = p1 := by rw [e1, Nat.succ_mul]
      have m0 : Hid (IntKind.i64.wrap ((k : Int) * (S : Int)) = (p0 : Int)) := (by show _ = _; rw [e0]; exact wrap_mul (by omega) s4)
      have m1' : Hid (IntKind.i64.wrap ((k : Int) + 1) = (k : Int) + 1) := wrap_small ⟨by omega, by omega⟩
      have m2' : Hid (IntKind.i64.wrap (((k : Int) + 1) * (S : Int)) = (p1 : Int)) := (by show _ = _; rw [← e2]; have z := wrap_mul (k := k + 1) (S := S) (by omega) s4; rw [show ((k + 1 : Nat) : Int) = (k : Int) + 1 by omega] at z; exact z)
      have pl : Hid (p0 ≤ p1 ∧ p1 ≤ X.length) := ⟨by omega, by rw [XL.out, e1]; exact SE.out k hlt⟩
      have pe : Hid (slm r p0 p1 = slm r (k * S) (k * S + S)) := (by rw [e0, e1]; exact rfl)
      clear e0 e1 e2
      go_wp2
      have HV : Hid (Vr wr.drew w5.heap.size (rowk (fun j => slm r (j * S) (j * S + S)) N k)) := HV.out.drewN 1
      have HN : Hid (NoB wr.drew w5.heap.size) := HN.out
      refine wp_region_held_drew (S := fun w' => Below w5.heap.size w5 w') (by kernel_rfl) BB.out.drew (fun hS => ?_)
      obtain ⟨x1, hx0⟩ : ∃ x, x = wr.drew := ⟨_, rfl⟩
      rw [← hx0] at hS HV HN ⊢
      clear hx0
      refine take_lawH 0 (some 31) (.int .i64 (k : Int)) rfl rfl (by kernel_rfl) (by kernel_rfl) (by kernel_rfl) (fun _ _ _ h => h) (Or.inl ⟨by rfl, fun w' hw' => by rfl⟩) hS ?_
      simp only [Act.put, List.setIfInBounds_toArray, List.set_cons_zero, List.set_cons_succ]
      refine take_lawH 1 (some 32) (.pointer (some ⟨w.heap.size, 2, none⟩)) rfl rfl (by kernel_rfl) (by kernel_rfl) (by kernel_rfl) (fun _ _ _ h => h) (Or.inl ⟨by rfl, fun w' hw' => by go_simp⟩) hS ?_
      simp only [Act.put, List.setIfInBounds_toArray, List.set_cons_zero, List.set_cons_succ]
      refine take_lawH 2 (some 33) (.int .i64 (S : Int)) rfl rfl (by kernel_rfl) (by kernel_rfl) (by kernel_rfl) (fun _ _ _ h => h) (Or.inl ⟨by rfl, fun w' hw' => by exact exec_loadN 3 (.tmp 32) rfl _ rfl _ _ (ld_int ((HB0.out.below hw' (range_lt HB0.out.1 (Nat.succ_pos _))).cell 2 _ rfl))⟩) hS ?_
      simp only [Act.put, List.setIfInBounds_toArray, List.set_cons_zero, List.set_cons_succ]
      refine take_lawH 3 (some 34) (.int .i64 (p0 : Int)) rfl rfl (by kernel_rfl) (by kernel_rfl) (by kernel_rfl) (fun _ _ _ h => h) (Or.inl ⟨by rfl, fun w' hw' => by exact exec_mul (.tmp 31) (.tmp 33) rfl (k : Int) (S : Int) _ rfl rfl m0.out⟩) hS ?_
      simp only [Act.put, List.setIfInBounds_toArray, List.set_cons_zero, List.set_cons_succ]
      refine take_lawH 4 (some 35) (.int .i64 (k : Int)) rfl rfl (by kernel_rfl) (by kernel_rfl) (by kernel_rfl) (fun _ _ _ h => h) (Or.inl ⟨by rfl, fun w' hw' => by rfl⟩) hS ?_
      simp only [Act.put, List.setIfInBounds_toArray, List.set_cons_zero, List.set_cons_succ]
      refine take_lawH 5 (some 36) (.int .i64 ((k : Int) + 1)) rfl rfl (by kernel_rfl) (by kernel_rfl) (by kernel_rfl) (fun _ _ _ h => h) (Or.inl ⟨by rfl, fun w' hw' => by exact exec_add (.tmp 35) (.const (.int .i64 1)) rfl (k : Int) 1 _ rfl rfl m1'.out⟩) hS ?_
      simp only [Act.put, List.setIfInBounds_toArray, List.set_cons_zero, List.set_cons_succ]
      refine take_lawH 6 (some 37) (.pointer (some ⟨w.heap.size, 2, none⟩)) rfl rfl (by kernel_rfl) (by kernel_rfl) (by kernel_rfl) (fun _ _ _ h => h) (Or.inl ⟨by rfl, fun w' hw' => by go_simp⟩) hS ?_
      simp only [Act.put, List.setIfInBounds_toArray, List.set_cons_zero, List.set_cons_succ]
      refine take_lawH 7 (some 38) (.int .i64 (S : Int)) rfl rfl (by kernel_rfl) (by kernel_rfl) (by kernel_rfl) (fun _ _ _ h => h) (Or.inl ⟨by rfl, fun w' hw' => by exact exec_loadN 3 (.tmp 37) rfl _ rfl _ _ (ld_int ((HB0.out.below hw' (range_lt HB0.out.1 (Nat.succ_pos _))).cell 2 _ rfl))⟩) hS ?_
      simp only [Act.put, List.setIfInBounds_toArray, List.set_cons_zero, List.set_cons_succ]
      refine take_lawH 8 (some 39) (.int .i64 (p1 : Int)) rfl rfl (by kernel_rfl) (by kernel_rfl) (by kernel_rfl) (fun _ _ _ h => h) (Or.inl ⟨by rfl, fun w' hw' => by exact exec_mul (.tmp 36) (.tmp 38) rfl ((k : Int) + 1) (S : Int) _ rfl rfl m2'.out⟩) hS ?_
      simp only [Act.put, List.setIfInBounds_toArray, List.set_cons_zero, List.set_cons_succ]
      refine take_lawH 9 (some 9) (.int .i64 (p0 : Int)) rfl rfl (by kernel_rfl) (by kernel_rfl) (by kernel_rfl) (fun _ _ _ h => h) (Or.inl ⟨by rfl, fun w' hw' => by rfl⟩) hS ?_
      simp only [Act.put, List.setIfInBounds_toArray, List.set_cons_zero, List.set_cons_succ]
      refine take_lawH 10 (some 10) (.int .i64 (p1 : Int)) rfl rfl (by kernel_rfl) (by kernel_rfl) (by kernel_rfl) (fun _ _ _ h => h) (Or.inl ⟨by rfl, fun w' hw' => by rfl⟩) hS ?_
      simp only [Act.put, List.setIfInBounds_toArray, List.set_cons_zero, List.set_cons_succ]
      refine wpAnyH_done (by kernel_rfl) ?_ _
      have t50 : (1 : Nat) = 1 := rfl
      go_wp2_with (first
        | (have q51 := t51; (with_reducible refine at_store ?_); refine set_lawK _ (rowk (fun j => slm r (j * S) (j * S + S)) N k) w5.heap.size k (slm r p0 p1) rfl rfl HV.out HN.out (by rw [rowk_len]; exact hlt) (by obtain ⟨ao, n, c, e⟩ := slm_sle HX.out p0 p1; rw [e]; rfl) (by obtain ⟨ao, n, c, e⟩ := slm_sle HX.out p0 p1; rw [e]; rfl) (by obtain ⟨ao, n, c, e⟩ := slm_sle HX.out p0 p1; rw [e]; intro y z; cases z) one_bytes.2 ?_; intro wz v9 n9 B9 k9; have HV2 : Hid (Vr wz w5.heap.size (rowk (fun j => slm r (j * S) (j * S + S)) N (k + 1))) := (by have z := v9; rw [pe.out] at z; rw [← rowk_set]; exact z); have HN2 : Hid (NoB wz w5.heap.size) := n9; have BZ : Hid (Below w5.heap.size w5 wz) := hS.trans B9; clear v9 n9 B9 k9 hS; clear t51; have t52 : (1 : Nat) = 1 := rfl)
        | (have q50 := t50; refine cut_max _ rfl (.tmp 42) (.tmp 43) (.tmp 44) (.tmp 45) rfl r X p0 p1 rfl rfl rfl rfl pl.out.1 pl.out.2 (HX.out.below hS) ?_; clear t50; have t51 : (1 : Nat) = 1 := rfl))
      go_roundw
      case rel => exact ⟨k + 1, by omega, by go_num, HV2.out, HN2.out, BZ.out⟩
      case measure => simp [intOf]; omega
    · have ek : k = N := by omega
      subst ek
      go_wp2
      go_ret
      have hx := HX.out.below BB.out
      refine ⟨_, rfl, ?_, BZ.out.trans (BB.out.mono BZ.out.size)⟩
      have z := pgs_of (ls := ss) HV.out (by rw [rowk_len, SL.out]) (by rw [SL.out]; exact NL.out) (fun i hi => by
        rw [SL.out] at hi
        rw [← XS.out i hi, show (rowk (fun j => slm r (j * S) (j * S + S)) k k).getD i undef = slm r (i * S) (i * S + S) by rw [List.getD_eq_getElem?_getD, rowk_at _ _ _ i hi hi]; rfl]
        exact slm_byt hx _ _ (by have := SP.out; omega) (by rw [XL.out]; exact SE.out i hi))
      rw [SL.out] at z
      exact z
end Go.Proofs.YtahfcpdekjdceaaDoor.ck

/- Rows of pages of the call's own: how one grows. No claim of its own. -/
namespace Go.Proofs.YtahfcpdekjdceaaDoor.ck
open Go.RowKit Go.Proofs.YtahfcpdekjdceaaDoor.fa Go.Proofs.YtahfcpdekjdceaaDoor.he Go.Proofs.YtahfcpdekjdceaaDoor.pa
set_option maxRecDepth 20000

theorem rowy_geo : Rowy 23 6 := ⟨⟨_, Tryd.underlying23, rfl⟩, by kernel_rfl⟩
/-- the first n of what F tells, as a list -/
def fl (F : Nat → List Int) (n : Nat) : List (List Int) := (List.range n).map F
theorem fl_len (F : Nat → List Int) (n : Nat) : (fl F n).length = n := by simp [fl]
theorem fl_at (F : Nat → List Int) (n i : Nat) (h : i < n) : (fl F n).getD i [] = F i := by simp [fl, List.getD, h]
theorem own_apart {w : World} {B B' n n' k k' : Nat} {v v' : Value} {e e' : TypeId} {xs ys : List Value} (h : w.ownsRow B e k v n xs) (h' : w.ownsRow B' e' k' v' n' ys) (hne : e ≠ e') : v.ownBlock = none ∨ v.ownBlock ≠ v'.ownBlock := by
  rcases h.2 with ⟨rfl, -⟩ | ⟨g, cap, cur, rfl, -, hg, -⟩
  · exact Or.inl rfl
  · right
    intro e1
    rcases h'.2 with ⟨rfl, -⟩ | ⟨g', cap', cur', rfl, -, hg', -⟩
    · cases e1
    · have : g = g' := by injection e1
      subst this
      rw [hg] at hg'
      injection hg' with hg'
      injection hg' with _ h2
      exact absurd h2 hne
theorem own_grown {w w' : World} {B B' : Nat} {u v : Value} {x : List Int} {us : List Value} (h : Own B w u x) (ho : OwnR B' w v us) (hg : w.grownBy w' v.ownBlock) : Own B w' u x :=
  World.ownsRow.kept h hg (own_apart h ho (by decide))
/-- v owns a row of k pages, each of the call's own, as F tells them -/
def Pgk (B : Nat) (w : World) (v : Value) (F : Nat → List Int) (k : Nat) : Prop := ∃ vs, OwnR B w v vs ∧ vs.length = k ∧ ∀ i, i < k → Own B w (vs.getD i undef) (F i)
theorem Pgk.nil (B : Nat) (w : World) (F : Nat → List Int) : Pgk B w (.slice none 0 0) F 0 := ⟨[], ownr_nil B w, rfl, fun _ hi => absurd hi (Nat.not_lt_zero _)⟩
theorem Pgk.empty {B : Nat} {w : World} {v : Value} (h : OwnR B w v []) (F : Nat → List Int) : Pgk B w v F 0 := ⟨[], h, rfl, fun _ hi => absurd hi (Nat.not_lt_zero _)⟩
theorem Pgk.below {B : Nat} {w w' : World} {v : Value} {F : Nat → List Int} {k : Nat} (h : Pgk B w v F k) (hb : Below w.heap.size w w') : Pgk B w' v F k := by
  obtain ⟨vs, h1, h2, h3⟩ := h
  exact ⟨vs, h1.below hb, h2, fun i hi => own_low (h3 i hi) hb⟩
theorem Pgk.less {B B' : Nat} {w : World} {v : Value} {F : Nat → List Int} {k : Nat} (h : Pgk B w v F k) (hB : B' ≤ B) : Pgk B' w v F k := by
  obtain ⟨vs, h1, h2, h3⟩ := h
  exact ⟨vs, h1.less hB, h2, fun i hi => own_less (h3 i hi) hB⟩
theorem Pgk.pgs {B : Nat} {w : World} {v : Value} {F : Nat → List Int} {k : Nat} (h : Pgk B w v F k) (ha : ∀ i, i < k → AllB (F i)) : Pgs w v (fl F k) := by
  obtain ⟨vs, h1, h2, h3⟩ := h
  refine ⟨vs, h1.vals, by rw [h2, fl_len], fun i hi => ?_⟩
  rw [fl_len] at hi
  rw [fl_at F k i hi]
  exact (h3 i hi).byt (ha i hi)
theorem Pgk.form {B : Nat} {w : World} {v : Value} {F : Nat → List Int} {k : Nat} (h : Pgk B w v F k) : ∃ ao cap, v = .slice ao k cap := by
  obtain ⟨vs, h1, h2, -⟩ := h
  obtain ⟨ao, cap, e, -⟩ := h1.vals
  rw [h2] at e
  exact ⟨ao, cap, e⟩
section
variable {ops : Array Oper} {rest : List Oper} {o : Oper} {a : Act} {Q : Exit → Act → World → Prop} {K : Act → World → Prop} {E : Prop}
/-- 'append(out, page)', in a region that draws its order -/
theorem step_pushP (w : World) (hw : Region.wanted o (yielded ops a.tmps) = true) (d : Option Tmp) (hd : o.dst = d) (s x : Operand) (hop : o.op = .call { callee := .builtin .append, args := #[s, x], argTypes := #[26, 26] })
    (B B' : Nat) (hB : B ≤ w.heap.size) (v vy u : Value) (F : Nat → List Int) (k : Nat) (hs : a.eval s = v) (hx : a.eval x = vy) (hP : Pgk B w v F k) (hy : OwnR B' w vy [u]) (hu : Own B w u (F k)) (hSl : Sle u) (hk : k ≤ 1000)
    (hK : ∀ v' w', Pgk B w' v' F (k + 1) → Below B w w' → (∀ B'' z xs, Own B'' w z xs → Own B'' w' z xs) → K (a.put d v') w') : if Region.wanted o (yielded ops a.tmps) = true then Oper.wp Tryd.prog o a w K Q else E := by
  obtain ⟨vs, h1, h2, h3⟩ := hP
  refine step_pushsR w hw d hd s x hop B hB v vy vs [u] hs hx h1 hy.vals (fun z hz => by simp at hz; subst hz; exact hSl) (by omega) (by simp) fun v' w' o' b' g' => ?_
  have keep : ∀ B'' z xs, Own B'' w z xs → Own B'' w' z xs := fun B'' z xs h => own_grown h h1 g'
  refine hK v' w' ⟨vs ++ [u], o', by simp [h2], fun i hi => ?_⟩ b' keep
  by_cases e : i = k
  · subst e
    rw [List.getD_eq_getElem?_getD, List.getElem?_append_right (by omega), h2, Nat.sub_self]
    exact keep _ _ _ hu
  · rw [List.getD_eq_getElem?_getD, List.getElem?_append_left (by omega), ← List.getD_eq_getElem?_getD]
    exact keep _ _ _ (h3 i (by omega))
theorem push_lawP (w : World) (hg : o.guard = none) (s x : Operand) (hop : o.op = .call { callee := .builtin .append, args := #[s, x], argTypes := #[26, 26] })
    (B B' : Nat) (hB : B ≤ w.heap.size) (v vy u : Value) (F : Nat → List Int) (k : Nat) (hs : a.eval s = v) (hx : a.eval x = vy) (hP : Pgk B w v F k) (hy : OwnR B' w vy [u]) (hu : Own B w u (F k)) (hSl : Sle u) (hk : k ≤ 1000)
    (hK : ∀ v' w', Pgk B w' v' F (k + 1) → Below B w w' → (∀ B'' z xs, Own B'' w z xs → Own B'' w' z xs) → wpList Tryd.prog ops Q rest (a.put o.dst v') w') : wpList Tryd.prog ops Q (o :: rest) a w := by
  refine wpList_step fun K hK' => ?_
  exact step_pushP w (by simp [Region.wanted, hg]) o.dst rfl s x hop B B' hB v vy u F k hs hx hP hy hu hSl hk fun v' w' h1 h2 h3 => hK' _ _ (hK v' w' h1 h2 h3)
end
theorem own_sle {B : Nat} {w : World} {v : Value} {xs : List Int} (h : Own B w v xs) : Sle v := by
  rcases h.2 with ⟨rfl, -⟩ | ⟨g, cap, cur, rfl, -⟩
  · exact ⟨_, _, _, rfl⟩
  · exact ⟨_, _, _, rfl⟩
/-- a record's pages, none of them committed -/
def P255 (S : Nat) (xs : List Int) (gen : Int) (i : Nat) : List Int := pgk S xs gen (List.replicate 8 255) i
theorem kps_p255 (S : Nat) (xs : List Int) (gen : Int) : kps S xs gen (List.replicate 8 255) = fl (P255 S xs gen) (nc S) := by
  unfold kps fl
  refine List.map_congr_left fun i _ => ?_
  split <;> rfl
theorem pgk_all {S i : Nat} {xs : List Int} {gen : Int} {mk : List Int} (h1 : 32 ≤ S) (h2 : S ≤ 4096) (hi : i < nc S) (ha : AllB xs) (hm : AllB mk) : AllB (pgk S xs gen mk i) := by
  unfold pgk kend
  exact allB_app (sec_all ha i) (pa.hend_all (rh_k h1 h2 hi) (allB_replicate 255 _ (by omega)) hm)
theorem p255_all {S i : Nat} {xs : List Int} {gen : Int} (h1 : 32 ≤ S) (h2 : S ≤ 4096) (hi : i < nc S) (ha : AllB xs) : AllB (P255 S xs gen i) := pgk_all h1 h2 hi ha (allB_replicate 255 _ (by omega))
/-- page.Make of a record's i-th sector and head -/
theorem make_p255 {S i : Nat} {xs : List Int} {gen : Int} (h1 : 32 ≤ S) (h2 : S ≤ 4096) (hl : xs.length = 624) (hi : i < nc S) : plo S (sec S xs i) ++ hend (hb 4 (i : Int) 0 (nc S : Int) gen 0) (tgo []) (List.replicate 8 255) = P255 S xs gen i := by
  have e := sec_len h1 h2 hl hi
  unfold plo P255 pgk kend
  rw [if_neg (by omega)]
  rfl
end Go.Proofs.YtahfcpdekjdceaaDoor.ck

/- What chunk's Pages answers. No claim of its own. -/
namespace Go.Proofs.YtahfcpdekjdceaaDoor.ck
open Go.RowKit Go.Proofs.YtahfcpdekjdceaaDoor.fa Go.Proofs.YtahfcpdekjdceaaDoor.he Go.Proofs.YtahfcpdekjdceaaDoor.pa
set_option maxRecDepth 20000

set_option maxHeartbeats 4000000 in
theorem pages_geo (g0 g1 g2 g3 g4 g5 : Int) (v : Value) (gen : Int) (w : World) (hr : ¬ ge.Rt [g0, g1, g2, g3, g4, g5]) :
    Calls Tryd.prog 7 #[.agg (ints .i64 [g0, g1, g2, g3, g4, g5]), v, .int .u64 gen] w fun x w' => x = .returned (.tuple #[.slice none 0 0, .int .i64 2]) ∧ Below w.heap.size w w' := by
  have SK : Hid (∀ w0, Calls Tryd.prog 20 #[.agg (ints .i64 [g0, g1, g2, g3, g4, g5])] w0 fun x w' => x = .returned (.int .i64 2) ∧ Below w0.heap.size w0 w') := ge.check_no [g0, g1, g2, g3, g4, g5] rfl hr
  clear hr
  have t0 : (0 : Nat) = 0 := rfl
  go_enter Tryd.func7, Tryd.ntmps7
  go_wp2_with (first
    | (have q1 := t1; go_at_call 20; refine (SK.out w1).mono ?_; rintro e9 w2 ⟨rfl, B9⟩; have HB0 : Hid (Vr w2 w.heap.size [.int .i64 g0, .int .i64 g1, .int .i64 g2, .int .i64 g3, .int .i64 g4, .int .i64 g5]) := HB0.out.below B9 (range_lt HB0.out.1 (Nat.succ_pos _)); have BB : Hid (Below w.heap.size w w2) := BB.out.trans (B9.mono BB.out.size); clear hb0_0 hb0_1 hb0_2 hb0_3 hb0_4 hb0_5; have hb0_0 := HB0.out.cell 0 _ rfl; have hb0_1 := HB0.out.cell 1 _ rfl; have hb0_2 := HB0.out.cell 2 _ rfl; have hb0_3 := HB0.out.cell 3 _ rfl; have hb0_4 := HB0.out.cell 4 _ rfl; have hb0_5 := HB0.out.cell 5 _ rfl; clear B9; clear t1; have t2 : (1 : Nat) = 1 := rfl)
    | (have q0 := t0; refine box_lawC _ [.int .i64 g0, .int .i64 g1, .int .i64 g2, .int .i64 g3, .int .i64 g4, .int .i64 g5] rfl ?_; intro w1 X9 B9 l9; have HB0 : Hid (Vr w1 w.heap.size [.int .i64 g0, .int .i64 g1, .int .i64 g2, .int .i64 g3, .int .i64 g4, .int .i64 g5]) := X9; have BB : Hid (Below w.heap.size w w1) := B9; have hb0_0 := HB0.out.cell 0 _ rfl; have hb0_1 := HB0.out.cell 1 _ rfl; have hb0_2 := HB0.out.cell 2 _ rfl; have hb0_3 := HB0.out.cell 3 _ rfl; have hb0_4 := HB0.out.cell 4 _ rfl; have hb0_5 := HB0.out.cell 5 _ rfl; clear X9 B9 l9; clear t0; have t1 : (1 : Nat) = 1 := rfl))
  go_ret2
  exact ⟨rfl, BB.out⟩

set_option maxHeartbeats 4000000 in
theorem pages_len (g0 g1 g3 g4 g5 : Int) (S : Nat) (v : Value) (xs : List Int) (gen : Int) (w : World) (hr : ge.Rt [g0, g1, (S : Int), g3, g4, g5]) (hb : Byt w v xs) (hl : xs.length ≠ 624) :
    Calls Tryd.prog 7 #[.agg (ints .i64 [g0, g1, (S : Int), g3, g4, g5]), v, .int .u64 gen] w fun x w' => x = .returned (.tuple #[.slice none 0 0, .int .i64 2]) ∧ Below w.heap.size w w' := by
  have SK : Hid (∀ w0, Calls Tryd.prog 20 #[.agg (ints .i64 [g0, g1, (S : Int), g3, g4, g5])] w0 fun x w' => x = .returned (.int .i64 0) ∧ Below w0.heap.size w0 w') := ge.check_yes [g0, g1, (S : Int), g3, g4, g5] rfl hr
  obtain ⟨ao, cap, rfl⟩ := byt_form hb rfl
  have n1 : ((xs.length : Int) != 624) = true := bne_iff_ne.2 (by omega)
  generalize xs.length = n at n1 ⊢
  clear hr hl hb
  have t0 : (0 : Nat) = 0 := rfl
  go_enter Tryd.func7, Tryd.ntmps7
  go_wp2_with (first
    | (have q1 := t1; go_at_call 20; refine (SK.out w1).mono ?_; rintro e9 w2 ⟨rfl, B9⟩; have HB0 : Hid (Vr w2 w.heap.size [.int .i64 g0, .int .i64 g1, .int .i64 (S : Int), .int .i64 g3, .int .i64 g4, .int .i64 g5]) := HB0.out.below B9 (range_lt HB0.out.1 (Nat.succ_pos _)); have BB : Hid (Below w.heap.size w w2) := BB.out.trans (B9.mono BB.out.size); clear hb0_0 hb0_1 hb0_2 hb0_3 hb0_4 hb0_5; have hb0_0 := HB0.out.cell 0 _ rfl; have hb0_1 := HB0.out.cell 1 _ rfl; have hb0_2 := HB0.out.cell 2 _ rfl; have hb0_3 := HB0.out.cell 3 _ rfl; have hb0_4 := HB0.out.cell 4 _ rfl; have hb0_5 := HB0.out.cell 5 _ rfl; clear B9; clear t1; have t2 : (1 : Nat) = 1 := rfl)
    | (have q0 := t0; refine box_lawC _ [.int .i64 g0, .int .i64 g1, .int .i64 (S : Int), .int .i64 g3, .int .i64 g4, .int .i64 g5] rfl ?_; intro w1 X9 B9 l9; have HB0 : Hid (Vr w1 w.heap.size [.int .i64 g0, .int .i64 g1, .int .i64 (S : Int), .int .i64 g3, .int .i64 g4, .int .i64 g5]) := X9; have BB : Hid (Below w.heap.size w w1) := B9; have hb0_0 := HB0.out.cell 0 _ rfl; have hb0_1 := HB0.out.cell 1 _ rfl; have hb0_2 := HB0.out.cell 2 _ rfl; have hb0_3 := HB0.out.cell 3 _ rfl; have hb0_4 := HB0.out.cell 4 _ rfl; have hb0_5 := HB0.out.cell 5 _ rfl; clear X9 B9 l9; clear t0; have t1 : (1 : Nat) = 1 := rfl))
  go_ret2
  exact ⟨rfl, BB.out⟩

set_option maxHeartbeats 4000000 in
theorem pages_yes (g0 g1 g3 g4 g5 : Int) (S : Nat) (v : Value) (xs : List Int) (gen : Int) (w : World) (hr : ge.Rt [g0, g1, (S : Int), g3, g4, g5]) (hb : Byt w v xs) (hl : xs.length = 624) (hg : 0 ≤ gen ∧ gen ≤ 18446744073709551615) (hT : Tab w) :
    Calls Tryd.prog 7 #[.agg (ints .i64 [g0, g1, (S : Int), g3, g4, g5]), v, .int .u64 gen] w fun x w' => ∃ r, x = .returned (.tuple #[r, .int .i64 0]) ∧ Pgk w.heap.size w' r (P255 S xs gen) (nc S) ∧ Below w.heap.size w w' := by
  have ⟨s1, s2⟩ := rt_sec hr
  have hn := nc_le s1 s2
  have SK : Hid (∀ w0, Calls Tryd.prog 20 #[.agg (ints .i64 [g0, g1, (S : Int), g3, g4, g5])] w0 fun x w' => x = .returned (.int .i64 0) ∧ Below w0.heap.size w0 w') := ge.check_yes [g0, g1, (S : Int), g3, g4, g5] rfl hr
  have SS : Hid (∀ w0, Below w.heap.size w w0 → Calls Tryd.prog 21 #[.agg (ints .i64 [g0, g1, (S : Int), g3, g4, g5]), v] w0 fun x w' => ∃ ro rc, x = .returned (.slice ro (nc S) rc) ∧ Pgs w' (.slice ro (nc S) rc) (secs S xs) ∧ Below w0.heap.size w0 w') := fun w0 q => (sectors_any g0 g1 g3 g4 g5 S v xs w0 (hb.below q) hl hr).mono fun _ _ ⟨r, e, hp, hB⟩ => by
    obtain ⟨ao, cap, rfl, -⟩ := hp.at
    rw [secs_len] at e hp
    exact ⟨ao, cap, e, hp, hB⟩
  have SH : Hid (∀ {k : Nat} w0, Calls Tryd.prog 23 #[.agg (ints .i64 [g0, g1, (S : Int), g3, g4, g5]), .int .i64 (k : Int), .int .u64 gen] w0 fun x w' => x = .returned (.agg (hv 4 (k : Int) 0 (nc S : Int) gen 0).toArray) ∧ Below w0.heap.size w0 w') := fun {k} w0 => headof_any g0 g1 g3 g4 g5 S k gen w0 hr
  have SM : Hid (∀ {k : Nat} w0 u, k < nc S → Below w.heap.size w w0 → Byt w0 u (sec S xs k) → Calls Tryd.prog 22 #[.agg (ints .i64 [g0, g1, (S : Int), g3, g4, g5]), .agg (hv 4 (k : Int) 0 (nc S : Int) gen 0).toArray, u, .slice none 0 0] w0 fun x w' => ∃ v, x = .returned (.tuple #[v, .int .i64 0]) ∧ Own w0.heap.size w' v (P255 S xs gen k) ∧ Below w0.heap.size w0 w') := fun {k} w0 u hk q hu => by
    have z := make_yes g0 g1 g3 g4 g5 S 4 k 0 (nc S) gen 0 u (.slice none 0 0) (sec S xs k) [] w0 hu (Byt.nil w0) ⟨⟨by omega, by omega⟩, hg, by omega, by omega⟩ (hT.below q) hr (.inr (sec_len s1 s2 hl hk)) (rh_k s1 s2 hk) (.inl rfl)
    rwa [make_p255 s1 s2 hl hk] at z
  have LS : Hid ((secs S xs).length = nc S ∧ ∀ i, i < nc S → (secs S xs).getD i [] = sec S xs i) := ⟨secs_len S xs, fun i hi => secs_at S xs i hi⟩
  have ⟨ao, cap, ev⟩ := byt_form hb hl
  subst ev
  generalize P255 S xs gen = F at SM ⊢
  generalize secs S xs = ss at SS LS
  generalize sec S xs = sq at SM LS
  generalize nc S = N at SS SH SM LS hn ⊢
  have n1 : 1 ≤ N := hn.1
  have n20 : N ≤ 20 := hn.2.1
  clear hr hb hl hn hT hg s1 s2
  have t0 : (0 : Nat) = 0 := rfl
  go_enter Tryd.func7, Tryd.ntmps7
  go_wp2_with (first
    | (have q2 := t2; go_at_call 21; refine (SS.out w2 BB.out).mono ?_; rintro e9 w3 ⟨so9, sc9, rfl, y9, B9⟩; have HB0 : Hid (Vr w3 w.heap.size [.int .i64 g0, .int .i64 g1, .int .i64 (S : Int), .int .i64 g3, .int .i64 g4, .int .i64 g5]) := HB0.out.below B9 (range_lt HB0.out.1 (Nat.succ_pos _)); have HP : Hid (Pgs w3 (.slice so9 N sc9) ss) := y9; have BB : Hid (Below w.heap.size w w3) := BB.out.trans (B9.mono BB.out.size); clear hb0_0 hb0_1 hb0_2 hb0_3 hb0_4 hb0_5; have hb0_0 := HB0.out.cell 0 _ rfl; have hb0_1 := HB0.out.cell 1 _ rfl; have hb0_2 := HB0.out.cell 2 _ rfl; have hb0_3 := HB0.out.cell 3 _ rfl; have hb0_4 := HB0.out.cell 4 _ rfl; have hb0_5 := HB0.out.cell 5 _ rfl; clear B9 y9; clear t2; have t3 : (1 : Nat) = 1 := rfl)
    | (have q1 := t1; go_at_call 20; refine (SK.out w1).mono ?_; rintro e9 w2 ⟨rfl, B9⟩; have HB0 : Hid (Vr w2 w.heap.size [.int .i64 g0, .int .i64 g1, .int .i64 (S : Int), .int .i64 g3, .int .i64 g4, .int .i64 g5]) := HB0.out.below B9 (range_lt HB0.out.1 (Nat.succ_pos _)); have BB : Hid (Below w.heap.size w w2) := BB.out.trans (B9.mono BB.out.size); clear hb0_0 hb0_1 hb0_2 hb0_3 hb0_4 hb0_5; have hb0_0 := HB0.out.cell 0 _ rfl; have hb0_1 := HB0.out.cell 1 _ rfl; have hb0_2 := HB0.out.cell 2 _ rfl; have hb0_3 := HB0.out.cell 3 _ rfl; have hb0_4 := HB0.out.cell 4 _ rfl; have hb0_5 := HB0.out.cell 5 _ rfl; clear B9; clear t1; have t2 : (1 : Nat) = 1 := rfl)
    | (have q0 := t0; refine box_lawC _ [.int .i64 g0, .int .i64 g1, .int .i64 (S : Int), .int .i64 g3, .int .i64 g4, .int .i64 g5] rfl ?_; intro w1 X9 B9 l9; have HB0 : Hid (Vr w1 w.heap.size [.int .i64 g0, .int .i64 g1, .int .i64 (S : Int), .int .i64 g3, .int .i64 g4, .int .i64 g5]) := X9; have BB : Hid (Below w.heap.size w w1) := B9; have hb0_0 := HB0.out.cell 0 _ rfl; have hb0_1 := HB0.out.cell 1 _ rfl; have hb0_2 := HB0.out.cell 2 _ rfl; have hb0_3 := HB0.out.cell 3 _ rfl; have hb0_4 := HB0.out.cell 4 _ rfl; have hb0_5 := HB0.out.cell 5 _ rfl; clear X9 B9 l9; clear t0; have t1 : (1 : Nat) = 1 := rfl))
  have BY : Hid (Below w.heap.size w w3) := BB.out
  go_loopw [25, 8] (fun i r wr => ∃ k : Nat, k ≤ N ∧ i = .int .i64 (k : Int) ∧ Pgk w3.heap.size wr r F k ∧ Below w3.heap.size w3 wr) (fun i _ _ => N - (intOf i).toNat)
  case atStart => exact ⟨0, Nat.zero_le _, rfl, Pgk.nil _ _ _, Below.refl _ _⟩
  case round =>
    obtain ⟨k, hk, rfl, hR, hB⟩ := hrel
    have BB : Hid (Below w3.heap.size w3 wr) := hB
    clear hB
    by_cases hlt : k < N
    · have lk : (k : Int) < (N : Int) := by omega
      have HR : Hid (Pgk w3.heap.size wr u8 F k) := hR
      obtain ⟨ao', cap', e9, -, -, h9⟩ := HP.out.at
      rw [LS.out.1] at e9 h9
      cases e9
      obtain ⟨b, off, rfl, hc⟩ := h9 (by omega)
      obtain ⟨u, hu1, hu2⟩ := hc k hlt
      rw [LS.out.2 k hlt] at hu2
      have HU : Hid (Byt w3 u (sq k)) := hu2
      have hu1 : wr.cell? ⟨b, off + k, none⟩ = some u := by rw [BB.out.cell (World.block_lt_of_cell? _ _ hu1)]; exact hu1
      clear hR hc h9 hu2
      go_wp2
      have HR : Hid (Pgk w3.heap.size wr.drew u8 F k) := HR.out.below (Below.refl _ _).drew
      refine wp_region_held_drew (S := fun w' => Below w3.heap.size w3 w') (by kernel_rfl) BB.out.drew (fun hS => ?_)
      obtain ⟨x1, hx0⟩ : ∃ x, x = wr.drew := ⟨_, rfl⟩
      rw [← hx0] at hS HR ⊢
      clear hx0
      refine take_lawH 0 (some 31) (.agg ([.int .i64 g0, .int .i64 g1, .int .i64 (S : Int), .int .i64 g3, .int .i64 g4, .int .i64 g5] : List Value).toArray) rfl rfl (by kernel_rfl) (by kernel_rfl) (by kernel_rfl) (fun _ _ _ h => h) (Or.inl ⟨by rfl, fun w' hw' => by exact exec_loadN 23 (.tmp 3) rfl _ rfl _ _ (load_cells rowy_geo (HB0.out.below hw' (range_lt HB0.out.1 (Nat.succ_pos _))).1)⟩) hS ?_
      simp only [Act.put, List.setIfInBounds_toArray, List.set_cons_zero, List.set_cons_succ]
      refine take_lawH 1 (some 32) (.agg ([.int .i64 g0, .int .i64 g1, .int .i64 (S : Int), .int .i64 g3, .int .i64 g4, .int .i64 g5] : List Value).toArray) rfl rfl (by kernel_rfl) (by kernel_rfl) (by kernel_rfl) (fun _ _ _ h => h) (Or.inl ⟨by rfl, fun w' hw' => by exact exec_loadN 23 (.tmp 3) rfl _ rfl _ _ (load_cells rowy_geo (HB0.out.below hw' (range_lt HB0.out.1 (Nat.succ_pos _))).1)⟩) hS ?_
      simp only [Act.put, List.setIfInBounds_toArray, List.set_cons_zero, List.set_cons_succ]
      refine take_lawH 2 (some 33) (.int .i64 (k : Int)) rfl rfl (by kernel_rfl) (by kernel_rfl) (by kernel_rfl) (fun _ _ _ h => h) (Or.inl ⟨by rfl, fun w' hw' => by rfl⟩) hS ?_
      simp only [Act.put, List.setIfInBounds_toArray, List.set_cons_zero, List.set_cons_succ]
      refine take_lawH 3 (some 34) (.int .u64 gen) rfl rfl (by kernel_rfl) (by kernel_rfl) (by kernel_rfl) (fun _ _ _ h => h) (Or.inl ⟨by rfl, fun w' hw' => by rfl⟩) hS ?_
      simp only [Act.put, List.setIfInBounds_toArray, List.set_cons_zero, List.set_cons_succ]
      refine take_lawH 5 (some 36) (u) rfl rfl (by kernel_rfl) (by kernel_rfl) (by kernel_rfl) (fun _ _ _ h => h) (Or.inl ⟨by rfl, fun w' hw' => by rfl⟩) hS ?_
      simp only [Act.put, List.setIfInBounds_toArray, List.set_cons_zero, List.set_cons_succ]
      refine wpAnyH_ready (rs := [4]) (by kernel_rfl) (by simp) ?_
      refine AllReadyH.cons rfl (fun K hK => ?_) AllReadyH.nil
      refine step_callW _ (by rfl) (some 35) rfl 23 #[.tmp 32, .tmp 33, .tmp 34] #[23, 3, 25] rfl (fun q w' => by rfl) #[.agg ([.int .i64 g0, .int .i64 g1, .int .i64 (S : Int), .int .i64 g3, .int .i64 g4, .int .i64 g5] : List Value).toArray, .int .i64 (k : Int), .int .u64 gen] (by simp only [List.map_toArray, List.map_cons, List.map_nil]; rfl) (fun u w' => u = .agg (hv 4 (k : Int) 0 (N : Int) gen 0).toArray ∧ Below x1.heap.size x1 w') ?_ ?_
      · exact (SH.out x1).mono fun e w' ⟨h1, h2⟩ => ⟨_, h1, rfl, h2⟩
      rintro _ x2 ⟨rfl, hb⟩
      have HR : Hid (Pgk w3.heap.size x2 u8 F k) := HR.out.below hb
      have hS : Below w3.heap.size w3 x2 := hS.trans (hb.mono hS.size)
      clear hb
      refine hK.out _ _ hS (fun _ => ?_)
      simp only [Act.put, List.setIfInBounds_toArray, List.set_cons_zero, List.set_cons_succ]
      clear hK K
      refine wpAnyH_ready (rs := [6]) (by kernel_rfl) (by simp) ?_
      refine AllReadyH.cons rfl (fun K hK => ?_) AllReadyH.nil
      refine step_callW _ (by rfl) (some 37) rfl 22 #[.tmp 31, .tmp 35, .tmp 36, .const (.slice none 0 0)] #[23, 57, 24, 24] rfl (fun q w' => by rfl) #[.agg ([.int .i64 g0, .int .i64 g1, .int .i64 (S : Int), .int .i64 g3, .int .i64 g4, .int .i64 g5] : List Value).toArray, .agg (hv 4 (k : Int) 0 (N : Int) gen 0).toArray, u, .slice none 0 0] (by simp only [List.map_toArray, List.map_cons, List.map_nil]; rfl) (fun u w' => (∃ v, u = .tuple #[v, .int .i64 0] ∧ Own x2.heap.size w' v (F k)) ∧ Below x2.heap.size x2 w') ?_ ?_
      · exact (SM.out x2 u hlt (BY.out.trans (hS.mono BY.out.size)) (HU.out.below hS)).mono fun e w' ⟨v, h1, h2, h3⟩ => ⟨_, h1, ⟨v, rfl, h2⟩, h3⟩
      rintro _ x3 ⟨⟨pv, rfl, o9⟩, hb⟩
      have HR : Hid (Pgk w3.heap.size x3 u8 F k) := HR.out.below hb
      have HO : Hid (Own w3.heap.size x3 pv (F k)) := own_less o9 hS.size
      clear o9
      have hS : Below w3.heap.size w3 x3 := hS.trans (hb.mono hS.size)
      clear hb
      refine hK.out _ _ hS (fun _ => ?_)
      simp only [Act.put, List.setIfInBounds_toArray, List.set_cons_zero, List.set_cons_succ]
      clear hK K
      refine take_lawH 7 (some 30) (.tuple #[pv, .int .i64 0]) rfl rfl (by kernel_rfl) (by kernel_rfl) (by kernel_rfl) (fun _ _ _ h => h) (Or.inl ⟨by rfl, fun w' hw' => by rfl⟩) hS ?_
      simp only [Act.put, List.setIfInBounds_toArray, List.set_cons_zero, List.set_cons_succ]
      refine take_lawH 8 (some 38) (pv) rfl rfl (by kernel_rfl) (by kernel_rfl) (by kernel_rfl) (fun _ _ _ h => h) (Or.inl ⟨by rfl, fun w' hw' => by rfl⟩) hS ?_
      simp only [Act.put, List.setIfInBounds_toArray, List.set_cons_zero, List.set_cons_succ]
      refine take_lawH 9 (some 39) (.int .i64 0) rfl rfl (by kernel_rfl) (by kernel_rfl) (by kernel_rfl) (fun _ _ _ h => h) (Or.inl ⟨by rfl, fun w' hw' => by rfl⟩) hS ?_
      simp only [Act.put, List.setIfInBounds_toArray, List.set_cons_zero, List.set_cons_succ]
      refine take_lawH 10 (some 11) (pv) rfl rfl (by kernel_rfl) (by kernel_rfl) (by kernel_rfl) (fun _ _ _ h => h) (Or.inl ⟨by rfl, fun w' hw' => by rfl⟩) hS ?_
      simp only [Act.put, List.setIfInBounds_toArray, List.set_cons_zero, List.set_cons_succ]
      refine take_lawH 11 (some 12) (.int .i64 0) rfl rfl (by kernel_rfl) (by kernel_rfl) (by kernel_rfl) (fun _ _ _ h => h) (Or.inl ⟨by rfl, fun w' hw' => by rfl⟩) hS ?_
      simp only [Act.put, List.setIfInBounds_toArray, List.set_cons_zero, List.set_cons_succ]
      refine wpAnyH_done (by kernel_rfl) ?_ _
      have t50 : (1 : Nat) = 1 := rfl
      go_wp2_with (first
        | (have q51 := t51; at_builtin; refine push_lawP _ rfl (.tmp 40) (.tmp 42) rfl w3.heap.size x3.heap.size hS.out.size u8 _ pv F k rfl rfl HR.out O8.out HO.out (own_sle HO.out) (by omega) ?_; intro v3 wz o9 B9 k9; have HZ : Hid (Pgk w3.heap.size wz v3 F (k + 1)) := o9; have BZ : Hid (Below w3.heap.size w3 wz) := hS.out.trans B9; clear o9 B9 k9 t51 hS)
        | (have q50 := t50; refine one_lawR _ rfl (.tmp 41) rfl pv (own_sle HO.out) rfl ?_; intro wy o8 B8; have O8 : Hid (OwnR x3.heap.size wy (.slice (some ⟨x3.heap.size, 0, none⟩) 1 1) [pv]) := o8; have HR : Hid (Pgk w3.heap.size wy u8 F k) := HR.out.below B8; have HO : Hid (Own w3.heap.size wy pv (F k)) := own_low HO.out B8; have hS : Hid (Below w3.heap.size w3 wy) := hS.trans (B8.mono hS.size); clear o8 B8 t50; have t51 : (1 : Nat) = 1 := rfl))
      go_roundw
      case rel => exact ⟨k + 1, by omega, by go_num, HZ.out, BZ.out⟩
      case measure => simp [intOf]; omega
    · have ek : k = N := by omega
      subst ek
      have HR : Hid (Pgk w3.heap.size wr u8 F k) := hR
      clear hR
      go_wp2
      go_ret2
      exact ⟨_, rfl, HR.out.less BY.out.size, BY.out.trans (BB.out.mono BY.out.size)⟩
end Go.Proofs.YtahfcpdekjdceaaDoor.ck

/- What the reference's page answers: Commit, Right, Make. No claim of its own. -/
namespace Go.Proofs.YtahfcpdekjdceaaDoor.pa
open Go.RowKit Go.Proofs.YtahfcpdekjdceaaDoor.fa Go.Proofs.YtahfcpdekjdceaaDoor.he
set_option maxRecDepth 20000

set_option maxHeartbeats 1000000 in
theorem rfill_own (x n : Int) (w : World) :
    Calls Tryd.prog 26 #[.int .u8 x, .int .i64 n] w fun e w' => ∃ v, e = .returned v ∧ Own w.heap.size w' v (List.replicate (clamp n 65536) x) ∧ Below w.heap.size w w' := by
  have hs : ((clamp n 65536 : Nat) : Int) = min (max n 0) 65536 := by unfold clamp; omega
  generalize hsd : clamp n 65536 = s at hs
  have HS : Hid ((s : Int) = min (max n 0) 65536) := hs
  have hs1 : s ≤ 65536 := by omega
  clear hsd hs
  go_enter Tryd.func26, Tryd.ntmps26
  go_wp2
  go_loopw [5, 6] (fun v i wr => ∃ k : Nat, k ≤ s ∧ i = .int .i64 k ∧ Own w.heap.size wr v (List.replicate k x) ∧ Below w.heap.size w wr) (fun _ i _ => s - (intOf i).toNat)
  case atStart => exact ⟨0, Nat.zero_le _, rfl, Own.empty w (Nat.le_refl _), (Below.refl _ _).alloc (Nat.le_refl _) _⟩
  case round =>
    obtain ⟨k, hk, rfl, hown, hbel⟩ := hrel
    have hsz := hbel.size
    by_cases hlt : k < s
    · have h1 : (k : Int) < n := by have := HS.out; omega
      have h2 : (k : Int) < 65536 := by omega
      go_wp2_with (at_builtin; refine push_law wr rfl (.tmp 17) (.tmp 19) rfl w.heap.size (by omega) _ _ x rfl rfl hown (by simp; omega) ?_; intro v' w1 hown' hbel')
      rw [← List.replicate_succ'] at hown'
      go_roundw
      case rel => exact ⟨k + 1, by omega, by go_num, hown', hbel.trans hbel'⟩
      case measure => simp [intOf]; omega
    · have hks : k = s := by omega
      subst hks
      by_cases h1 : (k : Int) < n
      · have h2 : ¬ (k : Int) < 65536 := by have := HS.out; omega
        go_wp2
        go_ret
        exact ⟨_, rfl, hown, hbel⟩
      · go_wp2
        go_ret
        exact ⟨_, rfl, hown, hbel⟩


set_option maxHeartbeats 4000000 in
theorem rcommit_any (g0 g1 g3 g4 g5 : Int) (S : Nat) (w : World) (hS : S ≤ 4096) :
    Calls Tryd.prog 19 #[.agg (ints .i64 [g0, g1, (S : Int), g3, g4, g5])] w fun x w' => ∃ v, x = .returned v ∧ Byt w' v (he.mark (S + 88)) ∧ Below w.heap.size w w' := by
  have S1 : Hid (∀ w0, Calls Tryd.prog 26 #[.int .u8 255, .int .i64 ((S : Int) + 80)] w0 fun e w' => ∃ v, e = .returned v ∧ Own w0.heap.size w' v (List.replicate (S + 80) 255) ∧ Below w0.heap.size w0 w') := fun w0 => by
    have := rfill_own 255 ((S : Int) + 80) w0
    rw [show clamp ((S : Int) + 80) 65536 = S + 80 by unfold clamp; omega] at this
    exact this
  have S2 : Hid (∀ w0, Calls Tryd.prog 26 #[.int .u8 0, .int .i64 8] w0 fun e w' => ∃ v, e = .returned v ∧ Byt w' v (List.replicate 8 0) ∧ Below w0.heap.size w0 w') := fun w0 => by
    have := rfill_any 0 8 w0 (by omega)
    rw [show clamp 8 65536 = 8 by decide] at this
    exact this
  have HM : Hid (List.replicate (S + 80) (255 : Int) ++ List.replicate 8 0 = he.mark (S + 88) ∧ AllB (he.mark (S + 88))) := ⟨by unfold he.mark; rw [show S + 88 - 8 = S + 80 by omega], mark_all _⟩
  have XL : Hid ((List.replicate (S + 80) (255 : Int)).length ≤ 10000 ∧ (List.replicate 8 (0 : Int)).length ≤ 10000) := ⟨by simp; omega, by simp⟩
  have hS' : (S : Int) ≤ 4096 := by omega
  generalize he.mark (S + 88) = Z at HM ⊢
  generalize List.replicate (S + 80) (255 : Int) = X at S1 HM XL
  generalize List.replicate 8 (0 : Int) = Y at S2 HM XL
  clear hS
  have t0 : (0 : Nat) = 0 := rfl
  go_enter Tryd.func19, Tryd.ntmps19
  go_wp2_with (first
    | (have q3 := t3; at_builtin; refine pushs_law _ rfl (.tmp 6) (.tmp 7) rfl w1.heap.size LW.out _ _ X Y rfl rfl HO.out HY.out (by have := XL.out; omega) ?_; intro v3 w9 O9 B9; have HR : Hid (Own w1.heap.size w9 v3 (X ++ Y)) := O9; have BZ : Hid (Below w.heap.size w w9) := BB.out.trans (B9.mono LW1.out); clear O9 B9 t3)
    | (have q2 := t2; go_at_call 26; refine (S2.out w2).mono ?_; rintro e9 w3 ⟨v2, rfl, Y9, B9⟩; have HB0 : Hid (Vr w3 w.heap.size [.int .i64 g0, .int .i64 g1, .int .i64 (S : Int), .int .i64 g3, .int .i64 g4, .int .i64 g5]) := HB0.out.below B9 (range_lt HB0.out.1 (Nat.succ_pos _)); have HO : Hid (Own w1.heap.size w3 v1 X) := own_low HO.out B9; have HY : Hid (Byt w3 v2 Y) := Y9; have BB : Hid (Below w.heap.size w w3) := BB.out.trans (B9.mono BB.out.size); clear hb0_0 hb0_1 hb0_2 hb0_3 hb0_4 hb0_5; have hb0_0 := HB0.out.cell 0 _ rfl; have hb0_1 := HB0.out.cell 1 _ rfl; have hb0_2 := HB0.out.cell 2 _ rfl; have hb0_3 := HB0.out.cell 3 _ rfl; have hb0_4 := HB0.out.cell 4 _ rfl; have hb0_5 := HB0.out.cell 5 _ rfl; have LW : Hid (w1.heap.size ≤ w3.heap.size) := Nat.le_trans LW0.out B9.size; clear B9 Y9; clear t2; have t3 : (1 : Nat) = 1 := rfl)
    | (have q1 := t1; go_at_call 26; refine (S1.out w1).mono ?_; rintro e9 w2 ⟨v1, rfl, O9, B9⟩; have HB0 : Hid (Vr w2 w.heap.size [.int .i64 g0, .int .i64 g1, .int .i64 (S : Int), .int .i64 g3, .int .i64 g4, .int .i64 g5]) := HB0.out.below B9 (range_lt HB0.out.1 (Nat.succ_pos _)); have HO : Hid (Own w1.heap.size w2 v1 X) := O9; have BB : Hid (Below w.heap.size w w2) := BB.out.trans (B9.mono BB.out.size); clear hb0_0 hb0_1 hb0_2 hb0_3 hb0_4 hb0_5; have hb0_0 := HB0.out.cell 0 _ rfl; have hb0_1 := HB0.out.cell 1 _ rfl; have hb0_2 := HB0.out.cell 2 _ rfl; have hb0_3 := HB0.out.cell 3 _ rfl; have hb0_4 := HB0.out.cell 4 _ rfl; have hb0_5 := HB0.out.cell 5 _ rfl; have LW0 : Hid (w1.heap.size ≤ w2.heap.size) := B9.size; clear B9 O9; clear t1; have t2 : (1 : Nat) = 1 := rfl)
    | (have q0 := t0; refine box_lawC _ [.int .i64 g0, .int .i64 g1, .int .i64 (S : Int), .int .i64 g3, .int .i64 g4, .int .i64 g5] rfl ?_; intro w1 X9 B9 l9; have HB0 : Hid (Vr w1 w.heap.size [.int .i64 g0, .int .i64 g1, .int .i64 (S : Int), .int .i64 g3, .int .i64 g4, .int .i64 g5]) := X9; have BB : Hid (Below w.heap.size w w1) := B9; have hb0_0 := HB0.out.cell 0 _ rfl; have hb0_1 := HB0.out.cell 1 _ rfl; have hb0_2 := HB0.out.cell 2 _ rfl; have hb0_3 := HB0.out.cell 3 _ rfl; have hb0_4 := HB0.out.cell 4 _ rfl; have hb0_5 := HB0.out.cell 5 _ rfl; have LW1 : Hid (w.heap.size ≤ w1.heap.size) := B9.size; clear X9 B9 l9; clear t0; have t1 : (1 : Nat) = 1 := rfl))
  go_ret
  exact ⟨_, rfl, by have z := HR.out; rw [HM.out.1] at z; exact z.byt HM.out.2, BZ.out⟩

set_option maxHeartbeats 4000000 in
theorem rmake_e (g0 g1 g3 g4 g5 : Int) (S : Nat) (k n c l e t : Int) (pv tv : Value) (p tag : List Int) (w : World) (hp : Byt w pv p) (ht : Byt w tv tag) (hH : Hb l e t) (hS : 32 ≤ S ∧ S ≤ 4096) (hk : Rh k n c) (hl : p.length = 0) (hn : tag.length = 0 ∨ tag.length = 32) :
    Calls Tryd.prog 27 #[.agg (ints .i64 [g0, g1, (S : Int), g3, g4, g5]), .agg (hv k n c l e t).toArray, pv, tv] w fun x w' => ∃ v, x = .returned v ∧ Byt w' v (plo S p ++ hend (hb k n c l e t) (tgo tag) (List.replicate 8 255)) ∧ Below w.heap.size w w' := by
  have SE : Hid (∀ w0, Below w.heap.size w w0 → Calls Tryd.prog 40 #[.agg (hv k n c l e t).toArray, tv] w0 fun x w' => ∃ v, x = .returned v ∧ Byt w' v (hend (hb k n c l e t) (tgo tag) (List.replicate 8 255)) ∧ Below w0.heap.size w0 w') := fun w0 hb => rend_any k n c l e t tv tag w0 (ht.below hb) hk hH.1 hH.2.1 hH.2.2 hn
  have EL : Hid ((hend (hb k n c l e t) (tgo tag) (List.replicate 8 255)).length = 88) := hend_len (hb_len _ _ _ _ _ _) (tgo_len hn) (by simp)
  have EA : Hid (AllB (hend (hb k n c l e t) (tgo tag) (List.replicate 8 255))) := pa.hend_all hk (pa.tgo_all ht.all) (allB_replicate 255 _ (by omega))
  have SF : Hid (∀ w0, Calls Tryd.prog 26 #[.int .u8 255, .int .i64 (S : Int)] w0 fun x w' => ∃ v, x = .returned v ∧ Byt w' v (List.replicate S 255) ∧ Below w0.heap.size w0 w') := fun w0 => by
    have := rfill_any 255 S w0 (by omega)
    rw [clampS (by omega)] at this
    exact this
  have ez : plo S p = List.replicate S 255 := if_pos hl
  rw [ez]
  have ZL : Hid ((List.replicate S (255 : Int)).length ≤ 10000) := (by rw [List.length_replicate]; show S ≤ 10000; omega)
  have ZA : Hid (AllB (List.replicate S 255 ++ hend (hb k n c l e t) (tgo tag) (List.replicate 8 255))) := allB_app (allB_replicate 255 _ (by omega)) EA.out
  generalize List.replicate S (255 : Int) = Z at SF ZL ZA ⊢
  generalize hend (hb k n c l e t) (tgo tag) (List.replicate 8 255) = E at SE EL EA ZA ⊢
  obtain ⟨po, pc, rfl⟩ : ∃ po pc, pv = .slice po 0 pc := (by obtain ⟨ao, cap, e, _⟩ := hp; rw [hl] at e; exact ⟨ao, cap, e⟩)
  clear hk hn hS hl ez hH hp ht
  have t0 : (0 : Nat) = 0 := rfl
  go_enter Tryd.func27, Tryd.ntmps27
  go_wp2_with (first
    | (have q2 := t2; go_at_call 26; refine (SF.out w2).mono ?_; rintro e9 w3 ⟨fv, rfl, Y9, B9⟩; have HB0 : Hid (Vr w3 w.heap.size [.int .i64 g0, .int .i64 g1, .int .i64 (S : Int), .int .i64 g3, .int .i64 g4, .int .i64 g5]) := HB0.out.below B9 (range_lt HB0.out.1 (Nat.succ_pos _)); have HB1 : Hid (Vr w3 w1.heap.size (hv k n c l e t)) := HB1.out.below B9 (range_lt HB1.out.1 (Nat.succ_pos _)); have HP : Hid (Byt w3 fv Z) := Y9; have BB : Hid (Below w.heap.size w w3) := BB.out.trans (B9.mono BB.out.size); clear hb0_0 hb0_1 hb0_2 hb0_3 hb0_4 hb0_5 hb1_0 hb1_1 hb1_2 hb1_3 hb1_4 hb1_5; have hb0_0 := HB0.out.cell 0 _ rfl; have hb0_1 := HB0.out.cell 1 _ rfl; have hb0_2 := HB0.out.cell 2 _ rfl; have hb0_3 := HB0.out.cell 3 _ rfl; have hb0_4 := HB0.out.cell 4 _ rfl; have hb0_5 := HB0.out.cell 5 _ rfl; have hb1_0 := HB1.out.cell 0 _ rfl; have hb1_1 := HB1.out.cell 1 _ rfl; have hb1_2 := HB1.out.cell 2 _ rfl; have hb1_3 := HB1.out.cell 3 _ rfl; have hb1_4 := HB1.out.cell 4 _ rfl; have hb1_5 := HB1.out.cell 5 _ rfl; clear B9 Y9; clear t2; have t3 : (1 : Nat) = 1 := rfl)
    | (have q1 := t1; refine box_lawC _ (hv k n c l e t) rfl ?_; intro w2 X9 B9 l9; have HB0 : Hid (Vr w2 w.heap.size [.int .i64 g0, .int .i64 g1, .int .i64 (S : Int), .int .i64 g3, .int .i64 g4, .int .i64 g5]) := HB0.out.below B9 (range_lt HB0.out.1 (Nat.succ_pos _)); have HB1 : Hid (Vr w2 w1.heap.size (hv k n c l e t)) := X9; have BB : Hid (Below w.heap.size w w2) := BB.out.trans (B9.mono BB.out.size); have hb0_0 := HB0.out.cell 0 _ rfl; have hb0_1 := HB0.out.cell 1 _ rfl; have hb0_2 := HB0.out.cell 2 _ rfl; have hb0_3 := HB0.out.cell 3 _ rfl; have hb0_4 := HB0.out.cell 4 _ rfl; have hb0_5 := HB0.out.cell 5 _ rfl; have hb1_0 := HB1.out.cell 0 _ rfl; have hb1_1 := HB1.out.cell 1 _ rfl; have hb1_2 := HB1.out.cell 2 _ rfl; have hb1_3 := HB1.out.cell 3 _ rfl; have hb1_4 := HB1.out.cell 4 _ rfl; have hb1_5 := HB1.out.cell 5 _ rfl; clear X9 B9 l9; clear t1; have t2 : (1 : Nat) = 1 := rfl)
    | (have q0 := t0; refine box_lawC _ [.int .i64 g0, .int .i64 g1, .int .i64 (S : Int), .int .i64 g3, .int .i64 g4, .int .i64 g5] rfl ?_; intro w1 X9 B9 l9; have HB0 : Hid (Vr w1 w.heap.size [.int .i64 g0, .int .i64 g1, .int .i64 (S : Int), .int .i64 g3, .int .i64 g4, .int .i64 g5]) := X9; have BB : Hid (Below w.heap.size w w1) := B9; clear X9 B9 l9; clear t0; have t1 : (1 : Nat) = 1 := rfl))
  refine wp_region_held_drew (S := fun w' => Below w3.heap.size w3 w') (by kernel_rfl) (Below.refl _ _).drew (fun hS => ?_)
  obtain ⟨x1, hx0⟩ : ∃ x, x = w3.drew := ⟨_, rfl⟩
  rw [← hx0] at hS  ⊢
  clear hx0
  refine take_lawH 1 (some 16) (fv) rfl rfl (by kernel_rfl) (by kernel_rfl) (by kernel_rfl) (fun _ _ _ h => h) (Or.inl ⟨by rfl, fun w' hw' => by rfl⟩) hS ?_
  simp only [Act.put, List.setIfInBounds_toArray, List.set_cons_zero, List.set_cons_succ]
  refine take_lawH 3 (some 18) (.agg (hv k n c l e t).toArray) rfl rfl (by kernel_rfl) (by kernel_rfl) (by kernel_rfl) (fun _ _ _ h => h) (Or.inl ⟨by rfl, fun w' hw' => by exact exec_loadN 57 (.tmp 5) rfl _ rfl _ _ (load_cells rowy_head (HB1.out.below hw' (range_lt HB1.out.1 (Nat.succ_pos _))).1)⟩) hS ?_
  simp only [Act.put, List.setIfInBounds_toArray, List.set_cons_zero, List.set_cons_succ]
  refine take_lawH 4 (some 19) (tv) rfl rfl (by kernel_rfl) (by kernel_rfl) (by kernel_rfl) (fun _ _ _ h => h) (Or.inl ⟨by rfl, fun w' hw' => by rfl⟩) hS ?_
  simp only [Act.put, List.setIfInBounds_toArray, List.set_cons_zero, List.set_cons_succ]
  refine wpAnyH_ready (rs := [0]) (by kernel_rfl) (by simp) ?_
  refine AllReadyH.cons rfl (fun K hK => ?_) AllReadyH.nil
  refine step_nil _ rfl (some 15) rfl rfl ?_
  intro nv x2 O9 hb
  have z0 : w3.heap.size ≤ x1.heap.size := hS.size
  have ON : Hid (Own w3.heap.size x2 nv []) := own_less O9 z0
  have hS : Below w3.heap.size w3 x2 := hS.trans (hb.mono hS.size)
  clear hb O9 z0
  refine hK.out _ _ hS (fun _ => ?_)
  simp only [Act.put, List.setIfInBounds_toArray, List.set_cons_zero, List.set_cons_succ]
  clear hK K
  refine wpAnyH_ready (rs := [2]) (by kernel_rfl) (by simp) ?_
  refine AllReadyH.cons rfl (fun K hK => ?_) AllReadyH.nil
  refine step_pushs _ rfl (some 17) rfl (.tmp 15) (.tmp 16) rfl w3.heap.size hS.size _ _ [] Z rfl rfl ON.out (HP.out.below hS) (by simp) (by have := ZL.out; omega) ?_
  intro pv1 x3 O9 hb
  have ON : Hid (Own w3.heap.size x3 pv1 Z) := (by rw [List.nil_append] at O9; exact O9)
  have hS : Below w3.heap.size w3 x3 := hS.trans hb
  clear hb O9
  refine hK.out _ _ hS (fun _ => ?_)
  simp only [Act.put, List.setIfInBounds_toArray, List.set_cons_zero, List.set_cons_succ]
  clear hK K
  refine wpAnyH_ready (rs := [5]) (by kernel_rfl) (by simp) ?_
  refine AllReadyH.cons rfl (fun K hK => ?_) AllReadyH.nil
  refine step_callW _ (by rfl) (some 20) rfl 40 #[.tmp 18, .tmp 19] #[57, 24] rfl (fun q w' => by rfl) #[.agg (hv k n c l e t).toArray, tv] (by simp only [List.map_toArray, List.map_cons, List.map_nil]; rfl) (fun u w' => Byt w' u E ∧ Below x3.heap.size x3 w') ?_ ?_
  · exact SE.out _ (BB.out.trans (hS.mono BB.out.size))
  rintro ev x4 ⟨y9, hb⟩
  have HE : Hid (Byt x4 ev E) := y9
  have ON : Hid (Own w3.heap.size x4 pv1 Z) := own_low ON.out hb
  have hS : Below w3.heap.size w3 x4 := hS.trans (hb.mono hS.size)
  clear hb y9
  refine hK.out _ _ hS (fun _ => ?_)
  simp only [Act.put, List.setIfInBounds_toArray, List.set_cons_zero, List.set_cons_succ]
  clear hK K
  refine wpAnyH_ready (rs := [6]) (by kernel_rfl) (by simp) ?_
  refine AllReadyH.cons rfl (fun K hK => ?_) AllReadyH.nil
  refine step_pushs _ rfl (some 21) rfl (.tmp 17) (.tmp 20) rfl w3.heap.size hS.size _ _ Z E rfl rfl ON.out HE.out (by have := ZL.out; omega) (by have := EL.out; omega) ?_
  intro rv x5 O9 hb
  have HR : Hid (Own w3.heap.size x5 rv (Z ++ E)) := O9
  have hS : Below w3.heap.size w3 x5 := hS.trans hb
  clear hb O9
  refine hK.out _ _ hS (fun _ => ?_)
  simp only [Act.put, List.setIfInBounds_toArray, List.set_cons_zero, List.set_cons_succ]
  clear hK K
  refine take_lawH 7 (some 8) (rv) rfl rfl (by kernel_rfl) (by kernel_rfl) (by kernel_rfl) (fun _ _ _ h => h) (Or.inl ⟨by rfl, fun w' hw' => by rfl⟩) hS ?_
  simp only [Act.put, List.setIfInBounds_toArray, List.set_cons_zero, List.set_cons_succ]
  refine wpAnyH_done (by kernel_rfl) ?_ _
  have BZ : Hid (Below w.heap.size w _) := BB.out.trans (hS.mono BB.out.size)
  clear hS
  go_wp2
  go_ret
  exact ⟨_, rfl, HR.out.byt ZA.out, BZ.out⟩

set_option maxHeartbeats 4000000 in
theorem rmake_f (g0 g1 g3 g4 g5 : Int) (S : Nat) (k n c l e t : Int) (pv tv : Value) (p tag : List Int) (w : World) (hp : Byt w pv p) (ht : Byt w tv tag) (hH : Hb l e t) (hS : 32 ≤ S ∧ S ≤ 4096) (hk : Rh k n c) (hl : p.length = S) (hn : tag.length = 0 ∨ tag.length = 32) :
    Calls Tryd.prog 27 #[.agg (ints .i64 [g0, g1, (S : Int), g3, g4, g5]), .agg (hv k n c l e t).toArray, pv, tv] w fun x w' => ∃ v, x = .returned v ∧ Byt w' v (plo S p ++ hend (hb k n c l e t) (tgo tag) (List.replicate 8 255)) ∧ Below w.heap.size w w' := by
  have SE : Hid (∀ w0, Below w.heap.size w w0 → Calls Tryd.prog 40 #[.agg (hv k n c l e t).toArray, tv] w0 fun x w' => ∃ v, x = .returned v ∧ Byt w' v (hend (hb k n c l e t) (tgo tag) (List.replicate 8 255)) ∧ Below w0.heap.size w0 w') := fun w0 hb => rend_any k n c l e t tv tag w0 (ht.below hb) hk hH.1 hH.2.1 hH.2.2 hn
  have EL : Hid ((hend (hb k n c l e t) (tgo tag) (List.replicate 8 255)).length = 88) := hend_len (hb_len _ _ _ _ _ _) (tgo_len hn) (by simp)
  have EA : Hid (AllB (hend (hb k n c l e t) (tgo tag) (List.replicate 8 255))) := pa.hend_all hk (pa.tgo_all ht.all) (allB_replicate 255 _ (by omega))
  have ez : plo S p = p := if_neg (by omega)
  rw [ez]
  have ZL : Hid (p.length ≤ 10000) := (by show p.length ≤ 10000; omega)
  have ZA : Hid (AllB (p ++ hend (hb k n c l e t) (tgo tag) (List.replicate 8 255))) := allB_app hp.all EA.out
  generalize hend (hb k n c l e t) (tgo tag) (List.replicate 8 255) = E at SE EL EA ZA ⊢
  obtain ⟨po, pc, rfl⟩ : ∃ po pc, pv = .slice po S pc := (by obtain ⟨ao, cap, e, _⟩ := hp; rw [hl] at e; exact ⟨ao, cap, e⟩)
  have HP : Hid (Byt w (.slice po S pc) p) := hp
  have n0 : ((S : Int) == 0) = false := beq_eq_false_iff_ne.2 (by omega)
  clear hk hn hS hl ez hH hp ht
  have t0 : (0 : Nat) = 0 := rfl
  go_enter Tryd.func27, Tryd.ntmps27
  go_wp2_with (first
    | (have q1 := t1; refine box_lawC _ (hv k n c l e t) rfl ?_; intro w2 X9 B9 l9; have HB0 : Hid (Vr w2 w.heap.size [.int .i64 g0, .int .i64 g1, .int .i64 (S : Int), .int .i64 g3, .int .i64 g4, .int .i64 g5]) := HB0.out.below B9 (range_lt HB0.out.1 (Nat.succ_pos _)); have HB1 : Hid (Vr w2 w1.heap.size (hv k n c l e t)) := X9; have BB : Hid (Below w.heap.size w w2) := BB.out.trans (B9.mono BB.out.size); have hb0_0 := HB0.out.cell 0 _ rfl; have hb0_1 := HB0.out.cell 1 _ rfl; have hb0_2 := HB0.out.cell 2 _ rfl; have hb0_3 := HB0.out.cell 3 _ rfl; have hb0_4 := HB0.out.cell 4 _ rfl; have hb0_5 := HB0.out.cell 5 _ rfl; have hb1_0 := HB1.out.cell 0 _ rfl; have hb1_1 := HB1.out.cell 1 _ rfl; have hb1_2 := HB1.out.cell 2 _ rfl; have hb1_3 := HB1.out.cell 3 _ rfl; have hb1_4 := HB1.out.cell 4 _ rfl; have hb1_5 := HB1.out.cell 5 _ rfl; clear X9 B9 l9; clear t1; have t2 : (1 : Nat) = 1 := rfl)
    | (have q0 := t0; refine box_lawC _ [.int .i64 g0, .int .i64 g1, .int .i64 (S : Int), .int .i64 g3, .int .i64 g4, .int .i64 g5] rfl ?_; intro w1 X9 B9 l9; have HB0 : Hid (Vr w1 w.heap.size [.int .i64 g0, .int .i64 g1, .int .i64 (S : Int), .int .i64 g3, .int .i64 g4, .int .i64 g5]) := X9; have BB : Hid (Below w.heap.size w w1) := B9; clear X9 B9 l9; clear t0; have t1 : (1 : Nat) = 1 := rfl))
  refine wp_region_held_drew (S := fun w' => Below w2.heap.size w2 w') (by kernel_rfl) (Below.refl _ _).drew (fun hS => ?_)
  obtain ⟨x1, hx0⟩ : ∃ x, x = w2.drew := ⟨_, rfl⟩
  rw [← hx0] at hS  ⊢
  clear hx0
  refine take_lawH 1 (some 16) (.slice po S pc) rfl rfl (by kernel_rfl) (by kernel_rfl) (by kernel_rfl) (fun _ _ _ h => h) (Or.inl ⟨by rfl, fun w' hw' => by rfl⟩) hS ?_
  simp only [Act.put, List.setIfInBounds_toArray, List.set_cons_zero, List.set_cons_succ]
  refine take_lawH 3 (some 18) (.agg (hv k n c l e t).toArray) rfl rfl (by kernel_rfl) (by kernel_rfl) (by kernel_rfl) (fun _ _ _ h => h) (Or.inl ⟨by rfl, fun w' hw' => by exact exec_loadN 57 (.tmp 5) rfl _ rfl _ _ (load_cells rowy_head (HB1.out.below hw' (range_lt HB1.out.1 (Nat.succ_pos _))).1)⟩) hS ?_
  simp only [Act.put, List.setIfInBounds_toArray, List.set_cons_zero, List.set_cons_succ]
  refine take_lawH 4 (some 19) (tv) rfl rfl (by kernel_rfl) (by kernel_rfl) (by kernel_rfl) (fun _ _ _ h => h) (Or.inl ⟨by rfl, fun w' hw' => by rfl⟩) hS ?_
  simp only [Act.put, List.setIfInBounds_toArray, List.set_cons_zero, List.set_cons_succ]
  refine wpAnyH_ready (rs := [0]) (by kernel_rfl) (by simp) ?_
  refine AllReadyH.cons rfl (fun K hK => ?_) AllReadyH.nil
  refine step_nil _ rfl (some 15) rfl rfl ?_
  intro nv x2 O9 hb
  have z0 : w2.heap.size ≤ x1.heap.size := hS.size
  have ON : Hid (Own w2.heap.size x2 nv []) := own_less O9 z0
  have hS : Below w2.heap.size w2 x2 := hS.trans (hb.mono hS.size)
  clear hb O9 z0
  refine hK.out _ _ hS (fun _ => ?_)
  simp only [Act.put, List.setIfInBounds_toArray, List.set_cons_zero, List.set_cons_succ]
  clear hK K
  refine wpAnyH_ready (rs := [2]) (by kernel_rfl) (by simp) ?_
  refine AllReadyH.cons rfl (fun K hK => ?_) AllReadyH.nil
  refine step_pushs _ rfl (some 17) rfl (.tmp 15) (.tmp 16) rfl w2.heap.size hS.size _ _ [] p rfl rfl ON.out (HP.out.below (BB.out.trans (hS.mono BB.out.size))) (by simp) (by have := ZL.out; omega) ?_
  intro pv1 x3 O9 hb
  have ON : Hid (Own w2.heap.size x3 pv1 p) := (by rw [List.nil_append] at O9; exact O9)
  have hS : Below w2.heap.size w2 x3 := hS.trans hb
  clear hb O9
  refine hK.out _ _ hS (fun _ => ?_)
  simp only [Act.put, List.setIfInBounds_toArray, List.set_cons_zero, List.set_cons_succ]
  clear hK K
  refine wpAnyH_ready (rs := [5]) (by kernel_rfl) (by simp) ?_
  refine AllReadyH.cons rfl (fun K hK => ?_) AllReadyH.nil
  refine step_callW _ (by rfl) (some 20) rfl 40 #[.tmp 18, .tmp 19] #[57, 24] rfl (fun q w' => by rfl) #[.agg (hv k n c l e t).toArray, tv] (by simp only [List.map_toArray, List.map_cons, List.map_nil]; rfl) (fun u w' => Byt w' u E ∧ Below x3.heap.size x3 w') ?_ ?_
  · exact SE.out _ (BB.out.trans (hS.mono BB.out.size))
  rintro ev x4 ⟨y9, hb⟩
  have HE : Hid (Byt x4 ev E) := y9
  have ON : Hid (Own w2.heap.size x4 pv1 p) := own_low ON.out hb
  have hS : Below w2.heap.size w2 x4 := hS.trans (hb.mono hS.size)
  clear hb y9
  refine hK.out _ _ hS (fun _ => ?_)
  simp only [Act.put, List.setIfInBounds_toArray, List.set_cons_zero, List.set_cons_succ]
  clear hK K
  refine wpAnyH_ready (rs := [6]) (by kernel_rfl) (by simp) ?_
  refine AllReadyH.cons rfl (fun K hK => ?_) AllReadyH.nil
  refine step_pushs _ rfl (some 21) rfl (.tmp 17) (.tmp 20) rfl w2.heap.size hS.size _ _ p E rfl rfl ON.out HE.out (by have := ZL.out; omega) (by have := EL.out; omega) ?_
  intro rv x5 O9 hb
  have HR : Hid (Own w2.heap.size x5 rv (p ++ E)) := O9
  have hS : Below w2.heap.size w2 x5 := hS.trans hb
  clear hb O9
  refine hK.out _ _ hS (fun _ => ?_)
  simp only [Act.put, List.setIfInBounds_toArray, List.set_cons_zero, List.set_cons_succ]
  clear hK K
  refine take_lawH 7 (some 8) (rv) rfl rfl (by kernel_rfl) (by kernel_rfl) (by kernel_rfl) (fun _ _ _ h => h) (Or.inl ⟨by rfl, fun w' hw' => by rfl⟩) hS ?_
  simp only [Act.put, List.setIfInBounds_toArray, List.set_cons_zero, List.set_cons_succ]
  refine wpAnyH_done (by kernel_rfl) ?_ _
  have BZ : Hid (Below w.heap.size w _) := BB.out.trans (hS.mono BB.out.size)
  clear hS
  go_wp2
  go_ret
  exact ⟨_, rfl, HR.out.byt ZA.out, BZ.out⟩
theorem rmake_any (g0 g1 g3 g4 g5 : Int) (S : Nat) (k n c l e t : Int) (pv tv : Value) (p tag : List Int) (w : World) (hp : Byt w pv p) (ht : Byt w tv tag) (hH : Hb l e t) (hS : 32 ≤ S ∧ S ≤ 4096) (hk : Rh k n c) (hl : p.length = 0 ∨ p.length = S) (hn : tag.length = 0 ∨ tag.length = 32) :
    Calls Tryd.prog 27 #[.agg (ints .i64 [g0, g1, (S : Int), g3, g4, g5]), .agg (hv k n c l e t).toArray, pv, tv] w fun x w' => ∃ v, x = .returned v ∧ Byt w' v (plo S p ++ hend (hb k n c l e t) (tgo tag) (List.replicate 8 255)) ∧ Below w.heap.size w w' := by
  rcases hl with hl | hl
  · exact rmake_e g0 g1 g3 g4 g5 S k n c l e t pv tv p tag w hp ht hH hS hk hl hn
  · exact rmake_f g0 g1 g3 g4 g5 S k n c l e t pv tv p tag w hp ht hH hS hk hl hn
end Go.Proofs.YtahfcpdekjdceaaDoor.pa

