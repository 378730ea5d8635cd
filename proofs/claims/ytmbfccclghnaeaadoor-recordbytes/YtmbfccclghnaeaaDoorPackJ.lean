/- Texts put together (a claim holds few files). No claim of its own. -/
import Derived.Test.YtmbfccclghnaeaaDoorPackI
/- What record's Read answers. No claim of its own. -/
namespace Go.Proofs.YtmbfccclghnaeaaDoor.re
open Go.RowKit Go.Proofs.YtmbfccclghnaeaaDoor.fa Go.Proofs.YtmbfccclghnaeaaDoor.he Go.Proofs.YtmbfccclghnaeaaDoor.so
set_option maxRecDepth 20000

/-- the slot that 128 bytes tell; do they tell one? -/
def sw (ys : List Int) : Sl := if ys = List.replicate 128 0 then sl0 else ⟨true, so.gn ys, so.ge' ys, so.gt' ys, so.gw ys⟩
def Sok (ys : List Int) : Prop := ys = List.replicate 128 0 ∨ Ur ys
/-- bytes of a record -/
def Isr (xs : List Int) : Prop := qz xs = 0 ∧ ∀ k, k < 4 → Sok (qw xs k)
theorem qw_len {xs : List Int} (hl : xs.length = 624) (k : Nat) (hk : k < 4) : (qw xs k).length = 128 := by
  unfold qw; rw [sub_len _ _ _ (by omega)]; omega
theorem qw_cut {xs : List Int} (k : Nat) : ((xs.drop 80).take (128 * (k + 1))).drop (128 * k) = qw xs k := by
  unfold qw sub
  rw [List.take_drop, List.drop_drop, show 80 + 128 * (k + 1) = 208 + 128 * k by omega]
theorem ur_not {ys : List Int} (h : Ur ys) : ys ≠ List.replicate 128 0 := fun e => by
  have := h.1
  rw [e] at this
  simp [gb, List.getD] at this
/-- what slot's Read answers, of bytes that tell one -/
theorem sread_yes (v : Value) (ys : List Int) (w : World) (hb : Byt w v ys) (hl : ys.length = 128) (hT : Tbl w) (h : Sok ys) :
    Calls Tryd.prog 38 #[v] w fun x w' => ∃ s : Sc, x = .returned (.tuple #[.agg s.cs.toArray, .int .i64 0]) ∧ (s.d = sw ys ∧ Sb s.n s.e s.t ∧ Byt w' s.v s.xs) ∧ Below w.heap.size w w' := by
  rcases h with rfl | h
  · exact (so.read_free v w hb hT).mono fun _ w' ⟨a, b⟩ => ⟨sc0, a, ⟨(if_pos rfl).symm, ⟨⟨by decide, by decide⟩, ⟨by decide, by decide⟩, by decide, by decide⟩, Byt.nil w'⟩, b⟩
  · have gs := g_sb hl hb.all
    exact (so.read_yes v ys w hb hl hT h).mono fun _ w' ⟨yo, yc, a, b, c⟩ => ⟨⟨true, _, _, _, .slice yo 104 yc, so.gw ys⟩, a, ⟨(if_neg (ur_not h)).symm, gs.1, b⟩, c⟩
theorem sread_no (v : Value) (ys : List Int) (w : World) (hb : Byt w v ys) (hl : ys.length = 128) (hT : Tbl w) (h : ¬ Sok ys) :
    Calls Tryd.prog 38 #[v] w fun x w' => x = .returned (.tuple #[.agg (sv false 0 0 0 (.slice none 0 0)).toArray, .int .i64 1]) ∧ Below w.heap.size w w' :=
  so.read_no v ys w hb hl hT (fun e => h (.inl e)) (fun e => h (.inr e))
section
variable {ops : Array Oper} {o : Oper} {a : Act} {Q : Exit → Act → World → Prop} {K : Act → World → Prop} {E : Prop}
/-- a struct's variable, whose block holds no byte, in a region that draws its order -/
theorem step_newN (w : World) (hg : o.guard = none) (d : Option Tmp) (hd : o.dst = d) (t : TypeId) (hop : o.op = Op.alloc t) (cs : List Value) (hz : (Tryd.prog.info? t).map (fun i => (i.zero, i.size)) = some (some (.agg cs.toArray), cs.length)) (hc : ∀ v ∈ cs, ∀ y, v ≠ .int .u8 y)
    (hK : ∀ w', Vr w' w.heap.size cs → NoB w' w.heap.size → Below w.heap.size w w' → K (a.put d (.pointer (some ⟨w.heap.size, 0, none⟩))) w') : if Region.wanted o (yielded ops a.tmps) = true then Oper.wp Tryd.prog o a w K Q else E := by
  have hw : Region.wanted o (yielded ops a.tmps) = true := by simp [Region.wanted, hg]
  rw [if_pos hw]
  subst hd
  have hz' := (zero_of_info hz).1
  unfold Oper.wp
  simp [execOp, hop, Instr.alloc, hz', newVar, newRow, Value.cells, Result.andThen]
  refine hK _ (Vr.new w t cs) (fun j y e => ?_) ((Below.refl _ _).alloc (Nat.le_refl _) _)
  rw [cell_of_row (w.alloc (.cells cs.toArray t)) w.heap.size j _ t (0, 0) (heap_alloc_last w _)] at e
  have e : cs[j]? = some (.int .u8 y) := by simpa using e
  exact hc _ (List.mem_of_getElem? e) y rfl
/-- a struct is written into its variable, whose block holds no byte -/
theorem step_storeN (w : World) (hg : o.guard = none) (d : Option Tmp) (hd : o.dst = d) (x y : Operand) (t : TypeId) (hop : o.op = Op.store t x y) (c : Nat) (cs0 cs : List Value) (hx : a.eval x = .pointer (some ⟨c, 0, none⟩)) (hy : a.eval y = .agg cs.toArray) (hV : Vr w c cs0) (hN : NoB w c) (hl : cs0.length = cs.length) (hs : (Tryd.prog.info? t).map (·.size) = some cs.length) (h1 : ∀ v ∈ cs, v.oneCell' = true) (hc : ∀ v ∈ cs, ∀ y, v ≠ .int .u8 y)
    (hK : ∀ w', Vr w' c cs → NoB w' c → Below c w w' → (∀ k, k ≠ c → w'.heap[k]? = w.heap[k]?) → K (a.put d undef) w') : if Region.wanted o (yielded ops a.tmps) = true then Oper.wp Tryd.prog o a w K Q else E := by
  have hw : Region.wanted o (yielded ops a.tmps) = true := by simp [Region.wanted, hg]
  rw [if_pos hw]
  subst hd
  have ht : w.there c 0 cs.length := by rw [← hl]; exact hV.2
  refine wp_store_mid t x y hop c 0 cs.toArray hx hy (by simpa using ht) (by simpa using hs) (all_oneCell_toArray h1) ?_
  exact hK _ ⟨World.rangeAt_setCells_same w c 0 cs ht, World.there_setCells ht c 0 _⟩ (hN.set hV hl hc) (below_cells _ (Nat.le_refl _) _ _ (Below.refl _ _)) (fun k hk => heap_cells w c 0 cs k hk)
end

set_option maxHeartbeats 4000000 in
theorem read_len (v : Value) (xs : List Int) (w : World) (hb : Byt w v xs) (hl : xs.length ≠ 624) :
    Calls Tryd.prog 17 #[v] w fun x w' => x = .returned (.tuple #[.agg rv0.toArray, .int .i64 2]) ∧ Below w.heap.size w w' := by
  obtain ⟨bo, bc, rfl⟩ := form hb
  have n8 : ((xs.length : Int) != 624) = true := bne_iff_ne.2 (by omega)
  clear hb hl
  have t0 : (0 : Nat) = 0 := rfl
  go_enter Tryd.func17, Tryd.ntmps17
  go_wp2_with (first
    | (have q2 := t2; (with_reducible refine at_store ?_); refine store_lawC _ rv0 w.heap.size 0 rfl rfl HR.out.2 rowy_record.2 rv0_one ?_; intro w2 E9 R9 T9 B9; have K9 : ∀ k, k ≠ w.heap.size → w2.heap[k]? = w1.heap[k]? := (by rw [E9.out]; exact fun k hk => heap_cells _ _ _ _ k hk); have NB_HR : Hid (NoB w2 w.heap.size) := (by rw [E9.out]; exact NB_HR.out.set HR.out rfl rv0_nob); have HR : Hid (Vr w2 w.heap.size rv0) := ⟨R9, T9⟩; have BB : Hid (Below w.heap.size w w2) := BB.out.trans (B9.mono LE_HR.out); clear E9 R9 T9 B9 K9; clear t2; have t3 : (1 : Nat) = 1 := rfl)
    | (have q1 := t1; refine build_law _ rfl 28 _ rfl (.agg rv0.toArray) (by kernel_rfl) ?_; clear t1; have t2 : (1 : Nat) = 1 := rfl)
    | (have q0 := t0; (with_reducible refine at_alloc ?_); refine new_lawN _ rv0 zero_record rv0_nob ?_; intro w1 X9 N9 B9; have LE_HR : Hid (w.heap.size ≤ w.heap.size) := Nat.le_refl _; have HR : Hid (Vr w1 w.heap.size rv0) := X9; have NB_HR : Hid (NoB w1 w.heap.size) := N9; have BB : Hid (Below w.heap.size w w1) := B9; clear X9 N9 B9; clear t0; have t1 : (1 : Nat) = 1 := rfl))
  exact bodyPost_ret (v := .tuple #[.agg rv0.toArray, .int .i64 2]) (results_cv rfl _ _ w.heap.size _ _ rowy_record rfl rfl HR.out.1) rfl ⟨rfl, BB.out⟩

set_option maxHeartbeats 4000000 in
theorem read_z (v : Value) (xs : List Int) (w : World) (hb : Byt w v xs) (hl : xs.length = 624) (hT2 : Tb2 w) (hz : qz xs ≠ 0) :
    Calls Tryd.prog 17 #[v] w fun x w' => x = .returned (.tuple #[.agg rv0.toArray, .int .i64 1]) ∧ Below w.heap.size w w' := by
  have SU : Hid (∀ w0, Below w.heap.size w w0 → Calls Tryd.prog 36 #[v] w0 fun x w' => ∃ v0 v1 v2 v3 v4 v5 r, x = .returned (.tuple #[.agg (pv v0 v1 v2 v3 v4 v5).toArray, r]) ∧ (Byt w' v0 (sub xs 0 8) ∧ Byt w' v1 (sub xs 8 16) ∧ Byt w' v2 (sub xs 16 32) ∧ Byt w' v3 (sub xs 32 40) ∧ Byt w' v4 (sub xs 40 48) ∧ Byt w' v5 (sub xs 48 80) ∧ Byt w' r (xs.drop 80)) ∧ Below w0.heap.size w0 w') := fun w0 q => cut_any v xs w0 (hb.below q) hl (hT2.below q hT2.lt)
  obtain ⟨Z, hZ⟩ : ∃ z, num (last8 (sub xs 40 48)) = z := ⟨_, rfl⟩
  have ZN : Hid (num (last8 (sub xs 40 48)) = Z) := hZ
  have nz : (Z != 0) = true := bne_iff_ne.2 (by rw [← hZ]; exact hz)
  obtain ⟨bo, bc, rfl⟩ := byt_form hb hl
  clear hb hl hT2 hz hZ
  have t0 : (0 : Nat) = 0 := rfl
  go_enter Tryd.func17, Tryd.ntmps17
  go_wp2_with (first
    | (have q6 := t6; (with_reducible refine at_store ?_); refine store_lawC _ rv0 w.heap.size 0 rfl rfl HR.out.2 rowy_record.2 rv0_one ?_; intro w6 E9 R9 T9 B9; have K9 : ∀ k, k ≠ w.heap.size → w6.heap[k]? = w4.heap[k]? := (by rw [E9.out]; exact fun k hk => heap_cells _ _ _ _ k hk); have Y0 : Hid (Byt w6 v0 (sub xs 0 8)) := byt_nob Y0.out NB_HR.out K9; have Y1 : Hid (Byt w6 v1 (sub xs 8 16)) := byt_nob Y1.out NB_HR.out K9; have Y2 : Hid (Byt w6 v2 (sub xs 16 32)) := byt_nob Y2.out NB_HR.out K9; have Y3 : Hid (Byt w6 v3 (sub xs 32 40)) := byt_nob Y3.out NB_HR.out K9; have Y4 : Hid (Byt w6 v4 (sub xs 40 48)) := byt_nob Y4.out NB_HR.out K9; have Y5 : Hid (Byt w6 v5 (sub xs 48 80)) := byt_nob Y5.out NB_HR.out K9; have YR : Hid (Byt w6 r9 (xs.drop 80)) := byt_nob YR.out NB_HR.out K9; have NB_HP : Hid (NoB w6 w2.heap.size) := NB_HP.out.heap (K9 _ (Nat.ne_of_gt LT_HR_HP.out)); have HP : Hid (Vr w6 w2.heap.size (pv v0 v1 v2 v3 v4 v5)) := HP.out.heap (K9 _ (Nat.ne_of_gt LT_HR_HP.out)); have NB_HR : Hid (NoB w6 w.heap.size) := (by rw [E9.out]; exact NB_HR.out.set HR.out rfl rv0_nob); have HR : Hid (Vr w6 w.heap.size rv0) := ⟨R9, T9⟩; have BB : Hid (Below w.heap.size w w6) := BB.out.trans (B9.mono LE_HR.out); clear hp_0 hp_1 hp_2 hp_3 hp_4 hp_5; have hp_0 := HP.out.cell 0 _ rfl; have hp_1 := HP.out.cell 1 _ rfl; have hp_2 := HP.out.cell 2 _ rfl; have hp_3 := HP.out.cell 3 _ rfl; have hp_4 := HP.out.cell 4 _ rfl; have hp_5 := HP.out.cell 5 _ rfl; clear E9 R9 T9 B9 K9; clear t6; have t7 : (1 : Nat) = 1 := rfl)
    | (have q5 := t5; refine build_law _ rfl 28 _ rfl (.agg rv0.toArray) (by kernel_rfl) ?_; clear t5; have t6 : (1 : Nat) = 1 := rfl)
    | (have q4 := t4; go_at_call 37; refine (num_any _ _ w4 Y4.out).mono ?_; rintro e9 w9 ⟨rfl, hw⟩; obtain rfl := hw.symm; rw [ZN.out]; clear t4; have t5 : (1 : Nat) = 1 := rfl)
    | (have q3 := t3; (with_reducible refine at_store ?_); refine store_lawC _ (pv v0 v1 v2 v3 v4 v5) w2.heap.size 0 rfl rfl HP.out.2 rowy_parts.2 (pv_one _ _ _ _ _ _ (slc_byt Y0.out) (slc_byt Y1.out) (slc_byt Y2.out) (slc_byt Y3.out) (slc_byt Y4.out) (slc_byt Y5.out)) ?_; intro w4 E9 R9 T9 B9; have K9 : ∀ k, k ≠ w2.heap.size → w4.heap[k]? = w3.heap[k]? := (by rw [E9.out]; exact fun k hk => heap_cells _ _ _ _ k hk); have NB_HR : Hid (NoB w4 w.heap.size) := NB_HR.out.heap (K9 _ (Nat.ne_of_lt LT_HR_HP.out)); have HR : Hid (Vr w4 w.heap.size rv0) := HR.out.heap (K9 _ (Nat.ne_of_lt LT_HR_HP.out)); have Y0 : Hid (Byt w4 v0 (sub xs 0 8)) := byt_nob Y0.out NB_HP.out K9; have Y1 : Hid (Byt w4 v1 (sub xs 8 16)) := byt_nob Y1.out NB_HP.out K9; have Y2 : Hid (Byt w4 v2 (sub xs 16 32)) := byt_nob Y2.out NB_HP.out K9; have Y3 : Hid (Byt w4 v3 (sub xs 32 40)) := byt_nob Y3.out NB_HP.out K9; have Y4 : Hid (Byt w4 v4 (sub xs 40 48)) := byt_nob Y4.out NB_HP.out K9; have Y5 : Hid (Byt w4 v5 (sub xs 48 80)) := byt_nob Y5.out NB_HP.out K9; have YR : Hid (Byt w4 r9 (xs.drop 80)) := byt_nob YR.out NB_HP.out K9; have NB_HP : Hid (NoB w4 w2.heap.size) := (by rw [E9.out]; exact NB_HP.out.set HP.out rfl (pv_nob _ _ _ _ _ _ (slc_byt Y0.out) (slc_byt Y1.out) (slc_byt Y2.out) (slc_byt Y3.out) (slc_byt Y4.out) (slc_byt Y5.out))); have HP : Hid (Vr w4 w2.heap.size (pv v0 v1 v2 v3 v4 v5)) := ⟨R9, T9⟩; have BB : Hid (Below w.heap.size w w4) := BB.out.trans (B9.mono LE_HP.out); have hp_0 := HP.out.cell 0 _ rfl; have hp_1 := HP.out.cell 1 _ rfl; have hp_2 := HP.out.cell 2 _ rfl; have hp_3 := HP.out.cell 3 _ rfl; have hp_4 := HP.out.cell 4 _ rfl; have hp_5 := HP.out.cell 5 _ rfl; clear E9 R9 T9 B9 K9; clear t3; have t4 : (1 : Nat) = 1 := rfl)
    | (have q2 := t2; (with_reducible refine at_alloc ?_); refine new_lawN _ (pv nl nl nl nl nl nl) zero_parts (pv_nob _ _ _ _ _ _ nl_slc nl_slc nl_slc nl_slc nl_slc nl_slc) ?_; intro w3 X9 N9 B9; have LT_HR_HP : Hid (w.heap.size < w2.heap.size) := range_lt HR.out.1 (Nat.succ_pos _); have LE_HP : Hid (w.heap.size ≤ w2.heap.size) := BB.out.size; have NB_HR : Hid (NoB w3 w.heap.size) := NB_HR.out.heap (B9.block _ (range_lt HR.out.1 (Nat.succ_pos _))); have HR : Hid (Vr w3 w.heap.size rv0) := HR.out.below B9 (range_lt HR.out.1 (Nat.succ_pos _)); have Y0 : Hid (Byt w3 v0 (sub xs 0 8)) := Y0.out.below B9; have Y1 : Hid (Byt w3 v1 (sub xs 8 16)) := Y1.out.below B9; have Y2 : Hid (Byt w3 v2 (sub xs 16 32)) := Y2.out.below B9; have Y3 : Hid (Byt w3 v3 (sub xs 32 40)) := Y3.out.below B9; have Y4 : Hid (Byt w3 v4 (sub xs 40 48)) := Y4.out.below B9; have Y5 : Hid (Byt w3 v5 (sub xs 48 80)) := Y5.out.below B9; have YR : Hid (Byt w3 r9 (xs.drop 80)) := YR.out.below B9; have HP : Hid (Vr w3 w2.heap.size (pv nl nl nl nl nl nl)) := X9; have NB_HP : Hid (NoB w3 w2.heap.size) := N9; have BB : Hid (Below w.heap.size w w3) := BB.out.trans (B9.mono BB.out.size); clear X9 N9 B9; clear t2; have t3 : (1 : Nat) = 1 := rfl)
    | (have q1 := t1; go_at_call 36; refine (SU.out w1 BB.out).mono ?_; rintro e9 w2 ⟨v0, v1, v2, v3, v4, v5, r9, rfl, ⟨y0, y1, y2, y3, y4, y5, y6⟩, B9⟩; have NB_HR : Hid (NoB w2 w.heap.size) := NB_HR.out.heap (B9.block _ (range_lt HR.out.1 (Nat.succ_pos _))); have HR : Hid (Vr w2 w.heap.size rv0) := HR.out.below B9 (range_lt HR.out.1 (Nat.succ_pos _)); have Y0 : Hid (Byt w2 v0 (sub xs 0 8)) := y0; have Y1 : Hid (Byt w2 v1 (sub xs 8 16)) := y1; have Y2 : Hid (Byt w2 v2 (sub xs 16 32)) := y2; have Y3 : Hid (Byt w2 v3 (sub xs 32 40)) := y3; have Y4 : Hid (Byt w2 v4 (sub xs 40 48)) := y4; have Y5 : Hid (Byt w2 v5 (sub xs 48 80)) := y5; have YR : Hid (Byt w2 r9 (xs.drop 80)) := y6; have BB : Hid (Below w.heap.size w w2) := BB.out.trans (B9.mono BB.out.size); clear B9 y0 y1 y2 y3 y4 y5 y6; clear t1; have t2 : (1 : Nat) = 1 := rfl)
    | (have q0 := t0; (with_reducible refine at_alloc ?_); refine new_lawN _ rv0 zero_record rv0_nob ?_; intro w1 X9 N9 B9; have LE_HR : Hid (w.heap.size ≤ w.heap.size) := Nat.le_refl _; have HR : Hid (Vr w1 w.heap.size rv0) := X9; have NB_HR : Hid (NoB w1 w.heap.size) := N9; have BB : Hid (Below w.heap.size w w1) := B9; clear X9 N9 B9; clear t0; have t1 : (1 : Nat) = 1 := rfl))
  exact bodyPost_ret (v := .tuple #[.agg rv0.toArray, .int .i64 1]) (results_cv rfl _ _ w.heap.size _ _ rowy_record rfl rfl HR.out.1) rfl ⟨rfl, BB.out⟩

set_option maxHeartbeats 8000000 in
theorem read_all (v : Value) (xs : List Int) (w : World) (hb : Byt w v xs) (hl : xs.length = 624) (hT : Tbl w) (hT2 : Tb2 w) (hz : qz xs = 0) (hs : ∀ k, k < 4 → Sok (qw xs k)) :
    Calls Tryd.prog 17 #[v] w fun x w' => ∃ a c T, x = .returned (.tuple #[.agg (rv (qg xs) (qp xs) a (qb xs) c T).toArray, .int .i64 0]) ∧ Rin w' (qg xs) (qp xs) (qb xs) a c (re.qs xs) (re.qc xs) T ∧ (∀ k, k < 4 → (T k).d = sw (qw xs k)) ∧ Below w.heap.size w w' := by
  have HL : Hid (xs.length = 624) := hl
  have SU : Hid (∀ w0, Below w.heap.size w w0 → Calls Tryd.prog 36 #[v] w0 fun x w' => ∃ v0 v1 v2 v3 v4 v5 r, x = .returned (.tuple #[.agg (pv v0 v1 v2 v3 v4 v5).toArray, r]) ∧ (Byt w' v0 (sub xs 0 8) ∧ Byt w' v1 (sub xs 8 16) ∧ Byt w' v2 (sub xs 16 32) ∧ Byt w' v3 (sub xs 32 40) ∧ Byt w' v4 (sub xs 40 48) ∧ Byt w' v5 (sub xs 48 80) ∧ Byt w' r (xs.drop 80)) ∧ Below w0.heap.size w0 w') := fun w0 q => cut_any v xs w0 (hb.below q) hl (hT2.below q hT2.lt)
  have ZN : Hid (num (last8 (sub xs 40 48)) = 0) := hz
  have SD : Hid (∀ k, k < 4 → ∀ w0 z, Sok (qw xs k) → Below w.heap.size w w0 → Byt w0 z (qw xs k) → Calls Tryd.prog 38 #[z] w0 fun x w' => ∃ s : Sc, x = .returned (.tuple #[.agg s.cs.toArray, .int .i64 0]) ∧ (s.d = sw (qw xs k) ∧ Sb s.n s.e s.t ∧ Byt w' s.v s.xs) ∧ Below w0.heap.size w0 w') := fun k hk w0 z hs q hz => sread_yes z _ w0 hz (qw_len hl k hk) (hT.below q hT.lt) hs
  have HS0 : Hid (∀ k, k < 4 → Sok (qw xs k)) := hs
  have UU : Hid (U64 (qg xs) ∧ U64 (qp xs) ∧ U64 (qb xs)) := ⟨(be_num8 (xs := sub xs 0 8) (by rw [sub_len _ _ _ (by omega)]) (allB_sub hb.all 0 8)).2, (be_num8 (xs := sub xs 8 16) (by rw [sub_len _ _ _ (by omega)]) (allB_sub hb.all 8 16)).2, (be_num8 (xs := sub xs 32 40) (by rw [sub_len _ _ _ (by omega)]) (allB_sub hb.all 32 40)).2⟩
  have N0 : Hid (qg xs = num (last8 (sub xs 0 8))) := rfl
  have N1 : Hid (qp xs = num (last8 (sub xs 8 16))) := rfl
  have N3 : Hid (qb xs = num (last8 (sub xs 32 40))) := rfl
  have LN2 : Hid ((sub xs 16 32).length = 16) := sub_len xs 16 32 (by omega)
  have LN5 : Hid ((sub xs 48 80).length = 32) := sub_len xs 48 80 (by omega)
  generalize qg xs = G at N0 UU ⊢
  generalize qp xs = P at N1 UU ⊢
  generalize qb xs = B at N3 UU ⊢
  obtain ⟨bo, bc, rfl⟩ := byt_form hb hl
  clear hb hl hT hT2 hz hs
  have t0 : (0 : Nat) = 0 := rfl
  go_enter Tryd.func17, Tryd.ntmps17
  go_wp2_with (first
    | (have q4 := t4; go_at_call 37; refine (num_any _ _ w4 Y4.out).mono ?_; rintro e9 w9 ⟨rfl, hw⟩; obtain rfl := hw.symm; rw [ZN.out]; clear t4; have t5 : (1 : Nat) = 1 := rfl)
    | (have q3 := t3; (with_reducible refine at_store ?_); refine store_lawC _ (pv v0 v1 v2 v3 v4 v5) w2.heap.size 0 rfl rfl HP.out.2 rowy_parts.2 (pv_one _ _ _ _ _ _ (slc_byt Y0.out) (slc_byt Y1.out) (slc_byt Y2.out) (slc_byt Y3.out) (slc_byt Y4.out) (slc_byt Y5.out)) ?_; intro w4 E9 R9 T9 B9; have K9 : ∀ k, k ≠ w2.heap.size → w4.heap[k]? = w3.heap[k]? := (by rw [E9.out]; exact fun k hk => heap_cells _ _ _ _ k hk); have NB_HR : Hid (NoB w4 w.heap.size) := NB_HR.out.heap (K9 _ (Nat.ne_of_lt LT_HR_HP.out)); have HR : Hid (Vr w4 w.heap.size rv0) := HR.out.heap (K9 _ (Nat.ne_of_lt LT_HR_HP.out)); have Y0 : Hid (Byt w4 v0 (sub xs 0 8)) := byt_nob Y0.out NB_HP.out K9; have Y1 : Hid (Byt w4 v1 (sub xs 8 16)) := byt_nob Y1.out NB_HP.out K9; have Y2 : Hid (Byt w4 v2 (sub xs 16 32)) := byt_nob Y2.out NB_HP.out K9; have Y3 : Hid (Byt w4 v3 (sub xs 32 40)) := byt_nob Y3.out NB_HP.out K9; have Y4 : Hid (Byt w4 v4 (sub xs 40 48)) := byt_nob Y4.out NB_HP.out K9; have Y5 : Hid (Byt w4 v5 (sub xs 48 80)) := byt_nob Y5.out NB_HP.out K9; have YR : Hid (Byt w4 r9 (xs.drop 80)) := byt_nob YR.out NB_HP.out K9; have NB_HP : Hid (NoB w4 w2.heap.size) := (by rw [E9.out]; exact NB_HP.out.set HP.out rfl (pv_nob _ _ _ _ _ _ (slc_byt Y0.out) (slc_byt Y1.out) (slc_byt Y2.out) (slc_byt Y3.out) (slc_byt Y4.out) (slc_byt Y5.out))); have HP : Hid (Vr w4 w2.heap.size (pv v0 v1 v2 v3 v4 v5)) := ⟨R9, T9⟩; have BB : Hid (Below w.heap.size w w4) := BB.out.trans (B9.mono LE_HP.out); have hp_0 := HP.out.cell 0 _ rfl; have hp_1 := HP.out.cell 1 _ rfl; have hp_2 := HP.out.cell 2 _ rfl; have hp_3 := HP.out.cell 3 _ rfl; have hp_4 := HP.out.cell 4 _ rfl; have hp_5 := HP.out.cell 5 _ rfl; clear E9 R9 T9 B9 K9; clear t3; have t4 : (1 : Nat) = 1 := rfl)
    | (have q2 := t2; (with_reducible refine at_alloc ?_); refine new_lawN _ (pv nl nl nl nl nl nl) zero_parts (pv_nob _ _ _ _ _ _ nl_slc nl_slc nl_slc nl_slc nl_slc nl_slc) ?_; intro w3 X9 N9 B9; have LT_HR_HP : Hid (w.heap.size < w2.heap.size) := range_lt HR.out.1 (Nat.succ_pos _); have LE_HP : Hid (w.heap.size ≤ w2.heap.size) := BB.out.size; have NB_HR : Hid (NoB w3 w.heap.size) := NB_HR.out.heap (B9.block _ (range_lt HR.out.1 (Nat.succ_pos _))); have HR : Hid (Vr w3 w.heap.size rv0) := HR.out.below B9 (range_lt HR.out.1 (Nat.succ_pos _)); have Y0 : Hid (Byt w3 v0 (sub xs 0 8)) := Y0.out.below B9; have Y1 : Hid (Byt w3 v1 (sub xs 8 16)) := Y1.out.below B9; have Y2 : Hid (Byt w3 v2 (sub xs 16 32)) := Y2.out.below B9; have Y3 : Hid (Byt w3 v3 (sub xs 32 40)) := Y3.out.below B9; have Y4 : Hid (Byt w3 v4 (sub xs 40 48)) := Y4.out.below B9; have Y5 : Hid (Byt w3 v5 (sub xs 48 80)) := Y5.out.below B9; have YR : Hid (Byt w3 r9 (xs.drop 80)) := YR.out.below B9; have HP : Hid (Vr w3 w2.heap.size (pv nl nl nl nl nl nl)) := X9; have NB_HP : Hid (NoB w3 w2.heap.size) := N9; have BB : Hid (Below w.heap.size w w3) := BB.out.trans (B9.mono BB.out.size); clear X9 N9 B9; clear t2; have t3 : (1 : Nat) = 1 := rfl)
    | (have q1 := t1; go_at_call 36; refine (SU.out w1 BB.out).mono ?_; rintro e9 w2 ⟨v0, v1, v2, v3, v4, v5, r9, rfl, ⟨y0, y1, y2, y3, y4, y5, y6⟩, B9⟩; have NB_HR : Hid (NoB w2 w.heap.size) := NB_HR.out.heap (B9.block _ (range_lt HR.out.1 (Nat.succ_pos _))); have HR : Hid (Vr w2 w.heap.size rv0) := HR.out.below B9 (range_lt HR.out.1 (Nat.succ_pos _)); have Y0 : Hid (Byt w2 v0 (sub xs 0 8)) := y0; have Y1 : Hid (Byt w2 v1 (sub xs 8 16)) := y1; have Y2 : Hid (Byt w2 v2 (sub xs 16 32)) := y2; have Y3 : Hid (Byt w2 v3 (sub xs 32 40)) := y3; have Y4 : Hid (Byt w2 v4 (sub xs 40 48)) := y4; have Y5 : Hid (Byt w2 v5 (sub xs 48 80)) := y5; have YR : Hid (Byt w2 r9 (xs.drop 80)) := y6; have BB : Hid (Below w.heap.size w w2) := BB.out.trans (B9.mono BB.out.size); clear B9 y0 y1 y2 y3 y4 y5 y6; clear t1; have t2 : (1 : Nat) = 1 := rfl)
    | (have q0 := t0; (with_reducible refine at_alloc ?_); refine new_lawN _ rv0 zero_record rv0_nob ?_; intro w1 X9 N9 B9; have LE_HR : Hid (w.heap.size ≤ w.heap.size) := Nat.le_refl _; have HR : Hid (Vr w1 w.heap.size rv0) := X9; have NB_HR : Hid (NoB w1 w.heap.size) := N9; have BB : Hid (Below w.heap.size w w1) := B9; clear X9 N9 B9; clear t0; have t1 : (1 : Nat) = 1 := rfl))
  clear hp_0 hp_1 hp_2 hp_3 hp_4 hp_5
  go_cut [6] (fun r6 wc => ∃ (gv : Nat) (so : Option Addr) (sc : Nat) (ko : Option Addr) (kc : Nat), r6 = .pointer (some ⟨gv, 0, none⟩) ∧ Vr wc gv (rv G P (.slice so 16 sc) B (.slice ko 32 kc) z4) ∧ NoB wc gv ∧ Byt wc (.slice so 16 sc) (sub xs 16 32) ∧ Byt wc (.slice ko 32 kc) (sub xs 48 80) ∧ w4.heap.size ≤ gv ∧ Below w4.heap.size w4 wc)
  case first =>
    refine wp_region_held_drew (S := fun w' => Below w4.heap.size w4 w') (by kernel_rfl) (Below.refl _ _).drew (fun hS => ?_)
    obtain ⟨x1, hx0⟩ : ∃ x, x = w4.drew := ⟨_, rfl⟩
    rw [← hx0] at hS  ⊢
    clear hx0
    refine take_lawH 0 (some 24) (.pointer (some ⟨w2.heap.size, 0, none⟩)) rfl rfl (by kernel_rfl) (by kernel_rfl) (by kernel_rfl) (fun _ _ _ h => h) (Or.inl ⟨by rfl, fun w' hw' => by go_simp⟩) hS ?_
    simp only [Act.put, List.setIfInBounds_toArray, List.set_cons_zero, List.set_cons_succ]
    refine take_lawH 1 (some 25) (v0) rfl rfl (by kernel_rfl) (by kernel_rfl) (by kernel_rfl) (fun _ _ _ h => h) (Or.inl ⟨by rfl, fun w' hw' => by exact exec_loadN 23 (.tmp 24) rfl _ rfl _ _ (load_one one_bytes ((HP.out.below hw' (range_lt HP.out.1 (Nat.succ_pos _))).cell 0 _ rfl))⟩) hS ?_
    simp only [Act.put, List.setIfInBounds_toArray, List.set_cons_zero, List.set_cons_succ]
    refine take_lawH 3 (some 27) (.pointer (some ⟨w2.heap.size, 1, none⟩)) rfl rfl (by kernel_rfl) (by kernel_rfl) (by kernel_rfl) (fun _ _ _ h => h) (Or.inl ⟨by rfl, fun w' hw' => by go_simp⟩) hS ?_
    simp only [Act.put, List.setIfInBounds_toArray, List.set_cons_zero, List.set_cons_succ]
    refine take_lawH 4 (some 28) (v1) rfl rfl (by kernel_rfl) (by kernel_rfl) (by kernel_rfl) (fun _ _ _ h => h) (Or.inl ⟨by rfl, fun w' hw' => by exact exec_loadN 23 (.tmp 27) rfl _ rfl _ _ (load_one one_bytes ((HP.out.below hw' (range_lt HP.out.1 (Nat.succ_pos _))).cell 1 _ rfl))⟩) hS ?_
    simp only [Act.put, List.setIfInBounds_toArray, List.set_cons_zero, List.set_cons_succ]
    refine take_lawH 6 (some 30) (.pointer (some ⟨w2.heap.size, 2, none⟩)) rfl rfl (by kernel_rfl) (by kernel_rfl) (by kernel_rfl) (fun _ _ _ h => h) (Or.inl ⟨by rfl, fun w' hw' => by go_simp⟩) hS ?_
    simp only [Act.put, List.setIfInBounds_toArray, List.set_cons_zero, List.set_cons_succ]
    refine take_lawH 7 (some 31) (v2) rfl rfl (by kernel_rfl) (by kernel_rfl) (by kernel_rfl) (fun _ _ _ h => h) (Or.inl ⟨by rfl, fun w' hw' => by exact exec_loadN 23 (.tmp 30) rfl _ rfl _ _ (load_one one_bytes ((HP.out.below hw' (range_lt HP.out.1 (Nat.succ_pos _))).cell 2 _ rfl))⟩) hS ?_
    simp only [Act.put, List.setIfInBounds_toArray, List.set_cons_zero, List.set_cons_succ]
    refine take_lawH 9 (some 33) (.pointer (some ⟨w2.heap.size, 3, none⟩)) rfl rfl (by kernel_rfl) (by kernel_rfl) (by kernel_rfl) (fun _ _ _ h => h) (Or.inl ⟨by rfl, fun w' hw' => by go_simp⟩) hS ?_
    simp only [Act.put, List.setIfInBounds_toArray, List.set_cons_zero, List.set_cons_succ]
    refine take_lawH 10 (some 34) (v3) rfl rfl (by kernel_rfl) (by kernel_rfl) (by kernel_rfl) (fun _ _ _ h => h) (Or.inl ⟨by rfl, fun w' hw' => by exact exec_loadN 23 (.tmp 33) rfl _ rfl _ _ (load_one one_bytes ((HP.out.below hw' (range_lt HP.out.1 (Nat.succ_pos _))).cell 3 _ rfl))⟩) hS ?_
    simp only [Act.put, List.setIfInBounds_toArray, List.set_cons_zero, List.set_cons_succ]
    refine take_lawH 12 (some 36) (.pointer (some ⟨w2.heap.size, 5, none⟩)) rfl rfl (by kernel_rfl) (by kernel_rfl) (by kernel_rfl) (fun _ _ _ h => h) (Or.inl ⟨by rfl, fun w' hw' => by go_simp⟩) hS ?_
    simp only [Act.put, List.setIfInBounds_toArray, List.set_cons_zero, List.set_cons_succ]
    refine take_lawH 13 (some 37) (v5) rfl rfl (by kernel_rfl) (by kernel_rfl) (by kernel_rfl) (fun _ _ _ h => h) (Or.inl ⟨by rfl, fun w' hw' => by exact exec_loadN 23 (.tmp 36) rfl _ rfl _ _ (load_one one_bytes ((HP.out.below hw' (range_lt HP.out.1 (Nat.succ_pos _))).cell 5 _ rfl))⟩) hS ?_
    simp only [Act.put, List.setIfInBounds_toArray, List.set_cons_zero, List.set_cons_succ]
    refine wpAnyH_ready (rs := [2, 16]) (by kernel_rfl) (by simp) ?_
    refine AllReadyH.cons rfl (fun K hK => ?_) (AllReadyH.cons rfl (fun K hK => ?_) AllReadyH.nil)
    · refine he.step_callW _ (by rfl) (some 26) rfl 37 #[.tmp 25] #[23] rfl (fun q w' => by rfl) #[v0] (by simp only [List.map_toArray, List.map_cons, List.map_nil]; rfl) (fun z9 w' => z9 = .int .u64 G ∧ Below x1.heap.size x1 w') ?_ ?_
      · exact (num_any _ _ x1 (Y0.out.below hS)).mono fun e w' ⟨h1, h2⟩ => ⟨_, h1, N0.out.symm ▸ rfl, h2 ▸ Below.refl _ _⟩
      rintro _ x2 ⟨rfl, hb⟩
      have hS : Below w4.heap.size w4 x2 := hS.trans (hb.mono hS.size)
      clear hb
      refine hK.out _ _ hS (fun _ => ?_)
      simp only [Act.put, List.setIfInBounds_toArray, List.set_cons_zero, List.set_cons_succ]
      clear hK K
      refine wpAnyH_ready (rs := [5, 16]) (by kernel_rfl) (by simp) ?_
      refine AllReadyH.cons rfl (fun K hK => ?_) (AllReadyH.cons rfl (fun K hK => ?_) AllReadyH.nil)
      · refine he.step_callW _ (by rfl) (some 29) rfl 37 #[.tmp 28] #[23] rfl (fun q w' => by rfl) #[v1] (by simp only [List.map_toArray, List.map_cons, List.map_nil]; rfl) (fun z9 w' => z9 = .int .u64 P ∧ Below x2.heap.size x2 w') ?_ ?_
        · exact (num_any _ _ x2 (Y1.out.below hS)).mono fun e w' ⟨h1, h2⟩ => ⟨_, h1, N1.out.symm ▸ rfl, h2 ▸ Below.refl _ _⟩
        rintro _ x3 ⟨rfl, hb⟩
        have hS : Below w4.heap.size w4 x3 := hS.trans (hb.mono hS.size)
        clear hb
        refine hK.out _ _ hS (fun _ => ?_)
        simp only [Act.put, List.setIfInBounds_toArray, List.set_cons_zero, List.set_cons_succ]
        clear hK K
        refine wpAnyH_ready (rs := [8, 16]) (by kernel_rfl) (by simp) ?_
        refine AllReadyH.cons rfl (fun K hK => ?_) (AllReadyH.cons rfl (fun K hK => ?_) AllReadyH.nil)
        · refine he.step_callW _ (by rfl) (some 32) rfl 31 #[.tmp 31] #[23] rfl (fun q w' => by rfl) #[v2] (by simp only [List.map_toArray, List.map_cons, List.map_nil]; rfl) (fun z9 w' => (∃ yo yc, z9 = .slice yo 16 yc ∧ Byt w' (.slice yo 16 yc) (sub xs 16 32)) ∧ Below x3.heap.size x3 w') ?_ ?_
          · exact (bclone_any v2 _ x3 (Y2.out.below hS) (by rw [LN2.out]; omega)).mono fun e w' ⟨z, h1, h2, h3⟩ => (by obtain ⟨yo, yc, rfl⟩ := byt_form h2.1 LN2.out; exact ⟨_, h1, ⟨yo, yc, rfl, h2.1⟩, h3⟩)
          rintro _ x4 ⟨⟨so, sc, rfl, y9⟩, hb⟩
          have YS : Hid (Byt x4 (.slice so 16 sc) (sub xs 16 32)) := y9
          clear y9
          have hS : Below w4.heap.size w4 x4 := hS.trans (hb.mono hS.size)
          clear hb
          refine hK.out _ _ hS (fun _ => ?_)
          simp only [Act.put, List.setIfInBounds_toArray, List.set_cons_zero, List.set_cons_succ]
          clear hK K
          refine wpAnyH_ready (rs := [11, 16]) (by kernel_rfl) (by simp) ?_
          refine AllReadyH.cons rfl (fun K hK => ?_) (AllReadyH.cons rfl (fun K hK => ?_) AllReadyH.nil)
          · refine he.step_callW _ (by rfl) (some 35) rfl 37 #[.tmp 34] #[23] rfl (fun q w' => by rfl) #[v3] (by simp only [List.map_toArray, List.map_cons, List.map_nil]; rfl) (fun z9 w' => z9 = .int .u64 B ∧ Below x4.heap.size x4 w') ?_ ?_
            · exact (num_any _ _ x4 (Y3.out.below hS)).mono fun e w' ⟨h1, h2⟩ => ⟨_, h1, N3.out.symm ▸ rfl, h2 ▸ Below.refl _ _⟩
            rintro _ x5 ⟨rfl, hb⟩
            have YS : Hid (Byt x5 (.slice so 16 sc) (sub xs 16 32)) := YS.out.below hb
            have hS : Below w4.heap.size w4 x5 := hS.trans (hb.mono hS.size)
            clear hb
            refine hK.out _ _ hS (fun _ => ?_)
            simp only [Act.put, List.setIfInBounds_toArray, List.set_cons_zero, List.set_cons_succ]
            clear hK K
            refine wpAnyH_ready (rs := [14, 16]) (by kernel_rfl) (by simp) ?_
            refine AllReadyH.cons rfl (fun K hK => ?_) (AllReadyH.cons rfl (fun K hK => ?_) AllReadyH.nil)
            · refine he.step_callW _ (by rfl) (some 38) rfl 31 #[.tmp 37] #[23] rfl (fun q w' => by rfl) #[v5] (by simp only [List.map_toArray, List.map_cons, List.map_nil]; rfl) (fun z9 w' => (∃ yo yc, z9 = .slice yo 32 yc ∧ Byt w' (.slice yo 32 yc) (sub xs 48 80)) ∧ Below x5.heap.size x5 w') ?_ ?_
              · exact (bclone_any v5 _ x5 (Y5.out.below hS) (by rw [LN5.out]; omega)).mono fun e w' ⟨z, h1, h2, h3⟩ => (by obtain ⟨yo, yc, rfl⟩ := byt_form h2.1 LN5.out; exact ⟨_, h1, ⟨yo, yc, rfl, h2.1⟩, h3⟩)
              rintro _ x6 ⟨⟨ko, kc, rfl, y9⟩, hb⟩
              have YS : Hid (Byt x6 (.slice so 16 sc) (sub xs 16 32)) := YS.out.below hb
              have YK : Hid (Byt x6 (.slice ko 32 kc) (sub xs 48 80)) := y9
              clear y9
              have hS : Below w4.heap.size w4 x6 := hS.trans (hb.mono hS.size)
              clear hb
              refine hK.out _ _ hS (fun _ => ?_)
              simp only [Act.put, List.setIfInBounds_toArray, List.set_cons_zero, List.set_cons_succ]
              clear hK K
              refine take_lawH 15 (some 39) (.agg (rv G P (.slice so 16 sc) B (.slice ko 32 kc) z4).toArray) rfl rfl (by kernel_rfl) (by kernel_rfl) (by kernel_rfl) (fun _ _ _ h => h) (Or.inl ⟨by rfl, fun w' hw' => by exact exec_build 28 _ rfl _ _ (by kernel_rfl)⟩) hS ?_
              simp only [Act.put, List.setIfInBounds_toArray, List.set_cons_zero, List.set_cons_succ]
              refine wpAnyH_ready (rs := [16]) (by kernel_rfl) (by simp) ?_
              refine AllReadyH.cons rfl (fun K hK => ?_) AllReadyH.nil
              refine step_newN _ rfl (some 6) rfl 28 rfl rv0 zero_record rv0_nob ?_
              intro x7 v9 n9 hb
              have YS : Hid (Byt x7 (.slice so 16 sc) (sub xs 16 32)) := YS.out.below hb
              have YK : Hid (Byt x7 (.slice ko 32 kc) (sub xs 48 80)) := YK.out.below hb
              have HV : Hid (Vr x7 x6.heap.size rv0) := v9
              have NB_HV : Hid (NoB x7 x6.heap.size) := n9
              have LV : Hid (w4.heap.size ≤ x6.heap.size) := hS.size
              have hS : Below w4.heap.size w4 x7 := hS.trans (hb.mono hS.size)
              clear v9 n9 hb
              obtain ⟨gv, hg9⟩ : ∃ g, g = x6.heap.size := ⟨_, rfl⟩
              rw [← hg9] at HV NB_HV LV ⊢
              clear hg9
              refine hK.out _ _ hS (fun _ => ?_)
              simp only [Act.put, List.setIfInBounds_toArray, List.set_cons_zero, List.set_cons_succ]
              clear hK K
              refine wpAnyH_ready (rs := [17]) (by kernel_rfl) (by simp) ?_
              refine AllReadyH.cons rfl (fun K hK => ?_) AllReadyH.nil
              refine step_storeN _ rfl none rfl (.tmp 6) (.tmp 39) 28 rfl gv rv0 (rv G P (.slice so 16 sc) B (.slice ko 32 kc) z4) rfl rfl HV.out NB_HV.out rfl rowy_record.2 (rv_one (slc_sl _ _ _) (slc_sl _ _ _) slc_z4) (rv_nob (slc_sl _ _ _) (slc_sl _ _ _) slc_z4) ?_
              intro x8 v9 n9 B9 E9
              have HV : Hid (Vr x8 gv (rv G P (.slice so 16 sc) B (.slice ko 32 kc) z4)) := v9
              have YS : Hid (Byt x8 (.slice so 16 sc) (sub xs 16 32)) := byt_nob YS.out NB_HV.out E9
              have YK : Hid (Byt x8 (.slice ko 32 kc) (sub xs 48 80)) := byt_nob YK.out NB_HV.out E9
              have NB_HV : Hid (NoB x8 gv) := n9
              have hS : Below w4.heap.size w4 x8 := hS.trans (B9.mono LV.out)
              clear v9 n9 B9 E9
              refine hK.out _ _ hS (fun _ => ?_)
              simp only [Act.put]
              clear hK K
              refine wpAnyH_done (by kernel_rfl) ?_ _
              go_wp2_with fail
              go_meet
              exact ⟨gv, so, sc, ko, kc, rfl, HV.out, NB_HV.out, YS.out, YK.out, LV.out, hS⟩
            · refine step_newN _ rfl (some 6) rfl 28 rfl rv0 zero_record rv0_nob ?_
              intro x9 v9 n9 hb
              have YS : Hid (Byt x9 (.slice so 16 sc) (sub xs 16 32)) := YS.out.below hb
              have HV : Hid (Vr x9 x5.heap.size rv0) := v9
              have NB_HV : Hid (NoB x9 x5.heap.size) := n9
              have LV : Hid (w4.heap.size ≤ x5.heap.size) := hS.size
              have hS : Below w4.heap.size w4 x9 := hS.trans (hb.mono hS.size)
              clear v9 n9 hb
              obtain ⟨gv, hg9⟩ : ∃ g, g = x5.heap.size := ⟨_, rfl⟩
              rw [← hg9] at HV NB_HV LV ⊢
              clear hg9
              refine hK.out _ _ hS (fun _ => ?_)
              simp only [Act.put, List.setIfInBounds_toArray, List.set_cons_zero, List.set_cons_succ]
              clear hK K
              refine wpAnyH_ready (rs := [14]) (by kernel_rfl) (by simp) ?_
              refine AllReadyH.cons rfl (fun K hK => ?_) AllReadyH.nil
              refine he.step_callW _ (by rfl) (some 38) rfl 31 #[.tmp 37] #[23] rfl (fun q w' => by rfl) #[v5] (by simp only [List.map_toArray, List.map_cons, List.map_nil]; rfl) (fun z9 w' => (∃ yo yc, z9 = .slice yo 32 yc ∧ Byt w' (.slice yo 32 yc) (sub xs 48 80)) ∧ Below x9.heap.size x9 w') ?_ ?_
              · exact (bclone_any v5 _ x9 (Y5.out.below hS) (by rw [LN5.out]; omega)).mono fun e w' ⟨z, h1, h2, h3⟩ => (by obtain ⟨yo, yc, rfl⟩ := byt_form h2.1 LN5.out; exact ⟨_, h1, ⟨yo, yc, rfl, h2.1⟩, h3⟩)
              rintro _ x10 ⟨⟨ko, kc, rfl, y9⟩, hb⟩
              have YS : Hid (Byt x10 (.slice so 16 sc) (sub xs 16 32)) := YS.out.below hb
              have NB_HV : Hid (NoB x10 gv) := NB_HV.out.heap (hb.block _ (range_lt HV.out.1 (Nat.succ_pos _)))
              have HV : Hid (Vr x10 gv rv0) := HV.out.below hb (range_lt HV.out.1 (Nat.succ_pos _))
              have YK : Hid (Byt x10 (.slice ko 32 kc) (sub xs 48 80)) := y9
              clear y9
              have hS : Below w4.heap.size w4 x10 := hS.trans (hb.mono hS.size)
              clear hb
              refine hK.out _ _ hS (fun _ => ?_)
              simp only [Act.put, List.setIfInBounds_toArray, List.set_cons_zero, List.set_cons_succ]
              clear hK K
              refine take_lawH 15 (some 39) (.agg (rv G P (.slice so 16 sc) B (.slice ko 32 kc) z4).toArray) rfl rfl (by kernel_rfl) (by kernel_rfl) (by kernel_rfl) (fun _ _ _ h => h) (Or.inl ⟨by rfl, fun w' hw' => by exact exec_build 28 _ rfl _ _ (by kernel_rfl)⟩) hS ?_
              simp only [Act.put, List.setIfInBounds_toArray, List.set_cons_zero, List.set_cons_succ]
              refine wpAnyH_ready (rs := [17]) (by kernel_rfl) (by simp) ?_
              refine AllReadyH.cons rfl (fun K hK => ?_) AllReadyH.nil
              refine step_storeN _ rfl none rfl (.tmp 6) (.tmp 39) 28 rfl gv rv0 (rv G P (.slice so 16 sc) B (.slice ko 32 kc) z4) rfl rfl HV.out NB_HV.out rfl rowy_record.2 (rv_one (slc_sl _ _ _) (slc_sl _ _ _) slc_z4) (rv_nob (slc_sl _ _ _) (slc_sl _ _ _) slc_z4) ?_
              intro x11 v9 n9 B9 E9
              have HV : Hid (Vr x11 gv (rv G P (.slice so 16 sc) B (.slice ko 32 kc) z4)) := v9
              have YS : Hid (Byt x11 (.slice so 16 sc) (sub xs 16 32)) := byt_nob YS.out NB_HV.out E9
              have YK : Hid (Byt x11 (.slice ko 32 kc) (sub xs 48 80)) := byt_nob YK.out NB_HV.out E9
              have NB_HV : Hid (NoB x11 gv) := n9
              have hS : Below w4.heap.size w4 x11 := hS.trans (B9.mono LV.out)
              clear v9 n9 B9 E9
              refine hK.out _ _ hS (fun _ => ?_)
              simp only [Act.put]
              clear hK K
              refine wpAnyH_done (by kernel_rfl) ?_ _
              go_wp2_with fail
              go_meet
              exact ⟨gv, so, sc, ko, kc, rfl, HV.out, NB_HV.out, YS.out, YK.out, LV.out, hS⟩
          · refine step_newN _ rfl (some 6) rfl 28 rfl rv0 zero_record rv0_nob ?_
            intro x12 v9 n9 hb
            have YS : Hid (Byt x12 (.slice so 16 sc) (sub xs 16 32)) := YS.out.below hb
            have HV : Hid (Vr x12 x4.heap.size rv0) := v9
            have NB_HV : Hid (NoB x12 x4.heap.size) := n9
            have LV : Hid (w4.heap.size ≤ x4.heap.size) := hS.size
            have hS : Below w4.heap.size w4 x12 := hS.trans (hb.mono hS.size)
            clear v9 n9 hb
            obtain ⟨gv, hg9⟩ : ∃ g, g = x4.heap.size := ⟨_, rfl⟩
            rw [← hg9] at HV NB_HV LV ⊢
            clear hg9
            refine hK.out _ _ hS (fun _ => ?_)
            simp only [Act.put, List.setIfInBounds_toArray, List.set_cons_zero, List.set_cons_succ]
            clear hK K
            refine wpAnyH_ready (rs := [11]) (by kernel_rfl) (by simp) ?_
            refine AllReadyH.cons rfl (fun K hK => ?_) AllReadyH.nil
            refine he.step_callW _ (by rfl) (some 35) rfl 37 #[.tmp 34] #[23] rfl (fun q w' => by rfl) #[v3] (by simp only [List.map_toArray, List.map_cons, List.map_nil]; rfl) (fun z9 w' => z9 = .int .u64 B ∧ Below x12.heap.size x12 w') ?_ ?_
            · exact (num_any _ _ x12 (Y3.out.below hS)).mono fun e w' ⟨h1, h2⟩ => ⟨_, h1, N3.out.symm ▸ rfl, h2 ▸ Below.refl _ _⟩
            rintro _ x13 ⟨rfl, hb⟩
            have YS : Hid (Byt x13 (.slice so 16 sc) (sub xs 16 32)) := YS.out.below hb
            have NB_HV : Hid (NoB x13 gv) := NB_HV.out.heap (hb.block _ (range_lt HV.out.1 (Nat.succ_pos _)))
            have HV : Hid (Vr x13 gv rv0) := HV.out.below hb (range_lt HV.out.1 (Nat.succ_pos _))
            have hS : Below w4.heap.size w4 x13 := hS.trans (hb.mono hS.size)
            clear hb
            refine hK.out _ _ hS (fun _ => ?_)
            simp only [Act.put, List.setIfInBounds_toArray, List.set_cons_zero, List.set_cons_succ]
            clear hK K
            refine wpAnyH_ready (rs := [14]) (by kernel_rfl) (by simp) ?_
            refine AllReadyH.cons rfl (fun K hK => ?_) AllReadyH.nil
            refine he.step_callW _ (by rfl) (some 38) rfl 31 #[.tmp 37] #[23] rfl (fun q w' => by rfl) #[v5] (by simp only [List.map_toArray, List.map_cons, List.map_nil]; rfl) (fun z9 w' => (∃ yo yc, z9 = .slice yo 32 yc ∧ Byt w' (.slice yo 32 yc) (sub xs 48 80)) ∧ Below x13.heap.size x13 w') ?_ ?_
            · exact (bclone_any v5 _ x13 (Y5.out.below hS) (by rw [LN5.out]; omega)).mono fun e w' ⟨z, h1, h2, h3⟩ => (by obtain ⟨yo, yc, rfl⟩ := byt_form h2.1 LN5.out; exact ⟨_, h1, ⟨yo, yc, rfl, h2.1⟩, h3⟩)
            rintro _ x14 ⟨⟨ko, kc, rfl, y9⟩, hb⟩
            have YS : Hid (Byt x14 (.slice so 16 sc) (sub xs 16 32)) := YS.out.below hb
            have NB_HV : Hid (NoB x14 gv) := NB_HV.out.heap (hb.block _ (range_lt HV.out.1 (Nat.succ_pos _)))
            have HV : Hid (Vr x14 gv rv0) := HV.out.below hb (range_lt HV.out.1 (Nat.succ_pos _))
            have YK : Hid (Byt x14 (.slice ko 32 kc) (sub xs 48 80)) := y9
            clear y9
            have hS : Below w4.heap.size w4 x14 := hS.trans (hb.mono hS.size)
            clear hb
            refine hK.out _ _ hS (fun _ => ?_)
            simp only [Act.put, List.setIfInBounds_toArray, List.set_cons_zero, List.set_cons_succ]
            clear hK K
            refine take_lawH 15 (some 39) (.agg (rv G P (.slice so 16 sc) B (.slice ko 32 kc) z4).toArray) rfl rfl (by kernel_rfl) (by kernel_rfl) (by kernel_rfl) (fun _ _ _ h => h) (Or.inl ⟨by rfl, fun w' hw' => by exact exec_build 28 _ rfl _ _ (by kernel_rfl)⟩) hS ?_
            simp only [Act.put, List.setIfInBounds_toArray, List.set_cons_zero, List.set_cons_succ]
            refine wpAnyH_ready (rs := [17]) (by kernel_rfl) (by simp) ?_
            refine AllReadyH.cons rfl (fun K hK => ?_) AllReadyH.nil
            refine step_storeN _ rfl none rfl (.tmp 6) (.tmp 39) 28 rfl gv rv0 (rv G P (.slice so 16 sc) B (.slice ko 32 kc) z4) rfl rfl HV.out NB_HV.out rfl rowy_record.2 (rv_one (slc_sl _ _ _) (slc_sl _ _ _) slc_z4) (rv_nob (slc_sl _ _ _) (slc_sl _ _ _) slc_z4) ?_
            intro x15 v9 n9 B9 E9
            have HV : Hid (Vr x15 gv (rv G P (.slice so 16 sc) B (.slice ko 32 kc) z4)) := v9
            have YS : Hid (Byt x15 (.slice so 16 sc) (sub xs 16 32)) := byt_nob YS.out NB_HV.out E9
            have YK : Hid (Byt x15 (.slice ko 32 kc) (sub xs 48 80)) := byt_nob YK.out NB_HV.out E9
            have NB_HV : Hid (NoB x15 gv) := n9
            have hS : Below w4.heap.size w4 x15 := hS.trans (B9.mono LV.out)
            clear v9 n9 B9 E9
            refine hK.out _ _ hS (fun _ => ?_)
            simp only [Act.put]
            clear hK K
            refine wpAnyH_done (by kernel_rfl) ?_ _
            go_wp2_with fail
            go_meet
            exact ⟨gv, so, sc, ko, kc, rfl, HV.out, NB_HV.out, YS.out, YK.out, LV.out, hS⟩
        · refine step_newN _ rfl (some 6) rfl 28 rfl rv0 zero_record rv0_nob ?_
          intro x16 v9 n9 hb
          have HV : Hid (Vr x16 x3.heap.size rv0) := v9
          have NB_HV : Hid (NoB x16 x3.heap.size) := n9
          have LV : Hid (w4.heap.size ≤ x3.heap.size) := hS.size
          have hS : Below w4.heap.size w4 x16 := hS.trans (hb.mono hS.size)
          clear v9 n9 hb
          obtain ⟨gv, hg9⟩ : ∃ g, g = x3.heap.size := ⟨_, rfl⟩
          rw [← hg9] at HV NB_HV LV ⊢
          clear hg9
          refine hK.out _ _ hS (fun _ => ?_)
          simp only [Act.put, List.setIfInBounds_toArray, List.set_cons_zero, List.set_cons_succ]
          clear hK K
          refine wpAnyH_ready (rs := [8]) (by kernel_rfl) (by simp) ?_
          refine AllReadyH.cons rfl (fun K hK => ?_) AllReadyH.nil
          refine he.step_callW _ (by rfl) (some 32) rfl 31 #[.tmp 31] #[23] rfl (fun q w' => by rfl) #[v2] (by simp only [List.map_toArray, List.map_cons, List.map_nil]; rfl) (fun z9 w' => (∃ yo yc, z9 = .slice yo 16 yc ∧ Byt w' (.slice yo 16 yc) (sub xs 16 32)) ∧ Below x16.heap.size x16 w') ?_ ?_
          · exact (bclone_any v2 _ x16 (Y2.out.below hS) (by rw [LN2.out]; omega)).mono fun e w' ⟨z, h1, h2, h3⟩ => (by obtain ⟨yo, yc, rfl⟩ := byt_form h2.1 LN2.out; exact ⟨_, h1, ⟨yo, yc, rfl, h2.1⟩, h3⟩)
          rintro _ x17 ⟨⟨so, sc, rfl, y9⟩, hb⟩
          have NB_HV : Hid (NoB x17 gv) := NB_HV.out.heap (hb.block _ (range_lt HV.out.1 (Nat.succ_pos _)))
          have HV : Hid (Vr x17 gv rv0) := HV.out.below hb (range_lt HV.out.1 (Nat.succ_pos _))
          have YS : Hid (Byt x17 (.slice so 16 sc) (sub xs 16 32)) := y9
          clear y9
          have hS : Below w4.heap.size w4 x17 := hS.trans (hb.mono hS.size)
          clear hb
          refine hK.out _ _ hS (fun _ => ?_)
          simp only [Act.put, List.setIfInBounds_toArray, List.set_cons_zero, List.set_cons_succ]
          clear hK K
          refine wpAnyH_ready (rs := [11]) (by kernel_rfl) (by simp) ?_
          refine AllReadyH.cons rfl (fun K hK => ?_) AllReadyH.nil
          refine he.step_callW _ (by rfl) (some 35) rfl 37 #[.tmp 34] #[23] rfl (fun q w' => by rfl) #[v3] (by simp only [List.map_toArray, List.map_cons, List.map_nil]; rfl) (fun z9 w' => z9 = .int .u64 B ∧ Below x17.heap.size x17 w') ?_ ?_
          · exact (num_any _ _ x17 (Y3.out.below hS)).mono fun e w' ⟨h1, h2⟩ => ⟨_, h1, N3.out.symm ▸ rfl, h2 ▸ Below.refl _ _⟩
          rintro _ x18 ⟨rfl, hb⟩
          have NB_HV : Hid (NoB x18 gv) := NB_HV.out.heap (hb.block _ (range_lt HV.out.1 (Nat.succ_pos _)))
          have HV : Hid (Vr x18 gv rv0) := HV.out.below hb (range_lt HV.out.1 (Nat.succ_pos _))
          have YS : Hid (Byt x18 (.slice so 16 sc) (sub xs 16 32)) := YS.out.below hb
          have hS : Below w4.heap.size w4 x18 := hS.trans (hb.mono hS.size)
          clear hb
          refine hK.out _ _ hS (fun _ => ?_)
          simp only [Act.put, List.setIfInBounds_toArray, List.set_cons_zero, List.set_cons_succ]
          clear hK K
          refine wpAnyH_ready (rs := [14]) (by kernel_rfl) (by simp) ?_
          refine AllReadyH.cons rfl (fun K hK => ?_) AllReadyH.nil
          refine he.step_callW _ (by rfl) (some 38) rfl 31 #[.tmp 37] #[23] rfl (fun q w' => by rfl) #[v5] (by simp only [List.map_toArray, List.map_cons, List.map_nil]; rfl) (fun z9 w' => (∃ yo yc, z9 = .slice yo 32 yc ∧ Byt w' (.slice yo 32 yc) (sub xs 48 80)) ∧ Below x18.heap.size x18 w') ?_ ?_
          · exact (bclone_any v5 _ x18 (Y5.out.below hS) (by rw [LN5.out]; omega)).mono fun e w' ⟨z, h1, h2, h3⟩ => (by obtain ⟨yo, yc, rfl⟩ := byt_form h2.1 LN5.out; exact ⟨_, h1, ⟨yo, yc, rfl, h2.1⟩, h3⟩)
          rintro _ x19 ⟨⟨ko, kc, rfl, y9⟩, hb⟩
          have NB_HV : Hid (NoB x19 gv) := NB_HV.out.heap (hb.block _ (range_lt HV.out.1 (Nat.succ_pos _)))
          have HV : Hid (Vr x19 gv rv0) := HV.out.below hb (range_lt HV.out.1 (Nat.succ_pos _))
          have YS : Hid (Byt x19 (.slice so 16 sc) (sub xs 16 32)) := YS.out.below hb
          have YK : Hid (Byt x19 (.slice ko 32 kc) (sub xs 48 80)) := y9
          clear y9
          have hS : Below w4.heap.size w4 x19 := hS.trans (hb.mono hS.size)
          clear hb
          refine hK.out _ _ hS (fun _ => ?_)
          simp only [Act.put, List.setIfInBounds_toArray, List.set_cons_zero, List.set_cons_succ]
          clear hK K
          refine take_lawH 15 (some 39) (.agg (rv G P (.slice so 16 sc) B (.slice ko 32 kc) z4).toArray) rfl rfl (by kernel_rfl) (by kernel_rfl) (by kernel_rfl) (fun _ _ _ h => h) (Or.inl ⟨by rfl, fun w' hw' => by exact exec_build 28 _ rfl _ _ (by kernel_rfl)⟩) hS ?_
          simp only [Act.put, List.setIfInBounds_toArray, List.set_cons_zero, List.set_cons_succ]
          refine wpAnyH_ready (rs := [17]) (by kernel_rfl) (by simp) ?_
          refine AllReadyH.cons rfl (fun K hK => ?_) AllReadyH.nil
          refine step_storeN _ rfl none rfl (.tmp 6) (.tmp 39) 28 rfl gv rv0 (rv G P (.slice so 16 sc) B (.slice ko 32 kc) z4) rfl rfl HV.out NB_HV.out rfl rowy_record.2 (rv_one (slc_sl _ _ _) (slc_sl _ _ _) slc_z4) (rv_nob (slc_sl _ _ _) (slc_sl _ _ _) slc_z4) ?_
          intro x20 v9 n9 B9 E9
          have HV : Hid (Vr x20 gv (rv G P (.slice so 16 sc) B (.slice ko 32 kc) z4)) := v9
          have YS : Hid (Byt x20 (.slice so 16 sc) (sub xs 16 32)) := byt_nob YS.out NB_HV.out E9
          have YK : Hid (Byt x20 (.slice ko 32 kc) (sub xs 48 80)) := byt_nob YK.out NB_HV.out E9
          have NB_HV : Hid (NoB x20 gv) := n9
          have hS : Below w4.heap.size w4 x20 := hS.trans (B9.mono LV.out)
          clear v9 n9 B9 E9
          refine hK.out _ _ hS (fun _ => ?_)
          simp only [Act.put]
          clear hK K
          refine wpAnyH_done (by kernel_rfl) ?_ _
          go_wp2_with fail
          go_meet
          exact ⟨gv, so, sc, ko, kc, rfl, HV.out, NB_HV.out, YS.out, YK.out, LV.out, hS⟩
      · refine step_newN _ rfl (some 6) rfl 28 rfl rv0 zero_record rv0_nob ?_
        intro x21 v9 n9 hb
        have HV : Hid (Vr x21 x2.heap.size rv0) := v9
        have NB_HV : Hid (NoB x21 x2.heap.size) := n9
        have LV : Hid (w4.heap.size ≤ x2.heap.size) := hS.size
        have hS : Below w4.heap.size w4 x21 := hS.trans (hb.mono hS.size)
        clear v9 n9 hb
        obtain ⟨gv, hg9⟩ : ∃ g, g = x2.heap.size := ⟨_, rfl⟩
        rw [← hg9] at HV NB_HV LV ⊢
        clear hg9
        refine hK.out _ _ hS (fun _ => ?_)
        simp only [Act.put, List.setIfInBounds_toArray, List.set_cons_zero, List.set_cons_succ]
        clear hK K
        refine wpAnyH_ready (rs := [5]) (by kernel_rfl) (by simp) ?_
        refine AllReadyH.cons rfl (fun K hK => ?_) AllReadyH.nil
        refine he.step_callW _ (by rfl) (some 29) rfl 37 #[.tmp 28] #[23] rfl (fun q w' => by rfl) #[v1] (by simp only [List.map_toArray, List.map_cons, List.map_nil]; rfl) (fun z9 w' => z9 = .int .u64 P ∧ Below x21.heap.size x21 w') ?_ ?_
        · exact (num_any _ _ x21 (Y1.out.below hS)).mono fun e w' ⟨h1, h2⟩ => ⟨_, h1, N1.out.symm ▸ rfl, h2 ▸ Below.refl _ _⟩
        rintro _ x22 ⟨rfl, hb⟩
        have NB_HV : Hid (NoB x22 gv) := NB_HV.out.heap (hb.block _ (range_lt HV.out.1 (Nat.succ_pos _)))
        have HV : Hid (Vr x22 gv rv0) := HV.out.below hb (range_lt HV.out.1 (Nat.succ_pos _))
        have hS : Below w4.heap.size w4 x22 := hS.trans (hb.mono hS.size)
        clear hb
        refine hK.out _ _ hS (fun _ => ?_)
        simp only [Act.put, List.setIfInBounds_toArray, List.set_cons_zero, List.set_cons_succ]
        clear hK K
        refine wpAnyH_ready (rs := [8]) (by kernel_rfl) (by simp) ?_
        refine AllReadyH.cons rfl (fun K hK => ?_) AllReadyH.nil
        refine he.step_callW _ (by rfl) (some 32) rfl 31 #[.tmp 31] #[23] rfl (fun q w' => by rfl) #[v2] (by simp only [List.map_toArray, List.map_cons, List.map_nil]; rfl) (fun z9 w' => (∃ yo yc, z9 = .slice yo 16 yc ∧ Byt w' (.slice yo 16 yc) (sub xs 16 32)) ∧ Below x22.heap.size x22 w') ?_ ?_
        · exact (bclone_any v2 _ x22 (Y2.out.below hS) (by rw [LN2.out]; omega)).mono fun e w' ⟨z, h1, h2, h3⟩ => (by obtain ⟨yo, yc, rfl⟩ := byt_form h2.1 LN2.out; exact ⟨_, h1, ⟨yo, yc, rfl, h2.1⟩, h3⟩)
        rintro _ x23 ⟨⟨so, sc, rfl, y9⟩, hb⟩
        have NB_HV : Hid (NoB x23 gv) := NB_HV.out.heap (hb.block _ (range_lt HV.out.1 (Nat.succ_pos _)))
        have HV : Hid (Vr x23 gv rv0) := HV.out.below hb (range_lt HV.out.1 (Nat.succ_pos _))
        have YS : Hid (Byt x23 (.slice so 16 sc) (sub xs 16 32)) := y9
        clear y9
        have hS : Below w4.heap.size w4 x23 := hS.trans (hb.mono hS.size)
        clear hb
        refine hK.out _ _ hS (fun _ => ?_)
        simp only [Act.put, List.setIfInBounds_toArray, List.set_cons_zero, List.set_cons_succ]
        clear hK K
        refine wpAnyH_ready (rs := [11]) (by kernel_rfl) (by simp) ?_
        refine AllReadyH.cons rfl (fun K hK => ?_) AllReadyH.nil
        refine he.step_callW _ (by rfl) (some 35) rfl 37 #[.tmp 34] #[23] rfl (fun q w' => by rfl) #[v3] (by simp only [List.map_toArray, List.map_cons, List.map_nil]; rfl) (fun z9 w' => z9 = .int .u64 B ∧ Below x23.heap.size x23 w') ?_ ?_
        · exact (num_any _ _ x23 (Y3.out.below hS)).mono fun e w' ⟨h1, h2⟩ => ⟨_, h1, N3.out.symm ▸ rfl, h2 ▸ Below.refl _ _⟩
        rintro _ x24 ⟨rfl, hb⟩
        have NB_HV : Hid (NoB x24 gv) := NB_HV.out.heap (hb.block _ (range_lt HV.out.1 (Nat.succ_pos _)))
        have HV : Hid (Vr x24 gv rv0) := HV.out.below hb (range_lt HV.out.1 (Nat.succ_pos _))
        have YS : Hid (Byt x24 (.slice so 16 sc) (sub xs 16 32)) := YS.out.below hb
        have hS : Below w4.heap.size w4 x24 := hS.trans (hb.mono hS.size)
        clear hb
        refine hK.out _ _ hS (fun _ => ?_)
        simp only [Act.put, List.setIfInBounds_toArray, List.set_cons_zero, List.set_cons_succ]
        clear hK K
        refine wpAnyH_ready (rs := [14]) (by kernel_rfl) (by simp) ?_
        refine AllReadyH.cons rfl (fun K hK => ?_) AllReadyH.nil
        refine he.step_callW _ (by rfl) (some 38) rfl 31 #[.tmp 37] #[23] rfl (fun q w' => by rfl) #[v5] (by simp only [List.map_toArray, List.map_cons, List.map_nil]; rfl) (fun z9 w' => (∃ yo yc, z9 = .slice yo 32 yc ∧ Byt w' (.slice yo 32 yc) (sub xs 48 80)) ∧ Below x24.heap.size x24 w') ?_ ?_
        · exact (bclone_any v5 _ x24 (Y5.out.below hS) (by rw [LN5.out]; omega)).mono fun e w' ⟨z, h1, h2, h3⟩ => (by obtain ⟨yo, yc, rfl⟩ := byt_form h2.1 LN5.out; exact ⟨_, h1, ⟨yo, yc, rfl, h2.1⟩, h3⟩)
        rintro _ x25 ⟨⟨ko, kc, rfl, y9⟩, hb⟩
        have NB_HV : Hid (NoB x25 gv) := NB_HV.out.heap (hb.block _ (range_lt HV.out.1 (Nat.succ_pos _)))
        have HV : Hid (Vr x25 gv rv0) := HV.out.below hb (range_lt HV.out.1 (Nat.succ_pos _))
        have YS : Hid (Byt x25 (.slice so 16 sc) (sub xs 16 32)) := YS.out.below hb
        have YK : Hid (Byt x25 (.slice ko 32 kc) (sub xs 48 80)) := y9
        clear y9
        have hS : Below w4.heap.size w4 x25 := hS.trans (hb.mono hS.size)
        clear hb
        refine hK.out _ _ hS (fun _ => ?_)
        simp only [Act.put, List.setIfInBounds_toArray, List.set_cons_zero, List.set_cons_succ]
        clear hK K
        refine take_lawH 15 (some 39) (.agg (rv G P (.slice so 16 sc) B (.slice ko 32 kc) z4).toArray) rfl rfl (by kernel_rfl) (by kernel_rfl) (by kernel_rfl) (fun _ _ _ h => h) (Or.inl ⟨by rfl, fun w' hw' => by exact exec_build 28 _ rfl _ _ (by kernel_rfl)⟩) hS ?_
        simp only [Act.put, List.setIfInBounds_toArray, List.set_cons_zero, List.set_cons_succ]
        refine wpAnyH_ready (rs := [17]) (by kernel_rfl) (by simp) ?_
        refine AllReadyH.cons rfl (fun K hK => ?_) AllReadyH.nil
        refine step_storeN _ rfl none rfl (.tmp 6) (.tmp 39) 28 rfl gv rv0 (rv G P (.slice so 16 sc) B (.slice ko 32 kc) z4) rfl rfl HV.out NB_HV.out rfl rowy_record.2 (rv_one (slc_sl _ _ _) (slc_sl _ _ _) slc_z4) (rv_nob (slc_sl _ _ _) (slc_sl _ _ _) slc_z4) ?_
        intro x26 v9 n9 B9 E9
        have HV : Hid (Vr x26 gv (rv G P (.slice so 16 sc) B (.slice ko 32 kc) z4)) := v9
        have YS : Hid (Byt x26 (.slice so 16 sc) (sub xs 16 32)) := byt_nob YS.out NB_HV.out E9
        have YK : Hid (Byt x26 (.slice ko 32 kc) (sub xs 48 80)) := byt_nob YK.out NB_HV.out E9
        have NB_HV : Hid (NoB x26 gv) := n9
        have hS : Below w4.heap.size w4 x26 := hS.trans (B9.mono LV.out)
        clear v9 n9 B9 E9
        refine hK.out _ _ hS (fun _ => ?_)
        simp only [Act.put]
        clear hK K
        refine wpAnyH_done (by kernel_rfl) ?_ _
        go_wp2_with fail
        go_meet
        exact ⟨gv, so, sc, ko, kc, rfl, HV.out, NB_HV.out, YS.out, YK.out, LV.out, hS⟩
    · refine step_newN _ rfl (some 6) rfl 28 rfl rv0 zero_record rv0_nob ?_
      intro x27 v9 n9 hb
      have HV : Hid (Vr x27 x1.heap.size rv0) := v9
      have NB_HV : Hid (NoB x27 x1.heap.size) := n9
      have LV : Hid (w4.heap.size ≤ x1.heap.size) := hS.size
      have hS : Below w4.heap.size w4 x27 := hS.trans (hb.mono hS.size)
      clear v9 n9 hb
      obtain ⟨gv, hg9⟩ : ∃ g, g = x1.heap.size := ⟨_, rfl⟩
      rw [← hg9] at HV NB_HV LV ⊢
      clear hg9
      refine hK.out _ _ hS (fun _ => ?_)
      simp only [Act.put, List.setIfInBounds_toArray, List.set_cons_zero, List.set_cons_succ]
      clear hK K
      refine wpAnyH_ready (rs := [2]) (by kernel_rfl) (by simp) ?_
      refine AllReadyH.cons rfl (fun K hK => ?_) AllReadyH.nil
      refine he.step_callW _ (by rfl) (some 26) rfl 37 #[.tmp 25] #[23] rfl (fun q w' => by rfl) #[v0] (by simp only [List.map_toArray, List.map_cons, List.map_nil]; rfl) (fun z9 w' => z9 = .int .u64 G ∧ Below x27.heap.size x27 w') ?_ ?_
      · exact (num_any _ _ x27 (Y0.out.below hS)).mono fun e w' ⟨h1, h2⟩ => ⟨_, h1, N0.out.symm ▸ rfl, h2 ▸ Below.refl _ _⟩
      rintro _ x28 ⟨rfl, hb⟩
      have NB_HV : Hid (NoB x28 gv) := NB_HV.out.heap (hb.block _ (range_lt HV.out.1 (Nat.succ_pos _)))
      have HV : Hid (Vr x28 gv rv0) := HV.out.below hb (range_lt HV.out.1 (Nat.succ_pos _))
      have hS : Below w4.heap.size w4 x28 := hS.trans (hb.mono hS.size)
      clear hb
      refine hK.out _ _ hS (fun _ => ?_)
      simp only [Act.put, List.setIfInBounds_toArray, List.set_cons_zero, List.set_cons_succ]
      clear hK K
      refine wpAnyH_ready (rs := [5]) (by kernel_rfl) (by simp) ?_
      refine AllReadyH.cons rfl (fun K hK => ?_) AllReadyH.nil
      refine he.step_callW _ (by rfl) (some 29) rfl 37 #[.tmp 28] #[23] rfl (fun q w' => by rfl) #[v1] (by simp only [List.map_toArray, List.map_cons, List.map_nil]; rfl) (fun z9 w' => z9 = .int .u64 P ∧ Below x28.heap.size x28 w') ?_ ?_
      · exact (num_any _ _ x28 (Y1.out.below hS)).mono fun e w' ⟨h1, h2⟩ => ⟨_, h1, N1.out.symm ▸ rfl, h2 ▸ Below.refl _ _⟩
      rintro _ x29 ⟨rfl, hb⟩
      have NB_HV : Hid (NoB x29 gv) := NB_HV.out.heap (hb.block _ (range_lt HV.out.1 (Nat.succ_pos _)))
      have HV : Hid (Vr x29 gv rv0) := HV.out.below hb (range_lt HV.out.1 (Nat.succ_pos _))
      have hS : Below w4.heap.size w4 x29 := hS.trans (hb.mono hS.size)
      clear hb
      refine hK.out _ _ hS (fun _ => ?_)
      simp only [Act.put, List.setIfInBounds_toArray, List.set_cons_zero, List.set_cons_succ]
      clear hK K
      refine wpAnyH_ready (rs := [8]) (by kernel_rfl) (by simp) ?_
      refine AllReadyH.cons rfl (fun K hK => ?_) AllReadyH.nil
      refine he.step_callW _ (by rfl) (some 32) rfl 31 #[.tmp 31] #[23] rfl (fun q w' => by rfl) #[v2] (by simp only [List.map_toArray, List.map_cons, List.map_nil]; rfl) (fun z9 w' => (∃ yo yc, z9 = .slice yo 16 yc ∧ Byt w' (.slice yo 16 yc) (sub xs 16 32)) ∧ Below x29.heap.size x29 w') ?_ ?_
      · exact (bclone_any v2 _ x29 (Y2.out.below hS) (by rw [LN2.out]; omega)).mono fun e w' ⟨z, h1, h2, h3⟩ => (by obtain ⟨yo, yc, rfl⟩ := byt_form h2.1 LN2.out; exact ⟨_, h1, ⟨yo, yc, rfl, h2.1⟩, h3⟩)
      rintro _ x30 ⟨⟨so, sc, rfl, y9⟩, hb⟩
      have NB_HV : Hid (NoB x30 gv) := NB_HV.out.heap (hb.block _ (range_lt HV.out.1 (Nat.succ_pos _)))
      have HV : Hid (Vr x30 gv rv0) := HV.out.below hb (range_lt HV.out.1 (Nat.succ_pos _))
      have YS : Hid (Byt x30 (.slice so 16 sc) (sub xs 16 32)) := y9
      clear y9
      have hS : Below w4.heap.size w4 x30 := hS.trans (hb.mono hS.size)
      clear hb
      refine hK.out _ _ hS (fun _ => ?_)
      simp only [Act.put, List.setIfInBounds_toArray, List.set_cons_zero, List.set_cons_succ]
      clear hK K
      refine wpAnyH_ready (rs := [11]) (by kernel_rfl) (by simp) ?_
      refine AllReadyH.cons rfl (fun K hK => ?_) AllReadyH.nil
      refine he.step_callW _ (by rfl) (some 35) rfl 37 #[.tmp 34] #[23] rfl (fun q w' => by rfl) #[v3] (by simp only [List.map_toArray, List.map_cons, List.map_nil]; rfl) (fun z9 w' => z9 = .int .u64 B ∧ Below x30.heap.size x30 w') ?_ ?_
      · exact (num_any _ _ x30 (Y3.out.below hS)).mono fun e w' ⟨h1, h2⟩ => ⟨_, h1, N3.out.symm ▸ rfl, h2 ▸ Below.refl _ _⟩
      rintro _ x31 ⟨rfl, hb⟩
      have NB_HV : Hid (NoB x31 gv) := NB_HV.out.heap (hb.block _ (range_lt HV.out.1 (Nat.succ_pos _)))
      have HV : Hid (Vr x31 gv rv0) := HV.out.below hb (range_lt HV.out.1 (Nat.succ_pos _))
      have YS : Hid (Byt x31 (.slice so 16 sc) (sub xs 16 32)) := YS.out.below hb
      have hS : Below w4.heap.size w4 x31 := hS.trans (hb.mono hS.size)
      clear hb
      refine hK.out _ _ hS (fun _ => ?_)
      simp only [Act.put, List.setIfInBounds_toArray, List.set_cons_zero, List.set_cons_succ]
      clear hK K
      refine wpAnyH_ready (rs := [14]) (by kernel_rfl) (by simp) ?_
      refine AllReadyH.cons rfl (fun K hK => ?_) AllReadyH.nil
      refine he.step_callW _ (by rfl) (some 38) rfl 31 #[.tmp 37] #[23] rfl (fun q w' => by rfl) #[v5] (by simp only [List.map_toArray, List.map_cons, List.map_nil]; rfl) (fun z9 w' => (∃ yo yc, z9 = .slice yo 32 yc ∧ Byt w' (.slice yo 32 yc) (sub xs 48 80)) ∧ Below x31.heap.size x31 w') ?_ ?_
      · exact (bclone_any v5 _ x31 (Y5.out.below hS) (by rw [LN5.out]; omega)).mono fun e w' ⟨z, h1, h2, h3⟩ => (by obtain ⟨yo, yc, rfl⟩ := byt_form h2.1 LN5.out; exact ⟨_, h1, ⟨yo, yc, rfl, h2.1⟩, h3⟩)
      rintro _ x32 ⟨⟨ko, kc, rfl, y9⟩, hb⟩
      have NB_HV : Hid (NoB x32 gv) := NB_HV.out.heap (hb.block _ (range_lt HV.out.1 (Nat.succ_pos _)))
      have HV : Hid (Vr x32 gv rv0) := HV.out.below hb (range_lt HV.out.1 (Nat.succ_pos _))
      have YS : Hid (Byt x32 (.slice so 16 sc) (sub xs 16 32)) := YS.out.below hb
      have YK : Hid (Byt x32 (.slice ko 32 kc) (sub xs 48 80)) := y9
      clear y9
      have hS : Below w4.heap.size w4 x32 := hS.trans (hb.mono hS.size)
      clear hb
      refine hK.out _ _ hS (fun _ => ?_)
      simp only [Act.put, List.setIfInBounds_toArray, List.set_cons_zero, List.set_cons_succ]
      clear hK K
      refine take_lawH 15 (some 39) (.agg (rv G P (.slice so 16 sc) B (.slice ko 32 kc) z4).toArray) rfl rfl (by kernel_rfl) (by kernel_rfl) (by kernel_rfl) (fun _ _ _ h => h) (Or.inl ⟨by rfl, fun w' hw' => by exact exec_build 28 _ rfl _ _ (by kernel_rfl)⟩) hS ?_
      simp only [Act.put, List.setIfInBounds_toArray, List.set_cons_zero, List.set_cons_succ]
      refine wpAnyH_ready (rs := [17]) (by kernel_rfl) (by simp) ?_
      refine AllReadyH.cons rfl (fun K hK => ?_) AllReadyH.nil
      refine step_storeN _ rfl none rfl (.tmp 6) (.tmp 39) 28 rfl gv rv0 (rv G P (.slice so 16 sc) B (.slice ko 32 kc) z4) rfl rfl HV.out NB_HV.out rfl rowy_record.2 (rv_one (slc_sl _ _ _) (slc_sl _ _ _) slc_z4) (rv_nob (slc_sl _ _ _) (slc_sl _ _ _) slc_z4) ?_
      intro x33 v9 n9 B9 E9
      have HV : Hid (Vr x33 gv (rv G P (.slice so 16 sc) B (.slice ko 32 kc) z4)) := v9
      have YS : Hid (Byt x33 (.slice so 16 sc) (sub xs 16 32)) := byt_nob YS.out NB_HV.out E9
      have YK : Hid (Byt x33 (.slice ko 32 kc) (sub xs 48 80)) := byt_nob YK.out NB_HV.out E9
      have NB_HV : Hid (NoB x33 gv) := n9
      have hS : Below w4.heap.size w4 x33 := hS.trans (B9.mono LV.out)
      clear v9 n9 B9 E9
      refine hK.out _ _ hS (fun _ => ?_)
      simp only [Act.put]
      clear hK K
      refine wpAnyH_done (by kernel_rfl) ?_ _
      go_wp2_with fail
      go_meet
      exact ⟨gv, so, sc, ko, kc, rfl, HV.out, NB_HV.out, YS.out, YK.out, LV.out, hS⟩
  case rest =>
    obtain ⟨gv, so, sc, ko, kc, rfl, x1, x2, x3, x4, x5, x6⟩ := hcut
    have HV : Hid (Vr wc gv (rv G P (.slice so 16 sc) B (.slice ko 32 kc) z4)) := x1
    have NB_HV : Hid (NoB wc gv) := x2
    have YS : Hid (Byt wc (.slice so 16 sc) (sub xs 16 32)) := x3
    have YK : Hid (Byt wc (.slice ko 32 kc) (sub xs 48 80)) := x4
    have LTV : Hid (w.heap.size < gv) := Nat.lt_of_lt_of_le (range_lt HR.out.1 (Nat.succ_pos _)) x5
    have NB_HR : Hid (NoB wc w.heap.size) := NB_HR.out.heap (x6.block _ (range_lt HR.out.1 (Nat.succ_pos _)))
    have HR : Hid (Vr wc w.heap.size rv0) := HR.out.below x6 (range_lt HR.out.1 (Nat.succ_pos _))
    have YR : Hid (Byt wc r9 (xs.drop 80)) := YR.out.below x6
    have BB : Hid (Below w.heap.size w wc) := BB.out.trans (x6.mono BB.out.size)
    clear x1 x2 x3 x4 x5 x6 Y0 Y1 Y2 Y3 Y4 Y5 SU HP NB_HP
    go_wp2
    go_loopw [40] (fun i wr => ∃ (k : Nat) (T : Nat → Sc), k ≤ 4 ∧ i = .int .i64 (k : Int) ∧ (∀ j, j < k → (T j).d = sw (qw xs j) ∧ Sb (T j).n (T j).e (T j).t ∧ Byt wr (T j).v (T j).xs) ∧ (∀ j, j < 4 → Slc (T j).v) ∧ Vr wr gv (rv G P (.slice so 16 sc) B (.slice ko 32 kc) T) ∧ (NoB wr gv ∧ Vr wr w.heap.size rv0 ∧ NoB wr w.heap.size) ∧ (Byt wr r9 (xs.drop 80) ∧ Byt wr (.slice so 16 sc) (sub xs 16 32) ∧ Byt wr (.slice ko 32 kc) (sub xs 48 80)) ∧ Below w.heap.size w wr) (fun i _ => 4 - (intOf i).toNat)
    case atStart => exact ⟨0, z4, Nat.zero_le _, rfl, upto_zero, slc_z4, HV.out, ⟨NB_HV.out, HR.out, NB_HR.out⟩, ⟨YR.out, YS.out, YK.out⟩, BB.out⟩
    case round =>
      clear HV NB_HV HR NB_HR YR YS YK BB
      obtain ⟨k, T, hk4, rfl, hj, hs, hv, ⟨nv9, hr9, nr9⟩, ⟨yr, ys, yk⟩, hBl⟩ := hrel
      have HJ : Hid (∀ j, j < k → (T j).d = sw (qw xs j) ∧ Sb (T j).n (T j).e (T j).t ∧ Byt wr (T j).v (T j).xs) := hj
      have HSl : Hid (∀ j, j < 4 → Slc (T j).v) := hs
      have HV : Hid (Vr wr gv (rv G P (.slice so 16 sc) B (.slice ko 32 kc) T)) := hv
      have NB_HV : Hid (NoB wr gv) := nv9
      have HR : Hid (Vr wr w.heap.size rv0) := hr9
      have NB_HR : Hid (NoB wr w.heap.size) := nr9
      have YR : Hid (Byt wr r9 (xs.drop 80)) := yr
      have YS : Hid (Byt wr (.slice so 16 sc) (sub xs 16 32)) := ys
      have YK : Hid (Byt wr (.slice ko 32 kc) (sub xs 48 80)) := yk
      have BB : Hid (Below w.heap.size w wr) := hBl
      clear hj hs hv nv9 hr9 nr9 yr ys yk hBl
      by_cases hk : k < 4
      · have ki : (k : Int) < 4 := by omega
        have k1 : IntKind.i64.wrap (128 * (k : Int)) = 128 * (k : Int) := by rw [IntKind.wrap_i64]; omega
        have k2 : IntKind.i64.wrap ((k : Int) + 1) = (k : Int) + 1 := by rw [IntKind.wrap_i64]; omega
        have k3 : IntKind.i64.wrap (128 * ((k : Int) + 1)) = 128 * ((k : Int) + 1) := by rw [IntKind.wrap_i64]; omega
        have LC : Hid (128 * (k + 1) ≤ (xs.drop 80).length) := (by show _ ≤ _; rw [List.length_drop, HL.out]; omega)
        have SH := HS0.out k hk
        have LT_HR_HV := LTV
        have LE_HV : Hid (w.heap.size ≤ gv) := Nat.le_of_lt LTV.out
        have HJ2 : Hid (∀ j, j < k → Byt wr (T j).v (T j).xs) := fun j hj => (HJ.out j hj).2.2
        have SK : Hid (Sok (qw xs k)) := SH
        have t0 : (1 : Nat) = 1 := rfl
        go_wp2_with (first
          | (have q4 := t4; (with_reducible refine at_store ?_); refine store_lawC _ s9.cs gv (5 + k * 5) rfl rfl (Vr.sthere HV.out k hk) rowy_slot.2 (cs_one SL.out) ?_; intro w44 E9 R9 T9 B9; have K9 : ∀ k, k ≠ gv → w44.heap[k]? = w43.heap[k]? := (by rw [E9.out]; exact fun k hk => heap_cells _ _ _ _ k hk); have HJ2 : Hid (∀ j, j < k → Byt w44 (T j).v (T j).xs) := fun j hj => byt_nob (HJ2.out j hj) NB_HV.out K9; have YR : Hid (Byt w44 r9 (xs.drop 80)) := byt_nob YR.out NB_HV.out K9; have YS : Hid (Byt w44 (.slice so 16 sc) (sub xs 16 32)) := byt_nob YS.out NB_HV.out K9; have YK : Hid (Byt w44 (.slice ko 32 kc) (sub xs 48 80)) := byt_nob YK.out NB_HV.out K9; have NB_HR : Hid (NoB w44 w.heap.size) := NB_HR.out.heap (K9 _ (Nat.ne_of_lt LT_HR_HV.out)); have HR : Hid (Vr w44 w.heap.size rv0) := HR.out.heap (K9 _ (Nat.ne_of_lt LT_HR_HV.out)); have YD : Hid (Byt w44 s9.v s9.xs) := byt_nob YD.out NB_HV.out K9; have NB_HS : Hid (NoB w44 w41.heap.size) := NB_HS.out.heap (K9 _ (Nat.ne_of_gt LT_HV_HS.out)); have HS : Hid (Vr w44 w41.heap.size s9.cs) := HS.out.heap (K9 _ (Nat.ne_of_gt LT_HV_HS.out)); have NB9 : Hid (NoB w44 gv) := (by rw [E9.out]; exact NoB.upd NB_HV.out HV.out k hk s9 SL.out); have V9 : Hid (Vr w44 gv (rv G P (.slice so 16 sc) B (.slice ko 32 kc) (upd T k s9))) := (by rw [E9.out]; exact Vr.upd HV.out k hk s9); clear NB_HV HV; have NB_HV := NB9; have HV := V9; clear NB9 V9; have BB : Hid (Below w.heap.size w w44) := BB.out.trans (B9.mono LE_HV.out); clear hs_0 hs_1 hs_2 hs_3 hs_4; have hs_0 := HS.out.cell 0 _ rfl; have hs_1 := HS.out.cell 1 _ rfl; have hs_2 := HS.out.cell 2 _ rfl; have hs_3 := HS.out.cell 3 _ rfl; have hs_4 := HS.out.cell 4 _ rfl; clear E9 R9 T9 B9 K9; clear t4; have t5 : (1 : Nat) = 1 := rfl)
          | (have q3 := t3; (with_reducible refine at_store ?_); refine store_lawC _ s9.cs w41.heap.size 0 rfl rfl HS.out.2 rowy_slot.2 (cs_one SL.out) ?_; intro w43 E9 R9 T9 B9; have K9 : ∀ k, k ≠ w41.heap.size → w43.heap[k]? = w42.heap[k]? := (by rw [E9.out]; exact fun k hk => heap_cells _ _ _ _ k hk); have HJ2 : Hid (∀ j, j < k → Byt w43 (T j).v (T j).xs) := fun j hj => byt_nob (HJ2.out j hj) NB_HS.out K9; have YR : Hid (Byt w43 r9 (xs.drop 80)) := byt_nob YR.out NB_HS.out K9; have YS : Hid (Byt w43 (.slice so 16 sc) (sub xs 16 32)) := byt_nob YS.out NB_HS.out K9; have YK : Hid (Byt w43 (.slice ko 32 kc) (sub xs 48 80)) := byt_nob YK.out NB_HS.out K9; have NB_HR : Hid (NoB w43 w.heap.size) := NB_HR.out.heap (K9 _ (Nat.ne_of_lt LT_HR_HS.out)); have HR : Hid (Vr w43 w.heap.size rv0) := HR.out.heap (K9 _ (Nat.ne_of_lt LT_HR_HS.out)); have NB_HV : Hid (NoB w43 gv) := NB_HV.out.heap (K9 _ (Nat.ne_of_lt LT_HV_HS.out)); have HV : Hid (Vr w43 gv (rv G P (.slice so 16 sc) B (.slice ko 32 kc) T)) := HV.out.heap (K9 _ (Nat.ne_of_lt LT_HV_HS.out)); have YD : Hid (Byt w43 s9.v s9.xs) := byt_nob YD.out NB_HS.out K9; have NB_HS : Hid (NoB w43 w41.heap.size) := (by rw [E9.out]; exact NB_HS.out.set HS.out rfl (cs_nob SL.out)); have HS : Hid (Vr w43 w41.heap.size s9.cs) := ⟨R9, T9⟩; have BB : Hid (Below w.heap.size w w43) := BB.out.trans (B9.mono LE_HS.out); have hs_0 := HS.out.cell 0 _ rfl; have hs_1 := HS.out.cell 1 _ rfl; have hs_2 := HS.out.cell 2 _ rfl; have hs_3 := HS.out.cell 3 _ rfl; have hs_4 := HS.out.cell 4 _ rfl; clear E9 R9 T9 B9 K9; clear t3; have t4 : (1 : Nat) = 1 := rfl)
          | (have q2 := t2; (with_reducible refine at_alloc ?_); refine new_lawN _ (sv false 0 0 0 (.slice none 0 0)) zero_slot (sv_nob _ _ _ _ _ _ _) ?_; intro w42 X9 N9 B9; have LT_HR_HS : Hid (w.heap.size < w41.heap.size) := range_lt HR.out.1 (Nat.succ_pos _); have LT_HV_HS : Hid (gv < w41.heap.size) := range_lt HV.out.1 (Nat.succ_pos _); have LE_HS : Hid (w.heap.size ≤ w41.heap.size) := BB.out.size; have YR : Hid (Byt w42 r9 (xs.drop 80)) := YR.out.below B9; have YS : Hid (Byt w42 (.slice so 16 sc) (sub xs 16 32)) := YS.out.below B9; have YK : Hid (Byt w42 (.slice ko 32 kc) (sub xs 48 80)) := YK.out.below B9; have NB_HR : Hid (NoB w42 w.heap.size) := NB_HR.out.heap (B9.block _ (range_lt HR.out.1 (Nat.succ_pos _))); have HR : Hid (Vr w42 w.heap.size rv0) := HR.out.below B9 (range_lt HR.out.1 (Nat.succ_pos _)); have NB_HV : Hid (NoB w42 gv) := NB_HV.out.heap (B9.block _ (range_lt HV.out.1 (Nat.succ_pos _))); have HV : Hid (Vr w42 gv (rv G P (.slice so 16 sc) B (.slice ko 32 kc) T)) := HV.out.below B9 (range_lt HV.out.1 (Nat.succ_pos _)); have YD : Hid (Byt w42 s9.v s9.xs) := YD.out.below B9; have HS : Hid (Vr w42 w41.heap.size (sv false 0 0 0 (.slice none 0 0))) := X9; have NB_HS : Hid (NoB w42 w41.heap.size) := N9; have HJ2 : Hid (∀ j, j < k → Byt w42 (T j).v (T j).xs) := fun j hj => (HJ2.out j hj).below B9; have BB : Hid (Below w.heap.size w w42) := BB.out.trans (B9.mono BB.out.size); clear X9 N9 B9; clear t2; have t3 : (1 : Nat) = 1 := rfl)
          | (have q1 := t1; go_at_call 38; refine (SD.out k hk wr _ SK.out BB.out Y9.out).mono ?_; rintro e9 w41 ⟨s9, rfl, ⟨e8, f8, z8⟩, B9⟩; have YR : Hid (Byt w41 r9 (xs.drop 80)) := YR.out.below B9; have YS : Hid (Byt w41 (.slice so 16 sc) (sub xs 16 32)) := YS.out.below B9; have YK : Hid (Byt w41 (.slice ko 32 kc) (sub xs 48 80)) := YK.out.below B9; have NB_HR : Hid (NoB w41 w.heap.size) := NB_HR.out.heap (B9.block _ (range_lt HR.out.1 (Nat.succ_pos _))); have HR : Hid (Vr w41 w.heap.size rv0) := HR.out.below B9 (range_lt HR.out.1 (Nat.succ_pos _)); have NB_HV : Hid (NoB w41 gv) := NB_HV.out.heap (B9.block _ (range_lt HV.out.1 (Nat.succ_pos _))); have HV : Hid (Vr w41 gv (rv G P (.slice so 16 sc) B (.slice ko 32 kc) T)) := HV.out.below B9 (range_lt HV.out.1 (Nat.succ_pos _)); have YD : Hid (Byt w41 s9.v s9.xs) := z8; have ED : Hid (s9.d = sw (qw xs k) ∧ Sb s9.n s9.e s9.t) := ⟨e8, f8⟩; have SL : Hid (Slc s9.v) := slc_byt z8; have HJ2 : Hid (∀ j, j < k → Byt w41 (T j).v (T j).xs) := fun j hj => (HJ2.out j hj).below B9; have BB : Hid (Below w.heap.size w w41) := BB.out.trans (B9.mono BB.out.size); clear B9 e8 f8 z8; clear t1; have t2 : (1 : Nat) = 1 := rfl)
          | (have q0 := t0; refine cut_part _ rfl (.tmp 44) (.tmp 46) (.tmp 49) rfl _ (xs.drop 80) _ _ (128 * k) (128 * (k + 1)) rfl rfl rfl (by omega) (by omega) (by omega) LC.out YR.out ?_; intro v9 y9; rw [qw_cut] at y9; have Y9 : Hid (Byt wr v9 (qw xs k)) := y9; clear y9; clear t0; have t1 : (1 : Nat) = 1 := rfl))
        go_roundw
        case rel => exact ⟨k + 1, upd T k s9, by omega, by go_num, upto_succ (fun j hj => by rw [upd_other _ _ _ _ (Nat.ne_of_lt hj)]; exact ⟨(HJ.out j hj).1, (HJ.out j hj).2.1, HJ2.out j hj⟩) (by rw [upd_same]; exact ⟨ED.out.1, ED.out.2, YD.out⟩), (fun j hj => by by_cases e : j = k <;> first | (rw [e, upd_same]; exact SL.out) | (rw [upd_other _ _ _ _ e]; exact HSl.out j hj)), HV.out, ⟨NB_HV.out, HR.out, NB_HR.out⟩, ⟨YR.out, YS.out, YK.out⟩, BB.out⟩
        case measure => simp [intOf]; omega
      · have e4 : k = 4 := by omega
        subst e4
        have HJ2 : Hid (∀ j, j < 4 → Byt wr (T j).v (T j).xs) := fun j hj => (HJ.out j hj).2.2
        have t0 : (1 : Nat) = 1 := rfl
        have LE_HR : Hid (w.heap.size ≤ w.heap.size) := Nat.le_refl _
        have LT_HR_HV := LTV
        go_wp2_with (first
          | (have q1 := t1; (with_reducible refine at_store ?_); refine store_lawC _ (rv G P (.slice so 16 sc) B (.slice ko 32 kc) T) w.heap.size 0 rfl rfl HR.out.2 rowy_record.2 (rv_one (slc_sl _ _ _) (slc_sl _ _ _) HSl.out) ?_; intro w41 E9 R9 T9 B9; have K9 : ∀ k, k ≠ w.heap.size → w41.heap[k]? = wr.heap[k]? := (by rw [E9.out]; exact fun k hk => heap_cells _ _ _ _ k hk); have HJ2 : Hid (∀ j, j < 4 → Byt w41 (T j).v (T j).xs) := fun j hj => byt_nob (HJ2.out j hj) NB_HR.out K9; have YS : Hid (Byt w41 (.slice so 16 sc) (sub xs 16 32)) := byt_nob YS.out NB_HR.out K9; have YK : Hid (Byt w41 (.slice ko 32 kc) (sub xs 48 80)) := byt_nob YK.out NB_HR.out K9; have HV : Hid (Vr w41 gv (rv G P (.slice so 16 sc) B (.slice ko 32 kc) T)) := HV.out.heap (K9 _ (Nat.ne_of_gt LT_HR_HV.out)); have NB_HR : Hid (NoB w41 w.heap.size) := (by rw [E9.out]; exact NB_HR.out.set HR.out rfl (rv_nob (slc_sl _ _ _) (slc_sl _ _ _) HSl.out)); have HR : Hid (Vr w41 w.heap.size (rv G P (.slice so 16 sc) B (.slice ko 32 kc) T)) := ⟨R9, T9⟩; have BB : Hid (Below w.heap.size w w41) := BB.out.trans (B9.mono LE_HR.out); clear E9 R9 T9 B9 K9; clear t1; have t2 : (1 : Nat) = 1 := rfl)
          | (have q0 := t0; refine load_lawC _ rfl (rv G P (.slice so 16 sc) B (.slice ko 32 kc) T) gv 0 rfl HV.out.1 rowy_record ?_; clear t0; have t1 : (1 : Nat) = 1 := rfl))
        exact bodyPost_ret (v := .tuple #[.agg (rv G P (.slice so 16 sc) B (.slice ko 32 kc) T).toArray, .int .i64 0]) (results_cv rfl _ _ w.heap.size _ _ rowy_record rfl rfl HR.out.1) rfl ⟨_, _, _, rfl, ⟨UU.out, YS.out, YK.out, fun j hj => ⟨(HJ.out j hj).2.1, HJ2.out j hj⟩⟩, fun j hj => (HJ.out j hj).1, BB.out⟩

set_option maxHeartbeats 8000000 in
theorem read_form (v : Value) (xs : List Int) (w : World) (hb : Byt w v xs) (hl : xs.length = 624) (hT : Tbl w) (hT2 : Tb2 w) (hz : qz xs = 0) (hs : ¬ ∀ k, k < 4 → Sok (qw xs k)) :
    Calls Tryd.prog 17 #[v] w fun x w' => x = .returned (.tuple #[.agg rv0.toArray, .int .i64 1]) ∧ Below w.heap.size w w' := by
  have HL : Hid (xs.length = 624) := hl
  have SU : Hid (∀ w0, Below w.heap.size w w0 → Calls Tryd.prog 36 #[v] w0 fun x w' => ∃ v0 v1 v2 v3 v4 v5 r, x = .returned (.tuple #[.agg (pv v0 v1 v2 v3 v4 v5).toArray, r]) ∧ (Byt w' v0 (sub xs 0 8) ∧ Byt w' v1 (sub xs 8 16) ∧ Byt w' v2 (sub xs 16 32) ∧ Byt w' v3 (sub xs 32 40) ∧ Byt w' v4 (sub xs 40 48) ∧ Byt w' v5 (sub xs 48 80) ∧ Byt w' r (xs.drop 80)) ∧ Below w0.heap.size w0 w') := fun w0 q => cut_any v xs w0 (hb.below q) hl (hT2.below q hT2.lt)
  have ZN : Hid (num (last8 (sub xs 40 48)) = 0) := hz
  have SD : Hid (∀ k, k < 4 → ∀ w0 z, Sok (qw xs k) → Below w.heap.size w w0 → Byt w0 z (qw xs k) → Calls Tryd.prog 38 #[z] w0 fun x w' => ∃ s : Sc, x = .returned (.tuple #[.agg s.cs.toArray, .int .i64 0]) ∧ (s.d = sw (qw xs k) ∧ Sb s.n s.e s.t ∧ Byt w' s.v s.xs) ∧ Below w0.heap.size w0 w') := fun k hk w0 z hs q hz => sread_yes z _ w0 hz (qw_len hl k hk) (hT.below q hT.lt) hs
  have HS0 : Hid (¬ ∀ k, k < 4 → Sok (qw xs k)) := hs
  have SX : Hid (∀ k, k < 4 → ∀ w0 z, ¬ Sok (qw xs k) → Below w.heap.size w w0 → Byt w0 z (qw xs k) → Calls Tryd.prog 38 #[z] w0 fun x w' => x = .returned (.tuple #[.agg (sv false 0 0 0 (.slice none 0 0)).toArray, .int .i64 1]) ∧ Below w0.heap.size w0 w') := fun k hk w0 z hs q hz => sread_no z _ w0 hz (qw_len hl k hk) (hT.below q hT.lt) hs
  have N0 : Hid (qg xs = num (last8 (sub xs 0 8))) := rfl
  have N1 : Hid (qp xs = num (last8 (sub xs 8 16))) := rfl
  have N3 : Hid (qb xs = num (last8 (sub xs 32 40))) := rfl
  have LN2 : Hid ((sub xs 16 32).length = 16) := sub_len xs 16 32 (by omega)
  have LN5 : Hid ((sub xs 48 80).length = 32) := sub_len xs 48 80 (by omega)
  generalize qg xs = G at N0
  generalize qp xs = P at N1
  generalize qb xs = B at N3
  obtain ⟨bo, bc, rfl⟩ := byt_form hb hl
  clear hb hl hT hT2 hz hs
  have t0 : (0 : Nat) = 0 := rfl
  go_enter Tryd.func17, Tryd.ntmps17
  go_wp2_with (first
    | (have q4 := t4; go_at_call 37; refine (num_any _ _ w4 Y4.out).mono ?_; rintro e9 w9 ⟨rfl, hw⟩; obtain rfl := hw.symm; rw [ZN.out]; clear t4; have t5 : (1 : Nat) = 1 := rfl)
    | (have q3 := t3; (with_reducible refine at_store ?_); refine store_lawC _ (pv v0 v1 v2 v3 v4 v5) w2.heap.size 0 rfl rfl HP.out.2 rowy_parts.2 (pv_one _ _ _ _ _ _ (slc_byt Y0.out) (slc_byt Y1.out) (slc_byt Y2.out) (slc_byt Y3.out) (slc_byt Y4.out) (slc_byt Y5.out)) ?_; intro w4 E9 R9 T9 B9; have K9 : ∀ k, k ≠ w2.heap.size → w4.heap[k]? = w3.heap[k]? := (by rw [E9.out]; exact fun k hk => heap_cells _ _ _ _ k hk); have NB_HR : Hid (NoB w4 w.heap.size) := NB_HR.out.heap (K9 _ (Nat.ne_of_lt LT_HR_HP.out)); have HR : Hid (Vr w4 w.heap.size rv0) := HR.out.heap (K9 _ (Nat.ne_of_lt LT_HR_HP.out)); have Y0 : Hid (Byt w4 v0 (sub xs 0 8)) := byt_nob Y0.out NB_HP.out K9; have Y1 : Hid (Byt w4 v1 (sub xs 8 16)) := byt_nob Y1.out NB_HP.out K9; have Y2 : Hid (Byt w4 v2 (sub xs 16 32)) := byt_nob Y2.out NB_HP.out K9; have Y3 : Hid (Byt w4 v3 (sub xs 32 40)) := byt_nob Y3.out NB_HP.out K9; have Y4 : Hid (Byt w4 v4 (sub xs 40 48)) := byt_nob Y4.out NB_HP.out K9; have Y5 : Hid (Byt w4 v5 (sub xs 48 80)) := byt_nob Y5.out NB_HP.out K9; have YR : Hid (Byt w4 r9 (xs.drop 80)) := byt_nob YR.out NB_HP.out K9; have NB_HP : Hid (NoB w4 w2.heap.size) := (by rw [E9.out]; exact NB_HP.out.set HP.out rfl (pv_nob _ _ _ _ _ _ (slc_byt Y0.out) (slc_byt Y1.out) (slc_byt Y2.out) (slc_byt Y3.out) (slc_byt Y4.out) (slc_byt Y5.out))); have HP : Hid (Vr w4 w2.heap.size (pv v0 v1 v2 v3 v4 v5)) := ⟨R9, T9⟩; have BB : Hid (Below w.heap.size w w4) := BB.out.trans (B9.mono LE_HP.out); have hp_0 := HP.out.cell 0 _ rfl; have hp_1 := HP.out.cell 1 _ rfl; have hp_2 := HP.out.cell 2 _ rfl; have hp_3 := HP.out.cell 3 _ rfl; have hp_4 := HP.out.cell 4 _ rfl; have hp_5 := HP.out.cell 5 _ rfl; clear E9 R9 T9 B9 K9; clear t3; have t4 : (1 : Nat) = 1 := rfl)
    | (have q2 := t2; (with_reducible refine at_alloc ?_); refine new_lawN _ (pv nl nl nl nl nl nl) zero_parts (pv_nob _ _ _ _ _ _ nl_slc nl_slc nl_slc nl_slc nl_slc nl_slc) ?_; intro w3 X9 N9 B9; have LT_HR_HP : Hid (w.heap.size < w2.heap.size) := range_lt HR.out.1 (Nat.succ_pos _); have LE_HP : Hid (w.heap.size ≤ w2.heap.size) := BB.out.size; have NB_HR : Hid (NoB w3 w.heap.size) := NB_HR.out.heap (B9.block _ (range_lt HR.out.1 (Nat.succ_pos _))); have HR : Hid (Vr w3 w.heap.size rv0) := HR.out.below B9 (range_lt HR.out.1 (Nat.succ_pos _)); have Y0 : Hid (Byt w3 v0 (sub xs 0 8)) := Y0.out.below B9; have Y1 : Hid (Byt w3 v1 (sub xs 8 16)) := Y1.out.below B9; have Y2 : Hid (Byt w3 v2 (sub xs 16 32)) := Y2.out.below B9; have Y3 : Hid (Byt w3 v3 (sub xs 32 40)) := Y3.out.below B9; have Y4 : Hid (Byt w3 v4 (sub xs 40 48)) := Y4.out.below B9; have Y5 : Hid (Byt w3 v5 (sub xs 48 80)) := Y5.out.below B9; have YR : Hid (Byt w3 r9 (xs.drop 80)) := YR.out.below B9; have HP : Hid (Vr w3 w2.heap.size (pv nl nl nl nl nl nl)) := X9; have NB_HP : Hid (NoB w3 w2.heap.size) := N9; have BB : Hid (Below w.heap.size w w3) := BB.out.trans (B9.mono BB.out.size); clear X9 N9 B9; clear t2; have t3 : (1 : Nat) = 1 := rfl)
    | (have q1 := t1; go_at_call 36; refine (SU.out w1 BB.out).mono ?_; rintro e9 w2 ⟨v0, v1, v2, v3, v4, v5, r9, rfl, ⟨y0, y1, y2, y3, y4, y5, y6⟩, B9⟩; have NB_HR : Hid (NoB w2 w.heap.size) := NB_HR.out.heap (B9.block _ (range_lt HR.out.1 (Nat.succ_pos _))); have HR : Hid (Vr w2 w.heap.size rv0) := HR.out.below B9 (range_lt HR.out.1 (Nat.succ_pos _)); have Y0 : Hid (Byt w2 v0 (sub xs 0 8)) := y0; have Y1 : Hid (Byt w2 v1 (sub xs 8 16)) := y1; have Y2 : Hid (Byt w2 v2 (sub xs 16 32)) := y2; have Y3 : Hid (Byt w2 v3 (sub xs 32 40)) := y3; have Y4 : Hid (Byt w2 v4 (sub xs 40 48)) := y4; have Y5 : Hid (Byt w2 v5 (sub xs 48 80)) := y5; have YR : Hid (Byt w2 r9 (xs.drop 80)) := y6; have BB : Hid (Below w.heap.size w w2) := BB.out.trans (B9.mono BB.out.size); clear B9 y0 y1 y2 y3 y4 y5 y6; clear t1; have t2 : (1 : Nat) = 1 := rfl)
    | (have q0 := t0; (with_reducible refine at_alloc ?_); refine new_lawN _ rv0 zero_record rv0_nob ?_; intro w1 X9 N9 B9; have LE_HR : Hid (w.heap.size ≤ w.heap.size) := Nat.le_refl _; have HR : Hid (Vr w1 w.heap.size rv0) := X9; have NB_HR : Hid (NoB w1 w.heap.size) := N9; have BB : Hid (Below w.heap.size w w1) := B9; clear X9 N9 B9; clear t0; have t1 : (1 : Nat) = 1 := rfl))
  clear hp_0 hp_1 hp_2 hp_3 hp_4 hp_5
  go_cut [6] (fun r6 wc => ∃ (gv : Nat) (so : Option Addr) (sc : Nat) (ko : Option Addr) (kc : Nat), r6 = .pointer (some ⟨gv, 0, none⟩) ∧ Vr wc gv (rv G P (.slice so 16 sc) B (.slice ko 32 kc) z4) ∧ NoB wc gv ∧ Byt wc (.slice so 16 sc) (sub xs 16 32) ∧ Byt wc (.slice ko 32 kc) (sub xs 48 80) ∧ w4.heap.size ≤ gv ∧ Below w4.heap.size w4 wc)
  case first =>
    refine wp_region_held_drew (S := fun w' => Below w4.heap.size w4 w') (by kernel_rfl) (Below.refl _ _).drew (fun hS => ?_)
    obtain ⟨x1, hx0⟩ : ∃ x, x = w4.drew := ⟨_, rfl⟩
    rw [← hx0] at hS  ⊢
    clear hx0
    refine take_lawH 0 (some 24) (.pointer (some ⟨w2.heap.size, 0, none⟩)) rfl rfl (by kernel_rfl) (by kernel_rfl) (by kernel_rfl) (fun _ _ _ h => h) (Or.inl ⟨by rfl, fun w' hw' => by go_simp⟩) hS ?_
    simp only [Act.put, List.setIfInBounds_toArray, List.set_cons_zero, List.set_cons_succ]
    refine take_lawH 1 (some 25) (v0) rfl rfl (by kernel_rfl) (by kernel_rfl) (by kernel_rfl) (fun _ _ _ h => h) (Or.inl ⟨by rfl, fun w' hw' => by exact exec_loadN 23 (.tmp 24) rfl _ rfl _ _ (load_one one_bytes ((HP.out.below hw' (range_lt HP.out.1 (Nat.succ_pos _))).cell 0 _ rfl))⟩) hS ?_
    simp only [Act.put, List.setIfInBounds_toArray, List.set_cons_zero, List.set_cons_succ]
    refine take_lawH 3 (some 27) (.pointer (some ⟨w2.heap.size, 1, none⟩)) rfl rfl (by kernel_rfl) (by kernel_rfl) (by kernel_rfl) (fun _ _ _ h => h) (Or.inl ⟨by rfl, fun w' hw' => by go_simp⟩) hS ?_
    simp only [Act.put, List.setIfInBounds_toArray, List.set_cons_zero, List.set_cons_succ]
    refine take_lawH 4 (some 28) (v1) rfl rfl (by kernel_rfl) (by kernel_rfl) (by kernel_rfl) (fun _ _ _ h => h) (Or.inl ⟨by rfl, fun w' hw' => by exact exec_loadN 23 (.tmp 27) rfl _ rfl _ _ (load_one one_bytes ((HP.out.below hw' (range_lt HP.out.1 (Nat.succ_pos _))).cell 1 _ rfl))⟩) hS ?_
    simp only [Act.put, List.setIfInBounds_toArray, List.set_cons_zero, List.set_cons_succ]
    refine take_lawH 6 (some 30) (.pointer (some ⟨w2.heap.size, 2, none⟩)) rfl rfl (by kernel_rfl) (by kernel_rfl) (by kernel_rfl) (fun _ _ _ h => h) (Or.inl ⟨by rfl, fun w' hw' => by go_simp⟩) hS ?_
    simp only [Act.put, List.setIfInBounds_toArray, List.set_cons_zero, List.set_cons_succ]
    refine take_lawH 7 (some 31) (v2) rfl rfl (by kernel_rfl) (by kernel_rfl) (by kernel_rfl) (fun _ _ _ h => h) (Or.inl ⟨by rfl, fun w' hw' => by exact exec_loadN 23 (.tmp 30) rfl _ rfl _ _ (load_one one_bytes ((HP.out.below hw' (range_lt HP.out.1 (Nat.succ_pos _))).cell 2 _ rfl))⟩) hS ?_
    simp only [Act.put, List.setIfInBounds_toArray, List.set_cons_zero, List.set_cons_succ]
    refine take_lawH 9 (some 33) (.pointer (some ⟨w2.heap.size, 3, none⟩)) rfl rfl (by kernel_rfl) (by kernel_rfl) (by kernel_rfl) (fun _ _ _ h => h) (Or.inl ⟨by rfl, fun w' hw' => by go_simp⟩) hS ?_
    simp only [Act.put, List.setIfInBounds_toArray, List.set_cons_zero, List.set_cons_succ]
    refine take_lawH 10 (some 34) (v3) rfl rfl (by kernel_rfl) (by kernel_rfl) (by kernel_rfl) (fun _ _ _ h => h) (Or.inl ⟨by rfl, fun w' hw' => by exact exec_loadN 23 (.tmp 33) rfl _ rfl _ _ (load_one one_bytes ((HP.out.below hw' (range_lt HP.out.1 (Nat.succ_pos _))).cell 3 _ rfl))⟩) hS ?_
    simp only [Act.put, List.setIfInBounds_toArray, List.set_cons_zero, List.set_cons_succ]
    refine take_lawH 12 (some 36) (.pointer (some ⟨w2.heap.size, 5, none⟩)) rfl rfl (by kernel_rfl) (by kernel_rfl) (by kernel_rfl) (fun _ _ _ h => h) (Or.inl ⟨by rfl, fun w' hw' => by go_simp⟩) hS ?_
    simp only [Act.put, List.setIfInBounds_toArray, List.set_cons_zero, List.set_cons_succ]
    refine take_lawH 13 (some 37) (v5) rfl rfl (by kernel_rfl) (by kernel_rfl) (by kernel_rfl) (fun _ _ _ h => h) (Or.inl ⟨by rfl, fun w' hw' => by exact exec_loadN 23 (.tmp 36) rfl _ rfl _ _ (load_one one_bytes ((HP.out.below hw' (range_lt HP.out.1 (Nat.succ_pos _))).cell 5 _ rfl))⟩) hS ?_
    simp only [Act.put, List.setIfInBounds_toArray, List.set_cons_zero, List.set_cons_succ]
    refine wpAnyH_ready (rs := [2, 16]) (by kernel_rfl) (by simp) ?_
    refine AllReadyH.cons rfl (fun K hK => ?_) (AllReadyH.cons rfl (fun K hK => ?_) AllReadyH.nil)
    · refine he.step_callW _ (by rfl) (some 26) rfl 37 #[.tmp 25] #[23] rfl (fun q w' => by rfl) #[v0] (by simp only [List.map_toArray, List.map_cons, List.map_nil]; rfl) (fun z9 w' => z9 = .int .u64 G ∧ Below x1.heap.size x1 w') ?_ ?_
      · exact (num_any _ _ x1 (Y0.out.below hS)).mono fun e w' ⟨h1, h2⟩ => ⟨_, h1, N0.out.symm ▸ rfl, h2 ▸ Below.refl _ _⟩
      rintro _ x2 ⟨rfl, hb⟩
      have hS : Below w4.heap.size w4 x2 := hS.trans (hb.mono hS.size)
      clear hb
      refine hK.out _ _ hS (fun _ => ?_)
      simp only [Act.put, List.setIfInBounds_toArray, List.set_cons_zero, List.set_cons_succ]
      clear hK K
      refine wpAnyH_ready (rs := [5, 16]) (by kernel_rfl) (by simp) ?_
      refine AllReadyH.cons rfl (fun K hK => ?_) (AllReadyH.cons rfl (fun K hK => ?_) AllReadyH.nil)
      · refine he.step_callW _ (by rfl) (some 29) rfl 37 #[.tmp 28] #[23] rfl (fun q w' => by rfl) #[v1] (by simp only [List.map_toArray, List.map_cons, List.map_nil]; rfl) (fun z9 w' => z9 = .int .u64 P ∧ Below x2.heap.size x2 w') ?_ ?_
        · exact (num_any _ _ x2 (Y1.out.below hS)).mono fun e w' ⟨h1, h2⟩ => ⟨_, h1, N1.out.symm ▸ rfl, h2 ▸ Below.refl _ _⟩
        rintro _ x3 ⟨rfl, hb⟩
        have hS : Below w4.heap.size w4 x3 := hS.trans (hb.mono hS.size)
        clear hb
        refine hK.out _ _ hS (fun _ => ?_)
        simp only [Act.put, List.setIfInBounds_toArray, List.set_cons_zero, List.set_cons_succ]
        clear hK K
        refine wpAnyH_ready (rs := [8, 16]) (by kernel_rfl) (by simp) ?_
        refine AllReadyH.cons rfl (fun K hK => ?_) (AllReadyH.cons rfl (fun K hK => ?_) AllReadyH.nil)
        · refine he.step_callW _ (by rfl) (some 32) rfl 31 #[.tmp 31] #[23] rfl (fun q w' => by rfl) #[v2] (by simp only [List.map_toArray, List.map_cons, List.map_nil]; rfl) (fun z9 w' => (∃ yo yc, z9 = .slice yo 16 yc ∧ Byt w' (.slice yo 16 yc) (sub xs 16 32)) ∧ Below x3.heap.size x3 w') ?_ ?_
          · exact (bclone_any v2 _ x3 (Y2.out.below hS) (by rw [LN2.out]; omega)).mono fun e w' ⟨z, h1, h2, h3⟩ => (by obtain ⟨yo, yc, rfl⟩ := byt_form h2.1 LN2.out; exact ⟨_, h1, ⟨yo, yc, rfl, h2.1⟩, h3⟩)
          rintro _ x4 ⟨⟨so, sc, rfl, y9⟩, hb⟩
          have YS : Hid (Byt x4 (.slice so 16 sc) (sub xs 16 32)) := y9
          clear y9
          have hS : Below w4.heap.size w4 x4 := hS.trans (hb.mono hS.size)
          clear hb
          refine hK.out _ _ hS (fun _ => ?_)
          simp only [Act.put, List.setIfInBounds_toArray, List.set_cons_zero, List.set_cons_succ]
          clear hK K
          refine wpAnyH_ready (rs := [11, 16]) (by kernel_rfl) (by simp) ?_
          refine AllReadyH.cons rfl (fun K hK => ?_) (AllReadyH.cons rfl (fun K hK => ?_) AllReadyH.nil)
          · refine he.step_callW _ (by rfl) (some 35) rfl 37 #[.tmp 34] #[23] rfl (fun q w' => by rfl) #[v3] (by simp only [List.map_toArray, List.map_cons, List.map_nil]; rfl) (fun z9 w' => z9 = .int .u64 B ∧ Below x4.heap.size x4 w') ?_ ?_
            · exact (num_any _ _ x4 (Y3.out.below hS)).mono fun e w' ⟨h1, h2⟩ => ⟨_, h1, N3.out.symm ▸ rfl, h2 ▸ Below.refl _ _⟩
            rintro _ x5 ⟨rfl, hb⟩
            have YS : Hid (Byt x5 (.slice so 16 sc) (sub xs 16 32)) := YS.out.below hb
            have hS : Below w4.heap.size w4 x5 := hS.trans (hb.mono hS.size)
            clear hb
            refine hK.out _ _ hS (fun _ => ?_)
            simp only [Act.put, List.setIfInBounds_toArray, List.set_cons_zero, List.set_cons_succ]
            clear hK K
            refine wpAnyH_ready (rs := [14, 16]) (by kernel_rfl) (by simp) ?_
            refine AllReadyH.cons rfl (fun K hK => ?_) (AllReadyH.cons rfl (fun K hK => ?_) AllReadyH.nil)
            · refine he.step_callW _ (by rfl) (some 38) rfl 31 #[.tmp 37] #[23] rfl (fun q w' => by rfl) #[v5] (by simp only [List.map_toArray, List.map_cons, List.map_nil]; rfl) (fun z9 w' => (∃ yo yc, z9 = .slice yo 32 yc ∧ Byt w' (.slice yo 32 yc) (sub xs 48 80)) ∧ Below x5.heap.size x5 w') ?_ ?_
              · exact (bclone_any v5 _ x5 (Y5.out.below hS) (by rw [LN5.out]; omega)).mono fun e w' ⟨z, h1, h2, h3⟩ => (by obtain ⟨yo, yc, rfl⟩ := byt_form h2.1 LN5.out; exact ⟨_, h1, ⟨yo, yc, rfl, h2.1⟩, h3⟩)
              rintro _ x6 ⟨⟨ko, kc, rfl, y9⟩, hb⟩
              have YS : Hid (Byt x6 (.slice so 16 sc) (sub xs 16 32)) := YS.out.below hb
              have YK : Hid (Byt x6 (.slice ko 32 kc) (sub xs 48 80)) := y9
              clear y9
              have hS : Below w4.heap.size w4 x6 := hS.trans (hb.mono hS.size)
              clear hb
              refine hK.out _ _ hS (fun _ => ?_)
              simp only [Act.put, List.setIfInBounds_toArray, List.set_cons_zero, List.set_cons_succ]
              clear hK K
              refine take_lawH 15 (some 39) (.agg (rv G P (.slice so 16 sc) B (.slice ko 32 kc) z4).toArray) rfl rfl (by kernel_rfl) (by kernel_rfl) (by kernel_rfl) (fun _ _ _ h => h) (Or.inl ⟨by rfl, fun w' hw' => by exact exec_build 28 _ rfl _ _ (by kernel_rfl)⟩) hS ?_
              simp only [Act.put, List.setIfInBounds_toArray, List.set_cons_zero, List.set_cons_succ]
              refine wpAnyH_ready (rs := [16]) (by kernel_rfl) (by simp) ?_
              refine AllReadyH.cons rfl (fun K hK => ?_) AllReadyH.nil
              refine step_newN _ rfl (some 6) rfl 28 rfl rv0 zero_record rv0_nob ?_
              intro x7 v9 n9 hb
              have YS : Hid (Byt x7 (.slice so 16 sc) (sub xs 16 32)) := YS.out.below hb
              have YK : Hid (Byt x7 (.slice ko 32 kc) (sub xs 48 80)) := YK.out.below hb
              have HV : Hid (Vr x7 x6.heap.size rv0) := v9
              have NB_HV : Hid (NoB x7 x6.heap.size) := n9
              have LV : Hid (w4.heap.size ≤ x6.heap.size) := hS.size
              have hS : Below w4.heap.size w4 x7 := hS.trans (hb.mono hS.size)
              clear v9 n9 hb
              obtain ⟨gv, hg9⟩ : ∃ g, g = x6.heap.size := ⟨_, rfl⟩
              rw [← hg9] at HV NB_HV LV ⊢
              clear hg9
              refine hK.out _ _ hS (fun _ => ?_)
              simp only [Act.put, List.setIfInBounds_toArray, List.set_cons_zero, List.set_cons_succ]
              clear hK K
              refine wpAnyH_ready (rs := [17]) (by kernel_rfl) (by simp) ?_
              refine AllReadyH.cons rfl (fun K hK => ?_) AllReadyH.nil
              refine step_storeN _ rfl none rfl (.tmp 6) (.tmp 39) 28 rfl gv rv0 (rv G P (.slice so 16 sc) B (.slice ko 32 kc) z4) rfl rfl HV.out NB_HV.out rfl rowy_record.2 (rv_one (slc_sl _ _ _) (slc_sl _ _ _) slc_z4) (rv_nob (slc_sl _ _ _) (slc_sl _ _ _) slc_z4) ?_
              intro x8 v9 n9 B9 E9
              have HV : Hid (Vr x8 gv (rv G P (.slice so 16 sc) B (.slice ko 32 kc) z4)) := v9
              have YS : Hid (Byt x8 (.slice so 16 sc) (sub xs 16 32)) := byt_nob YS.out NB_HV.out E9
              have YK : Hid (Byt x8 (.slice ko 32 kc) (sub xs 48 80)) := byt_nob YK.out NB_HV.out E9
              have NB_HV : Hid (NoB x8 gv) := n9
              have hS : Below w4.heap.size w4 x8 := hS.trans (B9.mono LV.out)
              clear v9 n9 B9 E9
              refine hK.out _ _ hS (fun _ => ?_)
              simp only [Act.put]
              clear hK K
              refine wpAnyH_done (by kernel_rfl) ?_ _
              go_wp2_with fail
              go_meet
              exact ⟨gv, so, sc, ko, kc, rfl, HV.out, NB_HV.out, YS.out, YK.out, LV.out, hS⟩
            · refine step_newN _ rfl (some 6) rfl 28 rfl rv0 zero_record rv0_nob ?_
              intro x9 v9 n9 hb
              have YS : Hid (Byt x9 (.slice so 16 sc) (sub xs 16 32)) := YS.out.below hb
              have HV : Hid (Vr x9 x5.heap.size rv0) := v9
              have NB_HV : Hid (NoB x9 x5.heap.size) := n9
              have LV : Hid (w4.heap.size ≤ x5.heap.size) := hS.size
              have hS : Below w4.heap.size w4 x9 := hS.trans (hb.mono hS.size)
              clear v9 n9 hb
              obtain ⟨gv, hg9⟩ : ∃ g, g = x5.heap.size := ⟨_, rfl⟩
              rw [← hg9] at HV NB_HV LV ⊢
              clear hg9
              refine hK.out _ _ hS (fun _ => ?_)
              simp only [Act.put, List.setIfInBounds_toArray, List.set_cons_zero, List.set_cons_succ]
              clear hK K
              refine wpAnyH_ready (rs := [14]) (by kernel_rfl) (by simp) ?_
              refine AllReadyH.cons rfl (fun K hK => ?_) AllReadyH.nil
              refine he.step_callW _ (by rfl) (some 38) rfl 31 #[.tmp 37] #[23] rfl (fun q w' => by rfl) #[v5] (by simp only [List.map_toArray, List.map_cons, List.map_nil]; rfl) (fun z9 w' => (∃ yo yc, z9 = .slice yo 32 yc ∧ Byt w' (.slice yo 32 yc) (sub xs 48 80)) ∧ Below x9.heap.size x9 w') ?_ ?_
              · exact (bclone_any v5 _ x9 (Y5.out.below hS) (by rw [LN5.out]; omega)).mono fun e w' ⟨z, h1, h2, h3⟩ => (by obtain ⟨yo, yc, rfl⟩ := byt_form h2.1 LN5.out; exact ⟨_, h1, ⟨yo, yc, rfl, h2.1⟩, h3⟩)
              rintro _ x10 ⟨⟨ko, kc, rfl, y9⟩, hb⟩
              have YS : Hid (Byt x10 (.slice so 16 sc) (sub xs 16 32)) := YS.out.below hb
              have NB_HV : Hid (NoB x10 gv) := NB_HV.out.heap (hb.block _ (range_lt HV.out.1 (Nat.succ_pos _)))
              have HV : Hid (Vr x10 gv rv0) := HV.out.below hb (range_lt HV.out.1 (Nat.succ_pos _))
              have YK : Hid (Byt x10 (.slice ko 32 kc) (sub xs 48 80)) := y9
              clear y9
              have hS : Below w4.heap.size w4 x10 := hS.trans (hb.mono hS.size)
              clear hb
              refine hK.out _ _ hS (fun _ => ?_)
              simp only [Act.put, List.setIfInBounds_toArray, List.set_cons_zero, List.set_cons_succ]
              clear hK K
              refine take_lawH 15 (some 39) (.agg (rv G P (.slice so 16 sc) B (.slice ko 32 kc) z4).toArray) rfl rfl (by kernel_rfl) (by kernel_rfl) (by kernel_rfl) (fun _ _ _ h => h) (Or.inl ⟨by rfl, fun w' hw' => by exact exec_build 28 _ rfl _ _ (by kernel_rfl)⟩) hS ?_
              simp only [Act.put, List.setIfInBounds_toArray, List.set_cons_zero, List.set_cons_succ]
              refine wpAnyH_ready (rs := [17]) (by kernel_rfl) (by simp) ?_
              refine AllReadyH.cons rfl (fun K hK => ?_) AllReadyH.nil
              refine step_storeN _ rfl none rfl (.tmp 6) (.tmp 39) 28 rfl gv rv0 (rv G P (.slice so 16 sc) B (.slice ko 32 kc) z4) rfl rfl HV.out NB_HV.out rfl rowy_record.2 (rv_one (slc_sl _ _ _) (slc_sl _ _ _) slc_z4) (rv_nob (slc_sl _ _ _) (slc_sl _ _ _) slc_z4) ?_
              intro x11 v9 n9 B9 E9
              have HV : Hid (Vr x11 gv (rv G P (.slice so 16 sc) B (.slice ko 32 kc) z4)) := v9
              have YS : Hid (Byt x11 (.slice so 16 sc) (sub xs 16 32)) := byt_nob YS.out NB_HV.out E9
              have YK : Hid (Byt x11 (.slice ko 32 kc) (sub xs 48 80)) := byt_nob YK.out NB_HV.out E9
              have NB_HV : Hid (NoB x11 gv) := n9
              have hS : Below w4.heap.size w4 x11 := hS.trans (B9.mono LV.out)
              clear v9 n9 B9 E9
              refine hK.out _ _ hS (fun _ => ?_)
              simp only [Act.put]
              clear hK K
              refine wpAnyH_done (by kernel_rfl) ?_ _
              go_wp2_with fail
              go_meet
              exact ⟨gv, so, sc, ko, kc, rfl, HV.out, NB_HV.out, YS.out, YK.out, LV.out, hS⟩
          · refine step_newN _ rfl (some 6) rfl 28 rfl rv0 zero_record rv0_nob ?_
            intro x12 v9 n9 hb
            have YS : Hid (Byt x12 (.slice so 16 sc) (sub xs 16 32)) := YS.out.below hb
            have HV : Hid (Vr x12 x4.heap.size rv0) := v9
            have NB_HV : Hid (NoB x12 x4.heap.size) := n9
            have LV : Hid (w4.heap.size ≤ x4.heap.size) := hS.size
            have hS : Below w4.heap.size w4 x12 := hS.trans (hb.mono hS.size)
            clear v9 n9 hb
            obtain ⟨gv, hg9⟩ : ∃ g, g = x4.heap.size := ⟨_, rfl⟩
            rw [← hg9] at HV NB_HV LV ⊢
            clear hg9
            refine hK.out _ _ hS (fun _ => ?_)
            simp only [Act.put, List.setIfInBounds_toArray, List.set_cons_zero, List.set_cons_succ]
            clear hK K
            refine wpAnyH_ready (rs := [11]) (by kernel_rfl) (by simp) ?_
            refine AllReadyH.cons rfl (fun K hK => ?_) AllReadyH.nil
            refine he.step_callW _ (by rfl) (some 35) rfl 37 #[.tmp 34] #[23] rfl (fun q w' => by rfl) #[v3] (by simp only [List.map_toArray, List.map_cons, List.map_nil]; rfl) (fun z9 w' => z9 = .int .u64 B ∧ Below x12.heap.size x12 w') ?_ ?_
            · exact (num_any _ _ x12 (Y3.out.below hS)).mono fun e w' ⟨h1, h2⟩ => ⟨_, h1, N3.out.symm ▸ rfl, h2 ▸ Below.refl _ _⟩
            rintro _ x13 ⟨rfl, hb⟩
            have YS : Hid (Byt x13 (.slice so 16 sc) (sub xs 16 32)) := YS.out.below hb
            have NB_HV : Hid (NoB x13 gv) := NB_HV.out.heap (hb.block _ (range_lt HV.out.1 (Nat.succ_pos _)))
            have HV : Hid (Vr x13 gv rv0) := HV.out.below hb (range_lt HV.out.1 (Nat.succ_pos _))
            have hS : Below w4.heap.size w4 x13 := hS.trans (hb.mono hS.size)
            clear hb
            refine hK.out _ _ hS (fun _ => ?_)
            simp only [Act.put, List.setIfInBounds_toArray, List.set_cons_zero, List.set_cons_succ]
            clear hK K
            refine wpAnyH_ready (rs := [14]) (by kernel_rfl) (by simp) ?_
            refine AllReadyH.cons rfl (fun K hK => ?_) AllReadyH.nil
            refine he.step_callW _ (by rfl) (some 38) rfl 31 #[.tmp 37] #[23] rfl (fun q w' => by rfl) #[v5] (by simp only [List.map_toArray, List.map_cons, List.map_nil]; rfl) (fun z9 w' => (∃ yo yc, z9 = .slice yo 32 yc ∧ Byt w' (.slice yo 32 yc) (sub xs 48 80)) ∧ Below x13.heap.size x13 w') ?_ ?_
            · exact (bclone_any v5 _ x13 (Y5.out.below hS) (by rw [LN5.out]; omega)).mono fun e w' ⟨z, h1, h2, h3⟩ => (by obtain ⟨yo, yc, rfl⟩ := byt_form h2.1 LN5.out; exact ⟨_, h1, ⟨yo, yc, rfl, h2.1⟩, h3⟩)
            rintro _ x14 ⟨⟨ko, kc, rfl, y9⟩, hb⟩
            have YS : Hid (Byt x14 (.slice so 16 sc) (sub xs 16 32)) := YS.out.below hb
            have NB_HV : Hid (NoB x14 gv) := NB_HV.out.heap (hb.block _ (range_lt HV.out.1 (Nat.succ_pos _)))
            have HV : Hid (Vr x14 gv rv0) := HV.out.below hb (range_lt HV.out.1 (Nat.succ_pos _))
            have YK : Hid (Byt x14 (.slice ko 32 kc) (sub xs 48 80)) := y9
            clear y9
            have hS : Below w4.heap.size w4 x14 := hS.trans (hb.mono hS.size)
            clear hb
            refine hK.out _ _ hS (fun _ => ?_)
            simp only [Act.put, List.setIfInBounds_toArray, List.set_cons_zero, List.set_cons_succ]
            clear hK K
            refine take_lawH 15 (some 39) (.agg (rv G P (.slice so 16 sc) B (.slice ko 32 kc) z4).toArray) rfl rfl (by kernel_rfl) (by kernel_rfl) (by kernel_rfl) (fun _ _ _ h => h) (Or.inl ⟨by rfl, fun w' hw' => by exact exec_build 28 _ rfl _ _ (by kernel_rfl)⟩) hS ?_
            simp only [Act.put, List.setIfInBounds_toArray, List.set_cons_zero, List.set_cons_succ]
            refine wpAnyH_ready (rs := [17]) (by kernel_rfl) (by simp) ?_
            refine AllReadyH.cons rfl (fun K hK => ?_) AllReadyH.nil
            refine step_storeN _ rfl none rfl (.tmp 6) (.tmp 39) 28 rfl gv rv0 (rv G P (.slice so 16 sc) B (.slice ko 32 kc) z4) rfl rfl HV.out NB_HV.out rfl rowy_record.2 (rv_one (slc_sl _ _ _) (slc_sl _ _ _) slc_z4) (rv_nob (slc_sl _ _ _) (slc_sl _ _ _) slc_z4) ?_
            intro x15 v9 n9 B9 E9
            have HV : Hid (Vr x15 gv (rv G P (.slice so 16 sc) B (.slice ko 32 kc) z4)) := v9
            have YS : Hid (Byt x15 (.slice so 16 sc) (sub xs 16 32)) := byt_nob YS.out NB_HV.out E9
            have YK : Hid (Byt x15 (.slice ko 32 kc) (sub xs 48 80)) := byt_nob YK.out NB_HV.out E9
            have NB_HV : Hid (NoB x15 gv) := n9
            have hS : Below w4.heap.size w4 x15 := hS.trans (B9.mono LV.out)
            clear v9 n9 B9 E9
            refine hK.out _ _ hS (fun _ => ?_)
            simp only [Act.put]
            clear hK K
            refine wpAnyH_done (by kernel_rfl) ?_ _
            go_wp2_with fail
            go_meet
            exact ⟨gv, so, sc, ko, kc, rfl, HV.out, NB_HV.out, YS.out, YK.out, LV.out, hS⟩
        · refine step_newN _ rfl (some 6) rfl 28 rfl rv0 zero_record rv0_nob ?_
          intro x16 v9 n9 hb
          have HV : Hid (Vr x16 x3.heap.size rv0) := v9
          have NB_HV : Hid (NoB x16 x3.heap.size) := n9
          have LV : Hid (w4.heap.size ≤ x3.heap.size) := hS.size
          have hS : Below w4.heap.size w4 x16 := hS.trans (hb.mono hS.size)
          clear v9 n9 hb
          obtain ⟨gv, hg9⟩ : ∃ g, g = x3.heap.size := ⟨_, rfl⟩
          rw [← hg9] at HV NB_HV LV ⊢
          clear hg9
          refine hK.out _ _ hS (fun _ => ?_)
          simp only [Act.put, List.setIfInBounds_toArray, List.set_cons_zero, List.set_cons_succ]
          clear hK K
          refine wpAnyH_ready (rs := [8]) (by kernel_rfl) (by simp) ?_
          refine AllReadyH.cons rfl (fun K hK => ?_) AllReadyH.nil
          refine he.step_callW _ (by rfl) (some 32) rfl 31 #[.tmp 31] #[23] rfl (fun q w' => by rfl) #[v2] (by simp only [List.map_toArray, List.map_cons, List.map_nil]; rfl) (fun z9 w' => (∃ yo yc, z9 = .slice yo 16 yc ∧ Byt w' (.slice yo 16 yc) (sub xs 16 32)) ∧ Below x16.heap.size x16 w') ?_ ?_
          · exact (bclone_any v2 _ x16 (Y2.out.below hS) (by rw [LN2.out]; omega)).mono fun e w' ⟨z, h1, h2, h3⟩ => (by obtain ⟨yo, yc, rfl⟩ := byt_form h2.1 LN2.out; exact ⟨_, h1, ⟨yo, yc, rfl, h2.1⟩, h3⟩)
          rintro _ x17 ⟨⟨so, sc, rfl, y9⟩, hb⟩
          have NB_HV : Hid (NoB x17 gv) := NB_HV.out.heap (hb.block _ (range_lt HV.out.1 (Nat.succ_pos _)))
          have HV : Hid (Vr x17 gv rv0) := HV.out.below hb (range_lt HV.out.1 (Nat.succ_pos _))
          have YS : Hid (Byt x17 (.slice so 16 sc) (sub xs 16 32)) := y9
          clear y9
          have hS : Below w4.heap.size w4 x17 := hS.trans (hb.mono hS.size)
          clear hb
          refine hK.out _ _ hS (fun _ => ?_)
          simp only [Act.put, List.setIfInBounds_toArray, List.set_cons_zero, List.set_cons_succ]
          clear hK K
          refine wpAnyH_ready (rs := [11]) (by kernel_rfl) (by simp) ?_
          refine AllReadyH.cons rfl (fun K hK => ?_) AllReadyH.nil
          refine he.step_callW _ (by rfl) (some 35) rfl 37 #[.tmp 34] #[23] rfl (fun q w' => by rfl) #[v3] (by simp only [List.map_toArray, List.map_cons, List.map_nil]; rfl) (fun z9 w' => z9 = .int .u64 B ∧ Below x17.heap.size x17 w') ?_ ?_
          · exact (num_any _ _ x17 (Y3.out.below hS)).mono fun e w' ⟨h1, h2⟩ => ⟨_, h1, N3.out.symm ▸ rfl, h2 ▸ Below.refl _ _⟩
          rintro _ x18 ⟨rfl, hb⟩
          have NB_HV : Hid (NoB x18 gv) := NB_HV.out.heap (hb.block _ (range_lt HV.out.1 (Nat.succ_pos _)))
          have HV : Hid (Vr x18 gv rv0) := HV.out.below hb (range_lt HV.out.1 (Nat.succ_pos _))
          have YS : Hid (Byt x18 (.slice so 16 sc) (sub xs 16 32)) := YS.out.below hb
          have hS : Below w4.heap.size w4 x18 := hS.trans (hb.mono hS.size)
          clear hb
          refine hK.out _ _ hS (fun _ => ?_)
          simp only [Act.put, List.setIfInBounds_toArray, List.set_cons_zero, List.set_cons_succ]
          clear hK K
          refine wpAnyH_ready (rs := [14]) (by kernel_rfl) (by simp) ?_
          refine AllReadyH.cons rfl (fun K hK => ?_) AllReadyH.nil
          refine he.step_callW _ (by rfl) (some 38) rfl 31 #[.tmp 37] #[23] rfl (fun q w' => by rfl) #[v5] (by simp only [List.map_toArray, List.map_cons, List.map_nil]; rfl) (fun z9 w' => (∃ yo yc, z9 = .slice yo 32 yc ∧ Byt w' (.slice yo 32 yc) (sub xs 48 80)) ∧ Below x18.heap.size x18 w') ?_ ?_
          · exact (bclone_any v5 _ x18 (Y5.out.below hS) (by rw [LN5.out]; omega)).mono fun e w' ⟨z, h1, h2, h3⟩ => (by obtain ⟨yo, yc, rfl⟩ := byt_form h2.1 LN5.out; exact ⟨_, h1, ⟨yo, yc, rfl, h2.1⟩, h3⟩)
          rintro _ x19 ⟨⟨ko, kc, rfl, y9⟩, hb⟩
          have NB_HV : Hid (NoB x19 gv) := NB_HV.out.heap (hb.block _ (range_lt HV.out.1 (Nat.succ_pos _)))
          have HV : Hid (Vr x19 gv rv0) := HV.out.below hb (range_lt HV.out.1 (Nat.succ_pos _))
          have YS : Hid (Byt x19 (.slice so 16 sc) (sub xs 16 32)) := YS.out.below hb
          have YK : Hid (Byt x19 (.slice ko 32 kc) (sub xs 48 80)) := y9
          clear y9
          have hS : Below w4.heap.size w4 x19 := hS.trans (hb.mono hS.size)
          clear hb
          refine hK.out _ _ hS (fun _ => ?_)
          simp only [Act.put, List.setIfInBounds_toArray, List.set_cons_zero, List.set_cons_succ]
          clear hK K
          refine take_lawH 15 (some 39) (.agg (rv G P (.slice so 16 sc) B (.slice ko 32 kc) z4).toArray) rfl rfl (by kernel_rfl) (by kernel_rfl) (by kernel_rfl) (fun _ _ _ h => h) (Or.inl ⟨by rfl, fun w' hw' => by exact exec_build 28 _ rfl _ _ (by kernel_rfl)⟩) hS ?_
          simp only [Act.put, List.setIfInBounds_toArray, List.set_cons_zero, List.set_cons_succ]
          refine wpAnyH_ready (rs := [17]) (by kernel_rfl) (by simp) ?_
          refine AllReadyH.cons rfl (fun K hK => ?_) AllReadyH.nil
          refine step_storeN _ rfl none rfl (.tmp 6) (.tmp 39) 28 rfl gv rv0 (rv G P (.slice so 16 sc) B (.slice ko 32 kc) z4) rfl rfl HV.out NB_HV.out rfl rowy_record.2 (rv_one (slc_sl _ _ _) (slc_sl _ _ _) slc_z4) (rv_nob (slc_sl _ _ _) (slc_sl _ _ _) slc_z4) ?_
          intro x20 v9 n9 B9 E9
          have HV : Hid (Vr x20 gv (rv G P (.slice so 16 sc) B (.slice ko 32 kc) z4)) := v9
          have YS : Hid (Byt x20 (.slice so 16 sc) (sub xs 16 32)) := byt_nob YS.out NB_HV.out E9
          have YK : Hid (Byt x20 (.slice ko 32 kc) (sub xs 48 80)) := byt_nob YK.out NB_HV.out E9
          have NB_HV : Hid (NoB x20 gv) := n9
          have hS : Below w4.heap.size w4 x20 := hS.trans (B9.mono LV.out)
          clear v9 n9 B9 E9
          refine hK.out _ _ hS (fun _ => ?_)
          simp only [Act.put]
          clear hK K
          refine wpAnyH_done (by kernel_rfl) ?_ _
          go_wp2_with fail
          go_meet
          exact ⟨gv, so, sc, ko, kc, rfl, HV.out, NB_HV.out, YS.out, YK.out, LV.out, hS⟩
      · refine step_newN _ rfl (some 6) rfl 28 rfl rv0 zero_record rv0_nob ?_
        intro x21 v9 n9 hb
        have HV : Hid (Vr x21 x2.heap.size rv0) := v9
        have NB_HV : Hid (NoB x21 x2.heap.size) := n9
        have LV : Hid (w4.heap.size ≤ x2.heap.size) := hS.size
        have hS : Below w4.heap.size w4 x21 := hS.trans (hb.mono hS.size)
        clear v9 n9 hb
        obtain ⟨gv, hg9⟩ : ∃ g, g = x2.heap.size := ⟨_, rfl⟩
        rw [← hg9] at HV NB_HV LV ⊢
        clear hg9
        refine hK.out _ _ hS (fun _ => ?_)
        simp only [Act.put, List.setIfInBounds_toArray, List.set_cons_zero, List.set_cons_succ]
        clear hK K
        refine wpAnyH_ready (rs := [5]) (by kernel_rfl) (by simp) ?_
        refine AllReadyH.cons rfl (fun K hK => ?_) AllReadyH.nil
        refine he.step_callW _ (by rfl) (some 29) rfl 37 #[.tmp 28] #[23] rfl (fun q w' => by rfl) #[v1] (by simp only [List.map_toArray, List.map_cons, List.map_nil]; rfl) (fun z9 w' => z9 = .int .u64 P ∧ Below x21.heap.size x21 w') ?_ ?_
        · exact (num_any _ _ x21 (Y1.out.below hS)).mono fun e w' ⟨h1, h2⟩ => ⟨_, h1, N1.out.symm ▸ rfl, h2 ▸ Below.refl _ _⟩
        rintro _ x22 ⟨rfl, hb⟩
        have NB_HV : Hid (NoB x22 gv) := NB_HV.out.heap (hb.block _ (range_lt HV.out.1 (Nat.succ_pos _)))
        have HV : Hid (Vr x22 gv rv0) := HV.out.below hb (range_lt HV.out.1 (Nat.succ_pos _))
        have hS : Below w4.heap.size w4 x22 := hS.trans (hb.mono hS.size)
        clear hb
        refine hK.out _ _ hS (fun _ => ?_)
        simp only [Act.put, List.setIfInBounds_toArray, List.set_cons_zero, List.set_cons_succ]
        clear hK K
        refine wpAnyH_ready (rs := [8]) (by kernel_rfl) (by simp) ?_
        refine AllReadyH.cons rfl (fun K hK => ?_) AllReadyH.nil
        refine he.step_callW _ (by rfl) (some 32) rfl 31 #[.tmp 31] #[23] rfl (fun q w' => by rfl) #[v2] (by simp only [List.map_toArray, List.map_cons, List.map_nil]; rfl) (fun z9 w' => (∃ yo yc, z9 = .slice yo 16 yc ∧ Byt w' (.slice yo 16 yc) (sub xs 16 32)) ∧ Below x22.heap.size x22 w') ?_ ?_
        · exact (bclone_any v2 _ x22 (Y2.out.below hS) (by rw [LN2.out]; omega)).mono fun e w' ⟨z, h1, h2, h3⟩ => (by obtain ⟨yo, yc, rfl⟩ := byt_form h2.1 LN2.out; exact ⟨_, h1, ⟨yo, yc, rfl, h2.1⟩, h3⟩)
        rintro _ x23 ⟨⟨so, sc, rfl, y9⟩, hb⟩
        have NB_HV : Hid (NoB x23 gv) := NB_HV.out.heap (hb.block _ (range_lt HV.out.1 (Nat.succ_pos _)))
        have HV : Hid (Vr x23 gv rv0) := HV.out.below hb (range_lt HV.out.1 (Nat.succ_pos _))
        have YS : Hid (Byt x23 (.slice so 16 sc) (sub xs 16 32)) := y9
        clear y9
        have hS : Below w4.heap.size w4 x23 := hS.trans (hb.mono hS.size)
        clear hb
        refine hK.out _ _ hS (fun _ => ?_)
        simp only [Act.put, List.setIfInBounds_toArray, List.set_cons_zero, List.set_cons_succ]
        clear hK K
        refine wpAnyH_ready (rs := [11]) (by kernel_rfl) (by simp) ?_
        refine AllReadyH.cons rfl (fun K hK => ?_) AllReadyH.nil
        refine he.step_callW _ (by rfl) (some 35) rfl 37 #[.tmp 34] #[23] rfl (fun q w' => by rfl) #[v3] (by simp only [List.map_toArray, List.map_cons, List.map_nil]; rfl) (fun z9 w' => z9 = .int .u64 B ∧ Below x23.heap.size x23 w') ?_ ?_
        · exact (num_any _ _ x23 (Y3.out.below hS)).mono fun e w' ⟨h1, h2⟩ => ⟨_, h1, N3.out.symm ▸ rfl, h2 ▸ Below.refl _ _⟩
        rintro _ x24 ⟨rfl, hb⟩
        have NB_HV : Hid (NoB x24 gv) := NB_HV.out.heap (hb.block _ (range_lt HV.out.1 (Nat.succ_pos _)))
        have HV : Hid (Vr x24 gv rv0) := HV.out.below hb (range_lt HV.out.1 (Nat.succ_pos _))
        have YS : Hid (Byt x24 (.slice so 16 sc) (sub xs 16 32)) := YS.out.below hb
        have hS : Below w4.heap.size w4 x24 := hS.trans (hb.mono hS.size)
        clear hb
        refine hK.out _ _ hS (fun _ => ?_)
        simp only [Act.put, List.setIfInBounds_toArray, List.set_cons_zero, List.set_cons_succ]
        clear hK K
        refine wpAnyH_ready (rs := [14]) (by kernel_rfl) (by simp) ?_
        refine AllReadyH.cons rfl (fun K hK => ?_) AllReadyH.nil
        refine he.step_callW _ (by rfl) (some 38) rfl 31 #[.tmp 37] #[23] rfl (fun q w' => by rfl) #[v5] (by simp only [List.map_toArray, List.map_cons, List.map_nil]; rfl) (fun z9 w' => (∃ yo yc, z9 = .slice yo 32 yc ∧ Byt w' (.slice yo 32 yc) (sub xs 48 80)) ∧ Below x24.heap.size x24 w') ?_ ?_
        · exact (bclone_any v5 _ x24 (Y5.out.below hS) (by rw [LN5.out]; omega)).mono fun e w' ⟨z, h1, h2, h3⟩ => (by obtain ⟨yo, yc, rfl⟩ := byt_form h2.1 LN5.out; exact ⟨_, h1, ⟨yo, yc, rfl, h2.1⟩, h3⟩)
        rintro _ x25 ⟨⟨ko, kc, rfl, y9⟩, hb⟩
        have NB_HV : Hid (NoB x25 gv) := NB_HV.out.heap (hb.block _ (range_lt HV.out.1 (Nat.succ_pos _)))
        have HV : Hid (Vr x25 gv rv0) := HV.out.below hb (range_lt HV.out.1 (Nat.succ_pos _))
        have YS : Hid (Byt x25 (.slice so 16 sc) (sub xs 16 32)) := YS.out.below hb
        have YK : Hid (Byt x25 (.slice ko 32 kc) (sub xs 48 80)) := y9
        clear y9
        have hS : Below w4.heap.size w4 x25 := hS.trans (hb.mono hS.size)
        clear hb
        refine hK.out _ _ hS (fun _ => ?_)
        simp only [Act.put, List.setIfInBounds_toArray, List.set_cons_zero, List.set_cons_succ]
        clear hK K
        refine take_lawH 15 (some 39) (.agg (rv G P (.slice so 16 sc) B (.slice ko 32 kc) z4).toArray) rfl rfl (by kernel_rfl) (by kernel_rfl) (by kernel_rfl) (fun _ _ _ h => h) (Or.inl ⟨by rfl, fun w' hw' => by exact exec_build 28 _ rfl _ _ (by kernel_rfl)⟩) hS ?_
        simp only [Act.put, List.setIfInBounds_toArray, List.set_cons_zero, List.set_cons_succ]
        refine wpAnyH_ready (rs := [17]) (by kernel_rfl) (by simp) ?_
        refine AllReadyH.cons rfl (fun K hK => ?_) AllReadyH.nil
        refine step_storeN _ rfl none rfl (.tmp 6) (.tmp 39) 28 rfl gv rv0 (rv G P (.slice so 16 sc) B (.slice ko 32 kc) z4) rfl rfl HV.out NB_HV.out rfl rowy_record.2 (rv_one (slc_sl _ _ _) (slc_sl _ _ _) slc_z4) (rv_nob (slc_sl _ _ _) (slc_sl _ _ _) slc_z4) ?_
        intro x26 v9 n9 B9 E9
        have HV : Hid (Vr x26 gv (rv G P (.slice so 16 sc) B (.slice ko 32 kc) z4)) := v9
        have YS : Hid (Byt x26 (.slice so 16 sc) (sub xs 16 32)) := byt_nob YS.out NB_HV.out E9
        have YK : Hid (Byt x26 (.slice ko 32 kc) (sub xs 48 80)) := byt_nob YK.out NB_HV.out E9
        have NB_HV : Hid (NoB x26 gv) := n9
        have hS : Below w4.heap.size w4 x26 := hS.trans (B9.mono LV.out)
        clear v9 n9 B9 E9
        refine hK.out _ _ hS (fun _ => ?_)
        simp only [Act.put]
        clear hK K
        refine wpAnyH_done (by kernel_rfl) ?_ _
        go_wp2_with fail
        go_meet
        exact ⟨gv, so, sc, ko, kc, rfl, HV.out, NB_HV.out, YS.out, YK.out, LV.out, hS⟩
    · refine step_newN _ rfl (some 6) rfl 28 rfl rv0 zero_record rv0_nob ?_
      intro x27 v9 n9 hb
      have HV : Hid (Vr x27 x1.heap.size rv0) := v9
      have NB_HV : Hid (NoB x27 x1.heap.size) := n9
      have LV : Hid (w4.heap.size ≤ x1.heap.size) := hS.size
      have hS : Below w4.heap.size w4 x27 := hS.trans (hb.mono hS.size)
      clear v9 n9 hb
      obtain ⟨gv, hg9⟩ : ∃ g, g = x1.heap.size := ⟨_, rfl⟩
      rw [← hg9] at HV NB_HV LV ⊢
      clear hg9
      refine hK.out _ _ hS (fun _ => ?_)
      simp only [Act.put, List.setIfInBounds_toArray, List.set_cons_zero, List.set_cons_succ]
      clear hK K
      refine wpAnyH_ready (rs := [2]) (by kernel_rfl) (by simp) ?_
      refine AllReadyH.cons rfl (fun K hK => ?_) AllReadyH.nil
      refine he.step_callW _ (by rfl) (some 26) rfl 37 #[.tmp 25] #[23] rfl (fun q w' => by rfl) #[v0] (by simp only [List.map_toArray, List.map_cons, List.map_nil]; rfl) (fun z9 w' => z9 = .int .u64 G ∧ Below x27.heap.size x27 w') ?_ ?_
      · exact (num_any _ _ x27 (Y0.out.below hS)).mono fun e w' ⟨h1, h2⟩ => ⟨_, h1, N0.out.symm ▸ rfl, h2 ▸ Below.refl _ _⟩
      rintro _ x28 ⟨rfl, hb⟩
      have NB_HV : Hid (NoB x28 gv) := NB_HV.out.heap (hb.block _ (range_lt HV.out.1 (Nat.succ_pos _)))
      have HV : Hid (Vr x28 gv rv0) := HV.out.below hb (range_lt HV.out.1 (Nat.succ_pos _))
      have hS : Below w4.heap.size w4 x28 := hS.trans (hb.mono hS.size)
      clear hb
      refine hK.out _ _ hS (fun _ => ?_)
      simp only [Act.put, List.setIfInBounds_toArray, List.set_cons_zero, List.set_cons_succ]
      clear hK K
      refine wpAnyH_ready (rs := [5]) (by kernel_rfl) (by simp) ?_
      refine AllReadyH.cons rfl (fun K hK => ?_) AllReadyH.nil
      refine he.step_callW _ (by rfl) (some 29) rfl 37 #[.tmp 28] #[23] rfl (fun q w' => by rfl) #[v1] (by simp only [List.map_toArray, List.map_cons, List.map_nil]; rfl) (fun z9 w' => z9 = .int .u64 P ∧ Below x28.heap.size x28 w') ?_ ?_
      · exact (num_any _ _ x28 (Y1.out.below hS)).mono fun e w' ⟨h1, h2⟩ => ⟨_, h1, N1.out.symm ▸ rfl, h2 ▸ Below.refl _ _⟩
      rintro _ x29 ⟨rfl, hb⟩
      have NB_HV : Hid (NoB x29 gv) := NB_HV.out.heap (hb.block _ (range_lt HV.out.1 (Nat.succ_pos _)))
      have HV : Hid (Vr x29 gv rv0) := HV.out.below hb (range_lt HV.out.1 (Nat.succ_pos _))
      have hS : Below w4.heap.size w4 x29 := hS.trans (hb.mono hS.size)
      clear hb
      refine hK.out _ _ hS (fun _ => ?_)
      simp only [Act.put, List.setIfInBounds_toArray, List.set_cons_zero, List.set_cons_succ]
      clear hK K
      refine wpAnyH_ready (rs := [8]) (by kernel_rfl) (by simp) ?_
      refine AllReadyH.cons rfl (fun K hK => ?_) AllReadyH.nil
      refine he.step_callW _ (by rfl) (some 32) rfl 31 #[.tmp 31] #[23] rfl (fun q w' => by rfl) #[v2] (by simp only [List.map_toArray, List.map_cons, List.map_nil]; rfl) (fun z9 w' => (∃ yo yc, z9 = .slice yo 16 yc ∧ Byt w' (.slice yo 16 yc) (sub xs 16 32)) ∧ Below x29.heap.size x29 w') ?_ ?_
      · exact (bclone_any v2 _ x29 (Y2.out.below hS) (by rw [LN2.out]; omega)).mono fun e w' ⟨z, h1, h2, h3⟩ => (by obtain ⟨yo, yc, rfl⟩ := byt_form h2.1 LN2.out; exact ⟨_, h1, ⟨yo, yc, rfl, h2.1⟩, h3⟩)
      rintro _ x30 ⟨⟨so, sc, rfl, y9⟩, hb⟩
      have NB_HV : Hid (NoB x30 gv) := NB_HV.out.heap (hb.block _ (range_lt HV.out.1 (Nat.succ_pos _)))
      have HV : Hid (Vr x30 gv rv0) := HV.out.below hb (range_lt HV.out.1 (Nat.succ_pos _))
      have YS : Hid (Byt x30 (.slice so 16 sc) (sub xs 16 32)) := y9
      clear y9
      have hS : Below w4.heap.size w4 x30 := hS.trans (hb.mono hS.size)
      clear hb
      refine hK.out _ _ hS (fun _ => ?_)
      simp only [Act.put, List.setIfInBounds_toArray, List.set_cons_zero, List.set_cons_succ]
      clear hK K
      refine wpAnyH_ready (rs := [11]) (by kernel_rfl) (by simp) ?_
      refine AllReadyH.cons rfl (fun K hK => ?_) AllReadyH.nil
      refine he.step_callW _ (by rfl) (some 35) rfl 37 #[.tmp 34] #[23] rfl (fun q w' => by rfl) #[v3] (by simp only [List.map_toArray, List.map_cons, List.map_nil]; rfl) (fun z9 w' => z9 = .int .u64 B ∧ Below x30.heap.size x30 w') ?_ ?_
      · exact (num_any _ _ x30 (Y3.out.below hS)).mono fun e w' ⟨h1, h2⟩ => ⟨_, h1, N3.out.symm ▸ rfl, h2 ▸ Below.refl _ _⟩
      rintro _ x31 ⟨rfl, hb⟩
      have NB_HV : Hid (NoB x31 gv) := NB_HV.out.heap (hb.block _ (range_lt HV.out.1 (Nat.succ_pos _)))
      have HV : Hid (Vr x31 gv rv0) := HV.out.below hb (range_lt HV.out.1 (Nat.succ_pos _))
      have YS : Hid (Byt x31 (.slice so 16 sc) (sub xs 16 32)) := YS.out.below hb
      have hS : Below w4.heap.size w4 x31 := hS.trans (hb.mono hS.size)
      clear hb
      refine hK.out _ _ hS (fun _ => ?_)
      simp only [Act.put, List.setIfInBounds_toArray, List.set_cons_zero, List.set_cons_succ]
      clear hK K
      refine wpAnyH_ready (rs := [14]) (by kernel_rfl) (by simp) ?_
      refine AllReadyH.cons rfl (fun K hK => ?_) AllReadyH.nil
      refine he.step_callW _ (by rfl) (some 38) rfl 31 #[.tmp 37] #[23] rfl (fun q w' => by rfl) #[v5] (by simp only [List.map_toArray, List.map_cons, List.map_nil]; rfl) (fun z9 w' => (∃ yo yc, z9 = .slice yo 32 yc ∧ Byt w' (.slice yo 32 yc) (sub xs 48 80)) ∧ Below x31.heap.size x31 w') ?_ ?_
      · exact (bclone_any v5 _ x31 (Y5.out.below hS) (by rw [LN5.out]; omega)).mono fun e w' ⟨z, h1, h2, h3⟩ => (by obtain ⟨yo, yc, rfl⟩ := byt_form h2.1 LN5.out; exact ⟨_, h1, ⟨yo, yc, rfl, h2.1⟩, h3⟩)
      rintro _ x32 ⟨⟨ko, kc, rfl, y9⟩, hb⟩
      have NB_HV : Hid (NoB x32 gv) := NB_HV.out.heap (hb.block _ (range_lt HV.out.1 (Nat.succ_pos _)))
      have HV : Hid (Vr x32 gv rv0) := HV.out.below hb (range_lt HV.out.1 (Nat.succ_pos _))
      have YS : Hid (Byt x32 (.slice so 16 sc) (sub xs 16 32)) := YS.out.below hb
      have YK : Hid (Byt x32 (.slice ko 32 kc) (sub xs 48 80)) := y9
      clear y9
      have hS : Below w4.heap.size w4 x32 := hS.trans (hb.mono hS.size)
      clear hb
      refine hK.out _ _ hS (fun _ => ?_)
      simp only [Act.put, List.setIfInBounds_toArray, List.set_cons_zero, List.set_cons_succ]
      clear hK K
      refine take_lawH 15 (some 39) (.agg (rv G P (.slice so 16 sc) B (.slice ko 32 kc) z4).toArray) rfl rfl (by kernel_rfl) (by kernel_rfl) (by kernel_rfl) (fun _ _ _ h => h) (Or.inl ⟨by rfl, fun w' hw' => by exact exec_build 28 _ rfl _ _ (by kernel_rfl)⟩) hS ?_
      simp only [Act.put, List.setIfInBounds_toArray, List.set_cons_zero, List.set_cons_succ]
      refine wpAnyH_ready (rs := [17]) (by kernel_rfl) (by simp) ?_
      refine AllReadyH.cons rfl (fun K hK => ?_) AllReadyH.nil
      refine step_storeN _ rfl none rfl (.tmp 6) (.tmp 39) 28 rfl gv rv0 (rv G P (.slice so 16 sc) B (.slice ko 32 kc) z4) rfl rfl HV.out NB_HV.out rfl rowy_record.2 (rv_one (slc_sl _ _ _) (slc_sl _ _ _) slc_z4) (rv_nob (slc_sl _ _ _) (slc_sl _ _ _) slc_z4) ?_
      intro x33 v9 n9 B9 E9
      have HV : Hid (Vr x33 gv (rv G P (.slice so 16 sc) B (.slice ko 32 kc) z4)) := v9
      have YS : Hid (Byt x33 (.slice so 16 sc) (sub xs 16 32)) := byt_nob YS.out NB_HV.out E9
      have YK : Hid (Byt x33 (.slice ko 32 kc) (sub xs 48 80)) := byt_nob YK.out NB_HV.out E9
      have NB_HV : Hid (NoB x33 gv) := n9
      have hS : Below w4.heap.size w4 x33 := hS.trans (B9.mono LV.out)
      clear v9 n9 B9 E9
      refine hK.out _ _ hS (fun _ => ?_)
      simp only [Act.put]
      clear hK K
      refine wpAnyH_done (by kernel_rfl) ?_ _
      go_wp2_with fail
      go_meet
      exact ⟨gv, so, sc, ko, kc, rfl, HV.out, NB_HV.out, YS.out, YK.out, LV.out, hS⟩
  case rest =>
    obtain ⟨gv, so, sc, ko, kc, rfl, x1, x2, x3, x4, x5, x6⟩ := hcut
    have HV : Hid (Vr wc gv (rv G P (.slice so 16 sc) B (.slice ko 32 kc) z4)) := x1
    have NB_HV : Hid (NoB wc gv) := x2
    have YS : Hid (Byt wc (.slice so 16 sc) (sub xs 16 32)) := x3
    have YK : Hid (Byt wc (.slice ko 32 kc) (sub xs 48 80)) := x4
    have LTV : Hid (w.heap.size < gv) := Nat.lt_of_lt_of_le (range_lt HR.out.1 (Nat.succ_pos _)) x5
    have NB_HR : Hid (NoB wc w.heap.size) := NB_HR.out.heap (x6.block _ (range_lt HR.out.1 (Nat.succ_pos _)))
    have HR : Hid (Vr wc w.heap.size rv0) := HR.out.below x6 (range_lt HR.out.1 (Nat.succ_pos _))
    have YR : Hid (Byt wc r9 (xs.drop 80)) := YR.out.below x6
    have BB : Hid (Below w.heap.size w wc) := BB.out.trans (x6.mono BB.out.size)
    clear x1 x2 x3 x4 x5 x6 Y0 Y1 Y2 Y3 Y4 Y5 SU HP NB_HP
    go_wp2
    go_loopw [40] (fun i wr => ∃ (k : Nat) (T : Nat → Sc), k ≤ 4 ∧ i = .int .i64 (k : Int) ∧ (∀ j, j < k → Sok (qw xs j) ∧ Sb (T j).n (T j).e (T j).t ∧ Byt wr (T j).v (T j).xs) ∧ (∀ j, j < 4 → Slc (T j).v) ∧ Vr wr gv (rv G P (.slice so 16 sc) B (.slice ko 32 kc) T) ∧ (NoB wr gv ∧ Vr wr w.heap.size rv0 ∧ NoB wr w.heap.size) ∧ (Byt wr r9 (xs.drop 80) ∧ Byt wr (.slice so 16 sc) (sub xs 16 32) ∧ Byt wr (.slice ko 32 kc) (sub xs 48 80)) ∧ Below w.heap.size w wr) (fun i _ => 4 - (intOf i).toNat)
    case atStart => exact ⟨0, z4, Nat.zero_le _, rfl, upto_zero, slc_z4, HV.out, ⟨NB_HV.out, HR.out, NB_HR.out⟩, ⟨YR.out, YS.out, YK.out⟩, BB.out⟩
    case round =>
      clear HV NB_HV HR NB_HR YR YS YK BB
      obtain ⟨k, T, hk4, rfl, hj, hs, hv, ⟨nv9, hr9, nr9⟩, ⟨yr, ys, yk⟩, hBl⟩ := hrel
      have HJ : Hid (∀ j, j < k → Sok (qw xs j) ∧ Sb (T j).n (T j).e (T j).t ∧ Byt wr (T j).v (T j).xs) := hj
      have HSl : Hid (∀ j, j < 4 → Slc (T j).v) := hs
      have HV : Hid (Vr wr gv (rv G P (.slice so 16 sc) B (.slice ko 32 kc) T)) := hv
      have NB_HV : Hid (NoB wr gv) := nv9
      have HR : Hid (Vr wr w.heap.size rv0) := hr9
      have NB_HR : Hid (NoB wr w.heap.size) := nr9
      have YR : Hid (Byt wr r9 (xs.drop 80)) := yr
      have YS : Hid (Byt wr (.slice so 16 sc) (sub xs 16 32)) := ys
      have YK : Hid (Byt wr (.slice ko 32 kc) (sub xs 48 80)) := yk
      have BB : Hid (Below w.heap.size w wr) := hBl
      clear hj hs hv nv9 hr9 nr9 yr ys yk hBl
      by_cases hk : k < 4
      · have ki : (k : Int) < 4 := by omega
        have k1 : IntKind.i64.wrap (128 * (k : Int)) = 128 * (k : Int) := by rw [IntKind.wrap_i64]; omega
        have k2 : IntKind.i64.wrap ((k : Int) + 1) = (k : Int) + 1 := by rw [IntKind.wrap_i64]; omega
        have k3 : IntKind.i64.wrap (128 * ((k : Int) + 1)) = 128 * ((k : Int) + 1) := by rw [IntKind.wrap_i64]; omega
        have LC : Hid (128 * (k + 1) ≤ (xs.drop 80).length) := (by show _ ≤ _; rw [List.length_drop, HL.out]; omega)
        have LT_HR_HV := LTV
        have LE_HV : Hid (w.heap.size ≤ gv) := Nat.le_of_lt LTV.out
        by_cases SH : Sok (qw xs k)
        · have HJ2 : Hid (∀ j, j < k → Byt wr (T j).v (T j).xs) := fun j hj => (HJ.out j hj).2.2
          have SK : Hid (Sok (qw xs k)) := SH
          have t0 : (1 : Nat) = 1 := rfl
          go_wp2_with (first
            | (have q4 := t4; (with_reducible refine at_store ?_); refine store_lawC _ s9.cs gv (5 + k * 5) rfl rfl (Vr.sthere HV.out k hk) rowy_slot.2 (cs_one SL.out) ?_; intro w44 E9 R9 T9 B9; have K9 : ∀ k, k ≠ gv → w44.heap[k]? = w43.heap[k]? := (by rw [E9.out]; exact fun k hk => heap_cells _ _ _ _ k hk); have HJ2 : Hid (∀ j, j < k → Byt w44 (T j).v (T j).xs) := fun j hj => byt_nob (HJ2.out j hj) NB_HV.out K9; have YR : Hid (Byt w44 r9 (xs.drop 80)) := byt_nob YR.out NB_HV.out K9; have YS : Hid (Byt w44 (.slice so 16 sc) (sub xs 16 32)) := byt_nob YS.out NB_HV.out K9; have YK : Hid (Byt w44 (.slice ko 32 kc) (sub xs 48 80)) := byt_nob YK.out NB_HV.out K9; have NB_HR : Hid (NoB w44 w.heap.size) := NB_HR.out.heap (K9 _ (Nat.ne_of_lt LT_HR_HV.out)); have HR : Hid (Vr w44 w.heap.size rv0) := HR.out.heap (K9 _ (Nat.ne_of_lt LT_HR_HV.out)); have YD : Hid (Byt w44 s9.v s9.xs) := byt_nob YD.out NB_HV.out K9; have NB_HS : Hid (NoB w44 w41.heap.size) := NB_HS.out.heap (K9 _ (Nat.ne_of_gt LT_HV_HS.out)); have HS : Hid (Vr w44 w41.heap.size s9.cs) := HS.out.heap (K9 _ (Nat.ne_of_gt LT_HV_HS.out)); have NB9 : Hid (NoB w44 gv) := (by rw [E9.out]; exact NoB.upd NB_HV.out HV.out k hk s9 SL.out); have V9 : Hid (Vr w44 gv (rv G P (.slice so 16 sc) B (.slice ko 32 kc) (upd T k s9))) := (by rw [E9.out]; exact Vr.upd HV.out k hk s9); clear NB_HV HV; have NB_HV := NB9; have HV := V9; clear NB9 V9; have BB : Hid (Below w.heap.size w w44) := BB.out.trans (B9.mono LE_HV.out); clear hs_0 hs_1 hs_2 hs_3 hs_4; have hs_0 := HS.out.cell 0 _ rfl; have hs_1 := HS.out.cell 1 _ rfl; have hs_2 := HS.out.cell 2 _ rfl; have hs_3 := HS.out.cell 3 _ rfl; have hs_4 := HS.out.cell 4 _ rfl; clear E9 R9 T9 B9 K9; clear t4; have t5 : (1 : Nat) = 1 := rfl)
            | (have q3 := t3; (with_reducible refine at_store ?_); refine store_lawC _ s9.cs w41.heap.size 0 rfl rfl HS.out.2 rowy_slot.2 (cs_one SL.out) ?_; intro w43 E9 R9 T9 B9; have K9 : ∀ k, k ≠ w41.heap.size → w43.heap[k]? = w42.heap[k]? := (by rw [E9.out]; exact fun k hk => heap_cells _ _ _ _ k hk); have HJ2 : Hid (∀ j, j < k → Byt w43 (T j).v (T j).xs) := fun j hj => byt_nob (HJ2.out j hj) NB_HS.out K9; have YR : Hid (Byt w43 r9 (xs.drop 80)) := byt_nob YR.out NB_HS.out K9; have YS : Hid (Byt w43 (.slice so 16 sc) (sub xs 16 32)) := byt_nob YS.out NB_HS.out K9; have YK : Hid (Byt w43 (.slice ko 32 kc) (sub xs 48 80)) := byt_nob YK.out NB_HS.out K9; have NB_HR : Hid (NoB w43 w.heap.size) := NB_HR.out.heap (K9 _ (Nat.ne_of_lt LT_HR_HS.out)); have HR : Hid (Vr w43 w.heap.size rv0) := HR.out.heap (K9 _ (Nat.ne_of_lt LT_HR_HS.out)); have NB_HV : Hid (NoB w43 gv) := NB_HV.out.heap (K9 _ (Nat.ne_of_lt LT_HV_HS.out)); have HV : Hid (Vr w43 gv (rv G P (.slice so 16 sc) B (.slice ko 32 kc) T)) := HV.out.heap (K9 _ (Nat.ne_of_lt LT_HV_HS.out)); have YD : Hid (Byt w43 s9.v s9.xs) := byt_nob YD.out NB_HS.out K9; have NB_HS : Hid (NoB w43 w41.heap.size) := (by rw [E9.out]; exact NB_HS.out.set HS.out rfl (cs_nob SL.out)); have HS : Hid (Vr w43 w41.heap.size s9.cs) := ⟨R9, T9⟩; have BB : Hid (Below w.heap.size w w43) := BB.out.trans (B9.mono LE_HS.out); have hs_0 := HS.out.cell 0 _ rfl; have hs_1 := HS.out.cell 1 _ rfl; have hs_2 := HS.out.cell 2 _ rfl; have hs_3 := HS.out.cell 3 _ rfl; have hs_4 := HS.out.cell 4 _ rfl; clear E9 R9 T9 B9 K9; clear t3; have t4 : (1 : Nat) = 1 := rfl)
            | (have q2 := t2; (with_reducible refine at_alloc ?_); refine new_lawN _ (sv false 0 0 0 (.slice none 0 0)) zero_slot (sv_nob _ _ _ _ _ _ _) ?_; intro w42 X9 N9 B9; have LT_HR_HS : Hid (w.heap.size < w41.heap.size) := range_lt HR.out.1 (Nat.succ_pos _); have LT_HV_HS : Hid (gv < w41.heap.size) := range_lt HV.out.1 (Nat.succ_pos _); have LE_HS : Hid (w.heap.size ≤ w41.heap.size) := BB.out.size; have YR : Hid (Byt w42 r9 (xs.drop 80)) := YR.out.below B9; have YS : Hid (Byt w42 (.slice so 16 sc) (sub xs 16 32)) := YS.out.below B9; have YK : Hid (Byt w42 (.slice ko 32 kc) (sub xs 48 80)) := YK.out.below B9; have NB_HR : Hid (NoB w42 w.heap.size) := NB_HR.out.heap (B9.block _ (range_lt HR.out.1 (Nat.succ_pos _))); have HR : Hid (Vr w42 w.heap.size rv0) := HR.out.below B9 (range_lt HR.out.1 (Nat.succ_pos _)); have NB_HV : Hid (NoB w42 gv) := NB_HV.out.heap (B9.block _ (range_lt HV.out.1 (Nat.succ_pos _))); have HV : Hid (Vr w42 gv (rv G P (.slice so 16 sc) B (.slice ko 32 kc) T)) := HV.out.below B9 (range_lt HV.out.1 (Nat.succ_pos _)); have YD : Hid (Byt w42 s9.v s9.xs) := YD.out.below B9; have HS : Hid (Vr w42 w41.heap.size (sv false 0 0 0 (.slice none 0 0))) := X9; have NB_HS : Hid (NoB w42 w41.heap.size) := N9; have HJ2 : Hid (∀ j, j < k → Byt w42 (T j).v (T j).xs) := fun j hj => (HJ2.out j hj).below B9; have BB : Hid (Below w.heap.size w w42) := BB.out.trans (B9.mono BB.out.size); clear X9 N9 B9; clear t2; have t3 : (1 : Nat) = 1 := rfl)
            | (have q1 := t1; go_at_call 38; refine (SD.out k hk wr _ SK.out BB.out Y9.out).mono ?_; rintro e9 w41 ⟨s9, rfl, ⟨e8, f8, z8⟩, B9⟩; have YR : Hid (Byt w41 r9 (xs.drop 80)) := YR.out.below B9; have YS : Hid (Byt w41 (.slice so 16 sc) (sub xs 16 32)) := YS.out.below B9; have YK : Hid (Byt w41 (.slice ko 32 kc) (sub xs 48 80)) := YK.out.below B9; have NB_HR : Hid (NoB w41 w.heap.size) := NB_HR.out.heap (B9.block _ (range_lt HR.out.1 (Nat.succ_pos _))); have HR : Hid (Vr w41 w.heap.size rv0) := HR.out.below B9 (range_lt HR.out.1 (Nat.succ_pos _)); have NB_HV : Hid (NoB w41 gv) := NB_HV.out.heap (B9.block _ (range_lt HV.out.1 (Nat.succ_pos _))); have HV : Hid (Vr w41 gv (rv G P (.slice so 16 sc) B (.slice ko 32 kc) T)) := HV.out.below B9 (range_lt HV.out.1 (Nat.succ_pos _)); have YD : Hid (Byt w41 s9.v s9.xs) := z8; have ED : Hid (s9.d = sw (qw xs k) ∧ Sb s9.n s9.e s9.t) := ⟨e8, f8⟩; have SL : Hid (Slc s9.v) := slc_byt z8; have HJ2 : Hid (∀ j, j < k → Byt w41 (T j).v (T j).xs) := fun j hj => (HJ2.out j hj).below B9; have BB : Hid (Below w.heap.size w w41) := BB.out.trans (B9.mono BB.out.size); clear B9 e8 f8 z8; clear t1; have t2 : (1 : Nat) = 1 := rfl)
            | (have q0 := t0; refine cut_part _ rfl (.tmp 44) (.tmp 46) (.tmp 49) rfl _ (xs.drop 80) _ _ (128 * k) (128 * (k + 1)) rfl rfl rfl (by omega) (by omega) (by omega) LC.out YR.out ?_; intro v9 y9; rw [qw_cut] at y9; have Y9 : Hid (Byt wr v9 (qw xs k)) := y9; clear y9; clear t0; have t1 : (1 : Nat) = 1 := rfl))
          go_roundw
          case rel => exact ⟨k + 1, upd T k s9, by omega, by go_num, upto_succ (fun j hj => by rw [upd_other _ _ _ _ (Nat.ne_of_lt hj)]; exact ⟨(HJ.out j hj).1, (HJ.out j hj).2.1, HJ2.out j hj⟩) (by rw [upd_same]; exact ⟨SK.out, ED.out.2, YD.out⟩), (fun j hj => by by_cases e : j = k <;> first | (rw [e, upd_same]; exact SL.out) | (rw [upd_other _ _ _ _ e]; exact HSl.out j hj)), HV.out, ⟨NB_HV.out, HR.out, NB_HR.out⟩, ⟨YR.out, YS.out, YK.out⟩, BB.out⟩
          case measure => simp [intOf]; omega
        · have SK : Hid (¬ Sok (qw xs k)) := SH
          clear SH
          have LE_HR : Hid (w.heap.size ≤ w.heap.size) := Nat.le_refl _
          have t0 : (1 : Nat) = 1 := rfl
          go_wp2_with (first
            | (have q5 := t5; (with_reducible refine at_store ?_); refine store_lawC _ rv0 w.heap.size 0 rfl rfl HR.out.2 rowy_record.2 rv0_one ?_; intro w44 E9 R9 T9 B9; have K9 : ∀ k, k ≠ w.heap.size → w44.heap[k]? = w43.heap[k]? := (by rw [E9.out]; exact fun k hk => heap_cells _ _ _ _ k hk); have YR : Hid (Byt w44 r9 (xs.drop 80)) := byt_nob YR.out NB_HR.out K9; have YS : Hid (Byt w44 (.slice so 16 sc) (sub xs 16 32)) := byt_nob YS.out NB_HR.out K9; have YK : Hid (Byt w44 (.slice ko 32 kc) (sub xs 48 80)) := byt_nob YK.out NB_HR.out K9; have NB_HV : Hid (NoB w44 gv) := NB_HV.out.heap (K9 _ (Nat.ne_of_gt LT_HR_HV.out)); have HV : Hid (Vr w44 gv (rv G P (.slice so 16 sc) B (.slice ko 32 kc) T)) := HV.out.heap (K9 _ (Nat.ne_of_gt LT_HR_HV.out)); have NB_HS : Hid (NoB w44 w41.heap.size) := NB_HS.out.heap (K9 _ (Nat.ne_of_gt LT_HR_HS.out)); have HS : Hid (Vr w44 w41.heap.size (sv false 0 0 0 (.slice none 0 0))) := HS.out.heap (K9 _ (Nat.ne_of_gt LT_HR_HS.out)); have NB_HR : Hid (NoB w44 w.heap.size) := (by rw [E9.out]; exact NB_HR.out.set HR.out rfl rv0_nob); have HR : Hid (Vr w44 w.heap.size rv0) := ⟨R9, T9⟩; have BB : Hid (Below w.heap.size w w44) := BB.out.trans (B9.mono LE_HR.out); clear hs_0 hs_1 hs_2 hs_3 hs_4; have hs_0 := HS.out.cell 0 _ rfl; have hs_1 := HS.out.cell 1 _ rfl; have hs_2 := HS.out.cell 2 _ rfl; have hs_3 := HS.out.cell 3 _ rfl; have hs_4 := HS.out.cell 4 _ rfl; clear E9 R9 T9 B9 K9; clear t5; have t6 : (1 : Nat) = 1 := rfl)
            | (have q4 := t4; refine build_law _ rfl 28 _ rfl (.agg rv0.toArray) (by kernel_rfl) ?_; clear t4; have t5 : (1 : Nat) = 1 := rfl)
            | (have q3 := t3; (with_reducible refine at_store ?_); refine store_lawC _ (sv false 0 0 0 (.slice none 0 0)) w41.heap.size 0 rfl rfl HS.out.2 rowy_slot.2 (sv_one _ _ _ _ rfl) ?_; intro w43 E9 R9 T9 B9; have K9 : ∀ k, k ≠ w41.heap.size → w43.heap[k]? = w42.heap[k]? := (by rw [E9.out]; exact fun k hk => heap_cells _ _ _ _ k hk); have YR : Hid (Byt w43 r9 (xs.drop 80)) := byt_nob YR.out NB_HS.out K9; have YS : Hid (Byt w43 (.slice so 16 sc) (sub xs 16 32)) := byt_nob YS.out NB_HS.out K9; have YK : Hid (Byt w43 (.slice ko 32 kc) (sub xs 48 80)) := byt_nob YK.out NB_HS.out K9; have NB_HR : Hid (NoB w43 w.heap.size) := NB_HR.out.heap (K9 _ (Nat.ne_of_lt LT_HR_HS.out)); have HR : Hid (Vr w43 w.heap.size rv0) := HR.out.heap (K9 _ (Nat.ne_of_lt LT_HR_HS.out)); have NB_HV : Hid (NoB w43 gv) := NB_HV.out.heap (K9 _ (Nat.ne_of_lt LT_HV_HS.out)); have HV : Hid (Vr w43 gv (rv G P (.slice so 16 sc) B (.slice ko 32 kc) T)) := HV.out.heap (K9 _ (Nat.ne_of_lt LT_HV_HS.out)); have NB_HS : Hid (NoB w43 w41.heap.size) := (by rw [E9.out]; exact NB_HS.out.set HS.out rfl (sv_nob _ _ _ _ _ _ _)); have HS : Hid (Vr w43 w41.heap.size (sv false 0 0 0 (.slice none 0 0))) := ⟨R9, T9⟩; have BB : Hid (Below w.heap.size w w43) := BB.out.trans (B9.mono LE_HS.out); have hs_0 := HS.out.cell 0 _ rfl; have hs_1 := HS.out.cell 1 _ rfl; have hs_2 := HS.out.cell 2 _ rfl; have hs_3 := HS.out.cell 3 _ rfl; have hs_4 := HS.out.cell 4 _ rfl; clear E9 R9 T9 B9 K9; clear t3; have t4 : (1 : Nat) = 1 := rfl)
            | (have q2 := t2; (with_reducible refine at_alloc ?_); refine new_lawN _ (sv false 0 0 0 (.slice none 0 0)) zero_slot (sv_nob _ _ _ _ _ _ _) ?_; intro w42 X9 N9 B9; have LT_HR_HS : Hid (w.heap.size < w41.heap.size) := range_lt HR.out.1 (Nat.succ_pos _); have LT_HV_HS : Hid (gv < w41.heap.size) := range_lt HV.out.1 (Nat.succ_pos _); have LE_HS : Hid (w.heap.size ≤ w41.heap.size) := BB.out.size; have YR : Hid (Byt w42 r9 (xs.drop 80)) := YR.out.below B9; have YS : Hid (Byt w42 (.slice so 16 sc) (sub xs 16 32)) := YS.out.below B9; have YK : Hid (Byt w42 (.slice ko 32 kc) (sub xs 48 80)) := YK.out.below B9; have NB_HR : Hid (NoB w42 w.heap.size) := NB_HR.out.heap (B9.block _ (range_lt HR.out.1 (Nat.succ_pos _))); have HR : Hid (Vr w42 w.heap.size rv0) := HR.out.below B9 (range_lt HR.out.1 (Nat.succ_pos _)); have NB_HV : Hid (NoB w42 gv) := NB_HV.out.heap (B9.block _ (range_lt HV.out.1 (Nat.succ_pos _))); have HV : Hid (Vr w42 gv (rv G P (.slice so 16 sc) B (.slice ko 32 kc) T)) := HV.out.below B9 (range_lt HV.out.1 (Nat.succ_pos _)); have HS : Hid (Vr w42 w41.heap.size (sv false 0 0 0 (.slice none 0 0))) := X9; have NB_HS : Hid (NoB w42 w41.heap.size) := N9; have BB : Hid (Below w.heap.size w w42) := BB.out.trans (B9.mono BB.out.size); clear X9 N9 B9; clear t2; have t3 : (1 : Nat) = 1 := rfl)
            | (have q1 := t1; go_at_call 38; refine (SX.out k hk wr _ SK.out BB.out Y9.out).mono ?_; rintro e9 w41 ⟨rfl, B9⟩; have YR : Hid (Byt w41 r9 (xs.drop 80)) := YR.out.below B9; have YS : Hid (Byt w41 (.slice so 16 sc) (sub xs 16 32)) := YS.out.below B9; have YK : Hid (Byt w41 (.slice ko 32 kc) (sub xs 48 80)) := YK.out.below B9; have NB_HR : Hid (NoB w41 w.heap.size) := NB_HR.out.heap (B9.block _ (range_lt HR.out.1 (Nat.succ_pos _))); have HR : Hid (Vr w41 w.heap.size rv0) := HR.out.below B9 (range_lt HR.out.1 (Nat.succ_pos _)); have NB_HV : Hid (NoB w41 gv) := NB_HV.out.heap (B9.block _ (range_lt HV.out.1 (Nat.succ_pos _))); have HV : Hid (Vr w41 gv (rv G P (.slice so 16 sc) B (.slice ko 32 kc) T)) := HV.out.below B9 (range_lt HV.out.1 (Nat.succ_pos _)); have BB : Hid (Below w.heap.size w w41) := BB.out.trans (B9.mono BB.out.size); clear B9; clear t1; have t2 : (1 : Nat) = 1 := rfl)
            | (have q0 := t0; refine cut_part _ rfl (.tmp 44) (.tmp 46) (.tmp 49) rfl _ (xs.drop 80) _ _ (128 * k) (128 * (k + 1)) rfl rfl rfl (by omega) (by omega) (by omega) LC.out YR.out ?_; intro v9 y9; rw [qw_cut] at y9; have Y9 : Hid (Byt wr v9 (qw xs k)) := y9; clear y9; clear t0; have t1 : (1 : Nat) = 1 := rfl))
          exact bodyPost_ret (v := .tuple #[.agg rv0.toArray, .int .i64 1]) (results_cv rfl _ _ w.heap.size _ _ rowy_record rfl rfl HR.out.1) rfl ⟨rfl, BB.out⟩
      · have e4 : k = 4 := by omega
        subst e4
        exact absurd (fun j hj => (HJ.out j hj).1) HS0.out

/-- bytes that are no record's -/
theorem read_no (v : Value) (xs : List Int) (w : World) (hb : Byt w v xs) (hl : xs.length = 624) (hT : Tbl w) (hT2 : Tb2 w) (h : ¬ Isr xs) :
    Calls Tryd.prog 17 #[v] w fun x w' => x = .returned (.tuple #[.agg rv0.toArray, .int .i64 1]) ∧ Below w.heap.size w w' := by
  by_cases hz : qz xs = 0
  · exact read_form v xs w hb hl hT hT2 hz fun q => h ⟨hz, q⟩
  · exact read_z v xs w hb hl hT2 hz
end Go.Proofs.YtmbfccclghnaeaaDoor.re

