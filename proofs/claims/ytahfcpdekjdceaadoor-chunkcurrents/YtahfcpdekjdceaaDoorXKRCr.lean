/- What the reference's Current answers. No claim of its own. -/
import Derived.Test.YtahfcpdekjdceaaDoorXKRHl
import Derived.Test.YtahfcpdekjdceaaDoorPackL
namespace Go.Proofs.YtahfcpdekjdceaaDoor.ck
open Go.RowKit Go.Proofs.YtahfcpdekjdceaaDoor.fa Go.Proofs.YtahfcpdekjdceaaDoor.he Go.Proofs.YtahfcpdekjdceaaDoor.pa
set_option maxRecDepth 20000

theorem results_vc {fn : Func} {p q : Tmp} {t : TypeId} (h : fn.results = #[.tmp q, .cell p t]) (tmps : Array Value) (w : World) (b : Nat) (cs : List Value) (v : Value) (ht : Rowy t cs.length) (hp : tmps.getD p undef = .pointer (some ⟨b, 0, none⟩)) (hq : tmps.getD q undef = v) (ha : w.rangeAt b 0 cs) : (results fn tmps).run Tryd.prog w = .ok (.tuple #[v, .agg cs.toArray]) w := by
  have hp' : tmps[p]?.getD undef = .pointer (some ⟨b, 0, none⟩) := by simpa using hp
  have hq' : tmps[q]?.getD undef = v := by simpa using hq
  simp [results, h, hp', hq', asAddr, run_loadC ht ha]
/-- what the reference's Current answers -/
def RCurIs (S : Nat) (bs : List (List (List Int))) (x : Ending) (w' : World) : Prop :=
  ∃ (at' gen : Int) (rec : List Int) (ro : Option Addr) (rn rc : Nat) (ok : Bool), x = .returned (.tuple #[.int .i64 at', .agg (hdl gen (.slice ro rn rc) ok).toArray]) ∧ Byt w' (.slice ro rn rc) rec ∧ Kc S bs bs.length at' gen rec

theorem und_rowss : Tryd.prog.underlying 42 = some (.slice (Tryd.prog.elem 42)) := by kernel_rfl
theorem elem_rowss : Tryd.prog.elem 42 = 26 := by kernel_rfl
theorem run_size_rowss (w : World) : (sizeOf 26).run Tryd.prog w = .ok 1 w := by kernel_rfl
theorem one_rows : One 26 := ⟨⟨_, Tryd.underlying26, rfl⟩, by kernel_rfl⟩
theorem exec_idxRR {ev : Operand → Value} {o : Oper} (x y : Operand) (hop : o.op = Op.indexAddr 42 x y) (b off n cap i : Nat) (hx : ev x = .slice (some ⟨b, off, none⟩) n cap) (hy : ev y = .int .i64 (i : Int)) (hi : i < n) (w : World) : (execOp ev o).run Tryd.prog w = .ok (.value (.pointer (some ⟨b, off + i, none⟩))) w := by
  have hr : (Instr.indexAt 42 (.slice (some ⟨b, off, none⟩) n cap) (.int .i64 (i : Int))).run Tryd.prog w = .ok (.pointer (some ⟨b, off + i, none⟩)) w := by
    rw [run_indexAt_slice _ _ _ _ _ _ _ und_rowss, if_pos (by omega), elem_rowss, run_size_rowss]
    simp [Result.andThen, Addr.add]
  unfold execOp
  simp only [hop, hx, hy, Sem.run_bind, Sem.run_pure, Result.andThen_ok, hr]

set_option maxHeartbeats 8000000 in
theorem rcurrent_any (g0 g1 g3 g4 g5 : Int) (S : Nat) (v : Value) (bs : List (List (List Int))) (w : World) (hr : ge.Rt [g0, g1, (S : Int), g3, g4, g5]) (hp : Bks w v bs) :
    Calls Tryd.prog 17 #[.agg (ints .i64 [g0, g1, (S : Int), g3, g4, g5]), v] w fun x w' => RCurIs S bs x w' ∧ Below w.heap.size w w' := by
  obtain ⟨ao, cap, rfl, h1, h2, h3⟩ := hp.at
  have HR : Hid (ge.Rt [g0, g1, (S : Int), g3, g4, g5]) := hr
  have HA : Hid (0 < bs.length → ∃ b off, ao = some ⟨b, off, none⟩ ∧ ∀ i, i < bs.length → ∃ u, w.cell? ⟨b, off + i, none⟩ = some u ∧ Pgs w u (bs.getD i [])) := h3
  have hm : bs.length ≤ 9223372036854775807 := by omega
  clear hr hp h1 h2 h3
  obtain ⟨n, en⟩ : ∃ n, bs.length = n := ⟨_, rfl⟩
  have EN : Hid (bs.length = n) := en
  rw [en] at HA hm ⊢
  clear en
  have t0 : (0 : Nat) = 0 := rfl
  go_enter Tryd.func17, Tryd.ntmps17
  go_wp2_with (first
    | (have q4 := t4; (with_reducible refine at_store ?_); refine store_lawC _ Z3 w2.heap.size 0 rfl rfl H7.out.2 rowy_held.2 (hdl_one _ _ _ _ _) ?_; intro w4 E9 R9 T9 B9; have K9 : ∀ k, k ≠ w2.heap.size → w4.heap[k]? = w3.heap[k]? := (by rw [E9.out]; exact fun k hk => heap_cells _ _ _ _ k hk); have HB0 : Hid (Vr w4 w.heap.size [.int .i64 g0, .int .i64 g1, .int .i64 (S : Int), .int .i64 g3, .int .i64 g4, .int .i64 g5]) := HB0.out.heap (K9 _ (Nat.ne_of_lt LT_HB0_H7.out)); have NB_H5 : Hid (NoB w4 w1.heap.size) := NB_H5.out.heap (K9 _ (Nat.ne_of_lt LT_H5_H7.out)); have H5 : Hid (Vr w4 w1.heap.size Z3) := H5.out.heap (K9 _ (Nat.ne_of_lt LT_H5_H7.out)); have NB_H7 : Hid (NoB w4 w2.heap.size) := (by rw [E9.out]; exact NB_H7.out.set H7.out rfl (hdl_nob _ _ _ _ _)); have H7 : Hid (Vr w4 w2.heap.size Z3) := ⟨R9, T9⟩; have BB : Hid (Below w.heap.size w w4) := BB.out.trans (B9.mono LE_H7.out); clear hb0_0 hb0_1 hb0_2 hb0_3 hb0_4 hb0_5; have hb0_0 := HB0.out.cell 0 _ rfl; have hb0_1 := HB0.out.cell 1 _ rfl; have hb0_2 := HB0.out.cell 2 _ rfl; have hb0_3 := HB0.out.cell 3 _ rfl; have hb0_4 := HB0.out.cell 4 _ rfl; have hb0_5 := HB0.out.cell 5 _ rfl; clear E9 R9 T9 B9 K9; clear t4; have t5 : (1 : Nat) = 1 := rfl)
    | (have q3 := t3; (with_reducible refine at_alloc ?_); refine new_lawN _ Z3 zero_held (hdl_nob _ _ _ _ _) ?_; intro w3 X9 N9 B9; have LT_HB0_H7 : Hid (w.heap.size < w2.heap.size) := range_lt HB0.out.1 (Nat.succ_pos _); have LT_H5_H7 : Hid (w1.heap.size < w2.heap.size) := range_lt H5.out.1 (Nat.succ_pos _); have LE_H7 : Hid (w.heap.size ≤ w2.heap.size) := BB.out.size; have HB0 : Hid (Vr w3 w.heap.size [.int .i64 g0, .int .i64 g1, .int .i64 (S : Int), .int .i64 g3, .int .i64 g4, .int .i64 g5]) := HB0.out.below B9 (range_lt HB0.out.1 (Nat.succ_pos _)); have NB_H5 : Hid (NoB w3 w1.heap.size) := NB_H5.out.heap (B9.block _ (range_lt H5.out.1 (Nat.succ_pos _))); have H5 : Hid (Vr w3 w1.heap.size Z3) := H5.out.below B9 (range_lt H5.out.1 (Nat.succ_pos _)); have H7 : Hid (Vr w3 w2.heap.size Z3) := X9; have NB_H7 : Hid (NoB w3 w2.heap.size) := N9; have BB : Hid (Below w.heap.size w w3) := BB.out.trans (B9.mono BB.out.size); clear hb0_0 hb0_1 hb0_2 hb0_3 hb0_4 hb0_5; have hb0_0 := HB0.out.cell 0 _ rfl; have hb0_1 := HB0.out.cell 1 _ rfl; have hb0_2 := HB0.out.cell 2 _ rfl; have hb0_3 := HB0.out.cell 3 _ rfl; have hb0_4 := HB0.out.cell 4 _ rfl; have hb0_5 := HB0.out.cell 5 _ rfl; clear X9 N9 B9; clear t3; have t4 : (1 : Nat) = 1 := rfl)
    | (have q2 := t2; refine build_law _ rfl 39 _ rfl (.agg Z3.toArray) (by kernel_rfl) ?_; clear t2; have t3 : (1 : Nat) = 1 := rfl)
    | (have q1 := t1; (with_reducible refine at_alloc ?_); refine new_lawN _ Z3 zero_held (hdl_nob _ _ _ _ _) ?_; intro w2 X9 N9 B9; have LT_HB0_H5 : Hid (w.heap.size < w1.heap.size) := range_lt HB0.out.1 (Nat.succ_pos _); have LE_H5 : Hid (w.heap.size ≤ w1.heap.size) := BB.out.size; have HB0 : Hid (Vr w2 w.heap.size [.int .i64 g0, .int .i64 g1, .int .i64 (S : Int), .int .i64 g3, .int .i64 g4, .int .i64 g5]) := HB0.out.below B9 (range_lt HB0.out.1 (Nat.succ_pos _)); have H5 : Hid (Vr w2 w1.heap.size Z3) := X9; have NB_H5 : Hid (NoB w2 w1.heap.size) := N9; have BB : Hid (Below w.heap.size w w2) := BB.out.trans (B9.mono BB.out.size); clear hb0_0 hb0_1 hb0_2 hb0_3 hb0_4 hb0_5; have hb0_0 := HB0.out.cell 0 _ rfl; have hb0_1 := HB0.out.cell 1 _ rfl; have hb0_2 := HB0.out.cell 2 _ rfl; have hb0_3 := HB0.out.cell 3 _ rfl; have hb0_4 := HB0.out.cell 4 _ rfl; have hb0_5 := HB0.out.cell 5 _ rfl; clear X9 N9 B9; clear t1; have t2 : (1 : Nat) = 1 := rfl)
    | (have q0 := t0; refine box_lawC _ [.int .i64 g0, .int .i64 g1, .int .i64 (S : Int), .int .i64 g3, .int .i64 g4, .int .i64 g5] rfl ?_; intro w1 X9 B9 l9; have HB0 : Hid (Vr w1 w.heap.size [.int .i64 g0, .int .i64 g1, .int .i64 (S : Int), .int .i64 g3, .int .i64 g4, .int .i64 g5]) := X9; have BB : Hid (Below w.heap.size w w1) := B9; have hb0_0 := HB0.out.cell 0 _ rfl; have hb0_1 := HB0.out.cell 1 _ rfl; have hb0_2 := HB0.out.cell 2 _ rfl; have hb0_3 := HB0.out.cell 3 _ rfl; have hb0_4 := HB0.out.cell 4 _ rfl; have hb0_5 := HB0.out.cell 5 _ rfl; clear X9 B9 l9; clear t0; have t1 : (1 : Nat) = 1 := rfl))
  have LT0 : Hid (w.heap.size < w2.heap.size) := LT_HB0_H7.out
  have LT5 : Hid (w1.heap.size < w2.heap.size) := LT_H5_H7.out
  have LE5 : Hid (w.heap.size ≤ w1.heap.size) := LE_H5.out
  clear LT_HB0_H7 LT_H5_H7 LE_H5 LE_H7 LT_HB0_H5 hb0_0 hb0_1 hb0_2 hb0_3 hb0_4 hb0_5
  obtain ⟨c5, e5⟩ : ∃ c, c = w1.heap.size := ⟨_, rfl⟩
  obtain ⟨c7, e7⟩ : ∃ c, c = w2.heap.size := ⟨_, rfl⟩
  rw [← e7] at LT0 LT5 H7 NB_H7 ⊢
  rw [← e5] at LT5 LE5 H5 NB_H5 ⊢
  clear e5 e7
  go_loopw [8, 6] (fun i a wr => ∃ (k : Nat) (at' gen : Int) (rec : List Int) (ro : Option Addr) (rn rc : Nat) (ok : Bool), k ≤ n ∧ i = .int .i64 (k : Int) ∧ a = .int .i64 at' ∧ Vr wr c7 (hdl gen (.slice ro rn rc) ok) ∧ NoB wr c7 ∧ Vr wr w.heap.size [.int .i64 g0, .int .i64 g1, .int .i64 (S : Int), .int .i64 g3, .int .i64 g4, .int .i64 g5] ∧ (Vr wr c5 Z3 ∧ NoB wr c5) ∧ Byt wr (.slice ro rn rc) rec ∧ Kc S bs k at' gen rec ∧ Below w.heap.size w wr) (fun i _ _ => n - (intOf i).toNat)
  case atStart => exact ⟨0, _, _, _, _, _, _, _, Nat.zero_le _, rfl, rfl, H7.out, NB_H7.out, HB0.out, ⟨H5.out, NB_H5.out⟩, Byt.nil _, kc_zero S bs, BB.out⟩
  case round =>
    obtain ⟨k, at', gen, rec, ro, rn, rc, ok, hk, rfl, rfl, a1, a2, a3, ⟨a4, a5⟩, a6, a7, a8⟩ := hrel
    clear H7 NB_H7 HB0 H5 NB_H5 BB
    have H7 : Hid (Vr wr c7 (hdl gen (.slice ro rn rc) ok)) := a1
    have NB_H7 : Hid (NoB wr c7) := a2
    have HB0 : Hid (Vr wr w.heap.size [.int .i64 g0, .int .i64 g1, .int .i64 (S : Int), .int .i64 g3, .int .i64 g4, .int .i64 g5]) := a3
    have H5 : Hid (Vr wr c5 Z3) := a4
    have NB_H5 : Hid (NoB wr c5) := a5
    have HY : Hid (Byt wr (.slice ro rn rc) rec) := a6
    have HK : Hid (Kc S bs k at' gen rec) := a7
    have BB : Hid (Below w.heap.size w wr) := a8
    have hpl := kc_place a7
    clear a1 a2 a3 a4 a5 a6 a7 a8
    by_cases hlt : k < n
    · have lk : (k : Int) < (n : Int) := by omega
      have lk2 : IntKind.i64.wrap ((k : Int) + 1) = (k : Int) + 1 := by rw [IntKind.wrap_i64]; omega
      obtain ⟨b, off, rfl, hall⟩ := HA.out (by omega)
      obtain ⟨z, hz, hzp⟩ := hall k hlt
      obtain ⟨zo, zc, ez, -⟩ := hzp.at
      obtain ⟨zn, en⟩ : ∃ q, (bs.getD k []).length = q := ⟨_, rfl⟩
      rw [en] at ez
      subst ez
      have HZP : Hid (Pgs wr (.slice zo zn zc) (bs.getD k [])) := hzp.below BB.out
      have HZ : Hid (∀ w', Below wr.heap.size wr w' → w'.cell? ⟨b, off + k, none⟩ = some (.slice zo zn zc)) := fun w' q => (by have q2 := BB.out.trans (q.mono BB.out.size); rw [q2.cell (World.block_lt_of_cell? _ _ hz)]; exact hz)
      have KN : Hid (k < n) := hlt
      clear hall hz hzp en
      by_cases hy : Khd S (bs.getD k [])
      · have SO : Hid (∀ w0, Below wr.heap.size wr w0 → Calls Tryd.prog 15 #[.agg (ints .i64 [g0, g1, (S : Int), g3, g4, g5]), .slice zo zn zc] w0 fun x w' => ∃ ro2 rc2, x = .returned (.agg (hdl (kgen S (bs.getD k [])) (.slice ro2 624 rc2) true).toArray) ∧ Byt w' (.slice ro2 624 rc2) (krec S (bs.getD k [])) ∧ Below w0.heap.size w0 w') := fun w0 q => by
          refine (rhold_any g0 g1 g3 g4 g5 S _ _ w0 HR.out (HZP.out.below q)).mono ?_
          rintro x w' ⟨⟨h1, ro, rc, h2, h4⟩ | ⟨h1, -⟩, h3⟩
          · exact ⟨ro, rc, h2, h4, h3⟩
          · exact absurd hy h1
        by_cases ha : at' < 0
        · have KN2 : Hid (Kc S bs (k + 1) (k : Int) (kgen S (bs.getD k [])) (krec S (bs.getD k []))) := kc_first HK.out ha hy
          generalize kgen S (bs.getD k []) = G2 at SO KN2
          generalize krec S (bs.getD k []) = R2 at SO KN2
          obtain ⟨rn2, er⟩ : ∃ q, 624 = q := ⟨_, rfl⟩
          rw [er] at SO
          clear er hy hpl HZP
          go_wp2
          go_cut [9] (fun r9 wc => ∃ (gv : Nat) (ro2 : Option Addr) (rc2 : Nat), r9 = .pointer (some ⟨gv, 0, none⟩) ∧ Vr wc gv (hdl G2 (.slice ro2 rn2 rc2) true) ∧ Byt wc (.slice ro2 rn2 rc2) R2 ∧ wr.heap.size ≤ gv ∧ Below wr.heap.size wr wc)
          case first =>
            refine wp_region_held_drew (S := fun w' => Below wr.heap.size wr w') (by kernel_rfl) (Below.refl _ _).drew (fun hS => ?_)
            obtain ⟨y1, hx0⟩ : ∃ x, x = wr.drew := ⟨_, rfl⟩
            rw [← hx0] at hS  ⊢
            clear hx0
            refine take_lawH 0 (some 17) (.agg ([.int .i64 g0, .int .i64 g1, .int .i64 (S : Int), .int .i64 g3, .int .i64 g4, .int .i64 g5] : List Value).toArray) rfl rfl (by kernel_rfl) (by kernel_rfl) (by kernel_rfl) (fun _ _ _ h => h) (Or.inl ⟨by rfl, fun w' hw' => by exact exec_loadN 23 (.tmp 2) rfl _ rfl _ _ (load_cells rowy_geo (HB0.out.below hw' (range_lt HB0.out.1 (Nat.succ_pos _))).1)⟩) hS ?_
            simp only [Act.put, List.setIfInBounds_toArray, List.set_cons_zero, List.set_cons_succ]
            refine take_lawH 1 (some 18) (.slice (some ⟨b, off, none⟩) n cap) rfl rfl (by kernel_rfl) (by kernel_rfl) (by kernel_rfl) (fun _ _ _ h => h) (Or.inl ⟨by rfl, fun w' hw' => by rfl⟩) hS ?_
            simp only [Act.put, List.setIfInBounds_toArray, List.set_cons_zero, List.set_cons_succ]
            refine take_lawH 2 (some 19) (.int .i64 (k : Int)) rfl rfl (by kernel_rfl) (by kernel_rfl) (by kernel_rfl) (fun _ _ _ h => h) (Or.inl ⟨by rfl, fun w' hw' => by rfl⟩) hS ?_
            simp only [Act.put, List.setIfInBounds_toArray, List.set_cons_zero, List.set_cons_succ]
            refine take_lawH 3 (some 20) (.pointer (some ⟨b, off + k, none⟩)) rfl rfl (by kernel_rfl) (by kernel_rfl) (by kernel_rfl) (fun _ _ _ h => h) (Or.inl ⟨by rfl, fun w' hw' => by exact exec_idxRR (.tmp 18) (.tmp 19) rfl b off n cap k rfl rfl KN.out _⟩) hS ?_
            simp only [Act.put, List.setIfInBounds_toArray, List.set_cons_zero, List.set_cons_succ]
            refine take_lawH 4 (some 21) (.slice zo zn zc) rfl rfl (by kernel_rfl) (by kernel_rfl) (by kernel_rfl) (fun _ _ _ h => h) (Or.inl ⟨by rfl, fun w' hw' => by exact exec_loadN 26 (.tmp 20) rfl _ rfl _ _ (load_one one_rows (HZ.out _ hw'))⟩) hS ?_
            simp only [Act.put, List.setIfInBounds_toArray, List.set_cons_zero, List.set_cons_succ]
            refine wpAnyH_ready (rs := [5, 6]) (by kernel_rfl) (by simp) ?_
            refine AllReadyH.cons rfl (fun K hK => ?_) (AllReadyH.cons rfl (fun K hK => ?_) AllReadyH.nil)
            · refine step_callW _ (by rfl) (some 22) rfl 15 #[.tmp 17, .tmp 21] #[23, 26] rfl (fun q w' => by rfl) #[.agg ([.int .i64 g0, .int .i64 g1, .int .i64 (S : Int), .int .i64 g3, .int .i64 g4, .int .i64 g5] : List Value).toArray, .slice zo zn zc] (by simp only [List.map_toArray, List.map_cons, List.map_nil]; rfl) (fun u w' => (∃ ro2 rc2, u = .agg (hdl G2 (.slice ro2 rn2 rc2) true).toArray ∧ Byt w' (.slice ro2 rn2 rc2) R2) ∧ Below y1.heap.size y1 w') ?_ ?_
              · exact (SO.out y1 hS).mono fun e w' ⟨ro2, rc2, h1, h2, h3⟩ => ⟨_, h1, ⟨ro2, rc2, rfl, h2⟩, h3⟩
              rintro _ y2 ⟨⟨ro2, rc2, rfl, y9⟩, hb⟩
              have HP : Hid (Byt y2 (.slice ro2 rn2 rc2) R2) := y9
              clear y9
              have hS : Below wr.heap.size wr y2 := hS.trans (hb.mono hS.size)
              clear hb
              refine hK.out _ _ hS (fun _ => ?_)
              simp only [Act.put, List.setIfInBounds_toArray, List.set_cons_zero, List.set_cons_succ]
              clear hK K
              refine wpAnyH_ready (rs := [6]) (by kernel_rfl) (by simp) ?_
              refine AllReadyH.cons rfl (fun K hK => ?_) AllReadyH.nil
              refine step_newN _ rfl (some 9) rfl 39 rfl Z3 zero_held (hdl_nob _ _ _ _ _) ?_
              intro y3 v9 nb9 hb
              have HP : Hid (Byt y3 (.slice ro2 rn2 rc2) R2) := HP.out.below hb
              have HV : Hid (Vr y3 y2.heap.size Z3) := v9
              have NV : Hid (NoB y3 y2.heap.size) := nb9
              have LV : Hid (wr.heap.size ≤ y2.heap.size) := hS.size
              have hS : Below wr.heap.size wr y3 := hS.trans (hb.mono hS.size)
              clear v9 nb9 hb
              obtain ⟨gv, hg9⟩ : ∃ g, g = y2.heap.size := ⟨_, rfl⟩
              rw [← hg9] at HV NV LV ⊢
              clear hg9
              refine hK.out _ _ hS (fun _ => ?_)
              simp only [Act.put, List.setIfInBounds_toArray, List.set_cons_zero, List.set_cons_succ]
              clear hK K
              refine wpAnyH_ready (rs := [7]) (by kernel_rfl) (by simp) ?_
              refine AllReadyH.cons rfl (fun K hK => ?_) AllReadyH.nil
              refine step_storeN _ rfl none rfl (.tmp 9) (.tmp 22) 39 rfl gv Z3 (hdl G2 (.slice ro2 rn2 rc2) true) rfl rfl HV.out NV.out rfl rowy_held.2 (hdl_one _ _ _ _ _) (hdl_nob _ _ _ _ _) ?_
              intro y4 v9 nb9 B9 k9
              have HP : Hid (Byt y4 (.slice ro2 rn2 rc2) R2) := byt_nob HP.out NV.out k9
              have HV : Hid (Vr y4 gv (hdl G2 (.slice ro2 rn2 rc2) true)) := v9
              have hS : Below wr.heap.size wr y4 := hS.trans (B9.mono LV.out)
              clear v9 nb9 B9 k9
              refine hK.out _ _ hS (fun _ => ?_)
              simp only [Act.put]
              clear hK K
              refine wpAnyH_done (by kernel_rfl) ?_ _
              go_wp2_with fail
              go_meet
              exact ⟨gv, ro2, rc2, rfl, HV.out, HP.out, LV.out, hS⟩
            · refine step_newN _ rfl (some 9) rfl 39 rfl Z3 zero_held (hdl_nob _ _ _ _ _) ?_
              intro y5 v9 nb9 hb
              have HV : Hid (Vr y5 y1.heap.size Z3) := v9
              have NV : Hid (NoB y5 y1.heap.size) := nb9
              have LV : Hid (wr.heap.size ≤ y1.heap.size) := hS.size
              have hS : Below wr.heap.size wr y5 := hS.trans (hb.mono hS.size)
              clear v9 nb9 hb
              obtain ⟨gv, hg9⟩ : ∃ g, g = y1.heap.size := ⟨_, rfl⟩
              rw [← hg9] at HV NV LV ⊢
              clear hg9
              refine hK.out _ _ hS (fun _ => ?_)
              simp only [Act.put, List.setIfInBounds_toArray, List.set_cons_zero, List.set_cons_succ]
              clear hK K
              refine wpAnyH_ready (rs := [5]) (by kernel_rfl) (by simp) ?_
              refine AllReadyH.cons rfl (fun K hK => ?_) AllReadyH.nil
              refine step_callW _ (by rfl) (some 22) rfl 15 #[.tmp 17, .tmp 21] #[23, 26] rfl (fun q w' => by rfl) #[.agg ([.int .i64 g0, .int .i64 g1, .int .i64 (S : Int), .int .i64 g3, .int .i64 g4, .int .i64 g5] : List Value).toArray, .slice zo zn zc] (by simp only [List.map_toArray, List.map_cons, List.map_nil]; rfl) (fun u w' => (∃ ro2 rc2, u = .agg (hdl G2 (.slice ro2 rn2 rc2) true).toArray ∧ Byt w' (.slice ro2 rn2 rc2) R2) ∧ Below y5.heap.size y5 w') ?_ ?_
              · exact (SO.out y5 hS).mono fun e w' ⟨ro2, rc2, h1, h2, h3⟩ => ⟨_, h1, ⟨ro2, rc2, rfl, h2⟩, h3⟩
              rintro _ y6 ⟨⟨ro2, rc2, rfl, y9⟩, hb⟩
              have HP : Hid (Byt y6 (.slice ro2 rn2 rc2) R2) := y9
              have NV : Hid (NoB y6 gv) := NV.out.heap (hb.block _ (range_lt HV.out.1 (Nat.succ_pos _)))
              have HV : Hid (Vr y6 gv Z3) := HV.out.below hb (range_lt HV.out.1 (Nat.succ_pos _))
              clear y9
              have hS : Below wr.heap.size wr y6 := hS.trans (hb.mono hS.size)
              clear hb
              refine hK.out _ _ hS (fun _ => ?_)
              simp only [Act.put, List.setIfInBounds_toArray, List.set_cons_zero, List.set_cons_succ]
              clear hK K
              refine wpAnyH_ready (rs := [7]) (by kernel_rfl) (by simp) ?_
              refine AllReadyH.cons rfl (fun K hK => ?_) AllReadyH.nil
              refine step_storeN _ rfl none rfl (.tmp 9) (.tmp 22) 39 rfl gv Z3 (hdl G2 (.slice ro2 rn2 rc2) true) rfl rfl HV.out NV.out rfl rowy_held.2 (hdl_one _ _ _ _ _) (hdl_nob _ _ _ _ _) ?_
              intro y7 v9 nb9 B9 k9
              have HP : Hid (Byt y7 (.slice ro2 rn2 rc2) R2) := byt_nob HP.out NV.out k9
              have HV : Hid (Vr y7 gv (hdl G2 (.slice ro2 rn2 rc2) true)) := v9
              have hS : Below wr.heap.size wr y7 := hS.trans (B9.mono LV.out)
              clear v9 nb9 B9 k9
              refine hK.out _ _ hS (fun _ => ?_)
              simp only [Act.put]
              clear hK K
              refine wpAnyH_done (by kernel_rfl) ?_ _
              go_wp2_with fail
              go_meet
              exact ⟨gv, ro2, rc2, rfl, HV.out, HP.out, LV.out, hS⟩
          case rest =>
            obtain ⟨gv, ro2, rc2, rfl, x1, x2, x3, x4⟩ := hcut
            have HV : Hid (Vr wc gv (hdl G2 (.slice ro2 rn2 rc2) true)) := x1
            have HP : Hid (Byt wc (.slice ro2 rn2 rc2) R2) := x2
            have LT8 : Hid (c7 < gv) := Nat.lt_of_lt_of_le (range_lt H7.out.1 (Nat.succ_pos _)) x3
            have NB_H5 : Hid (NoB wc c5) := NB_H5.out.heap (x4.block _ (range_lt H5.out.1 (Nat.succ_pos _)))
            have H5 : Hid (Vr wc c5 Z3) := H5.out.below x4 (range_lt H5.out.1 (Nat.succ_pos _))
            have HB0 : Hid (Vr wc w.heap.size [.int .i64 g0, .int .i64 g1, .int .i64 (S : Int), .int .i64 g3, .int .i64 g4, .int .i64 g5]) := HB0.out.below x4 (range_lt HB0.out.1 (Nat.succ_pos _))
            have NB_H7 : Hid (NoB wc c7) := NB_H7.out.heap (x4.block _ (range_lt H7.out.1 (Nat.succ_pos _)))
            have H7 : Hid (Vr wc c7 (hdl gen (.slice ro rn rc) ok)) := H7.out.below x4 (range_lt H7.out.1 (Nat.succ_pos _))
            have HY : Hid (Byt wc (.slice ro rn rc) rec) := HY.out.below x4
            have BB : Hid (Below w.heap.size w wc) := BB.out.trans (x4.mono BB.out.size)
            have hv_0 := HV.out.cell 0 _ rfl
            have hv_1 := HV.out.cell 1 _ rfl
            have hv_2 := HV.out.cell 2 _ rfl
            have h7_0 := H7.out.cell 0 _ rfl
            clear x1 x2 x3 x4 HZ SO
            have t80 : (1 : Nat) = 1 := rfl
            go_wp2_with (have q80 := t80; (with_reducible refine at_store ?_); refine store_lawC _ (hdl G2 (.slice ro2 rn2 rc2) true) c7 0 rfl rfl H7.out.2 rowy_held.2 (hdl_one _ _ _ _ _) ?_; intro wd E9 R9 T9 B9; have K9 : ∀ k, k ≠ c7 → wd.heap[k]? = wc.heap[k]? := (by rw [E9.out]; exact fun k hk => heap_cells _ _ _ _ k hk); have HP : Hid (Byt wd (.slice ro2 rn2 rc2) R2) := byt_nob HP.out NB_H7.out K9; have HB0 : Hid (Vr wd w.heap.size [.int .i64 g0, .int .i64 g1, .int .i64 (S : Int), .int .i64 g3, .int .i64 g4, .int .i64 g5]) := HB0.out.heap (K9 _ (Nat.ne_of_lt LT0.out)); have NB_H5 : Hid (NoB wd c5) := NB_H5.out.heap (K9 _ (Nat.ne_of_lt LT5.out)); have H5 : Hid (Vr wd c5 Z3) := H5.out.heap (K9 _ (Nat.ne_of_lt LT5.out)); have NB_H7 : Hid (NoB wd c7) := (by rw [E9.out]; exact NB_H7.out.set H7.out rfl (hdl_nob _ _ _ _ _)); have H7 : Hid (Vr wd c7 (hdl G2 (.slice ro2 rn2 rc2) true)) := ⟨R9, T9⟩; have BB : Hid (Below w.heap.size w wd) := BB.out.trans (B9.mono (Nat.le_of_lt LT0.out)); clear E9 R9 T9 B9 K9 t80 h7_0)
            go_roundw
            case rel => exact ⟨k + 1, _, _, _, _, _, _, _, by omega, by go_num, rfl, H7.out, NB_H7.out, HB0.out, ⟨H5.out, NB_H5.out⟩, HP.out, KN2.out, BB.out⟩
            case measure => simp [intOf]; omega
        · by_cases hg : (kgen S (bs.getD k [])) > gen
          · have KN2 : Hid (Kc S bs (k + 1) (k : Int) (kgen S (bs.getD k [])) (krec S (bs.getD k []))) := kc_more HK.out ha hy hg
            generalize kgen S (bs.getD k []) = G2 at SO KN2 hg
            generalize krec S (bs.getD k []) = R2 at SO KN2
            obtain ⟨rn2, er⟩ : ∃ q, 624 = q := ⟨_, rfl⟩
            rw [er] at SO
            clear er hy hpl HZP
            go_wp2
            go_cut [9] (fun r9 wc => ∃ (gv : Nat) (ro2 : Option Addr) (rc2 : Nat), r9 = .pointer (some ⟨gv, 0, none⟩) ∧ Vr wc gv (hdl G2 (.slice ro2 rn2 rc2) true) ∧ Byt wc (.slice ro2 rn2 rc2) R2 ∧ wr.heap.size ≤ gv ∧ Below wr.heap.size wr wc)
            case first =>
              refine wp_region_held_drew (S := fun w' => Below wr.heap.size wr w') (by kernel_rfl) (Below.refl _ _).drew (fun hS => ?_)
              obtain ⟨y1, hx0⟩ : ∃ x, x = wr.drew := ⟨_, rfl⟩
              rw [← hx0] at hS  ⊢
              clear hx0
              refine take_lawH 0 (some 17) (.agg ([.int .i64 g0, .int .i64 g1, .int .i64 (S : Int), .int .i64 g3, .int .i64 g4, .int .i64 g5] : List Value).toArray) rfl rfl (by kernel_rfl) (by kernel_rfl) (by kernel_rfl) (fun _ _ _ h => h) (Or.inl ⟨by rfl, fun w' hw' => by exact exec_loadN 23 (.tmp 2) rfl _ rfl _ _ (load_cells rowy_geo (HB0.out.below hw' (range_lt HB0.out.1 (Nat.succ_pos _))).1)⟩) hS ?_
              simp only [Act.put, List.setIfInBounds_toArray, List.set_cons_zero, List.set_cons_succ]
              refine take_lawH 1 (some 18) (.slice (some ⟨b, off, none⟩) n cap) rfl rfl (by kernel_rfl) (by kernel_rfl) (by kernel_rfl) (fun _ _ _ h => h) (Or.inl ⟨by rfl, fun w' hw' => by rfl⟩) hS ?_
              simp only [Act.put, List.setIfInBounds_toArray, List.set_cons_zero, List.set_cons_succ]
              refine take_lawH 2 (some 19) (.int .i64 (k : Int)) rfl rfl (by kernel_rfl) (by kernel_rfl) (by kernel_rfl) (fun _ _ _ h => h) (Or.inl ⟨by rfl, fun w' hw' => by rfl⟩) hS ?_
              simp only [Act.put, List.setIfInBounds_toArray, List.set_cons_zero, List.set_cons_succ]
              refine take_lawH 3 (some 20) (.pointer (some ⟨b, off + k, none⟩)) rfl rfl (by kernel_rfl) (by kernel_rfl) (by kernel_rfl) (fun _ _ _ h => h) (Or.inl ⟨by rfl, fun w' hw' => by exact exec_idxRR (.tmp 18) (.tmp 19) rfl b off n cap k rfl rfl KN.out _⟩) hS ?_
              simp only [Act.put, List.setIfInBounds_toArray, List.set_cons_zero, List.set_cons_succ]
              refine take_lawH 4 (some 21) (.slice zo zn zc) rfl rfl (by kernel_rfl) (by kernel_rfl) (by kernel_rfl) (fun _ _ _ h => h) (Or.inl ⟨by rfl, fun w' hw' => by exact exec_loadN 26 (.tmp 20) rfl _ rfl _ _ (load_one one_rows (HZ.out _ hw'))⟩) hS ?_
              simp only [Act.put, List.setIfInBounds_toArray, List.set_cons_zero, List.set_cons_succ]
              refine wpAnyH_ready (rs := [5, 6]) (by kernel_rfl) (by simp) ?_
              refine AllReadyH.cons rfl (fun K hK => ?_) (AllReadyH.cons rfl (fun K hK => ?_) AllReadyH.nil)
              · refine step_callW _ (by rfl) (some 22) rfl 15 #[.tmp 17, .tmp 21] #[23, 26] rfl (fun q w' => by rfl) #[.agg ([.int .i64 g0, .int .i64 g1, .int .i64 (S : Int), .int .i64 g3, .int .i64 g4, .int .i64 g5] : List Value).toArray, .slice zo zn zc] (by simp only [List.map_toArray, List.map_cons, List.map_nil]; rfl) (fun u w' => (∃ ro2 rc2, u = .agg (hdl G2 (.slice ro2 rn2 rc2) true).toArray ∧ Byt w' (.slice ro2 rn2 rc2) R2) ∧ Below y1.heap.size y1 w') ?_ ?_
                · exact (SO.out y1 hS).mono fun e w' ⟨ro2, rc2, h1, h2, h3⟩ => ⟨_, h1, ⟨ro2, rc2, rfl, h2⟩, h3⟩
                rintro _ y2 ⟨⟨ro2, rc2, rfl, y9⟩, hb⟩
                have HP : Hid (Byt y2 (.slice ro2 rn2 rc2) R2) := y9
                clear y9
                have hS : Below wr.heap.size wr y2 := hS.trans (hb.mono hS.size)
                clear hb
                refine hK.out _ _ hS (fun _ => ?_)
                simp only [Act.put, List.setIfInBounds_toArray, List.set_cons_zero, List.set_cons_succ]
                clear hK K
                refine wpAnyH_ready (rs := [6]) (by kernel_rfl) (by simp) ?_
                refine AllReadyH.cons rfl (fun K hK => ?_) AllReadyH.nil
                refine step_newN _ rfl (some 9) rfl 39 rfl Z3 zero_held (hdl_nob _ _ _ _ _) ?_
                intro y3 v9 nb9 hb
                have HP : Hid (Byt y3 (.slice ro2 rn2 rc2) R2) := HP.out.below hb
                have HV : Hid (Vr y3 y2.heap.size Z3) := v9
                have NV : Hid (NoB y3 y2.heap.size) := nb9
                have LV : Hid (wr.heap.size ≤ y2.heap.size) := hS.size
                have hS : Below wr.heap.size wr y3 := hS.trans (hb.mono hS.size)
                clear v9 nb9 hb
                obtain ⟨gv, hg9⟩ : ∃ g, g = y2.heap.size := ⟨_, rfl⟩
                rw [← hg9] at HV NV LV ⊢
                clear hg9
                refine hK.out _ _ hS (fun _ => ?_)
                simp only [Act.put, List.setIfInBounds_toArray, List.set_cons_zero, List.set_cons_succ]
                clear hK K
                refine wpAnyH_ready (rs := [7]) (by kernel_rfl) (by simp) ?_
                refine AllReadyH.cons rfl (fun K hK => ?_) AllReadyH.nil
                refine step_storeN _ rfl none rfl (.tmp 9) (.tmp 22) 39 rfl gv Z3 (hdl G2 (.slice ro2 rn2 rc2) true) rfl rfl HV.out NV.out rfl rowy_held.2 (hdl_one _ _ _ _ _) (hdl_nob _ _ _ _ _) ?_
                intro y4 v9 nb9 B9 k9
                have HP : Hid (Byt y4 (.slice ro2 rn2 rc2) R2) := byt_nob HP.out NV.out k9
                have HV : Hid (Vr y4 gv (hdl G2 (.slice ro2 rn2 rc2) true)) := v9
                have hS : Below wr.heap.size wr y4 := hS.trans (B9.mono LV.out)
                clear v9 nb9 B9 k9
                refine hK.out _ _ hS (fun _ => ?_)
                simp only [Act.put]
                clear hK K
                refine wpAnyH_done (by kernel_rfl) ?_ _
                go_wp2_with fail
                go_meet
                exact ⟨gv, ro2, rc2, rfl, HV.out, HP.out, LV.out, hS⟩
              · refine step_newN _ rfl (some 9) rfl 39 rfl Z3 zero_held (hdl_nob _ _ _ _ _) ?_
                intro y5 v9 nb9 hb
                have HV : Hid (Vr y5 y1.heap.size Z3) := v9
                have NV : Hid (NoB y5 y1.heap.size) := nb9
                have LV : Hid (wr.heap.size ≤ y1.heap.size) := hS.size
                have hS : Below wr.heap.size wr y5 := hS.trans (hb.mono hS.size)
                clear v9 nb9 hb
                obtain ⟨gv, hg9⟩ : ∃ g, g = y1.heap.size := ⟨_, rfl⟩
                rw [← hg9] at HV NV LV ⊢
                clear hg9
                refine hK.out _ _ hS (fun _ => ?_)
                simp only [Act.put, List.setIfInBounds_toArray, List.set_cons_zero, List.set_cons_succ]
                clear hK K
                refine wpAnyH_ready (rs := [5]) (by kernel_rfl) (by simp) ?_
                refine AllReadyH.cons rfl (fun K hK => ?_) AllReadyH.nil
                refine step_callW _ (by rfl) (some 22) rfl 15 #[.tmp 17, .tmp 21] #[23, 26] rfl (fun q w' => by rfl) #[.agg ([.int .i64 g0, .int .i64 g1, .int .i64 (S : Int), .int .i64 g3, .int .i64 g4, .int .i64 g5] : List Value).toArray, .slice zo zn zc] (by simp only [List.map_toArray, List.map_cons, List.map_nil]; rfl) (fun u w' => (∃ ro2 rc2, u = .agg (hdl G2 (.slice ro2 rn2 rc2) true).toArray ∧ Byt w' (.slice ro2 rn2 rc2) R2) ∧ Below y5.heap.size y5 w') ?_ ?_
                · exact (SO.out y5 hS).mono fun e w' ⟨ro2, rc2, h1, h2, h3⟩ => ⟨_, h1, ⟨ro2, rc2, rfl, h2⟩, h3⟩
                rintro _ y6 ⟨⟨ro2, rc2, rfl, y9⟩, hb⟩
                have HP : Hid (Byt y6 (.slice ro2 rn2 rc2) R2) := y9
                have NV : Hid (NoB y6 gv) := NV.out.heap (hb.block _ (range_lt HV.out.1 (Nat.succ_pos _)))
                have HV : Hid (Vr y6 gv Z3) := HV.out.below hb (range_lt HV.out.1 (Nat.succ_pos _))
                clear y9
                have hS : Below wr.heap.size wr y6 := hS.trans (hb.mono hS.size)
                clear hb
                refine hK.out _ _ hS (fun _ => ?_)
                simp only [Act.put, List.setIfInBounds_toArray, List.set_cons_zero, List.set_cons_succ]
                clear hK K
                refine wpAnyH_ready (rs := [7]) (by kernel_rfl) (by simp) ?_
                refine AllReadyH.cons rfl (fun K hK => ?_) AllReadyH.nil
                refine step_storeN _ rfl none rfl (.tmp 9) (.tmp 22) 39 rfl gv Z3 (hdl G2 (.slice ro2 rn2 rc2) true) rfl rfl HV.out NV.out rfl rowy_held.2 (hdl_one _ _ _ _ _) (hdl_nob _ _ _ _ _) ?_
                intro y7 v9 nb9 B9 k9
                have HP : Hid (Byt y7 (.slice ro2 rn2 rc2) R2) := byt_nob HP.out NV.out k9
                have HV : Hid (Vr y7 gv (hdl G2 (.slice ro2 rn2 rc2) true)) := v9
                have hS : Below wr.heap.size wr y7 := hS.trans (B9.mono LV.out)
                clear v9 nb9 B9 k9
                refine hK.out _ _ hS (fun _ => ?_)
                simp only [Act.put]
                clear hK K
                refine wpAnyH_done (by kernel_rfl) ?_ _
                go_wp2_with fail
                go_meet
                exact ⟨gv, ro2, rc2, rfl, HV.out, HP.out, LV.out, hS⟩
            case rest =>
              obtain ⟨gv, ro2, rc2, rfl, x1, x2, x3, x4⟩ := hcut
              have HV : Hid (Vr wc gv (hdl G2 (.slice ro2 rn2 rc2) true)) := x1
              have HP : Hid (Byt wc (.slice ro2 rn2 rc2) R2) := x2
              have LT8 : Hid (c7 < gv) := Nat.lt_of_lt_of_le (range_lt H7.out.1 (Nat.succ_pos _)) x3
              have NB_H5 : Hid (NoB wc c5) := NB_H5.out.heap (x4.block _ (range_lt H5.out.1 (Nat.succ_pos _)))
              have H5 : Hid (Vr wc c5 Z3) := H5.out.below x4 (range_lt H5.out.1 (Nat.succ_pos _))
              have HB0 : Hid (Vr wc w.heap.size [.int .i64 g0, .int .i64 g1, .int .i64 (S : Int), .int .i64 g3, .int .i64 g4, .int .i64 g5]) := HB0.out.below x4 (range_lt HB0.out.1 (Nat.succ_pos _))
              have NB_H7 : Hid (NoB wc c7) := NB_H7.out.heap (x4.block _ (range_lt H7.out.1 (Nat.succ_pos _)))
              have H7 : Hid (Vr wc c7 (hdl gen (.slice ro rn rc) ok)) := H7.out.below x4 (range_lt H7.out.1 (Nat.succ_pos _))
              have HY : Hid (Byt wc (.slice ro rn rc) rec) := HY.out.below x4
              have BB : Hid (Below w.heap.size w wc) := BB.out.trans (x4.mono BB.out.size)
              have hv_0 := HV.out.cell 0 _ rfl
              have hv_1 := HV.out.cell 1 _ rfl
              have hv_2 := HV.out.cell 2 _ rfl
              have h7_0 := H7.out.cell 0 _ rfl
              clear x1 x2 x3 x4 HZ SO
              have t80 : (1 : Nat) = 1 := rfl
              go_wp2_with (have q80 := t80; (with_reducible refine at_store ?_); refine store_lawC _ (hdl G2 (.slice ro2 rn2 rc2) true) c7 0 rfl rfl H7.out.2 rowy_held.2 (hdl_one _ _ _ _ _) ?_; intro wd E9 R9 T9 B9; have K9 : ∀ k, k ≠ c7 → wd.heap[k]? = wc.heap[k]? := (by rw [E9.out]; exact fun k hk => heap_cells _ _ _ _ k hk); have HP : Hid (Byt wd (.slice ro2 rn2 rc2) R2) := byt_nob HP.out NB_H7.out K9; have HB0 : Hid (Vr wd w.heap.size [.int .i64 g0, .int .i64 g1, .int .i64 (S : Int), .int .i64 g3, .int .i64 g4, .int .i64 g5]) := HB0.out.heap (K9 _ (Nat.ne_of_lt LT0.out)); have NB_H5 : Hid (NoB wd c5) := NB_H5.out.heap (K9 _ (Nat.ne_of_lt LT5.out)); have H5 : Hid (Vr wd c5 Z3) := H5.out.heap (K9 _ (Nat.ne_of_lt LT5.out)); have NB_H7 : Hid (NoB wd c7) := (by rw [E9.out]; exact NB_H7.out.set H7.out rfl (hdl_nob _ _ _ _ _)); have H7 : Hid (Vr wd c7 (hdl G2 (.slice ro2 rn2 rc2) true)) := ⟨R9, T9⟩; have BB : Hid (Below w.heap.size w wd) := BB.out.trans (B9.mono (Nat.le_of_lt LT0.out)); clear E9 R9 T9 B9 K9 t80 h7_0)
              go_roundw
              case rel => exact ⟨k + 1, _, _, _, _, _, _, _, by omega, by go_num, rfl, H7.out, NB_H7.out, HB0.out, ⟨H5.out, NB_H5.out⟩, HP.out, KN2.out, BB.out⟩
              case measure => simp [intOf]; omega
          · have KN2 : Hid (Kc S bs (k + 1) at' gen rec) := kc_less HK.out ha hg
            generalize kgen S (bs.getD k []) = G2 at SO hg
            generalize krec S (bs.getD k []) = R2 at SO
            obtain ⟨rn2, er⟩ : ∃ q, 624 = q := ⟨_, rfl⟩
            rw [er] at SO
            clear er hy hpl HZP
            go_wp2
            go_cut [9] (fun r9 wc => ∃ (gv : Nat) (ro2 : Option Addr) (rc2 : Nat), r9 = .pointer (some ⟨gv, 0, none⟩) ∧ Vr wc gv (hdl G2 (.slice ro2 rn2 rc2) true) ∧ Byt wc (.slice ro2 rn2 rc2) R2 ∧ wr.heap.size ≤ gv ∧ Below wr.heap.size wr wc)
            case first =>
              refine wp_region_held_drew (S := fun w' => Below wr.heap.size wr w') (by kernel_rfl) (Below.refl _ _).drew (fun hS => ?_)
              obtain ⟨y1, hx0⟩ : ∃ x, x = wr.drew := ⟨_, rfl⟩
              rw [← hx0] at hS  ⊢
              clear hx0
              refine take_lawH 0 (some 17) (.agg ([.int .i64 g0, .int .i64 g1, .int .i64 (S : Int), .int .i64 g3, .int .i64 g4, .int .i64 g5] : List Value).toArray) rfl rfl (by kernel_rfl) (by kernel_rfl) (by kernel_rfl) (fun _ _ _ h => h) (Or.inl ⟨by rfl, fun w' hw' => by exact exec_loadN 23 (.tmp 2) rfl _ rfl _ _ (load_cells rowy_geo (HB0.out.below hw' (range_lt HB0.out.1 (Nat.succ_pos _))).1)⟩) hS ?_
              simp only [Act.put, List.setIfInBounds_toArray, List.set_cons_zero, List.set_cons_succ]
              refine take_lawH 1 (some 18) (.slice (some ⟨b, off, none⟩) n cap) rfl rfl (by kernel_rfl) (by kernel_rfl) (by kernel_rfl) (fun _ _ _ h => h) (Or.inl ⟨by rfl, fun w' hw' => by rfl⟩) hS ?_
              simp only [Act.put, List.setIfInBounds_toArray, List.set_cons_zero, List.set_cons_succ]
              refine take_lawH 2 (some 19) (.int .i64 (k : Int)) rfl rfl (by kernel_rfl) (by kernel_rfl) (by kernel_rfl) (fun _ _ _ h => h) (Or.inl ⟨by rfl, fun w' hw' => by rfl⟩) hS ?_
              simp only [Act.put, List.setIfInBounds_toArray, List.set_cons_zero, List.set_cons_succ]
              refine take_lawH 3 (some 20) (.pointer (some ⟨b, off + k, none⟩)) rfl rfl (by kernel_rfl) (by kernel_rfl) (by kernel_rfl) (fun _ _ _ h => h) (Or.inl ⟨by rfl, fun w' hw' => by exact exec_idxRR (.tmp 18) (.tmp 19) rfl b off n cap k rfl rfl KN.out _⟩) hS ?_
              simp only [Act.put, List.setIfInBounds_toArray, List.set_cons_zero, List.set_cons_succ]
              refine take_lawH 4 (some 21) (.slice zo zn zc) rfl rfl (by kernel_rfl) (by kernel_rfl) (by kernel_rfl) (fun _ _ _ h => h) (Or.inl ⟨by rfl, fun w' hw' => by exact exec_loadN 26 (.tmp 20) rfl _ rfl _ _ (load_one one_rows (HZ.out _ hw'))⟩) hS ?_
              simp only [Act.put, List.setIfInBounds_toArray, List.set_cons_zero, List.set_cons_succ]
              refine wpAnyH_ready (rs := [5, 6]) (by kernel_rfl) (by simp) ?_
              refine AllReadyH.cons rfl (fun K hK => ?_) (AllReadyH.cons rfl (fun K hK => ?_) AllReadyH.nil)
              · refine step_callW _ (by rfl) (some 22) rfl 15 #[.tmp 17, .tmp 21] #[23, 26] rfl (fun q w' => by rfl) #[.agg ([.int .i64 g0, .int .i64 g1, .int .i64 (S : Int), .int .i64 g3, .int .i64 g4, .int .i64 g5] : List Value).toArray, .slice zo zn zc] (by simp only [List.map_toArray, List.map_cons, List.map_nil]; rfl) (fun u w' => (∃ ro2 rc2, u = .agg (hdl G2 (.slice ro2 rn2 rc2) true).toArray ∧ Byt w' (.slice ro2 rn2 rc2) R2) ∧ Below y1.heap.size y1 w') ?_ ?_
                · exact (SO.out y1 hS).mono fun e w' ⟨ro2, rc2, h1, h2, h3⟩ => ⟨_, h1, ⟨ro2, rc2, rfl, h2⟩, h3⟩
                rintro _ y2 ⟨⟨ro2, rc2, rfl, y9⟩, hb⟩
                have HP : Hid (Byt y2 (.slice ro2 rn2 rc2) R2) := y9
                clear y9
                have hS : Below wr.heap.size wr y2 := hS.trans (hb.mono hS.size)
                clear hb
                refine hK.out _ _ hS (fun _ => ?_)
                simp only [Act.put, List.setIfInBounds_toArray, List.set_cons_zero, List.set_cons_succ]
                clear hK K
                refine wpAnyH_ready (rs := [6]) (by kernel_rfl) (by simp) ?_
                refine AllReadyH.cons rfl (fun K hK => ?_) AllReadyH.nil
                refine step_newN _ rfl (some 9) rfl 39 rfl Z3 zero_held (hdl_nob _ _ _ _ _) ?_
                intro y3 v9 nb9 hb
                have HP : Hid (Byt y3 (.slice ro2 rn2 rc2) R2) := HP.out.below hb
                have HV : Hid (Vr y3 y2.heap.size Z3) := v9
                have NV : Hid (NoB y3 y2.heap.size) := nb9
                have LV : Hid (wr.heap.size ≤ y2.heap.size) := hS.size
                have hS : Below wr.heap.size wr y3 := hS.trans (hb.mono hS.size)
                clear v9 nb9 hb
                obtain ⟨gv, hg9⟩ : ∃ g, g = y2.heap.size := ⟨_, rfl⟩
                rw [← hg9] at HV NV LV ⊢
                clear hg9
                refine hK.out _ _ hS (fun _ => ?_)
                simp only [Act.put, List.setIfInBounds_toArray, List.set_cons_zero, List.set_cons_succ]
                clear hK K
                refine wpAnyH_ready (rs := [7]) (by kernel_rfl) (by simp) ?_
                refine AllReadyH.cons rfl (fun K hK => ?_) AllReadyH.nil
                refine step_storeN _ rfl none rfl (.tmp 9) (.tmp 22) 39 rfl gv Z3 (hdl G2 (.slice ro2 rn2 rc2) true) rfl rfl HV.out NV.out rfl rowy_held.2 (hdl_one _ _ _ _ _) (hdl_nob _ _ _ _ _) ?_
                intro y4 v9 nb9 B9 k9
                have HP : Hid (Byt y4 (.slice ro2 rn2 rc2) R2) := byt_nob HP.out NV.out k9
                have HV : Hid (Vr y4 gv (hdl G2 (.slice ro2 rn2 rc2) true)) := v9
                have hS : Below wr.heap.size wr y4 := hS.trans (B9.mono LV.out)
                clear v9 nb9 B9 k9
                refine hK.out _ _ hS (fun _ => ?_)
                simp only [Act.put]
                clear hK K
                refine wpAnyH_done (by kernel_rfl) ?_ _
                go_wp2_with fail
                go_meet
                exact ⟨gv, ro2, rc2, rfl, HV.out, HP.out, LV.out, hS⟩
              · refine step_newN _ rfl (some 9) rfl 39 rfl Z3 zero_held (hdl_nob _ _ _ _ _) ?_
                intro y5 v9 nb9 hb
                have HV : Hid (Vr y5 y1.heap.size Z3) := v9
                have NV : Hid (NoB y5 y1.heap.size) := nb9
                have LV : Hid (wr.heap.size ≤ y1.heap.size) := hS.size
                have hS : Below wr.heap.size wr y5 := hS.trans (hb.mono hS.size)
                clear v9 nb9 hb
                obtain ⟨gv, hg9⟩ : ∃ g, g = y1.heap.size := ⟨_, rfl⟩
                rw [← hg9] at HV NV LV ⊢
                clear hg9
                refine hK.out _ _ hS (fun _ => ?_)
                simp only [Act.put, List.setIfInBounds_toArray, List.set_cons_zero, List.set_cons_succ]
                clear hK K
                refine wpAnyH_ready (rs := [5]) (by kernel_rfl) (by simp) ?_
                refine AllReadyH.cons rfl (fun K hK => ?_) AllReadyH.nil
                refine step_callW _ (by rfl) (some 22) rfl 15 #[.tmp 17, .tmp 21] #[23, 26] rfl (fun q w' => by rfl) #[.agg ([.int .i64 g0, .int .i64 g1, .int .i64 (S : Int), .int .i64 g3, .int .i64 g4, .int .i64 g5] : List Value).toArray, .slice zo zn zc] (by simp only [List.map_toArray, List.map_cons, List.map_nil]; rfl) (fun u w' => (∃ ro2 rc2, u = .agg (hdl G2 (.slice ro2 rn2 rc2) true).toArray ∧ Byt w' (.slice ro2 rn2 rc2) R2) ∧ Below y5.heap.size y5 w') ?_ ?_
                · exact (SO.out y5 hS).mono fun e w' ⟨ro2, rc2, h1, h2, h3⟩ => ⟨_, h1, ⟨ro2, rc2, rfl, h2⟩, h3⟩
                rintro _ y6 ⟨⟨ro2, rc2, rfl, y9⟩, hb⟩
                have HP : Hid (Byt y6 (.slice ro2 rn2 rc2) R2) := y9
                have NV : Hid (NoB y6 gv) := NV.out.heap (hb.block _ (range_lt HV.out.1 (Nat.succ_pos _)))
                have HV : Hid (Vr y6 gv Z3) := HV.out.below hb (range_lt HV.out.1 (Nat.succ_pos _))
                clear y9
                have hS : Below wr.heap.size wr y6 := hS.trans (hb.mono hS.size)
                clear hb
                refine hK.out _ _ hS (fun _ => ?_)
                simp only [Act.put, List.setIfInBounds_toArray, List.set_cons_zero, List.set_cons_succ]
                clear hK K
                refine wpAnyH_ready (rs := [7]) (by kernel_rfl) (by simp) ?_
                refine AllReadyH.cons rfl (fun K hK => ?_) AllReadyH.nil
                refine step_storeN _ rfl none rfl (.tmp 9) (.tmp 22) 39 rfl gv Z3 (hdl G2 (.slice ro2 rn2 rc2) true) rfl rfl HV.out NV.out rfl rowy_held.2 (hdl_one _ _ _ _ _) (hdl_nob _ _ _ _ _) ?_
                intro y7 v9 nb9 B9 k9
                have HP : Hid (Byt y7 (.slice ro2 rn2 rc2) R2) := byt_nob HP.out NV.out k9
                have HV : Hid (Vr y7 gv (hdl G2 (.slice ro2 rn2 rc2) true)) := v9
                have hS : Below wr.heap.size wr y7 := hS.trans (B9.mono LV.out)
                clear v9 nb9 B9 k9
                refine hK.out _ _ hS (fun _ => ?_)
                simp only [Act.put]
                clear hK K
                refine wpAnyH_done (by kernel_rfl) ?_ _
                go_wp2_with fail
                go_meet
                exact ⟨gv, ro2, rc2, rfl, HV.out, HP.out, LV.out, hS⟩
            case rest =>
              obtain ⟨gv, ro2, rc2, rfl, x1, x2, x3, x4⟩ := hcut
              have HV : Hid (Vr wc gv (hdl G2 (.slice ro2 rn2 rc2) true)) := x1
              have HP : Hid (Byt wc (.slice ro2 rn2 rc2) R2) := x2
              have LT8 : Hid (c7 < gv) := Nat.lt_of_lt_of_le (range_lt H7.out.1 (Nat.succ_pos _)) x3
              have NB_H5 : Hid (NoB wc c5) := NB_H5.out.heap (x4.block _ (range_lt H5.out.1 (Nat.succ_pos _)))
              have H5 : Hid (Vr wc c5 Z3) := H5.out.below x4 (range_lt H5.out.1 (Nat.succ_pos _))
              have HB0 : Hid (Vr wc w.heap.size [.int .i64 g0, .int .i64 g1, .int .i64 (S : Int), .int .i64 g3, .int .i64 g4, .int .i64 g5]) := HB0.out.below x4 (range_lt HB0.out.1 (Nat.succ_pos _))
              have NB_H7 : Hid (NoB wc c7) := NB_H7.out.heap (x4.block _ (range_lt H7.out.1 (Nat.succ_pos _)))
              have H7 : Hid (Vr wc c7 (hdl gen (.slice ro rn rc) ok)) := H7.out.below x4 (range_lt H7.out.1 (Nat.succ_pos _))
              have HY : Hid (Byt wc (.slice ro rn rc) rec) := HY.out.below x4
              have BB : Hid (Below w.heap.size w wc) := BB.out.trans (x4.mono BB.out.size)
              have hv_0 := HV.out.cell 0 _ rfl
              have hv_1 := HV.out.cell 1 _ rfl
              have hv_2 := HV.out.cell 2 _ rfl
              have h7_0 := H7.out.cell 0 _ rfl
              clear x1 x2 x3 x4 HZ SO
              go_wp2
              go_roundw
              case rel => exact ⟨k + 1, _, _, _, _, _, _, _, by omega, by go_num, rfl, H7.out, NB_H7.out, HB0.out, ⟨H5.out, NB_H5.out⟩, HY.out, KN2.out, BB.out⟩
              case measure => simp [intOf]; omega
      · obtain ⟨G2, f1⟩ : ∃ q : Int, q = 0 := ⟨_, rfl⟩
        obtain ⟨R2, f2⟩ : ∃ q : List Int, q = [] := ⟨_, rfl⟩
        obtain ⟨rn2, f3⟩ : ∃ q : Nat, q = 0 := ⟨_, rfl⟩
        have SO : Hid (∀ w0, Below wr.heap.size wr w0 → Calls Tryd.prog 15 #[.agg (ints .i64 [g0, g1, (S : Int), g3, g4, g5]), .slice zo zn zc] w0 fun x w' => ∃ ro2 rc2, x = .returned (.agg (hdl G2 (.slice ro2 rn2 rc2) false).toArray) ∧ Byt w' (.slice ro2 rn2 rc2) R2 ∧ Below w0.heap.size w0 w') := fun w0 q => by
          refine (rhold_any g0 g1 g3 g4 g5 S _ _ w0 HR.out (HZP.out.below q)).mono ?_
          rintro x w' ⟨⟨h1, -⟩ | ⟨-, h2⟩, h3⟩
          · exact absurd h1 hy
          · subst f1 f2 f3
            exact ⟨none, 0, h2, Byt.nil _, h3⟩
        have KN2 : Hid (Kc S bs (k + 1) at' gen rec) := kc_none HK.out hy
        clear f1 f2 f3 hy hpl HZP
        go_wp2
        go_cut [9] (fun r9 wc => ∃ (gv : Nat) (ro2 : Option Addr) (rc2 : Nat), r9 = .pointer (some ⟨gv, 0, none⟩) ∧ Vr wc gv (hdl G2 (.slice ro2 rn2 rc2) false) ∧ Byt wc (.slice ro2 rn2 rc2) R2 ∧ wr.heap.size ≤ gv ∧ Below wr.heap.size wr wc)
        case first =>
          refine wp_region_held_drew (S := fun w' => Below wr.heap.size wr w') (by kernel_rfl) (Below.refl _ _).drew (fun hS => ?_)
          obtain ⟨y1, hx0⟩ : ∃ x, x = wr.drew := ⟨_, rfl⟩
          rw [← hx0] at hS  ⊢
          clear hx0
          refine take_lawH 0 (some 17) (.agg ([.int .i64 g0, .int .i64 g1, .int .i64 (S : Int), .int .i64 g3, .int .i64 g4, .int .i64 g5] : List Value).toArray) rfl rfl (by kernel_rfl) (by kernel_rfl) (by kernel_rfl) (fun _ _ _ h => h) (Or.inl ⟨by rfl, fun w' hw' => by exact exec_loadN 23 (.tmp 2) rfl _ rfl _ _ (load_cells rowy_geo (HB0.out.below hw' (range_lt HB0.out.1 (Nat.succ_pos _))).1)⟩) hS ?_
          simp only [Act.put, List.setIfInBounds_toArray, List.set_cons_zero, List.set_cons_succ]
          refine take_lawH 1 (some 18) (.slice (some ⟨b, off, none⟩) n cap) rfl rfl (by kernel_rfl) (by kernel_rfl) (by kernel_rfl) (fun _ _ _ h => h) (Or.inl ⟨by rfl, fun w' hw' => by rfl⟩) hS ?_
          simp only [Act.put, List.setIfInBounds_toArray, List.set_cons_zero, List.set_cons_succ]
          refine take_lawH 2 (some 19) (.int .i64 (k : Int)) rfl rfl (by kernel_rfl) (by kernel_rfl) (by kernel_rfl) (fun _ _ _ h => h) (Or.inl ⟨by rfl, fun w' hw' => by rfl⟩) hS ?_
          simp only [Act.put, List.setIfInBounds_toArray, List.set_cons_zero, List.set_cons_succ]
          refine take_lawH 3 (some 20) (.pointer (some ⟨b, off + k, none⟩)) rfl rfl (by kernel_rfl) (by kernel_rfl) (by kernel_rfl) (fun _ _ _ h => h) (Or.inl ⟨by rfl, fun w' hw' => by exact exec_idxRR (.tmp 18) (.tmp 19) rfl b off n cap k rfl rfl KN.out _⟩) hS ?_
          simp only [Act.put, List.setIfInBounds_toArray, List.set_cons_zero, List.set_cons_succ]
          refine take_lawH 4 (some 21) (.slice zo zn zc) rfl rfl (by kernel_rfl) (by kernel_rfl) (by kernel_rfl) (fun _ _ _ h => h) (Or.inl ⟨by rfl, fun w' hw' => by exact exec_loadN 26 (.tmp 20) rfl _ rfl _ _ (load_one one_rows (HZ.out _ hw'))⟩) hS ?_
          simp only [Act.put, List.setIfInBounds_toArray, List.set_cons_zero, List.set_cons_succ]
          refine wpAnyH_ready (rs := [5, 6]) (by kernel_rfl) (by simp) ?_
          refine AllReadyH.cons rfl (fun K hK => ?_) (AllReadyH.cons rfl (fun K hK => ?_) AllReadyH.nil)
          · refine step_callW _ (by rfl) (some 22) rfl 15 #[.tmp 17, .tmp 21] #[23, 26] rfl (fun q w' => by rfl) #[.agg ([.int .i64 g0, .int .i64 g1, .int .i64 (S : Int), .int .i64 g3, .int .i64 g4, .int .i64 g5] : List Value).toArray, .slice zo zn zc] (by simp only [List.map_toArray, List.map_cons, List.map_nil]; rfl) (fun u w' => (∃ ro2 rc2, u = .agg (hdl G2 (.slice ro2 rn2 rc2) false).toArray ∧ Byt w' (.slice ro2 rn2 rc2) R2) ∧ Below y1.heap.size y1 w') ?_ ?_
            · exact (SO.out y1 hS).mono fun e w' ⟨ro2, rc2, h1, h2, h3⟩ => ⟨_, h1, ⟨ro2, rc2, rfl, h2⟩, h3⟩
            rintro _ y2 ⟨⟨ro2, rc2, rfl, y9⟩, hb⟩
            have HP : Hid (Byt y2 (.slice ro2 rn2 rc2) R2) := y9
            clear y9
            have hS : Below wr.heap.size wr y2 := hS.trans (hb.mono hS.size)
            clear hb
            refine hK.out _ _ hS (fun _ => ?_)
            simp only [Act.put, List.setIfInBounds_toArray, List.set_cons_zero, List.set_cons_succ]
            clear hK K
            refine wpAnyH_ready (rs := [6]) (by kernel_rfl) (by simp) ?_
            refine AllReadyH.cons rfl (fun K hK => ?_) AllReadyH.nil
            refine step_newN _ rfl (some 9) rfl 39 rfl Z3 zero_held (hdl_nob _ _ _ _ _) ?_
            intro y3 v9 nb9 hb
            have HP : Hid (Byt y3 (.slice ro2 rn2 rc2) R2) := HP.out.below hb
            have HV : Hid (Vr y3 y2.heap.size Z3) := v9
            have NV : Hid (NoB y3 y2.heap.size) := nb9
            have LV : Hid (wr.heap.size ≤ y2.heap.size) := hS.size
            have hS : Below wr.heap.size wr y3 := hS.trans (hb.mono hS.size)
            clear v9 nb9 hb
            obtain ⟨gv, hg9⟩ : ∃ g, g = y2.heap.size := ⟨_, rfl⟩
            rw [← hg9] at HV NV LV ⊢
            clear hg9
            refine hK.out _ _ hS (fun _ => ?_)
            simp only [Act.put, List.setIfInBounds_toArray, List.set_cons_zero, List.set_cons_succ]
            clear hK K
            refine wpAnyH_ready (rs := [7]) (by kernel_rfl) (by simp) ?_
            refine AllReadyH.cons rfl (fun K hK => ?_) AllReadyH.nil
            refine step_storeN _ rfl none rfl (.tmp 9) (.tmp 22) 39 rfl gv Z3 (hdl G2 (.slice ro2 rn2 rc2) false) rfl rfl HV.out NV.out rfl rowy_held.2 (hdl_one _ _ _ _ _) (hdl_nob _ _ _ _ _) ?_
            intro y4 v9 nb9 B9 k9
            have HP : Hid (Byt y4 (.slice ro2 rn2 rc2) R2) := byt_nob HP.out NV.out k9
            have HV : Hid (Vr y4 gv (hdl G2 (.slice ro2 rn2 rc2) false)) := v9
            have hS : Below wr.heap.size wr y4 := hS.trans (B9.mono LV.out)
            clear v9 nb9 B9 k9
            refine hK.out _ _ hS (fun _ => ?_)
            simp only [Act.put]
            clear hK K
            refine wpAnyH_done (by kernel_rfl) ?_ _
            go_wp2_with fail
            go_meet
            exact ⟨gv, ro2, rc2, rfl, HV.out, HP.out, LV.out, hS⟩
          · refine step_newN _ rfl (some 9) rfl 39 rfl Z3 zero_held (hdl_nob _ _ _ _ _) ?_
            intro y5 v9 nb9 hb
            have HV : Hid (Vr y5 y1.heap.size Z3) := v9
            have NV : Hid (NoB y5 y1.heap.size) := nb9
            have LV : Hid (wr.heap.size ≤ y1.heap.size) := hS.size
            have hS : Below wr.heap.size wr y5 := hS.trans (hb.mono hS.size)
            clear v9 nb9 hb
            obtain ⟨gv, hg9⟩ : ∃ g, g = y1.heap.size := ⟨_, rfl⟩
            rw [← hg9] at HV NV LV ⊢
            clear hg9
            refine hK.out _ _ hS (fun _ => ?_)
            simp only [Act.put, List.setIfInBounds_toArray, List.set_cons_zero, List.set_cons_succ]
            clear hK K
            refine wpAnyH_ready (rs := [5]) (by kernel_rfl) (by simp) ?_
            refine AllReadyH.cons rfl (fun K hK => ?_) AllReadyH.nil
            refine step_callW _ (by rfl) (some 22) rfl 15 #[.tmp 17, .tmp 21] #[23, 26] rfl (fun q w' => by rfl) #[.agg ([.int .i64 g0, .int .i64 g1, .int .i64 (S : Int), .int .i64 g3, .int .i64 g4, .int .i64 g5] : List Value).toArray, .slice zo zn zc] (by simp only [List.map_toArray, List.map_cons, List.map_nil]; rfl) (fun u w' => (∃ ro2 rc2, u = .agg (hdl G2 (.slice ro2 rn2 rc2) false).toArray ∧ Byt w' (.slice ro2 rn2 rc2) R2) ∧ Below y5.heap.size y5 w') ?_ ?_
            · exact (SO.out y5 hS).mono fun e w' ⟨ro2, rc2, h1, h2, h3⟩ => ⟨_, h1, ⟨ro2, rc2, rfl, h2⟩, h3⟩
            rintro _ y6 ⟨⟨ro2, rc2, rfl, y9⟩, hb⟩
            have HP : Hid (Byt y6 (.slice ro2 rn2 rc2) R2) := y9
            have NV : Hid (NoB y6 gv) := NV.out.heap (hb.block _ (range_lt HV.out.1 (Nat.succ_pos _)))
            have HV : Hid (Vr y6 gv Z3) := HV.out.below hb (range_lt HV.out.1 (Nat.succ_pos _))
            clear y9
            have hS : Below wr.heap.size wr y6 := hS.trans (hb.mono hS.size)
            clear hb
            refine hK.out _ _ hS (fun _ => ?_)
            simp only [Act.put, List.setIfInBounds_toArray, List.set_cons_zero, List.set_cons_succ]
            clear hK K
            refine wpAnyH_ready (rs := [7]) (by kernel_rfl) (by simp) ?_
            refine AllReadyH.cons rfl (fun K hK => ?_) AllReadyH.nil
            refine step_storeN _ rfl none rfl (.tmp 9) (.tmp 22) 39 rfl gv Z3 (hdl G2 (.slice ro2 rn2 rc2) false) rfl rfl HV.out NV.out rfl rowy_held.2 (hdl_one _ _ _ _ _) (hdl_nob _ _ _ _ _) ?_
            intro y7 v9 nb9 B9 k9
            have HP : Hid (Byt y7 (.slice ro2 rn2 rc2) R2) := byt_nob HP.out NV.out k9
            have HV : Hid (Vr y7 gv (hdl G2 (.slice ro2 rn2 rc2) false)) := v9
            have hS : Below wr.heap.size wr y7 := hS.trans (B9.mono LV.out)
            clear v9 nb9 B9 k9
            refine hK.out _ _ hS (fun _ => ?_)
            simp only [Act.put]
            clear hK K
            refine wpAnyH_done (by kernel_rfl) ?_ _
            go_wp2_with fail
            go_meet
            exact ⟨gv, ro2, rc2, rfl, HV.out, HP.out, LV.out, hS⟩
        case rest =>
          obtain ⟨gv, ro2, rc2, rfl, x1, x2, x3, x4⟩ := hcut
          have HV : Hid (Vr wc gv (hdl G2 (.slice ro2 rn2 rc2) false)) := x1
          have HP : Hid (Byt wc (.slice ro2 rn2 rc2) R2) := x2
          have LT8 : Hid (c7 < gv) := Nat.lt_of_lt_of_le (range_lt H7.out.1 (Nat.succ_pos _)) x3
          have NB_H5 : Hid (NoB wc c5) := NB_H5.out.heap (x4.block _ (range_lt H5.out.1 (Nat.succ_pos _)))
          have H5 : Hid (Vr wc c5 Z3) := H5.out.below x4 (range_lt H5.out.1 (Nat.succ_pos _))
          have HB0 : Hid (Vr wc w.heap.size [.int .i64 g0, .int .i64 g1, .int .i64 (S : Int), .int .i64 g3, .int .i64 g4, .int .i64 g5]) := HB0.out.below x4 (range_lt HB0.out.1 (Nat.succ_pos _))
          have NB_H7 : Hid (NoB wc c7) := NB_H7.out.heap (x4.block _ (range_lt H7.out.1 (Nat.succ_pos _)))
          have H7 : Hid (Vr wc c7 (hdl gen (.slice ro rn rc) ok)) := H7.out.below x4 (range_lt H7.out.1 (Nat.succ_pos _))
          have HY : Hid (Byt wc (.slice ro rn rc) rec) := HY.out.below x4
          have BB : Hid (Below w.heap.size w wc) := BB.out.trans (x4.mono BB.out.size)
          have hv_0 := HV.out.cell 0 _ rfl
          have hv_1 := HV.out.cell 1 _ rfl
          have hv_2 := HV.out.cell 2 _ rfl
          have h7_0 := H7.out.cell 0 _ rfl
          clear x1 x2 x3 x4 HZ SO
          go_wp2
          go_roundw
          case rel => exact ⟨k + 1, _, _, _, _, _, _, _, by omega, by go_num, rfl, H7.out, NB_H7.out, HB0.out, ⟨H5.out, NB_H5.out⟩, HY.out, KN2.out, BB.out⟩
          case measure => simp [intOf]; omega
    · have ek : k = n := by omega
      subst ek
      go_wp2
      have HY : Hid (Byt wr.drew (.slice ro rn rc) rec) := he.byt_drawn HY.out 1
      have H5 : Hid (Vr wr.drew c5 Z3) := H5.out.drewN 1
      have NB_H5 : Hid (NoB wr.drew c5) := NB_H5.out
      have BB : Hid (Below w.heap.size w wr.drew) := BB.out.drew
      refine wp_region_held_drew (S := fun w' => w'.rangeAt c7 0 (hdl gen (.slice ro rn rc) ok)) (by kernel_rfl) (H7.out.drewN 1).1 (fun hS => ?_)
      obtain ⟨y1, hx0⟩ : ∃ x, x = wr.drew := ⟨_, rfl⟩
      rw [← hx0] at hS HY H5 NB_H5 BB ⊢
      clear hx0
      refine take_lawH 0 (some 38) (.int .i64 at') rfl rfl (by kernel_rfl) (by kernel_rfl) (by kernel_rfl) (fun _ _ _ h => h) (Or.inl ⟨by rfl, fun w' hw' => by rfl⟩) hS ?_
      simp only [Act.put, List.setIfInBounds_toArray, List.set_cons_zero, List.set_cons_succ]
      refine take_lawH 1 (some 39) (.agg (hdl gen (.slice ro rn rc) ok).toArray) rfl rfl (by kernel_rfl) (by kernel_rfl) (by kernel_rfl) (fun _ _ _ h => h) (Or.inl ⟨by rfl, fun w' hw' => by exact exec_loadN 39 (.tmp 7) rfl _ rfl _ _ (load_cells rowy_held hw')⟩) hS ?_
      simp only [Act.put, List.setIfInBounds_toArray, List.set_cons_zero, List.set_cons_succ]
      refine take_lawH 2 (some 4) (.int .i64 at') rfl rfl (by kernel_rfl) (by kernel_rfl) (by kernel_rfl) (fun _ _ _ h => h) (Or.inl ⟨by rfl, fun w' hw' => by rfl⟩) hS ?_
      simp only [Act.put, List.setIfInBounds_toArray, List.set_cons_zero, List.set_cons_succ]
      refine wpAnyH_ready (rs := [3]) (by kernel_rfl) (by simp) ?_
      refine AllReadyH.cons rfl (fun K hK => ?_) AllReadyH.nil
      refine step_storeN _ rfl none rfl (.tmp 5) (.tmp 39) 39 rfl c5 Z3 (hdl gen (.slice ro rn rc) ok) rfl rfl H5.out NB_H5.out rfl rowy_held.2 (hdl_one _ _ _ _ _) (hdl_nob _ _ _ _ _) ?_
      intro y2 v9 nb9 B9 k9
      have HY : Hid (Byt y2 (.slice ro rn rc) rec) := byt_nob HY.out NB_H5.out k9
      have HV : Hid (Vr y2 c5 (hdl gen (.slice ro rn rc) ok)) := v9
      have BB : Hid (Below w.heap.size w y2) := BB.out.trans (B9.mono LE5.out)
      have hS : y2.rangeAt c7 0 (hdl gen (.slice ro rn rc) ok) := range_heap hS (k9 _ (Nat.ne_of_gt LT5.out))
      clear v9 nb9 B9 k9
      refine hK.out _ _ hS (fun _ => ?_)
      simp only [Act.put]
      clear hK K
      refine wpAnyH_done (by kernel_rfl) ?_ _
      clear hS
      go_wp2
      exact bodyPost_ret (v := .tuple #[.int .i64 at', .agg (hdl gen (.slice ro rn rc) ok).toArray]) (results_vc rfl _ _ c5 _ _ rowy_held rfl rfl HV.out.1) rfl ⟨⟨at', gen, rec, ro, rn, rc, ok, rfl, HY.out, by rw [EN.out]; exact HK.out⟩, BB.out⟩
end Go.Proofs.YtahfcpdekjdceaaDoor.ck
