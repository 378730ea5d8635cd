/- A page that was made is read as it was, and not blank; programmed with what commits it, it is committed, and tells the same: for any geometry, head, payload and tag of which a page is made. Of others: the program answers. No condition. -/
import Derived.Test.YtpmakkjcpoillaaDoorCards
import Derived.Test.YtpmakkjcpoillaaDoorTie
import Derived.Test.YtpmakkjcpoillaaDoorPAwk
namespace Go.Proofs.YtpmakkjcpoillaaDoor.pageBack
open Go.ChangeShapes Go.WideShapes Go.ChangeAt Go.RowKit Go.Proofs.YtpmakkjcpoillaaDoor.pa Go.Proofs.YtpmakkjcpoillaaDoor.he
set_option maxRecDepth 20000

theorem and_marks {C mk : List Int} (hC : AllB C) (h2 : mk.length = 8) : fa.andl (C ++ mk) (List.replicate C.length 255 ++ List.replicate 8 0) = C ++ List.replicate 8 0 := by
  refine ext_gb (by rw [fa.andl_len]; simp [h2]) fun t ht => ?_
  rw [fa.andl_len] at ht
  rw [fa.andl_gb _ _ t ht, gb_appL, gb_appL, gb_appL, List.length_replicate]
  simp only [List.length_append, h2] at ht
  by_cases q : t < C.length
  · have b := hC t
    rw [if_pos q, if_pos q, if_pos q, gb_repl _ _ _ q, show (255 : Int).toNat = 255 from rfl, and255 _ (by omega)]
    omega
  · rw [if_neg q, if_neg q, if_neg q, gb_repl _ _ _ (by omega), show (0 : Int).toNat = 0 from rfl, Nat.and_zero]; rfl
theorem page_mark {S : Nat} {k n c l e t : Int} {p tag : List Int} (hl : p.length = 0 ∨ p.length = S) (hn : tag.length = 0 ∨ tag.length = 32) (hp : AllB p) (ht : AllB tag) (hk : Rh k n c) : fa.andl (plo S p ++ hend (hb k n c l e t) (tgo tag) (List.replicate 8 255)) (he.mark (S + 88)) = plo S p ++ hend (hb k n c l e t) (tgo tag) (List.replicate 8 0) := by
  have eq : ∀ mk : List Int, plo S p ++ hend (hb k n c l e t) (tgo tag) mk = (plo S p ++ (hb k n c l e t ++ (inv (hb k n c l e t) ++ tgo tag))) ++ mk := fun mk => by simp [hend]
  have el : (plo S p ++ (hb k n c l e t ++ (inv (hb k n c l e t) ++ tgo tag))).length = S + 80 := by simp [plo_len hl, inv_len, hb_len, tgo_len hn]
  have hb1 := hb_all hk l e t
  have aa : AllB (plo S p ++ (hb k n c l e t ++ (inv (hb k n c l e t) ++ tgo tag))) := by
    refine allB_app ?_ (allB_app hb1 (allB_app (inv_all _ hb1) (pa.tgo_all ht)))
    unfold plo
    split
    · exact allB_replicate 255 _ (by omega)
    · exact hp
  rw [eq, eq]
  have z := and_marks (mk := List.replicate 8 255) aa (by simp)
  rw [el] at z
  unfold he.mark
  rw [show S + 88 - 8 = S + 80 by omega]
  exact z
theorem page_all {S : Nat} {k n c l e t : Int} {p tag : List Int} (hp : AllB p) (ht : AllB tag) (hk : Rh k n c) : AllB (plo S p ++ hend (hb k n c l e t) (tgo tag) (List.replicate 8 255)) := by
  refine allB_app ?_ (pa.hend_all hk (pa.tgo_all ht) (allB_replicate 255 _ (by omega)))
  unfold plo
  split
  · exact allB_replicate 255 _ (by omega)
  · exact hp
theorem neq_head (k n c l e t : Int) (w : World) : (binOp .neq 27 (.agg #[.int .i64 k, .int .i64 n, .int .i64 c, .int .u32 l, .int .u64 e, .int .u64 t]) (.agg #[.int .i64 k, .int .i64 n, .int .i64 c, .int .u32 l, .int .u64 e, .int .u64 t])).run Tryd.prog w = .ok (.bool false) w := by
  go_simp
theorem cutL (S : Nat) (A B : List Int) (h : A.length = S) : (A ++ B).drop S = B := by
  rw [← h, List.drop_left]
theorem cutT (S : Nat) (A B : List Int) (h : A.length = S) : (A ++ B).take S = A := by
  rw [← h, List.take_left]
/-- a page that was made, read -/
theorem read_made (g0 g1 g3 g4 g5 : Int) (S : Nat) (v : Value) (k n c l e t : Int) (p tg mk : List Int) (w : World) (hr : ge.Rt [g0, g1, (S : Int), g3, g4, g5]) (hl : p.length = 0 ∨ p.length = S) (hg : tg.length = 32) (hm : mk.length = 8) (hk : Rh k n c) (hH : Hb l e t) (hv : Byt w v (plo S p ++ hend (hb k n c l e t) tg mk)) (hT : Tab w) (D : Bool) (hD : decide (mk = List.replicate 8 0) = D) :
    Calls Tryd.prog 15 #[.agg (ints .i64 [g0, g1, (S : Int), g3, g4, g5]), v] w fun x w' => ∃ v9, x = .returned v9 ∧ (∃ po pc uo uc, v9 = .tuple #[.agg (pg9 k n c l e t (.slice po S pc) (.slice uo 32 uc) D).toArray, .int .i64 0] ∧ Byt w' (.slice po S pc) (plo S p) ∧ Byt w' (.slice uo 32 uc) tg) ∧ Below w.heap.size w w' := by
  have hpl := plo_len hl
  have e1 : (plo S p ++ hend (hb k n c l e t) tg mk).drop S = hend (hb k n c l e t) tg mk := cutL _ _ _ hpl
  have e2 : (plo S p ++ hend (hb k n c l e t) tg mk).take S = plo S p := cutT _ _ _ hpl
  have z := read_page g0 g1 g3 g4 g5 S v _ w hv hr (by rw [List.length_append, hpl, hend_len (hb_len _ _ _ _ _ _) hg hm]) hT (by rw [e1]; exact hend_tl hk tg mk hg)
  rw [e1, e2] at z
  obtain ⟨q1, q2, q3, q4, q5, q6⟩ := q_hb (k := k) (n := n) (c := c) (l := l) (e := e) (t := t) (inv (hb k n c l e t) ++ (tg ++ mk)) hH.1 hH.2.1 hH.2.2
  rw [(hend_sub (mark := mk) (hb_len k n c l e t) hg).2.2.1, (hend_sub (mark := mk) (hb_len k n c l e t) hg).2.2.2, hD] at z
  unfold hend at z
  rw [q1, q2, q3, q4, q5, q6] at z
  refine z.mono ?_
  rintro _ _ ⟨po, pc, uo, uc, rfl, h1, h2, h3⟩
  exact ⟨_, rfl, ⟨po, pc, uo, uc, rfl, h1, h2⟩, h3⟩
theorem step_newN {ops : Array Oper} {o : Oper} {a : Act} {Q : Exit → Act → World → Prop} {K : Act → World → Prop} {E : Prop} (w : World) (hg : o.guard = none) (d : Option Tmp) (hd : o.dst = d) (t : TypeId) (hop : o.op = Op.alloc t) (cs : List Value) (hz : (Tryd.prog.info? t).map (fun i => (i.zero, i.size)) = some (some (.agg cs.toArray), cs.length)) (hc : ∀ v ∈ cs, ∀ y, v ≠ .int .u8 y)
    (hK : ∀ w', Vr w' w.heap.size cs → NoB w' w.heap.size → Below w.heap.size w w' → K (a.put d (.pointer (some ⟨w.heap.size, 0, none⟩))) w') : if Region.wanted o (yielded ops a.tmps) = true then Oper.wp Tryd.prog o a w K Q else E := by
  have hw : Region.wanted o (yielded ops a.tmps) = true := by simp [Region.wanted, hg]
  rw [if_pos hw]
  subst hd
  have hz' := (zero_of_info hz).1
  unfold Oper.wp
  simp [execOp, hop, Instr.alloc, hz', newVar, newRow, Value.cells, Result.andThen]
  refine hK _ (Vr.new w t cs) (fun j y e => ?_) ((Below.refl _ _).alloc (Nat.le_refl _) _)
  rw [cell_of_row (w.alloc (.cells cs.toArray t)) w.heap.size j _ t (0, 0) (heap_alloc_last w _)] at e
  have e : cs[j]? = some (.int .u8 y) := by simpa using e
  exact hc _ (List.mem_of_getElem? e) y rfl
theorem rowy_geo : Rowy 23 6 := ⟨⟨_, Tryd.underlying23, rfl⟩, by kernel_rfl⟩

set_option maxHeartbeats 8000000 in
theorem back_ee (g0 g1 g3 g4 g5 : Int) (S : Nat) (k n c l e t : Int) (ao bo : Option Addr) (ac bc : Nat) (xs ys : List Int) (w : World) (hH : Hb l e t) (ha : Byt w (.slice ao 0 ac) xs) (hy : Byt w (.slice bo 0 bc) ys) (hT : Tab w) (hr : ge.Rt [g0, g1, (S : Int), g3, g4, g5]) (hk : Rh k n c) (hl : xs.length = 0) (hn : ys.length = 0) :
    Calls Tryd.prog 5 #[.agg (ints .i64 [g0, g1, (S : Int), g3, g4, g5]), .agg (hv k n c l e t).toArray, .agg ([.slice ao 0 ac, .slice bo 0 bc] : List Value).toArray] w fun x w' => x = .returned (.bool true) ∧ Below w.heap.size w w' := by
  have HT : Hid (Tab w) := hT
  have hl' : xs.length = 0 ∨ xs.length = S := Or.inl hl
  have hn' : ys.length = 0 ∨ ys.length = 32 := Or.inl hn
  have ⟨s1, s2⟩ := sec_le hr
  have ZL : (plo S xs ++ hend (hb k n c l e t) (tgo ys) (List.replicate 8 255)).length = S + 88 := by rw [List.length_append, plo_len hl', hend_len (hb_len _ _ _ _ _ _) (tgo_len hn') (by simp)]
  have SM : Hid (∀ w0, Below w.heap.size w w0 → Calls Tryd.prog 7 #[.agg (ints .i64 [g0, g1, (S : Int), g3, g4, g5]), .agg (hv k n c l e t).toArray, .slice ao 0 ac, .slice bo 0 bc] w0 fun x w' => ∃ mo mc, x = .returned (.tuple #[.slice mo (S + 88) mc, .int .i64 0]) ∧ Byt w' (.slice mo (S + 88) mc) (plo S xs ++ hend (hb k n c l e t) (tgo ys) (List.replicate 8 255)) ∧ Below w0.heap.size w0 w') := fun w0 hw => (make_yes g0 g1 g3 g4 g5 S k n c l e t _ _ xs ys w0 (ha.below hw) (hy.below hw) hH (hT.below hw) hr hl' hk hn').mono (by rintro _ _ ⟨v, rfl, h1, h2⟩; have h1 := h1.byt (page_all ha.all hy.all hk); obtain ⟨mo, mc, rfl⟩ := byt_form h1 ZL; exact ⟨mo, mc, rfl, h1, h2⟩)
  have SC : Hid (∀ w0, Calls Tryd.prog 8 #[.agg (ints .i64 [g0, g1, (S : Int), g3, g4, g5])] w0 fun x w' => ∃ co cc, x = .returned (.tuple #[.slice co (S + 88) cc, .int .i64 0]) ∧ Byt w' (.slice co (S + 88) cc) (he.mark (S + 88)) ∧ Below w0.heap.size w0 w') := fun w0 => (commit_yes g0 g1 g3 g4 g5 S w0 hr).mono (by rintro _ _ ⟨v, rfl, h1, h2⟩; have h1 := h1.byt (mark_all _); obtain ⟨mo, mc, rfl⟩ := byt_form h1 (mark_len _ (by omega)); exact ⟨mo, mc, rfl, h1, h2⟩)
  have SR1 : Hid (∀ w0 v, Below w.heap.size w w0 → Byt w0 v (plo S xs ++ hend (hb k n c l e t) (tgo ys) (List.replicate 8 255)) → Calls Tryd.prog 15 #[.agg (ints .i64 [g0, g1, (S : Int), g3, g4, g5]), v] w0 fun x w' => ∃ v9, x = .returned v9 ∧ (∃ po pc uo uc, v9 = .tuple #[.agg (pg9 k n c l e t (.slice po S pc) (.slice uo 32 uc) false).toArray, .int .i64 0] ∧ Byt w' (.slice po S pc) (plo S xs) ∧ Byt w' (.slice uo 32 uc) (tgo ys)) ∧ Below w0.heap.size w0 w') := fun w0 v hw hv => read_made g0 g1 g3 g4 g5 S v k n c l e t xs (tgo ys) _ w0 hr hl' (tgo_len hn') (by simp) hk hH hv (hT.below hw) false (by decide)
  have SR2 : Hid (∀ w0 v, Below w.heap.size w w0 → Byt w0 v (plo S xs ++ hend (hb k n c l e t) (tgo ys) (List.replicate 8 0)) → Calls Tryd.prog 15 #[.agg (ints .i64 [g0, g1, (S : Int), g3, g4, g5]), v] w0 fun x w' => ∃ v9, x = .returned v9 ∧ (∃ po pc uo uc, v9 = .tuple #[.agg (pg9 k n c l e t (.slice po S pc) (.slice uo 32 uc) true).toArray, .int .i64 0] ∧ Byt w' (.slice po S pc) (plo S xs) ∧ Byt w' (.slice uo 32 uc) (tgo ys)) ∧ Below w0.heap.size w0 w') := fun w0 v hw hv => read_made g0 g1 g3 g4 g5 S v k n c l e t xs (tgo ys) _ w0 hr hl' (tgo_len hn') (by simp) hk hH hv (hT.below hw) true (by decide)
  have SA : Hid (∀ w0 u v, Byt w0 u (plo S xs ++ hend (hb k n c l e t) (tgo ys) (List.replicate 8 255)) → Byt w0 v (he.mark (S + 88)) → Calls Tryd.prog 22 #[u, v] w0 fun x w' => ∃ v, x = .returned v ∧ Byt w' v (plo S xs ++ hend (hb k n c l e t) (tgo ys) (List.replicate 8 0)) ∧ Below w0.heap.size w0 w') := fun w0 u v hu hv => by
    have z := fa.rand_any u v _ _ w0 hu hv (by rw [ZL, mark_len _ (by omega)]) (by rw [ZL]; omega)
    rw [page_mark hl' hn' ha.all hy.all hk] at z
    exact z
  have ZN : Hid (decide (plo S xs ++ hend (hb k n c l e t) (tgo ys) (List.replicate 8 255) = List.replicate (plo S xs ++ hend (hb k n c l e t) (tgo ys) (List.replicate 8 255)).length 255) = false) := not_blank hl' hk
  have HXA : Hid (Byt w (.slice ao 0 ac) xs) := ha
  have HYA : Hid (Byt w (.slice bo 0 bc) ys) := hy
  have hnq := neq_head k n c l e t
  generalize hZ0 : plo S xs ++ hend (hb k n c l e t) (tgo ys) (List.replicate 8 255) = Z0 at SM SR1 SA ZN
  generalize hZ1 : plo S xs ++ hend (hb k n c l e t) (tgo ys) (List.replicate 8 0) = Z1 at SR2 SA
  generalize he.mark (S + 88) = M at SC SA
  clear hZ0 hZ1
  generalize plo S xs = Q at SR1 SR2
  generalize tgo ys = U at SR1 SR2
  generalize S + 88 = T at SM SC
  clear hr hT hH ha hy hk hl hn hl' hn' s1 s2 ZL
  have t0 : (0 : Nat) = 0 := rfl
  go_enter Tryd.func5, Tryd.ntmps5
  go_wp2_with (first
    | (have q7 := t7; (with_reducible refine at_store ?_); refine store_lawC _ (pg9 k n c l e t (.slice p1 S c1) (.slice u1 32 d1) false) w6.heap.size 0 rfl rfl HV11.out.2 rowy_page.2 (pg9_one _ _ _ _ _ _ _ _ _ _ _ _ _) ?_; intro w8 E9 R9 T9 B9; have K9 : ∀ k, k ≠ w6.heap.size → w8.heap[k]? = w7.heap[k]? := (by rw [E9.out]; exact fun k hk => heap_cells _ _ _ _ k hk); have HB0 : Hid (Vr w8 w.heap.size [.int .i64 g0, .int .i64 g1, .int .i64 (S : Int), .int .i64 g3, .int .i64 g4, .int .i64 g5]) := HB0.out.heap (K9 _ (Nat.ne_of_lt LT_HB0_HV11.out)); have HB1 : Hid (Vr w8 w1.heap.size (hv k n c l e t)) := HB1.out.heap (K9 _ (Nat.ne_of_lt LT_HB1_HV11.out)); have HB2 : Hid (Vr w8 w2.heap.size ([.slice ao 0 ac, .slice bo 0 bc] : List Value)) := HB2.out.heap (K9 _ (Nat.ne_of_lt LT_HB2_HV11.out)); have HM : Hid (Byt w8 (.slice mo T mc) Z0) := byt_nob HM.out NB_HV11.out K9; have HC : Hid (Byt w8 (.slice co T cc) M) := byt_nob HC.out NB_HV11.out K9; have HP1 : Hid (Byt w8 (.slice p1 S c1) Q) := byt_nob HP1.out NB_HV11.out K9; have HY1 : Hid (Byt w8 (.slice u1 32 d1) U) := byt_nob HY1.out NB_HV11.out K9; have NB_HV11 : Hid (NoB w8 w6.heap.size) := (by rw [E9.out]; exact NB_HV11.out.set HV11.out rfl (pg9_nob _ _ _ _ _ _ _ _ _ _ _ _ _)); have HV11 : Hid (Vr w8 w6.heap.size (pg9 k n c l e t (.slice p1 S c1) (.slice u1 32 d1) false)) := ⟨R9, T9⟩; have BB : Hid (Below w.heap.size w w8) := BB.out.trans (B9.mono LE_HV11.out); clear hb0_0 hb0_1 hb0_2 hb0_3 hb0_4 hb0_5 hb1_0 hb1_1 hb1_2 hb1_3 hb1_4 hb1_5 hb2_0 hb2_1; have hb0_0 := HB0.out.cell 0 _ rfl; have hb0_1 := HB0.out.cell 1 _ rfl; have hb0_2 := HB0.out.cell 2 _ rfl; have hb0_3 := HB0.out.cell 3 _ rfl; have hb0_4 := HB0.out.cell 4 _ rfl; have hb0_5 := HB0.out.cell 5 _ rfl; have hb1_0 := HB1.out.cell 0 _ rfl; have hb1_1 := HB1.out.cell 1 _ rfl; have hb1_2 := HB1.out.cell 2 _ rfl; have hb1_3 := HB1.out.cell 3 _ rfl; have hb1_4 := HB1.out.cell 4 _ rfl; have hb1_5 := HB1.out.cell 5 _ rfl; have hb2_0 := HB2.out.cell 0 _ rfl; have hb2_1 := HB2.out.cell 1 _ rfl; clear E9 R9 T9 B9 K9; clear t7; have t8 : (1 : Nat) = 1 := rfl)
    | (have q6 := t6; (with_reducible refine at_alloc ?_); refine new_lawN _ Z9 zero_page (pg9_nob _ _ _ _ _ _ _ _ _ _ _ _ _) ?_; intro w7 X9 N9 B9; have LT_HB0_HV11 : Hid (w.heap.size < w6.heap.size) := range_lt HB0.out.1 (Nat.succ_pos _); have LT_HB1_HV11 : Hid (w1.heap.size < w6.heap.size) := range_lt HB1.out.1 (Nat.succ_pos _); have LT_HB2_HV11 : Hid (w2.heap.size < w6.heap.size) := range_lt HB2.out.1 (Nat.succ_pos _); have LE_HV11 : Hid (w.heap.size ≤ w6.heap.size) := BB.out.size; have HB0 : Hid (Vr w7 w.heap.size [.int .i64 g0, .int .i64 g1, .int .i64 (S : Int), .int .i64 g3, .int .i64 g4, .int .i64 g5]) := HB0.out.below B9 (range_lt HB0.out.1 (Nat.succ_pos _)); have HB1 : Hid (Vr w7 w1.heap.size (hv k n c l e t)) := HB1.out.below B9 (range_lt HB1.out.1 (Nat.succ_pos _)); have HB2 : Hid (Vr w7 w2.heap.size ([.slice ao 0 ac, .slice bo 0 bc] : List Value)) := HB2.out.below B9 (range_lt HB2.out.1 (Nat.succ_pos _)); have HM : Hid (Byt w7 (.slice mo T mc) Z0) := HM.out.below B9; have HC : Hid (Byt w7 (.slice co T cc) M) := HC.out.below B9; have HP1 : Hid (Byt w7 (.slice p1 S c1) Q) := HP1.out.below B9; have HY1 : Hid (Byt w7 (.slice u1 32 d1) U) := HY1.out.below B9; have HV11 : Hid (Vr w7 w6.heap.size Z9) := X9; have NB_HV11 : Hid (NoB w7 w6.heap.size) := N9; have BB : Hid (Below w.heap.size w w7) := BB.out.trans (B9.mono BB.out.size); clear hb0_0 hb0_1 hb0_2 hb0_3 hb0_4 hb0_5 hb1_0 hb1_1 hb1_2 hb1_3 hb1_4 hb1_5 hb2_0 hb2_1; have hb0_0 := HB0.out.cell 0 _ rfl; have hb0_1 := HB0.out.cell 1 _ rfl; have hb0_2 := HB0.out.cell 2 _ rfl; have hb0_3 := HB0.out.cell 3 _ rfl; have hb0_4 := HB0.out.cell 4 _ rfl; have hb0_5 := HB0.out.cell 5 _ rfl; have hb1_0 := HB1.out.cell 0 _ rfl; have hb1_1 := HB1.out.cell 1 _ rfl; have hb1_2 := HB1.out.cell 2 _ rfl; have hb1_3 := HB1.out.cell 3 _ rfl; have hb1_4 := HB1.out.cell 4 _ rfl; have hb1_5 := HB1.out.cell 5 _ rfl; have hb2_0 := HB2.out.cell 0 _ rfl; have hb2_1 := HB2.out.cell 1 _ rfl; clear X9 N9 B9; clear t6; have t7 : (1 : Nat) = 1 := rfl)
    | (have q5 := t5; go_at_call 15; refine (SR1.out w5 (.slice mo T mc) BB.out HM.out).mono ?_; rintro e9 w6 ⟨_, rfl, ⟨p1, c1, u1, d1, rfl, Y8, Y9⟩, B9⟩; have HB0 : Hid (Vr w6 w.heap.size [.int .i64 g0, .int .i64 g1, .int .i64 (S : Int), .int .i64 g3, .int .i64 g4, .int .i64 g5]) := HB0.out.below B9 (range_lt HB0.out.1 (Nat.succ_pos _)); have HB1 : Hid (Vr w6 w1.heap.size (hv k n c l e t)) := HB1.out.below B9 (range_lt HB1.out.1 (Nat.succ_pos _)); have HB2 : Hid (Vr w6 w2.heap.size ([.slice ao 0 ac, .slice bo 0 bc] : List Value)) := HB2.out.below B9 (range_lt HB2.out.1 (Nat.succ_pos _)); have HM : Hid (Byt w6 (.slice mo T mc) Z0) := HM.out.below B9; have HC : Hid (Byt w6 (.slice co T cc) M) := HC.out.below B9; have HP1 : Hid (Byt w6 (.slice p1 S c1) Q) := Y8; have HY1 : Hid (Byt w6 (.slice u1 32 d1) U) := Y9; have BB : Hid (Below w.heap.size w w6) := BB.out.trans (B9.mono BB.out.size); clear hb0_0 hb0_1 hb0_2 hb0_3 hb0_4 hb0_5 hb1_0 hb1_1 hb1_2 hb1_3 hb1_4 hb1_5 hb2_0 hb2_1; have hb0_0 := HB0.out.cell 0 _ rfl; have hb0_1 := HB0.out.cell 1 _ rfl; have hb0_2 := HB0.out.cell 2 _ rfl; have hb0_3 := HB0.out.cell 3 _ rfl; have hb0_4 := HB0.out.cell 4 _ rfl; have hb0_5 := HB0.out.cell 5 _ rfl; have hb1_0 := HB1.out.cell 0 _ rfl; have hb1_1 := HB1.out.cell 1 _ rfl; have hb1_2 := HB1.out.cell 2 _ rfl; have hb1_3 := HB1.out.cell 3 _ rfl; have hb1_4 := HB1.out.cell 4 _ rfl; have hb1_5 := HB1.out.cell 5 _ rfl; have hb2_0 := HB2.out.cell 0 _ rfl; have hb2_1 := HB2.out.cell 1 _ rfl; clear B9 Y8 Y9; clear t5; have t6 : (1 : Nat) = 1 := rfl)
    | (have q4 := t4; go_at_call 8; refine (SC.out w4).mono ?_; rintro e9 w5 ⟨co, cc, rfl, Y9, B9⟩; have HB0 : Hid (Vr w5 w.heap.size [.int .i64 g0, .int .i64 g1, .int .i64 (S : Int), .int .i64 g3, .int .i64 g4, .int .i64 g5]) := HB0.out.below B9 (range_lt HB0.out.1 (Nat.succ_pos _)); have HB1 : Hid (Vr w5 w1.heap.size (hv k n c l e t)) := HB1.out.below B9 (range_lt HB1.out.1 (Nat.succ_pos _)); have HB2 : Hid (Vr w5 w2.heap.size ([.slice ao 0 ac, .slice bo 0 bc] : List Value)) := HB2.out.below B9 (range_lt HB2.out.1 (Nat.succ_pos _)); have HM : Hid (Byt w5 (.slice mo T mc) Z0) := HM.out.below B9; have HC : Hid (Byt w5 (.slice co T cc) M) := Y9; have BB : Hid (Below w.heap.size w w5) := BB.out.trans (B9.mono BB.out.size); clear hb0_0 hb0_1 hb0_2 hb0_3 hb0_4 hb0_5 hb1_0 hb1_1 hb1_2 hb1_3 hb1_4 hb1_5 hb2_0 hb2_1; have hb0_0 := HB0.out.cell 0 _ rfl; have hb0_1 := HB0.out.cell 1 _ rfl; have hb0_2 := HB0.out.cell 2 _ rfl; have hb0_3 := HB0.out.cell 3 _ rfl; have hb0_4 := HB0.out.cell 4 _ rfl; have hb0_5 := HB0.out.cell 5 _ rfl; have hb1_0 := HB1.out.cell 0 _ rfl; have hb1_1 := HB1.out.cell 1 _ rfl; have hb1_2 := HB1.out.cell 2 _ rfl; have hb1_3 := HB1.out.cell 3 _ rfl; have hb1_4 := HB1.out.cell 4 _ rfl; have hb1_5 := HB1.out.cell 5 _ rfl; have hb2_0 := HB2.out.cell 0 _ rfl; have hb2_1 := HB2.out.cell 1 _ rfl; clear B9 Y9; clear t4; have t5 : (1 : Nat) = 1 := rfl)
    | (have q3 := t3; go_at_call 7; refine (SM.out w3 BB.out).mono ?_; rintro e9 w4 ⟨mo, mc, rfl, Y9, B9⟩; have HB0 : Hid (Vr w4 w.heap.size [.int .i64 g0, .int .i64 g1, .int .i64 (S : Int), .int .i64 g3, .int .i64 g4, .int .i64 g5]) := HB0.out.below B9 (range_lt HB0.out.1 (Nat.succ_pos _)); have HB1 : Hid (Vr w4 w1.heap.size (hv k n c l e t)) := HB1.out.below B9 (range_lt HB1.out.1 (Nat.succ_pos _)); have HB2 : Hid (Vr w4 w2.heap.size ([.slice ao 0 ac, .slice bo 0 bc] : List Value)) := HB2.out.below B9 (range_lt HB2.out.1 (Nat.succ_pos _)); have HM : Hid (Byt w4 (.slice mo T mc) Z0) := Y9; have BB : Hid (Below w.heap.size w w4) := BB.out.trans (B9.mono BB.out.size); clear hb0_0 hb0_1 hb0_2 hb0_3 hb0_4 hb0_5 hb1_0 hb1_1 hb1_2 hb1_3 hb1_4 hb1_5 hb2_0 hb2_1; have hb0_0 := HB0.out.cell 0 _ rfl; have hb0_1 := HB0.out.cell 1 _ rfl; have hb0_2 := HB0.out.cell 2 _ rfl; have hb0_3 := HB0.out.cell 3 _ rfl; have hb0_4 := HB0.out.cell 4 _ rfl; have hb0_5 := HB0.out.cell 5 _ rfl; have hb1_0 := HB1.out.cell 0 _ rfl; have hb1_1 := HB1.out.cell 1 _ rfl; have hb1_2 := HB1.out.cell 2 _ rfl; have hb1_3 := HB1.out.cell 3 _ rfl; have hb1_4 := HB1.out.cell 4 _ rfl; have hb1_5 := HB1.out.cell 5 _ rfl; have hb2_0 := HB2.out.cell 0 _ rfl; have hb2_1 := HB2.out.cell 1 _ rfl; clear B9 Y9; clear t3; have t4 : (1 : Nat) = 1 := rfl)
    | (have q2 := t2; refine box_lawC _ ([.slice ao 0 ac, .slice bo 0 bc] : List Value) rfl ?_; intro w3 X9 B9 l9; have HB0 : Hid (Vr w3 w.heap.size [.int .i64 g0, .int .i64 g1, .int .i64 (S : Int), .int .i64 g3, .int .i64 g4, .int .i64 g5]) := HB0.out.below B9 (range_lt HB0.out.1 (Nat.succ_pos _)); have HB1 : Hid (Vr w3 w1.heap.size (hv k n c l e t)) := HB1.out.below B9 (range_lt HB1.out.1 (Nat.succ_pos _)); have HB2 : Hid (Vr w3 w2.heap.size ([.slice ao 0 ac, .slice bo 0 bc] : List Value)) := X9; have BB : Hid (Below w.heap.size w w3) := BB.out.trans (B9.mono BB.out.size); have hb0_0 := HB0.out.cell 0 _ rfl; have hb0_1 := HB0.out.cell 1 _ rfl; have hb0_2 := HB0.out.cell 2 _ rfl; have hb0_3 := HB0.out.cell 3 _ rfl; have hb0_4 := HB0.out.cell 4 _ rfl; have hb0_5 := HB0.out.cell 5 _ rfl; have hb1_0 := HB1.out.cell 0 _ rfl; have hb1_1 := HB1.out.cell 1 _ rfl; have hb1_2 := HB1.out.cell 2 _ rfl; have hb1_3 := HB1.out.cell 3 _ rfl; have hb1_4 := HB1.out.cell 4 _ rfl; have hb1_5 := HB1.out.cell 5 _ rfl; have hb2_0 := HB2.out.cell 0 _ rfl; have hb2_1 := HB2.out.cell 1 _ rfl; clear X9 B9 l9; clear t2; have t3 : (1 : Nat) = 1 := rfl)
    | (have q1 := t1; refine box_lawC _ (hv k n c l e t) rfl ?_; intro w2 X9 B9 l9; have HB0 : Hid (Vr w2 w.heap.size [.int .i64 g0, .int .i64 g1, .int .i64 (S : Int), .int .i64 g3, .int .i64 g4, .int .i64 g5]) := HB0.out.below B9 (range_lt HB0.out.1 (Nat.succ_pos _)); have HB1 : Hid (Vr w2 w1.heap.size (hv k n c l e t)) := X9; have BB : Hid (Below w.heap.size w w2) := BB.out.trans (B9.mono BB.out.size); clear X9 B9 l9; clear t1; have t2 : (1 : Nat) = 1 := rfl)
    | (have q0 := t0; refine box_lawC _ [.int .i64 g0, .int .i64 g1, .int .i64 (S : Int), .int .i64 g3, .int .i64 g4, .int .i64 g5] rfl ?_; intro w1 X9 B9 l9; have HB0 : Hid (Vr w1 w.heap.size [.int .i64 g0, .int .i64 g1, .int .i64 (S : Int), .int .i64 g3, .int .i64 g4, .int .i64 g5]) := X9; have BB : Hid (Below w.heap.size w w1) := B9; clear X9 B9 l9; clear t0; have t1 : (1 : Nat) = 1 := rfl))
  go_cut [13, 14] (fun r13 r14 wc => ∃ (b13 : Nat) (p2 : Option Addr) (c2 : Nat) (u2 : Option Addr) (d2 : Nat), r13 = .pointer (some ⟨b13, 0, none⟩) ∧ r14 = .int .i64 0 ∧ Vr wc b13 (pg9 k n c l e t (.slice p2 S c2) (.slice u2 32 d2) true) ∧ Byt wc (.slice p2 S c2) Q ∧ Byt wc (.slice u2 32 d2) U ∧ Below w8.heap.size w8 wc)
  case first =>
    refine wp_region_held_drew (S := fun w' => Below w8.heap.size w8 w') (by kernel_rfl) (Below.refl _ _).drew (fun hS => ?_)
    obtain ⟨y1, hx0⟩ : ∃ x, x = w8.drew := ⟨_, rfl⟩
    rw [← hx0] at hS  ⊢
    clear hx0
    refine take_lawH 0 (some 45) (.agg ([.int .i64 g0, .int .i64 g1, .int .i64 (S : Int), .int .i64 g3, .int .i64 g4, .int .i64 g5] : List Value).toArray) rfl rfl (by kernel_rfl) (by kernel_rfl) (by kernel_rfl) (fun _ _ _ h => h) (Or.inl ⟨by rfl, fun w' hw' => by exact exec_loadN 23 (.tmp 3) rfl _ rfl _ _ (load_cells rowy_geo (HB0.out.below hw' (range_lt HB0.out.1 (Nat.succ_pos _))).1)⟩) hS ?_
    simp only [Act.put, List.setIfInBounds_toArray, List.set_cons_zero, List.set_cons_succ]
    refine take_lawH 1 (some 46) (.slice mo T mc) rfl rfl (by kernel_rfl) (by kernel_rfl) (by kernel_rfl) (fun _ _ _ h => h) (Or.inl ⟨by rfl, fun w' hw' => by rfl⟩) hS ?_
    simp only [Act.put, List.setIfInBounds_toArray, List.set_cons_zero, List.set_cons_succ]
    refine take_lawH 2 (some 47) (.slice co T cc) rfl rfl (by kernel_rfl) (by kernel_rfl) (by kernel_rfl) (fun _ _ _ h => h) (Or.inl ⟨by rfl, fun w' hw' => by rfl⟩) hS ?_
    simp only [Act.put, List.setIfInBounds_toArray, List.set_cons_zero, List.set_cons_succ]
    refine wpAnyH_ready (rs := [3, 8]) (by kernel_rfl) (by simp) ?_
    refine AllReadyH.cons rfl (fun K hK => ?_) (AllReadyH.cons rfl (fun K hK => ?_) AllReadyH.nil)
    · refine step_callW _ (by rfl) (some 48) rfl 22 #[.tmp 46, .tmp 47] #[28, 28] rfl (fun q w' => by rfl) #[.slice mo T mc, .slice co T cc] (by simp only [List.map_toArray, List.map_cons, List.map_nil]; rfl) (fun u w' => Byt w' u Z1 ∧ Below y1.heap.size y1 w') ?_ ?_
      · exact SA.out _ _ _ (HM.out.below hS) (HC.out.below hS)
      rintro av y2 ⟨y9, h9⟩
      have HN : Hid (Byt y2 av Z1) := y9
      have hS : Below w8.heap.size w8 y2 := hS.trans (h9.mono hS.size)
      clear h9 y9
      refine hK.out _ _ hS (fun _ => ?_)
      simp only [Act.put, List.setIfInBounds_toArray, List.set_cons_zero, List.set_cons_succ]
      clear hK K
      refine wpAnyH_ready (rs := [4, 8]) (by kernel_rfl) (by simp) ?_
      refine AllReadyH.cons rfl (fun K hK => ?_) (AllReadyH.cons rfl (fun K hK => ?_) AllReadyH.nil)
      · refine step_callW _ (by rfl) (some 49) rfl 15 #[.tmp 45, .tmp 48] #[23, 28] rfl (fun q w' => by rfl) #[.agg ([.int .i64 g0, .int .i64 g1, .int .i64 (S : Int), .int .i64 g3, .int .i64 g4, .int .i64 g5] : List Value).toArray, av] (by simp only [List.map_toArray, List.map_cons, List.map_nil]; rfl) (fun u w' => (∃ po pc uo uc, u = .tuple #[.agg (pg9 k n c l e t (.slice po S pc) (.slice uo 32 uc) true).toArray, .int .i64 0] ∧ Byt w' (.slice po S pc) Q ∧ Byt w' (.slice uo 32 uc) U) ∧ Below y2.heap.size y2 w') ?_ ?_
        · exact SR2.out _ _ (BB.out.trans (hS.mono BB.out.size)) HN.out
        rintro _ y3 ⟨⟨p2, c2, u2, d2, rfl, y8, y9⟩, h9⟩
        have HN : Hid (Byt y3 av Z1) := HN.out.below h9
        have HP2 : Hid (Byt y3 (.slice p2 S c2) Q) := y8
        have HY2 : Hid (Byt y3 (.slice u2 32 d2) U) := y9
        have hS : Below w8.heap.size w8 y3 := hS.trans (h9.mono hS.size)
        clear h9 y8 y9
        refine hK.out _ _ hS (fun _ => ?_)
        simp only [Act.put, List.setIfInBounds_toArray, List.set_cons_zero, List.set_cons_succ]
        clear hK K
        refine take_lawH 5 (some 44) (.tuple #[.agg (pg9 k n c l e t (.slice p2 S c2) (.slice u2 32 d2) true).toArray, .int .i64 0]) rfl rfl (by kernel_rfl) (by kernel_rfl) (by kernel_rfl) (fun _ _ _ h => h) (Or.inl ⟨by rfl, fun w' hw' => by rfl⟩) hS ?_
        simp only [Act.put, List.setIfInBounds_toArray, List.set_cons_zero, List.set_cons_succ]
        refine take_lawH 6 (some 50) (.agg (pg9 k n c l e t (.slice p2 S c2) (.slice u2 32 d2) true).toArray) rfl rfl (by kernel_rfl) (by kernel_rfl) (by kernel_rfl) (fun _ _ _ h => h) (Or.inl ⟨by rfl, fun w' hw' => by rfl⟩) hS ?_
        simp only [Act.put, List.setIfInBounds_toArray, List.set_cons_zero, List.set_cons_succ]
        refine take_lawH 7 (some 51) (.int .i64 0) rfl rfl (by kernel_rfl) (by kernel_rfl) (by kernel_rfl) (fun _ _ _ h => h) (Or.inl ⟨by rfl, fun w' hw' => by rfl⟩) hS ?_
        simp only [Act.put, List.setIfInBounds_toArray, List.set_cons_zero, List.set_cons_succ]
        refine wpAnyH_ready (rs := [8]) (by kernel_rfl) (by simp) ?_
        refine AllReadyH.cons rfl (fun K hK => ?_) AllReadyH.nil
        refine step_newN _ rfl (some 13) rfl 42 rfl Z9 zero_page (pg9_nob _ _ _ _ _ _ _ _ _ _ _ _ _) ?_
        intro y4 x9 n9 h9
        have HN : Hid (Byt y4 av Z1) := HN.out.below h9
        have HP2 : Hid (Byt y4 (.slice p2 S c2) Q) := HP2.out.below h9
        have HY2 : Hid (Byt y4 (.slice u2 32 d2) U) := HY2.out.below h9
        have HVV : Hid (Vr y4 y3.heap.size Z9) := x9
        have NB : Hid (NoB y4 y3.heap.size) := n9
        have LB : Hid (w8.heap.size ≤ y3.heap.size) := hS.size
        have hS : Below w8.heap.size w8 y4 := hS.trans (h9.mono hS.size)
        clear h9 x9 n9
        refine hK.out _ _ hS (fun _ => ?_)
        simp only [Act.put, List.setIfInBounds_toArray, List.set_cons_zero, List.set_cons_succ]
        clear hK K
        refine wpAnyH_ready (rs := [9]) (by kernel_rfl) (by simp) ?_
        refine AllReadyH.cons rfl (fun K hK => ?_) AllReadyH.nil
        refine step_storeK _ rfl none rfl (.tmp 13) (.tmp 50) 42 rfl y3.heap.size Z9 (pg9 k n c l e t (.slice p2 S c2) (.slice u2 32 d2) true) rfl rfl HVV.out rfl rowy_page.2 (pg9_one _ _ _ _ _ _ _ _ _ _ _ _ _) ?_
        intro y5 v9 B9 K9
        have HP2 : Hid (Byt y5 (.slice p2 S c2) Q) := byt_nob HP2.out NB.out K9
        have HY2 : Hid (Byt y5 (.slice u2 32 d2) U) := byt_nob HY2.out NB.out K9
        have HVV : Hid (Vr y5 y3.heap.size (pg9 k n c l e t (.slice p2 S c2) (.slice u2 32 d2) true)) := v9
        have hS : Below w8.heap.size w8 y5 := hS.trans (B9.mono LB.out)
        clear v9 B9 K9
        refine hK.out _ _ hS (fun _ => ?_)
        simp only [Act.put]
        clear hK K
        refine take_lawH 10 (some 14) (.int .i64 0) rfl rfl (by kernel_rfl) (by kernel_rfl) (by kernel_rfl) (fun _ _ _ h => h) (Or.inl ⟨by rfl, fun w' hw' => by rfl⟩) hS ?_
        simp only [Act.put, List.setIfInBounds_toArray, List.set_cons_zero, List.set_cons_succ]
        refine wpAnyH_done (by kernel_rfl) ?_ _
        go_wp2
        go_meet
        exact ⟨_, p2, c2, u2, d2, rfl, rfl, HVV.out, HP2.out, HY2.out, hS⟩
      · refine step_newN _ rfl (some 13) rfl 42 rfl Z9 zero_page (pg9_nob _ _ _ _ _ _ _ _ _ _ _ _ _) ?_
        intro y6 x9 n9 h9
        have HN : Hid (Byt y6 av Z1) := HN.out.below h9
        have HVV : Hid (Vr y6 y2.heap.size Z9) := x9
        have NB : Hid (NoB y6 y2.heap.size) := n9
        have LB : Hid (w8.heap.size ≤ y2.heap.size) := hS.size
        have hS : Below w8.heap.size w8 y6 := hS.trans (h9.mono hS.size)
        clear h9 x9 n9
        refine hK.out _ _ hS (fun _ => ?_)
        simp only [Act.put, List.setIfInBounds_toArray, List.set_cons_zero, List.set_cons_succ]
        clear hK K
        refine wpAnyH_ready (rs := [4]) (by kernel_rfl) (by simp) ?_
        refine AllReadyH.cons rfl (fun K hK => ?_) AllReadyH.nil
        refine step_callW _ (by rfl) (some 49) rfl 15 #[.tmp 45, .tmp 48] #[23, 28] rfl (fun q w' => by rfl) #[.agg ([.int .i64 g0, .int .i64 g1, .int .i64 (S : Int), .int .i64 g3, .int .i64 g4, .int .i64 g5] : List Value).toArray, av] (by simp only [List.map_toArray, List.map_cons, List.map_nil]; rfl) (fun u w' => (∃ po pc uo uc, u = .tuple #[.agg (pg9 k n c l e t (.slice po S pc) (.slice uo 32 uc) true).toArray, .int .i64 0] ∧ Byt w' (.slice po S pc) Q ∧ Byt w' (.slice uo 32 uc) U) ∧ Below y6.heap.size y6 w') ?_ ?_
        · exact SR2.out _ _ (BB.out.trans (hS.mono BB.out.size)) HN.out
        rintro _ y7 ⟨⟨p2, c2, u2, d2, rfl, y8, y9⟩, h9⟩
        have NB : Hid (NoB y7 y2.heap.size) := NB.out.heap (h9.block _ (range_lt HVV.out.1 (Nat.succ_pos _)))
        have HVV : Hid (Vr y7 y2.heap.size Z9) := HVV.out.below h9 (range_lt HVV.out.1 (Nat.succ_pos _))
        have HN : Hid (Byt y7 av Z1) := HN.out.below h9
        have HP2 : Hid (Byt y7 (.slice p2 S c2) Q) := y8
        have HY2 : Hid (Byt y7 (.slice u2 32 d2) U) := y9
        have hS : Below w8.heap.size w8 y7 := hS.trans (h9.mono hS.size)
        clear h9 y8 y9
        refine hK.out _ _ hS (fun _ => ?_)
        simp only [Act.put, List.setIfInBounds_toArray, List.set_cons_zero, List.set_cons_succ]
        clear hK K
        refine take_lawH 5 (some 44) (.tuple #[.agg (pg9 k n c l e t (.slice p2 S c2) (.slice u2 32 d2) true).toArray, .int .i64 0]) rfl rfl (by kernel_rfl) (by kernel_rfl) (by kernel_rfl) (fun _ _ _ h => h) (Or.inl ⟨by rfl, fun w' hw' => by rfl⟩) hS ?_
        simp only [Act.put, List.setIfInBounds_toArray, List.set_cons_zero, List.set_cons_succ]
        refine take_lawH 6 (some 50) (.agg (pg9 k n c l e t (.slice p2 S c2) (.slice u2 32 d2) true).toArray) rfl rfl (by kernel_rfl) (by kernel_rfl) (by kernel_rfl) (fun _ _ _ h => h) (Or.inl ⟨by rfl, fun w' hw' => by rfl⟩) hS ?_
        simp only [Act.put, List.setIfInBounds_toArray, List.set_cons_zero, List.set_cons_succ]
        refine take_lawH 7 (some 51) (.int .i64 0) rfl rfl (by kernel_rfl) (by kernel_rfl) (by kernel_rfl) (fun _ _ _ h => h) (Or.inl ⟨by rfl, fun w' hw' => by rfl⟩) hS ?_
        simp only [Act.put, List.setIfInBounds_toArray, List.set_cons_zero, List.set_cons_succ]
        refine wpAnyH_ready (rs := [9]) (by kernel_rfl) (by simp) ?_
        refine AllReadyH.cons rfl (fun K hK => ?_) AllReadyH.nil
        refine step_storeK _ rfl none rfl (.tmp 13) (.tmp 50) 42 rfl y2.heap.size Z9 (pg9 k n c l e t (.slice p2 S c2) (.slice u2 32 d2) true) rfl rfl HVV.out rfl rowy_page.2 (pg9_one _ _ _ _ _ _ _ _ _ _ _ _ _) ?_
        intro y8 v9 B9 K9
        have HP2 : Hid (Byt y8 (.slice p2 S c2) Q) := byt_nob HP2.out NB.out K9
        have HY2 : Hid (Byt y8 (.slice u2 32 d2) U) := byt_nob HY2.out NB.out K9
        have HVV : Hid (Vr y8 y2.heap.size (pg9 k n c l e t (.slice p2 S c2) (.slice u2 32 d2) true)) := v9
        have hS : Below w8.heap.size w8 y8 := hS.trans (B9.mono LB.out)
        clear v9 B9 K9
        refine hK.out _ _ hS (fun _ => ?_)
        simp only [Act.put]
        clear hK K
        refine take_lawH 10 (some 14) (.int .i64 0) rfl rfl (by kernel_rfl) (by kernel_rfl) (by kernel_rfl) (fun _ _ _ h => h) (Or.inl ⟨by rfl, fun w' hw' => by rfl⟩) hS ?_
        simp only [Act.put, List.setIfInBounds_toArray, List.set_cons_zero, List.set_cons_succ]
        refine wpAnyH_done (by kernel_rfl) ?_ _
        go_wp2
        go_meet
        exact ⟨_, p2, c2, u2, d2, rfl, rfl, HVV.out, HP2.out, HY2.out, hS⟩
    · refine step_newN _ rfl (some 13) rfl 42 rfl Z9 zero_page (pg9_nob _ _ _ _ _ _ _ _ _ _ _ _ _) ?_
      intro y9 x9 n9 h9
      have HVV : Hid (Vr y9 y1.heap.size Z9) := x9
      have NB : Hid (NoB y9 y1.heap.size) := n9
      have LB : Hid (w8.heap.size ≤ y1.heap.size) := hS.size
      have hS : Below w8.heap.size w8 y9 := hS.trans (h9.mono hS.size)
      clear h9 x9 n9
      refine hK.out _ _ hS (fun _ => ?_)
      simp only [Act.put, List.setIfInBounds_toArray, List.set_cons_zero, List.set_cons_succ]
      clear hK K
      refine wpAnyH_ready (rs := [3]) (by kernel_rfl) (by simp) ?_
      refine AllReadyH.cons rfl (fun K hK => ?_) AllReadyH.nil
      refine step_callW _ (by rfl) (some 48) rfl 22 #[.tmp 46, .tmp 47] #[28, 28] rfl (fun q w' => by rfl) #[.slice mo T mc, .slice co T cc] (by simp only [List.map_toArray, List.map_cons, List.map_nil]; rfl) (fun u w' => Byt w' u Z1 ∧ Below y9.heap.size y9 w') ?_ ?_
      · exact SA.out _ _ _ (HM.out.below hS) (HC.out.below hS)
      rintro av y10 ⟨y9, h9⟩
      have NB : Hid (NoB y10 y1.heap.size) := NB.out.heap (h9.block _ (range_lt HVV.out.1 (Nat.succ_pos _)))
      have HVV : Hid (Vr y10 y1.heap.size Z9) := HVV.out.below h9 (range_lt HVV.out.1 (Nat.succ_pos _))
      have HN : Hid (Byt y10 av Z1) := y9
      have hS : Below w8.heap.size w8 y10 := hS.trans (h9.mono hS.size)
      clear h9 y9
      refine hK.out _ _ hS (fun _ => ?_)
      simp only [Act.put, List.setIfInBounds_toArray, List.set_cons_zero, List.set_cons_succ]
      clear hK K
      refine wpAnyH_ready (rs := [4]) (by kernel_rfl) (by simp) ?_
      refine AllReadyH.cons rfl (fun K hK => ?_) AllReadyH.nil
      refine step_callW _ (by rfl) (some 49) rfl 15 #[.tmp 45, .tmp 48] #[23, 28] rfl (fun q w' => by rfl) #[.agg ([.int .i64 g0, .int .i64 g1, .int .i64 (S : Int), .int .i64 g3, .int .i64 g4, .int .i64 g5] : List Value).toArray, av] (by simp only [List.map_toArray, List.map_cons, List.map_nil]; rfl) (fun u w' => (∃ po pc uo uc, u = .tuple #[.agg (pg9 k n c l e t (.slice po S pc) (.slice uo 32 uc) true).toArray, .int .i64 0] ∧ Byt w' (.slice po S pc) Q ∧ Byt w' (.slice uo 32 uc) U) ∧ Below y10.heap.size y10 w') ?_ ?_
      · exact SR2.out _ _ (BB.out.trans (hS.mono BB.out.size)) HN.out
      rintro _ y11 ⟨⟨p2, c2, u2, d2, rfl, y8, y9⟩, h9⟩
      have NB : Hid (NoB y11 y1.heap.size) := NB.out.heap (h9.block _ (range_lt HVV.out.1 (Nat.succ_pos _)))
      have HVV : Hid (Vr y11 y1.heap.size Z9) := HVV.out.below h9 (range_lt HVV.out.1 (Nat.succ_pos _))
      have HN : Hid (Byt y11 av Z1) := HN.out.below h9
      have HP2 : Hid (Byt y11 (.slice p2 S c2) Q) := y8
      have HY2 : Hid (Byt y11 (.slice u2 32 d2) U) := y9
      have hS : Below w8.heap.size w8 y11 := hS.trans (h9.mono hS.size)
      clear h9 y8 y9
      refine hK.out _ _ hS (fun _ => ?_)
      simp only [Act.put, List.setIfInBounds_toArray, List.set_cons_zero, List.set_cons_succ]
      clear hK K
      refine take_lawH 5 (some 44) (.tuple #[.agg (pg9 k n c l e t (.slice p2 S c2) (.slice u2 32 d2) true).toArray, .int .i64 0]) rfl rfl (by kernel_rfl) (by kernel_rfl) (by kernel_rfl) (fun _ _ _ h => h) (Or.inl ⟨by rfl, fun w' hw' => by rfl⟩) hS ?_
      simp only [Act.put, List.setIfInBounds_toArray, List.set_cons_zero, List.set_cons_succ]
      refine take_lawH 6 (some 50) (.agg (pg9 k n c l e t (.slice p2 S c2) (.slice u2 32 d2) true).toArray) rfl rfl (by kernel_rfl) (by kernel_rfl) (by kernel_rfl) (fun _ _ _ h => h) (Or.inl ⟨by rfl, fun w' hw' => by rfl⟩) hS ?_
      simp only [Act.put, List.setIfInBounds_toArray, List.set_cons_zero, List.set_cons_succ]
      refine take_lawH 7 (some 51) (.int .i64 0) rfl rfl (by kernel_rfl) (by kernel_rfl) (by kernel_rfl) (fun _ _ _ h => h) (Or.inl ⟨by rfl, fun w' hw' => by rfl⟩) hS ?_
      simp only [Act.put, List.setIfInBounds_toArray, List.set_cons_zero, List.set_cons_succ]
      refine wpAnyH_ready (rs := [9]) (by kernel_rfl) (by simp) ?_
      refine AllReadyH.cons rfl (fun K hK => ?_) AllReadyH.nil
      refine step_storeK _ rfl none rfl (.tmp 13) (.tmp 50) 42 rfl y1.heap.size Z9 (pg9 k n c l e t (.slice p2 S c2) (.slice u2 32 d2) true) rfl rfl HVV.out rfl rowy_page.2 (pg9_one _ _ _ _ _ _ _ _ _ _ _ _ _) ?_
      intro y12 v9 B9 K9
      have HP2 : Hid (Byt y12 (.slice p2 S c2) Q) := byt_nob HP2.out NB.out K9
      have HY2 : Hid (Byt y12 (.slice u2 32 d2) U) := byt_nob HY2.out NB.out K9
      have HVV : Hid (Vr y12 y1.heap.size (pg9 k n c l e t (.slice p2 S c2) (.slice u2 32 d2) true)) := v9
      have hS : Below w8.heap.size w8 y12 := hS.trans (B9.mono LB.out)
      clear v9 B9 K9
      refine hK.out _ _ hS (fun _ => ?_)
      simp only [Act.put]
      clear hK K
      refine take_lawH 10 (some 14) (.int .i64 0) rfl rfl (by kernel_rfl) (by kernel_rfl) (by kernel_rfl) (fun _ _ _ h => h) (Or.inl ⟨by rfl, fun w' hw' => by rfl⟩) hS ?_
      simp only [Act.put, List.setIfInBounds_toArray, List.set_cons_zero, List.set_cons_succ]
      refine wpAnyH_done (by kernel_rfl) ?_ _
      go_wp2
      go_meet
      exact ⟨_, p2, c2, u2, d2, rfl, rfl, HVV.out, HP2.out, HY2.out, hS⟩
  case rest =>
    obtain ⟨b13, p2, c2, u2, d2, rfl, rfl, X9, Y8, Y9, hS⟩ := hcut
    clear hb0_0 hb0_1 hb0_2 hb0_3 hb0_4 hb0_5 hb1_0 hb1_1 hb1_2 hb1_3 hb1_4 hb1_5 hb2_0 hb2_1
    have HB0 : Hid (Vr wc w.heap.size [.int .i64 g0, .int .i64 g1, .int .i64 (S : Int), .int .i64 g3, .int .i64 g4, .int .i64 g5]) := HB0.out.below hS (range_lt HB0.out.1 (Nat.succ_pos _))
    have HB1 : Hid (Vr wc w1.heap.size (hv k n c l e t)) := HB1.out.below hS (range_lt HB1.out.1 (Nat.succ_pos _))
    have HB2 : Hid (Vr wc w2.heap.size ([.slice ao 0 ac, .slice bo 0 bc] : List Value)) := HB2.out.below hS (range_lt HB2.out.1 (Nat.succ_pos _))
    have HM : Hid (Byt wc (.slice mo T mc) Z0) := HM.out.below hS
    have HP1 : Hid (Byt wc (.slice p1 S c1) Q) := HP1.out.below hS
    have HY1 : Hid (Byt wc (.slice u1 32 d1) U) := HY1.out.below hS
    have HV11 : Hid (Vr wc w6.heap.size (pg9 k n c l e t (.slice p1 S c1) (.slice u1 32 d1) false)) := HV11.out.below hS (range_lt HV11.out.1 (Nat.succ_pos _))
    have HV13 : Hid (Vr wc b13 (pg9 k n c l e t (.slice p2 S c2) (.slice u2 32 d2) true)) := X9
    have HP2 : Hid (Byt wc (.slice p2 S c2) Q) := Y8
    have HY2 : Hid (Byt wc (.slice u2 32 d2) U) := Y9
    have BB : Hid (Below w.heap.size w wc) := BB.out.trans (hS.mono BB.out.size)
    clear X9 Y8 Y9 hS
    have t60 : (1 : Nat) = 1 := rfl
    have hb1_0 := HB1.out.cell 0 _ rfl
    have hb1_1 := HB1.out.cell 1 _ rfl
    have hb1_2 := HB1.out.cell 2 _ rfl
    have hb1_3 := HB1.out.cell 3 _ rfl
    have hb1_4 := HB1.out.cell 4 _ rfl
    have hb1_5 := HB1.out.cell 5 _ rfl
    have hb2_0 := HB2.out.cell 0 _ rfl
    have hb2_1 := HB2.out.cell 1 _ rfl
    have hv11_0 := HV11.out.cell 0 _ rfl
    have hv11_1 := HV11.out.cell 1 _ rfl
    have hv11_2 := HV11.out.cell 2 _ rfl
    have hv11_3 := HV11.out.cell 3 _ rfl
    have hv11_4 := HV11.out.cell 4 _ rfl
    have hv11_5 := HV11.out.cell 5 _ rfl
    have hv11_6 := HV11.out.cell 6 _ rfl
    have hv11_7 := HV11.out.cell 7 _ rfl
    have hv11_8 := HV11.out.cell 8 _ rfl
    have hv13_0 := HV13.out.cell 0 _ rfl
    have hv13_1 := HV13.out.cell 1 _ rfl
    have hv13_2 := HV13.out.cell 2 _ rfl
    have hv13_3 := HV13.out.cell 3 _ rfl
    have hv13_4 := HV13.out.cell 4 _ rfl
    have hv13_5 := HV13.out.cell 5 _ rfl
    have hv13_6 := HV13.out.cell 6 _ rfl
    have hv13_7 := HV13.out.cell 7 _ rfl
    have hv13_8 := HV13.out.cell 8 _ rfl
    go_wp2_with (first
      | (have q63 := t63; go_at_call 10; refine (awake_any w103 (HT.out.below BB.out)).mono ?_; rintro e9 w104 ⟨rfl, B9⟩; have HB0 : Hid (Vr w104 w.heap.size [.int .i64 g0, .int .i64 g1, .int .i64 (S : Int), .int .i64 g3, .int .i64 g4, .int .i64 g5]) := HB0.out.below B9 (range_lt HB0.out.1 (Nat.succ_pos _)); have HB1 : Hid (Vr w104 w1.heap.size (hv k n c l e t)) := HB1.out.below B9 (range_lt HB1.out.1 (Nat.succ_pos _)); have HB2 : Hid (Vr w104 w2.heap.size ([.slice ao 0 ac, .slice bo 0 bc] : List Value)) := HB2.out.below B9 (range_lt HB2.out.1 (Nat.succ_pos _)); have HM : Hid (Byt w104 (.slice mo T mc) Z0) := HM.out.below B9; have HP1 : Hid (Byt w104 (.slice p1 S c1) Q) := HP1.out.below B9; have HY1 : Hid (Byt w104 (.slice u1 32 d1) U) := HY1.out.below B9; have HV11 : Hid (Vr w104 w6.heap.size (pg9 k n c l e t (.slice p1 S c1) (.slice u1 32 d1) false)) := HV11.out.below B9 (range_lt HV11.out.1 (Nat.succ_pos _)); have HV13 : Hid (Vr w104 b13 (pg9 k n c l e t (.slice p2 S c2) (.slice u2 32 d2) true)) := HV13.out.below B9 (range_lt HV13.out.1 (Nat.succ_pos _)); have HP2 : Hid (Byt w104 (.slice p2 S c2) Q) := HP2.out.below B9; have HY2 : Hid (Byt w104 (.slice u2 32 d2) U) := HY2.out.below B9; have BB : Hid (Below w.heap.size w w104) := BB.out.trans (B9.mono BB.out.size); clear hb1_0 hb1_1 hb1_2 hb1_3 hb1_4 hb1_5 hb2_0 hb2_1 hv11_0 hv11_1 hv11_2 hv11_3 hv11_4 hv11_5 hv11_6 hv11_7 hv11_8 hv13_0 hv13_1 hv13_2 hv13_3 hv13_4 hv13_5 hv13_6 hv13_7 hv13_8; have hb1_0 := HB1.out.cell 0 _ rfl; have hb1_1 := HB1.out.cell 1 _ rfl; have hb1_2 := HB1.out.cell 2 _ rfl; have hb1_3 := HB1.out.cell 3 _ rfl; have hb1_4 := HB1.out.cell 4 _ rfl; have hb1_5 := HB1.out.cell 5 _ rfl; have hb2_0 := HB2.out.cell 0 _ rfl; have hb2_1 := HB2.out.cell 1 _ rfl; have hv11_0 := HV11.out.cell 0 _ rfl; have hv11_1 := HV11.out.cell 1 _ rfl; have hv11_2 := HV11.out.cell 2 _ rfl; have hv11_3 := HV11.out.cell 3 _ rfl; have hv11_4 := HV11.out.cell 4 _ rfl; have hv11_5 := HV11.out.cell 5 _ rfl; have hv11_6 := HV11.out.cell 6 _ rfl; have hv11_7 := HV11.out.cell 7 _ rfl; have hv11_8 := HV11.out.cell 8 _ rfl; have hv13_0 := HV13.out.cell 0 _ rfl; have hv13_1 := HV13.out.cell 1 _ rfl; have hv13_2 := HV13.out.cell 2 _ rfl; have hv13_3 := HV13.out.cell 3 _ rfl; have hv13_4 := HV13.out.cell 4 _ rfl; have hv13_5 := HV13.out.cell 5 _ rfl; have hv13_6 := HV13.out.cell 6 _ rfl; have hv13_7 := HV13.out.cell 7 _ rfl; have hv13_8 := HV13.out.cell 8 _ rfl; clear B9; clear t63; have t64 : (1 : Nat) = 1 := rfl)
      | (have q62 := t62; go_at_call 11; refine (same_yes w102 _ _ U HY1.out HY2.out).mono ?_; rintro e9 w103 ⟨rfl, B9⟩; have HB0 : Hid (Vr w103 w.heap.size [.int .i64 g0, .int .i64 g1, .int .i64 (S : Int), .int .i64 g3, .int .i64 g4, .int .i64 g5]) := HB0.out.below B9 (range_lt HB0.out.1 (Nat.succ_pos _)); have HB1 : Hid (Vr w103 w1.heap.size (hv k n c l e t)) := HB1.out.below B9 (range_lt HB1.out.1 (Nat.succ_pos _)); have HB2 : Hid (Vr w103 w2.heap.size ([.slice ao 0 ac, .slice bo 0 bc] : List Value)) := HB2.out.below B9 (range_lt HB2.out.1 (Nat.succ_pos _)); have HM : Hid (Byt w103 (.slice mo T mc) Z0) := HM.out.below B9; have HP1 : Hid (Byt w103 (.slice p1 S c1) Q) := HP1.out.below B9; have HY1 : Hid (Byt w103 (.slice u1 32 d1) U) := HY1.out.below B9; have HV11 : Hid (Vr w103 w6.heap.size (pg9 k n c l e t (.slice p1 S c1) (.slice u1 32 d1) false)) := HV11.out.below B9 (range_lt HV11.out.1 (Nat.succ_pos _)); have HV13 : Hid (Vr w103 b13 (pg9 k n c l e t (.slice p2 S c2) (.slice u2 32 d2) true)) := HV13.out.below B9 (range_lt HV13.out.1 (Nat.succ_pos _)); have HP2 : Hid (Byt w103 (.slice p2 S c2) Q) := HP2.out.below B9; have HY2 : Hid (Byt w103 (.slice u2 32 d2) U) := HY2.out.below B9; have BB : Hid (Below w.heap.size w w103) := BB.out.trans (B9.mono BB.out.size); clear hb1_0 hb1_1 hb1_2 hb1_3 hb1_4 hb1_5 hb2_0 hb2_1 hv11_0 hv11_1 hv11_2 hv11_3 hv11_4 hv11_5 hv11_6 hv11_7 hv11_8 hv13_0 hv13_1 hv13_2 hv13_3 hv13_4 hv13_5 hv13_6 hv13_7 hv13_8; have hb1_0 := HB1.out.cell 0 _ rfl; have hb1_1 := HB1.out.cell 1 _ rfl; have hb1_2 := HB1.out.cell 2 _ rfl; have hb1_3 := HB1.out.cell 3 _ rfl; have hb1_4 := HB1.out.cell 4 _ rfl; have hb1_5 := HB1.out.cell 5 _ rfl; have hb2_0 := HB2.out.cell 0 _ rfl; have hb2_1 := HB2.out.cell 1 _ rfl; have hv11_0 := HV11.out.cell 0 _ rfl; have hv11_1 := HV11.out.cell 1 _ rfl; have hv11_2 := HV11.out.cell 2 _ rfl; have hv11_3 := HV11.out.cell 3 _ rfl; have hv11_4 := HV11.out.cell 4 _ rfl; have hv11_5 := HV11.out.cell 5 _ rfl; have hv11_6 := HV11.out.cell 6 _ rfl; have hv11_7 := HV11.out.cell 7 _ rfl; have hv11_8 := HV11.out.cell 8 _ rfl; have hv13_0 := HV13.out.cell 0 _ rfl; have hv13_1 := HV13.out.cell 1 _ rfl; have hv13_2 := HV13.out.cell 2 _ rfl; have hv13_3 := HV13.out.cell 3 _ rfl; have hv13_4 := HV13.out.cell 4 _ rfl; have hv13_5 := HV13.out.cell 5 _ rfl; have hv13_6 := HV13.out.cell 6 _ rfl; have hv13_7 := HV13.out.cell 7 _ rfl; have hv13_8 := HV13.out.cell 8 _ rfl; clear B9; clear t62; have t63 : (1 : Nat) = 1 := rfl)
      | (have q61 := t61; go_at_call 11; refine (same_yes w101 _ _ Q HP1.out HP2.out).mono ?_; rintro e9 w102 ⟨rfl, B9⟩; have HB0 : Hid (Vr w102 w.heap.size [.int .i64 g0, .int .i64 g1, .int .i64 (S : Int), .int .i64 g3, .int .i64 g4, .int .i64 g5]) := HB0.out.below B9 (range_lt HB0.out.1 (Nat.succ_pos _)); have HB1 : Hid (Vr w102 w1.heap.size (hv k n c l e t)) := HB1.out.below B9 (range_lt HB1.out.1 (Nat.succ_pos _)); have HB2 : Hid (Vr w102 w2.heap.size ([.slice ao 0 ac, .slice bo 0 bc] : List Value)) := HB2.out.below B9 (range_lt HB2.out.1 (Nat.succ_pos _)); have HM : Hid (Byt w102 (.slice mo T mc) Z0) := HM.out.below B9; have HP1 : Hid (Byt w102 (.slice p1 S c1) Q) := HP1.out.below B9; have HY1 : Hid (Byt w102 (.slice u1 32 d1) U) := HY1.out.below B9; have HV11 : Hid (Vr w102 w6.heap.size (pg9 k n c l e t (.slice p1 S c1) (.slice u1 32 d1) false)) := HV11.out.below B9 (range_lt HV11.out.1 (Nat.succ_pos _)); have HV13 : Hid (Vr w102 b13 (pg9 k n c l e t (.slice p2 S c2) (.slice u2 32 d2) true)) := HV13.out.below B9 (range_lt HV13.out.1 (Nat.succ_pos _)); have HP2 : Hid (Byt w102 (.slice p2 S c2) Q) := HP2.out.below B9; have HY2 : Hid (Byt w102 (.slice u2 32 d2) U) := HY2.out.below B9; have BB : Hid (Below w.heap.size w w102) := BB.out.trans (B9.mono BB.out.size); clear hb1_0 hb1_1 hb1_2 hb1_3 hb1_4 hb1_5 hb2_0 hb2_1 hv11_0 hv11_1 hv11_2 hv11_3 hv11_4 hv11_5 hv11_6 hv11_7 hv11_8 hv13_0 hv13_1 hv13_2 hv13_3 hv13_4 hv13_5 hv13_6 hv13_7 hv13_8; have hb1_0 := HB1.out.cell 0 _ rfl; have hb1_1 := HB1.out.cell 1 _ rfl; have hb1_2 := HB1.out.cell 2 _ rfl; have hb1_3 := HB1.out.cell 3 _ rfl; have hb1_4 := HB1.out.cell 4 _ rfl; have hb1_5 := HB1.out.cell 5 _ rfl; have hb2_0 := HB2.out.cell 0 _ rfl; have hb2_1 := HB2.out.cell 1 _ rfl; have hv11_0 := HV11.out.cell 0 _ rfl; have hv11_1 := HV11.out.cell 1 _ rfl; have hv11_2 := HV11.out.cell 2 _ rfl; have hv11_3 := HV11.out.cell 3 _ rfl; have hv11_4 := HV11.out.cell 4 _ rfl; have hv11_5 := HV11.out.cell 5 _ rfl; have hv11_6 := HV11.out.cell 6 _ rfl; have hv11_7 := HV11.out.cell 7 _ rfl; have hv11_8 := HV11.out.cell 8 _ rfl; have hv13_0 := HV13.out.cell 0 _ rfl; have hv13_1 := HV13.out.cell 1 _ rfl; have hv13_2 := HV13.out.cell 2 _ rfl; have hv13_3 := HV13.out.cell 3 _ rfl; have hv13_4 := HV13.out.cell 4 _ rfl; have hv13_5 := HV13.out.cell 5 _ rfl; have hv13_6 := HV13.out.cell 6 _ rfl; have hv13_7 := HV13.out.cell 7 _ rfl; have hv13_8 := HV13.out.cell 8 _ rfl; clear B9; clear t61; have t62 : (1 : Nat) = 1 := rfl)
      | (have q60 := t60; go_at_call 17; refine (blank_no wc _ Z0 HM.out ZN.out).mono ?_; rintro e9 w101 ⟨rfl, B9⟩; have HB0 : Hid (Vr w101 w.heap.size [.int .i64 g0, .int .i64 g1, .int .i64 (S : Int), .int .i64 g3, .int .i64 g4, .int .i64 g5]) := HB0.out.below B9 (range_lt HB0.out.1 (Nat.succ_pos _)); have HB1 : Hid (Vr w101 w1.heap.size (hv k n c l e t)) := HB1.out.below B9 (range_lt HB1.out.1 (Nat.succ_pos _)); have HB2 : Hid (Vr w101 w2.heap.size ([.slice ao 0 ac, .slice bo 0 bc] : List Value)) := HB2.out.below B9 (range_lt HB2.out.1 (Nat.succ_pos _)); have HM : Hid (Byt w101 (.slice mo T mc) Z0) := HM.out.below B9; have HP1 : Hid (Byt w101 (.slice p1 S c1) Q) := HP1.out.below B9; have HY1 : Hid (Byt w101 (.slice u1 32 d1) U) := HY1.out.below B9; have HV11 : Hid (Vr w101 w6.heap.size (pg9 k n c l e t (.slice p1 S c1) (.slice u1 32 d1) false)) := HV11.out.below B9 (range_lt HV11.out.1 (Nat.succ_pos _)); have HV13 : Hid (Vr w101 b13 (pg9 k n c l e t (.slice p2 S c2) (.slice u2 32 d2) true)) := HV13.out.below B9 (range_lt HV13.out.1 (Nat.succ_pos _)); have HP2 : Hid (Byt w101 (.slice p2 S c2) Q) := HP2.out.below B9; have HY2 : Hid (Byt w101 (.slice u2 32 d2) U) := HY2.out.below B9; have BB : Hid (Below w.heap.size w w101) := BB.out.trans (B9.mono BB.out.size); clear hb1_0 hb1_1 hb1_2 hb1_3 hb1_4 hb1_5 hb2_0 hb2_1 hv11_0 hv11_1 hv11_2 hv11_3 hv11_4 hv11_5 hv11_6 hv11_7 hv11_8 hv13_0 hv13_1 hv13_2 hv13_3 hv13_4 hv13_5 hv13_6 hv13_7 hv13_8; have hb1_0 := HB1.out.cell 0 _ rfl; have hb1_1 := HB1.out.cell 1 _ rfl; have hb1_2 := HB1.out.cell 2 _ rfl; have hb1_3 := HB1.out.cell 3 _ rfl; have hb1_4 := HB1.out.cell 4 _ rfl; have hb1_5 := HB1.out.cell 5 _ rfl; have hb2_0 := HB2.out.cell 0 _ rfl; have hb2_1 := HB2.out.cell 1 _ rfl; have hv11_0 := HV11.out.cell 0 _ rfl; have hv11_1 := HV11.out.cell 1 _ rfl; have hv11_2 := HV11.out.cell 2 _ rfl; have hv11_3 := HV11.out.cell 3 _ rfl; have hv11_4 := HV11.out.cell 4 _ rfl; have hv11_5 := HV11.out.cell 5 _ rfl; have hv11_6 := HV11.out.cell 6 _ rfl; have hv11_7 := HV11.out.cell 7 _ rfl; have hv11_8 := HV11.out.cell 8 _ rfl; have hv13_0 := HV13.out.cell 0 _ rfl; have hv13_1 := HV13.out.cell 1 _ rfl; have hv13_2 := HV13.out.cell 2 _ rfl; have hv13_3 := HV13.out.cell 3 _ rfl; have hv13_4 := HV13.out.cell 4 _ rfl; have hv13_5 := HV13.out.cell 5 _ rfl; have hv13_6 := HV13.out.cell 6 _ rfl; have hv13_7 := HV13.out.cell 7 _ rfl; have hv13_8 := HV13.out.cell 8 _ rfl; clear B9; clear t60; have t61 : (1 : Nat) = 1 := rfl))
    go_ret
    exact ⟨rfl, BB.out⟩

set_option maxHeartbeats 8000000 in
theorem back_ef (g0 g1 g3 g4 g5 : Int) (S : Nat) (k n c l e t : Int) (ao bo : Option Addr) (ac bc : Nat) (xs ys : List Int) (w : World) (hH : Hb l e t) (ha : Byt w (.slice ao 0 ac) xs) (hy : Byt w (.slice bo 32 bc) ys) (hT : Tab w) (hr : ge.Rt [g0, g1, (S : Int), g3, g4, g5]) (hk : Rh k n c) (hl : xs.length = 0) (hn : ys.length = 32) :
    Calls Tryd.prog 5 #[.agg (ints .i64 [g0, g1, (S : Int), g3, g4, g5]), .agg (hv k n c l e t).toArray, .agg ([.slice ao 0 ac, .slice bo 32 bc] : List Value).toArray] w fun x w' => x = .returned (.bool true) ∧ Below w.heap.size w w' := by
  have HT : Hid (Tab w) := hT
  have hl' : xs.length = 0 ∨ xs.length = S := Or.inl hl
  have hn' : ys.length = 0 ∨ ys.length = 32 := Or.inr hn
  have ⟨s1, s2⟩ := sec_le hr
  have ZL : (plo S xs ++ hend (hb k n c l e t) (tgo ys) (List.replicate 8 255)).length = S + 88 := by rw [List.length_append, plo_len hl', hend_len (hb_len _ _ _ _ _ _) (tgo_len hn') (by simp)]
  have SM : Hid (∀ w0, Below w.heap.size w w0 → Calls Tryd.prog 7 #[.agg (ints .i64 [g0, g1, (S : Int), g3, g4, g5]), .agg (hv k n c l e t).toArray, .slice ao 0 ac, .slice bo 32 bc] w0 fun x w' => ∃ mo mc, x = .returned (.tuple #[.slice mo (S + 88) mc, .int .i64 0]) ∧ Byt w' (.slice mo (S + 88) mc) (plo S xs ++ hend (hb k n c l e t) (tgo ys) (List.replicate 8 255)) ∧ Below w0.heap.size w0 w') := fun w0 hw => (make_yes g0 g1 g3 g4 g5 S k n c l e t _ _ xs ys w0 (ha.below hw) (hy.below hw) hH (hT.below hw) hr hl' hk hn').mono (by rintro _ _ ⟨v, rfl, h1, h2⟩; have h1 := h1.byt (page_all ha.all hy.all hk); obtain ⟨mo, mc, rfl⟩ := byt_form h1 ZL; exact ⟨mo, mc, rfl, h1, h2⟩)
  have SC : Hid (∀ w0, Calls Tryd.prog 8 #[.agg (ints .i64 [g0, g1, (S : Int), g3, g4, g5])] w0 fun x w' => ∃ co cc, x = .returned (.tuple #[.slice co (S + 88) cc, .int .i64 0]) ∧ Byt w' (.slice co (S + 88) cc) (he.mark (S + 88)) ∧ Below w0.heap.size w0 w') := fun w0 => (commit_yes g0 g1 g3 g4 g5 S w0 hr).mono (by rintro _ _ ⟨v, rfl, h1, h2⟩; have h1 := h1.byt (mark_all _); obtain ⟨mo, mc, rfl⟩ := byt_form h1 (mark_len _ (by omega)); exact ⟨mo, mc, rfl, h1, h2⟩)
  have SR1 : Hid (∀ w0 v, Below w.heap.size w w0 → Byt w0 v (plo S xs ++ hend (hb k n c l e t) (tgo ys) (List.replicate 8 255)) → Calls Tryd.prog 15 #[.agg (ints .i64 [g0, g1, (S : Int), g3, g4, g5]), v] w0 fun x w' => ∃ v9, x = .returned v9 ∧ (∃ po pc uo uc, v9 = .tuple #[.agg (pg9 k n c l e t (.slice po S pc) (.slice uo 32 uc) false).toArray, .int .i64 0] ∧ Byt w' (.slice po S pc) (plo S xs) ∧ Byt w' (.slice uo 32 uc) (tgo ys)) ∧ Below w0.heap.size w0 w') := fun w0 v hw hv => read_made g0 g1 g3 g4 g5 S v k n c l e t xs (tgo ys) _ w0 hr hl' (tgo_len hn') (by simp) hk hH hv (hT.below hw) false (by decide)
  have SR2 : Hid (∀ w0 v, Below w.heap.size w w0 → Byt w0 v (plo S xs ++ hend (hb k n c l e t) (tgo ys) (List.replicate 8 0)) → Calls Tryd.prog 15 #[.agg (ints .i64 [g0, g1, (S : Int), g3, g4, g5]), v] w0 fun x w' => ∃ v9, x = .returned v9 ∧ (∃ po pc uo uc, v9 = .tuple #[.agg (pg9 k n c l e t (.slice po S pc) (.slice uo 32 uc) true).toArray, .int .i64 0] ∧ Byt w' (.slice po S pc) (plo S xs) ∧ Byt w' (.slice uo 32 uc) (tgo ys)) ∧ Below w0.heap.size w0 w') := fun w0 v hw hv => read_made g0 g1 g3 g4 g5 S v k n c l e t xs (tgo ys) _ w0 hr hl' (tgo_len hn') (by simp) hk hH hv (hT.below hw) true (by decide)
  have SA : Hid (∀ w0 u v, Byt w0 u (plo S xs ++ hend (hb k n c l e t) (tgo ys) (List.replicate 8 255)) → Byt w0 v (he.mark (S + 88)) → Calls Tryd.prog 22 #[u, v] w0 fun x w' => ∃ v, x = .returned v ∧ Byt w' v (plo S xs ++ hend (hb k n c l e t) (tgo ys) (List.replicate 8 0)) ∧ Below w0.heap.size w0 w') := fun w0 u v hu hv => by
    have z := fa.rand_any u v _ _ w0 hu hv (by rw [ZL, mark_len _ (by omega)]) (by rw [ZL]; omega)
    rw [page_mark hl' hn' ha.all hy.all hk] at z
    exact z
  have ZN : Hid (decide (plo S xs ++ hend (hb k n c l e t) (tgo ys) (List.replicate 8 255) = List.replicate (plo S xs ++ hend (hb k n c l e t) (tgo ys) (List.replicate 8 255)).length 255) = false) := not_blank hl' hk
  have HXA : Hid (Byt w (.slice ao 0 ac) xs) := ha
  have HYA : Hid (Byt w (.slice bo 32 bc) ys) := hy
  have ET : tgo ys = ys := if_neg (by omega)
  rw [ET] at SR1 SR2 SA SM ZN
  have hnq := neq_head k n c l e t
  generalize hZ0 : plo S xs ++ hend (hb k n c l e t) ys (List.replicate 8 255) = Z0 at SM SR1 SA ZN
  generalize hZ1 : plo S xs ++ hend (hb k n c l e t) ys (List.replicate 8 0) = Z1 at SR2 SA
  generalize he.mark (S + 88) = M at SC SA
  clear hZ0 hZ1
  generalize plo S xs = Q at SR1 SR2
  generalize S + 88 = T at SM SC
  clear hr hT hH ha hy hk hl hn hl' hn' s1 s2 ZL ET
  have t0 : (0 : Nat) = 0 := rfl
  go_enter Tryd.func5, Tryd.ntmps5
  go_wp2_with (first
    | (have q7 := t7; (with_reducible refine at_store ?_); refine store_lawC _ (pg9 k n c l e t (.slice p1 S c1) (.slice u1 32 d1) false) w6.heap.size 0 rfl rfl HV11.out.2 rowy_page.2 (pg9_one _ _ _ _ _ _ _ _ _ _ _ _ _) ?_; intro w8 E9 R9 T9 B9; have K9 : ∀ k, k ≠ w6.heap.size → w8.heap[k]? = w7.heap[k]? := (by rw [E9.out]; exact fun k hk => heap_cells _ _ _ _ k hk); have HB0 : Hid (Vr w8 w.heap.size [.int .i64 g0, .int .i64 g1, .int .i64 (S : Int), .int .i64 g3, .int .i64 g4, .int .i64 g5]) := HB0.out.heap (K9 _ (Nat.ne_of_lt LT_HB0_HV11.out)); have HB1 : Hid (Vr w8 w1.heap.size (hv k n c l e t)) := HB1.out.heap (K9 _ (Nat.ne_of_lt LT_HB1_HV11.out)); have HB2 : Hid (Vr w8 w2.heap.size ([.slice ao 0 ac, .slice bo 32 bc] : List Value)) := HB2.out.heap (K9 _ (Nat.ne_of_lt LT_HB2_HV11.out)); have HM : Hid (Byt w8 (.slice mo T mc) Z0) := byt_nob HM.out NB_HV11.out K9; have HC : Hid (Byt w8 (.slice co T cc) M) := byt_nob HC.out NB_HV11.out K9; have HP1 : Hid (Byt w8 (.slice p1 S c1) Q) := byt_nob HP1.out NB_HV11.out K9; have HY1 : Hid (Byt w8 (.slice u1 32 d1) ys) := byt_nob HY1.out NB_HV11.out K9; have NB_HV11 : Hid (NoB w8 w6.heap.size) := (by rw [E9.out]; exact NB_HV11.out.set HV11.out rfl (pg9_nob _ _ _ _ _ _ _ _ _ _ _ _ _)); have HV11 : Hid (Vr w8 w6.heap.size (pg9 k n c l e t (.slice p1 S c1) (.slice u1 32 d1) false)) := ⟨R9, T9⟩; have BB : Hid (Below w.heap.size w w8) := BB.out.trans (B9.mono LE_HV11.out); clear hb0_0 hb0_1 hb0_2 hb0_3 hb0_4 hb0_5 hb1_0 hb1_1 hb1_2 hb1_3 hb1_4 hb1_5 hb2_0 hb2_1; have hb0_0 := HB0.out.cell 0 _ rfl; have hb0_1 := HB0.out.cell 1 _ rfl; have hb0_2 := HB0.out.cell 2 _ rfl; have hb0_3 := HB0.out.cell 3 _ rfl; have hb0_4 := HB0.out.cell 4 _ rfl; have hb0_5 := HB0.out.cell 5 _ rfl; have hb1_0 := HB1.out.cell 0 _ rfl; have hb1_1 := HB1.out.cell 1 _ rfl; have hb1_2 := HB1.out.cell 2 _ rfl; have hb1_3 := HB1.out.cell 3 _ rfl; have hb1_4 := HB1.out.cell 4 _ rfl; have hb1_5 := HB1.out.cell 5 _ rfl; have hb2_0 := HB2.out.cell 0 _ rfl; have hb2_1 := HB2.out.cell 1 _ rfl; clear E9 R9 T9 B9 K9; clear t7; have t8 : (1 : Nat) = 1 := rfl)
    | (have q6 := t6; (with_reducible refine at_alloc ?_); refine new_lawN _ Z9 zero_page (pg9_nob _ _ _ _ _ _ _ _ _ _ _ _ _) ?_; intro w7 X9 N9 B9; have LT_HB0_HV11 : Hid (w.heap.size < w6.heap.size) := range_lt HB0.out.1 (Nat.succ_pos _); have LT_HB1_HV11 : Hid (w1.heap.size < w6.heap.size) := range_lt HB1.out.1 (Nat.succ_pos _); have LT_HB2_HV11 : Hid (w2.heap.size < w6.heap.size) := range_lt HB2.out.1 (Nat.succ_pos _); have LE_HV11 : Hid (w.heap.size ≤ w6.heap.size) := BB.out.size; have HB0 : Hid (Vr w7 w.heap.size [.int .i64 g0, .int .i64 g1, .int .i64 (S : Int), .int .i64 g3, .int .i64 g4, .int .i64 g5]) := HB0.out.below B9 (range_lt HB0.out.1 (Nat.succ_pos _)); have HB1 : Hid (Vr w7 w1.heap.size (hv k n c l e t)) := HB1.out.below B9 (range_lt HB1.out.1 (Nat.succ_pos _)); have HB2 : Hid (Vr w7 w2.heap.size ([.slice ao 0 ac, .slice bo 32 bc] : List Value)) := HB2.out.below B9 (range_lt HB2.out.1 (Nat.succ_pos _)); have HM : Hid (Byt w7 (.slice mo T mc) Z0) := HM.out.below B9; have HC : Hid (Byt w7 (.slice co T cc) M) := HC.out.below B9; have HP1 : Hid (Byt w7 (.slice p1 S c1) Q) := HP1.out.below B9; have HY1 : Hid (Byt w7 (.slice u1 32 d1) ys) := HY1.out.below B9; have HV11 : Hid (Vr w7 w6.heap.size Z9) := X9; have NB_HV11 : Hid (NoB w7 w6.heap.size) := N9; have BB : Hid (Below w.heap.size w w7) := BB.out.trans (B9.mono BB.out.size); clear hb0_0 hb0_1 hb0_2 hb0_3 hb0_4 hb0_5 hb1_0 hb1_1 hb1_2 hb1_3 hb1_4 hb1_5 hb2_0 hb2_1; have hb0_0 := HB0.out.cell 0 _ rfl; have hb0_1 := HB0.out.cell 1 _ rfl; have hb0_2 := HB0.out.cell 2 _ rfl; have hb0_3 := HB0.out.cell 3 _ rfl; have hb0_4 := HB0.out.cell 4 _ rfl; have hb0_5 := HB0.out.cell 5 _ rfl; have hb1_0 := HB1.out.cell 0 _ rfl; have hb1_1 := HB1.out.cell 1 _ rfl; have hb1_2 := HB1.out.cell 2 _ rfl; have hb1_3 := HB1.out.cell 3 _ rfl; have hb1_4 := HB1.out.cell 4 _ rfl; have hb1_5 := HB1.out.cell 5 _ rfl; have hb2_0 := HB2.out.cell 0 _ rfl; have hb2_1 := HB2.out.cell 1 _ rfl; clear X9 N9 B9; clear t6; have t7 : (1 : Nat) = 1 := rfl)
    | (have q5 := t5; go_at_call 15; refine (SR1.out w5 (.slice mo T mc) BB.out HM.out).mono ?_; rintro e9 w6 ⟨_, rfl, ⟨p1, c1, u1, d1, rfl, Y8, Y9⟩, B9⟩; have HB0 : Hid (Vr w6 w.heap.size [.int .i64 g0, .int .i64 g1, .int .i64 (S : Int), .int .i64 g3, .int .i64 g4, .int .i64 g5]) := HB0.out.below B9 (range_lt HB0.out.1 (Nat.succ_pos _)); have HB1 : Hid (Vr w6 w1.heap.size (hv k n c l e t)) := HB1.out.below B9 (range_lt HB1.out.1 (Nat.succ_pos _)); have HB2 : Hid (Vr w6 w2.heap.size ([.slice ao 0 ac, .slice bo 32 bc] : List Value)) := HB2.out.below B9 (range_lt HB2.out.1 (Nat.succ_pos _)); have HM : Hid (Byt w6 (.slice mo T mc) Z0) := HM.out.below B9; have HC : Hid (Byt w6 (.slice co T cc) M) := HC.out.below B9; have HP1 : Hid (Byt w6 (.slice p1 S c1) Q) := Y8; have HY1 : Hid (Byt w6 (.slice u1 32 d1) ys) := Y9; have BB : Hid (Below w.heap.size w w6) := BB.out.trans (B9.mono BB.out.size); clear hb0_0 hb0_1 hb0_2 hb0_3 hb0_4 hb0_5 hb1_0 hb1_1 hb1_2 hb1_3 hb1_4 hb1_5 hb2_0 hb2_1; have hb0_0 := HB0.out.cell 0 _ rfl; have hb0_1 := HB0.out.cell 1 _ rfl; have hb0_2 := HB0.out.cell 2 _ rfl; have hb0_3 := HB0.out.cell 3 _ rfl; have hb0_4 := HB0.out.cell 4 _ rfl; have hb0_5 := HB0.out.cell 5 _ rfl; have hb1_0 := HB1.out.cell 0 _ rfl; have hb1_1 := HB1.out.cell 1 _ rfl; have hb1_2 := HB1.out.cell 2 _ rfl; have hb1_3 := HB1.out.cell 3 _ rfl; have hb1_4 := HB1.out.cell 4 _ rfl; have hb1_5 := HB1.out.cell 5 _ rfl; have hb2_0 := HB2.out.cell 0 _ rfl; have hb2_1 := HB2.out.cell 1 _ rfl; clear B9 Y8 Y9; clear t5; have t6 : (1 : Nat) = 1 := rfl)
    | (have q4 := t4; go_at_call 8; refine (SC.out w4).mono ?_; rintro e9 w5 ⟨co, cc, rfl, Y9, B9⟩; have HB0 : Hid (Vr w5 w.heap.size [.int .i64 g0, .int .i64 g1, .int .i64 (S : Int), .int .i64 g3, .int .i64 g4, .int .i64 g5]) := HB0.out.below B9 (range_lt HB0.out.1 (Nat.succ_pos _)); have HB1 : Hid (Vr w5 w1.heap.size (hv k n c l e t)) := HB1.out.below B9 (range_lt HB1.out.1 (Nat.succ_pos _)); have HB2 : Hid (Vr w5 w2.heap.size ([.slice ao 0 ac, .slice bo 32 bc] : List Value)) := HB2.out.below B9 (range_lt HB2.out.1 (Nat.succ_pos _)); have HM : Hid (Byt w5 (.slice mo T mc) Z0) := HM.out.below B9; have HC : Hid (Byt w5 (.slice co T cc) M) := Y9; have BB : Hid (Below w.heap.size w w5) := BB.out.trans (B9.mono BB.out.size); clear hb0_0 hb0_1 hb0_2 hb0_3 hb0_4 hb0_5 hb1_0 hb1_1 hb1_2 hb1_3 hb1_4 hb1_5 hb2_0 hb2_1; have hb0_0 := HB0.out.cell 0 _ rfl; have hb0_1 := HB0.out.cell 1 _ rfl; have hb0_2 := HB0.out.cell 2 _ rfl; have hb0_3 := HB0.out.cell 3 _ rfl; have hb0_4 := HB0.out.cell 4 _ rfl; have hb0_5 := HB0.out.cell 5 _ rfl; have hb1_0 := HB1.out.cell 0 _ rfl; have hb1_1 := HB1.out.cell 1 _ rfl; have hb1_2 := HB1.out.cell 2 _ rfl; have hb1_3 := HB1.out.cell 3 _ rfl; have hb1_4 := HB1.out.cell 4 _ rfl; have hb1_5 := HB1.out.cell 5 _ rfl; have hb2_0 := HB2.out.cell 0 _ rfl; have hb2_1 := HB2.out.cell 1 _ rfl; clear B9 Y9; clear t4; have t5 : (1 : Nat) = 1 := rfl)
    | (have q3 := t3; go_at_call 7; refine (SM.out w3 BB.out).mono ?_; rintro e9 w4 ⟨mo, mc, rfl, Y9, B9⟩; have HB0 : Hid (Vr w4 w.heap.size [.int .i64 g0, .int .i64 g1, .int .i64 (S : Int), .int .i64 g3, .int .i64 g4, .int .i64 g5]) := HB0.out.below B9 (range_lt HB0.out.1 (Nat.succ_pos _)); have HB1 : Hid (Vr w4 w1.heap.size (hv k n c l e t)) := HB1.out.below B9 (range_lt HB1.out.1 (Nat.succ_pos _)); have HB2 : Hid (Vr w4 w2.heap.size ([.slice ao 0 ac, .slice bo 32 bc] : List Value)) := HB2.out.below B9 (range_lt HB2.out.1 (Nat.succ_pos _)); have HM : Hid (Byt w4 (.slice mo T mc) Z0) := Y9; have BB : Hid (Below w.heap.size w w4) := BB.out.trans (B9.mono BB.out.size); clear hb0_0 hb0_1 hb0_2 hb0_3 hb0_4 hb0_5 hb1_0 hb1_1 hb1_2 hb1_3 hb1_4 hb1_5 hb2_0 hb2_1; have hb0_0 := HB0.out.cell 0 _ rfl; have hb0_1 := HB0.out.cell 1 _ rfl; have hb0_2 := HB0.out.cell 2 _ rfl; have hb0_3 := HB0.out.cell 3 _ rfl; have hb0_4 := HB0.out.cell 4 _ rfl; have hb0_5 := HB0.out.cell 5 _ rfl; have hb1_0 := HB1.out.cell 0 _ rfl; have hb1_1 := HB1.out.cell 1 _ rfl; have hb1_2 := HB1.out.cell 2 _ rfl; have hb1_3 := HB1.out.cell 3 _ rfl; have hb1_4 := HB1.out.cell 4 _ rfl; have hb1_5 := HB1.out.cell 5 _ rfl; have hb2_0 := HB2.out.cell 0 _ rfl; have hb2_1 := HB2.out.cell 1 _ rfl; clear B9 Y9; clear t3; have t4 : (1 : Nat) = 1 := rfl)
    | (have q2 := t2; refine box_lawC _ ([.slice ao 0 ac, .slice bo 32 bc] : List Value) rfl ?_; intro w3 X9 B9 l9; have HB0 : Hid (Vr w3 w.heap.size [.int .i64 g0, .int .i64 g1, .int .i64 (S : Int), .int .i64 g3, .int .i64 g4, .int .i64 g5]) := HB0.out.below B9 (range_lt HB0.out.1 (Nat.succ_pos _)); have HB1 : Hid (Vr w3 w1.heap.size (hv k n c l e t)) := HB1.out.below B9 (range_lt HB1.out.1 (Nat.succ_pos _)); have HB2 : Hid (Vr w3 w2.heap.size ([.slice ao 0 ac, .slice bo 32 bc] : List Value)) := X9; have BB : Hid (Below w.heap.size w w3) := BB.out.trans (B9.mono BB.out.size); have hb0_0 := HB0.out.cell 0 _ rfl; have hb0_1 := HB0.out.cell 1 _ rfl; have hb0_2 := HB0.out.cell 2 _ rfl; have hb0_3 := HB0.out.cell 3 _ rfl; have hb0_4 := HB0.out.cell 4 _ rfl; have hb0_5 := HB0.out.cell 5 _ rfl; have hb1_0 := HB1.out.cell 0 _ rfl; have hb1_1 := HB1.out.cell 1 _ rfl; have hb1_2 := HB1.out.cell 2 _ rfl; have hb1_3 := HB1.out.cell 3 _ rfl; have hb1_4 := HB1.out.cell 4 _ rfl; have hb1_5 := HB1.out.cell 5 _ rfl; have hb2_0 := HB2.out.cell 0 _ rfl; have hb2_1 := HB2.out.cell 1 _ rfl; clear X9 B9 l9; clear t2; have t3 : (1 : Nat) = 1 := rfl)
    | (have q1 := t1; refine box_lawC _ (hv k n c l e t) rfl ?_; intro w2 X9 B9 l9; have HB0 : Hid (Vr w2 w.heap.size [.int .i64 g0, .int .i64 g1, .int .i64 (S : Int), .int .i64 g3, .int .i64 g4, .int .i64 g5]) := HB0.out.below B9 (range_lt HB0.out.1 (Nat.succ_pos _)); have HB1 : Hid (Vr w2 w1.heap.size (hv k n c l e t)) := X9; have BB : Hid (Below w.heap.size w w2) := BB.out.trans (B9.mono BB.out.size); clear X9 B9 l9; clear t1; have t2 : (1 : Nat) = 1 := rfl)
    | (have q0 := t0; refine box_lawC _ [.int .i64 g0, .int .i64 g1, .int .i64 (S : Int), .int .i64 g3, .int .i64 g4, .int .i64 g5] rfl ?_; intro w1 X9 B9 l9; have HB0 : Hid (Vr w1 w.heap.size [.int .i64 g0, .int .i64 g1, .int .i64 (S : Int), .int .i64 g3, .int .i64 g4, .int .i64 g5]) := X9; have BB : Hid (Below w.heap.size w w1) := B9; clear X9 B9 l9; clear t0; have t1 : (1 : Nat) = 1 := rfl))
  go_cut [13, 14] (fun r13 r14 wc => ∃ (b13 : Nat) (p2 : Option Addr) (c2 : Nat) (u2 : Option Addr) (d2 : Nat), r13 = .pointer (some ⟨b13, 0, none⟩) ∧ r14 = .int .i64 0 ∧ Vr wc b13 (pg9 k n c l e t (.slice p2 S c2) (.slice u2 32 d2) true) ∧ Byt wc (.slice p2 S c2) Q ∧ Byt wc (.slice u2 32 d2) ys ∧ Below w8.heap.size w8 wc)
  case first =>
    refine wp_region_held_drew (S := fun w' => Below w8.heap.size w8 w') (by kernel_rfl) (Below.refl _ _).drew (fun hS => ?_)
    obtain ⟨y1, hx0⟩ : ∃ x, x = w8.drew := ⟨_, rfl⟩
    rw [← hx0] at hS  ⊢
    clear hx0
    refine take_lawH 0 (some 45) (.agg ([.int .i64 g0, .int .i64 g1, .int .i64 (S : Int), .int .i64 g3, .int .i64 g4, .int .i64 g5] : List Value).toArray) rfl rfl (by kernel_rfl) (by kernel_rfl) (by kernel_rfl) (fun _ _ _ h => h) (Or.inl ⟨by rfl, fun w' hw' => by exact exec_loadN 23 (.tmp 3) rfl _ rfl _ _ (load_cells rowy_geo (HB0.out.below hw' (range_lt HB0.out.1 (Nat.succ_pos _))).1)⟩) hS ?_
    simp only [Act.put, List.setIfInBounds_toArray, List.set_cons_zero, List.set_cons_succ]
    refine take_lawH 1 (some 46) (.slice mo T mc) rfl rfl (by kernel_rfl) (by kernel_rfl) (by kernel_rfl) (fun _ _ _ h => h) (Or.inl ⟨by rfl, fun w' hw' => by rfl⟩) hS ?_
    simp only [Act.put, List.setIfInBounds_toArray, List.set_cons_zero, List.set_cons_succ]
    refine take_lawH 2 (some 47) (.slice co T cc) rfl rfl (by kernel_rfl) (by kernel_rfl) (by kernel_rfl) (fun _ _ _ h => h) (Or.inl ⟨by rfl, fun w' hw' => by rfl⟩) hS ?_
    simp only [Act.put, List.setIfInBounds_toArray, List.set_cons_zero, List.set_cons_succ]
    refine wpAnyH_ready (rs := [3, 8]) (by kernel_rfl) (by simp) ?_
    refine AllReadyH.cons rfl (fun K hK => ?_) (AllReadyH.cons rfl (fun K hK => ?_) AllReadyH.nil)
    · refine step_callW _ (by rfl) (some 48) rfl 22 #[.tmp 46, .tmp 47] #[28, 28] rfl (fun q w' => by rfl) #[.slice mo T mc, .slice co T cc] (by simp only [List.map_toArray, List.map_cons, List.map_nil]; rfl) (fun u w' => Byt w' u Z1 ∧ Below y1.heap.size y1 w') ?_ ?_
      · exact SA.out _ _ _ (HM.out.below hS) (HC.out.below hS)
      rintro av y2 ⟨y9, h9⟩
      have HN : Hid (Byt y2 av Z1) := y9
      have hS : Below w8.heap.size w8 y2 := hS.trans (h9.mono hS.size)
      clear h9 y9
      refine hK.out _ _ hS (fun _ => ?_)
      simp only [Act.put, List.setIfInBounds_toArray, List.set_cons_zero, List.set_cons_succ]
      clear hK K
      refine wpAnyH_ready (rs := [4, 8]) (by kernel_rfl) (by simp) ?_
      refine AllReadyH.cons rfl (fun K hK => ?_) (AllReadyH.cons rfl (fun K hK => ?_) AllReadyH.nil)
      · refine step_callW _ (by rfl) (some 49) rfl 15 #[.tmp 45, .tmp 48] #[23, 28] rfl (fun q w' => by rfl) #[.agg ([.int .i64 g0, .int .i64 g1, .int .i64 (S : Int), .int .i64 g3, .int .i64 g4, .int .i64 g5] : List Value).toArray, av] (by simp only [List.map_toArray, List.map_cons, List.map_nil]; rfl) (fun u w' => (∃ po pc uo uc, u = .tuple #[.agg (pg9 k n c l e t (.slice po S pc) (.slice uo 32 uc) true).toArray, .int .i64 0] ∧ Byt w' (.slice po S pc) Q ∧ Byt w' (.slice uo 32 uc) ys) ∧ Below y2.heap.size y2 w') ?_ ?_
        · exact SR2.out _ _ (BB.out.trans (hS.mono BB.out.size)) HN.out
        rintro _ y3 ⟨⟨p2, c2, u2, d2, rfl, y8, y9⟩, h9⟩
        have HN : Hid (Byt y3 av Z1) := HN.out.below h9
        have HP2 : Hid (Byt y3 (.slice p2 S c2) Q) := y8
        have HY2 : Hid (Byt y3 (.slice u2 32 d2) ys) := y9
        have hS : Below w8.heap.size w8 y3 := hS.trans (h9.mono hS.size)
        clear h9 y8 y9
        refine hK.out _ _ hS (fun _ => ?_)
        simp only [Act.put, List.setIfInBounds_toArray, List.set_cons_zero, List.set_cons_succ]
        clear hK K
        refine take_lawH 5 (some 44) (.tuple #[.agg (pg9 k n c l e t (.slice p2 S c2) (.slice u2 32 d2) true).toArray, .int .i64 0]) rfl rfl (by kernel_rfl) (by kernel_rfl) (by kernel_rfl) (fun _ _ _ h => h) (Or.inl ⟨by rfl, fun w' hw' => by rfl⟩) hS ?_
        simp only [Act.put, List.setIfInBounds_toArray, List.set_cons_zero, List.set_cons_succ]
        refine take_lawH 6 (some 50) (.agg (pg9 k n c l e t (.slice p2 S c2) (.slice u2 32 d2) true).toArray) rfl rfl (by kernel_rfl) (by kernel_rfl) (by kernel_rfl) (fun _ _ _ h => h) (Or.inl ⟨by rfl, fun w' hw' => by rfl⟩) hS ?_
        simp only [Act.put, List.setIfInBounds_toArray, List.set_cons_zero, List.set_cons_succ]
        refine take_lawH 7 (some 51) (.int .i64 0) rfl rfl (by kernel_rfl) (by kernel_rfl) (by kernel_rfl) (fun _ _ _ h => h) (Or.inl ⟨by rfl, fun w' hw' => by rfl⟩) hS ?_
        simp only [Act.put, List.setIfInBounds_toArray, List.set_cons_zero, List.set_cons_succ]
        refine wpAnyH_ready (rs := [8]) (by kernel_rfl) (by simp) ?_
        refine AllReadyH.cons rfl (fun K hK => ?_) AllReadyH.nil
        refine step_newN _ rfl (some 13) rfl 42 rfl Z9 zero_page (pg9_nob _ _ _ _ _ _ _ _ _ _ _ _ _) ?_
        intro y4 x9 n9 h9
        have HN : Hid (Byt y4 av Z1) := HN.out.below h9
        have HP2 : Hid (Byt y4 (.slice p2 S c2) Q) := HP2.out.below h9
        have HY2 : Hid (Byt y4 (.slice u2 32 d2) ys) := HY2.out.below h9
        have HVV : Hid (Vr y4 y3.heap.size Z9) := x9
        have NB : Hid (NoB y4 y3.heap.size) := n9
        have LB : Hid (w8.heap.size ≤ y3.heap.size) := hS.size
        have hS : Below w8.heap.size w8 y4 := hS.trans (h9.mono hS.size)
        clear h9 x9 n9
        refine hK.out _ _ hS (fun _ => ?_)
        simp only [Act.put, List.setIfInBounds_toArray, List.set_cons_zero, List.set_cons_succ]
        clear hK K
        refine wpAnyH_ready (rs := [9]) (by kernel_rfl) (by simp) ?_
        refine AllReadyH.cons rfl (fun K hK => ?_) AllReadyH.nil
        refine step_storeK _ rfl none rfl (.tmp 13) (.tmp 50) 42 rfl y3.heap.size Z9 (pg9 k n c l e t (.slice p2 S c2) (.slice u2 32 d2) true) rfl rfl HVV.out rfl rowy_page.2 (pg9_one _ _ _ _ _ _ _ _ _ _ _ _ _) ?_
        intro y5 v9 B9 K9
        have HP2 : Hid (Byt y5 (.slice p2 S c2) Q) := byt_nob HP2.out NB.out K9
        have HY2 : Hid (Byt y5 (.slice u2 32 d2) ys) := byt_nob HY2.out NB.out K9
        have HVV : Hid (Vr y5 y3.heap.size (pg9 k n c l e t (.slice p2 S c2) (.slice u2 32 d2) true)) := v9
        have hS : Below w8.heap.size w8 y5 := hS.trans (B9.mono LB.out)
        clear v9 B9 K9
        refine hK.out _ _ hS (fun _ => ?_)
        simp only [Act.put]
        clear hK K
        refine take_lawH 10 (some 14) (.int .i64 0) rfl rfl (by kernel_rfl) (by kernel_rfl) (by kernel_rfl) (fun _ _ _ h => h) (Or.inl ⟨by rfl, fun w' hw' => by rfl⟩) hS ?_
        simp only [Act.put, List.setIfInBounds_toArray, List.set_cons_zero, List.set_cons_succ]
        refine wpAnyH_done (by kernel_rfl) ?_ _
        go_wp2
        go_meet
        exact ⟨_, p2, c2, u2, d2, rfl, rfl, HVV.out, HP2.out, HY2.out, hS⟩
      · refine step_newN _ rfl (some 13) rfl 42 rfl Z9 zero_page (pg9_nob _ _ _ _ _ _ _ _ _ _ _ _ _) ?_
        intro y6 x9 n9 h9
        have HN : Hid (Byt y6 av Z1) := HN.out.below h9
        have HVV : Hid (Vr y6 y2.heap.size Z9) := x9
        have NB : Hid (NoB y6 y2.heap.size) := n9
        have LB : Hid (w8.heap.size ≤ y2.heap.size) := hS.size
        have hS : Below w8.heap.size w8 y6 := hS.trans (h9.mono hS.size)
        clear h9 x9 n9
        refine hK.out _ _ hS (fun _ => ?_)
        simp only [Act.put, List.setIfInBounds_toArray, List.set_cons_zero, List.set_cons_succ]
        clear hK K
        refine wpAnyH_ready (rs := [4]) (by kernel_rfl) (by simp) ?_
        refine AllReadyH.cons rfl (fun K hK => ?_) AllReadyH.nil
        refine step_callW _ (by rfl) (some 49) rfl 15 #[.tmp 45, .tmp 48] #[23, 28] rfl (fun q w' => by rfl) #[.agg ([.int .i64 g0, .int .i64 g1, .int .i64 (S : Int), .int .i64 g3, .int .i64 g4, .int .i64 g5] : List Value).toArray, av] (by simp only [List.map_toArray, List.map_cons, List.map_nil]; rfl) (fun u w' => (∃ po pc uo uc, u = .tuple #[.agg (pg9 k n c l e t (.slice po S pc) (.slice uo 32 uc) true).toArray, .int .i64 0] ∧ Byt w' (.slice po S pc) Q ∧ Byt w' (.slice uo 32 uc) ys) ∧ Below y6.heap.size y6 w') ?_ ?_
        · exact SR2.out _ _ (BB.out.trans (hS.mono BB.out.size)) HN.out
        rintro _ y7 ⟨⟨p2, c2, u2, d2, rfl, y8, y9⟩, h9⟩
        have NB : Hid (NoB y7 y2.heap.size) := NB.out.heap (h9.block _ (range_lt HVV.out.1 (Nat.succ_pos _)))
        have HVV : Hid (Vr y7 y2.heap.size Z9) := HVV.out.below h9 (range_lt HVV.out.1 (Nat.succ_pos _))
        have HN : Hid (Byt y7 av Z1) := HN.out.below h9
        have HP2 : Hid (Byt y7 (.slice p2 S c2) Q) := y8
        have HY2 : Hid (Byt y7 (.slice u2 32 d2) ys) := y9
        have hS : Below w8.heap.size w8 y7 := hS.trans (h9.mono hS.size)
        clear h9 y8 y9
        refine hK.out _ _ hS (fun _ => ?_)
        simp only [Act.put, List.setIfInBounds_toArray, List.set_cons_zero, List.set_cons_succ]
        clear hK K
        refine take_lawH 5 (some 44) (.tuple #[.agg (pg9 k n c l e t (.slice p2 S c2) (.slice u2 32 d2) true).toArray, .int .i64 0]) rfl rfl (by kernel_rfl) (by kernel_rfl) (by kernel_rfl) (fun _ _ _ h => h) (Or.inl ⟨by rfl, fun w' hw' => by rfl⟩) hS ?_
        simp only [Act.put, List.setIfInBounds_toArray, List.set_cons_zero, List.set_cons_succ]
        refine take_lawH 6 (some 50) (.agg (pg9 k n c l e t (.slice p2 S c2) (.slice u2 32 d2) true).toArray) rfl rfl (by kernel_rfl) (by kernel_rfl) (by kernel_rfl) (fun _ _ _ h => h) (Or.inl ⟨by rfl, fun w' hw' => by rfl⟩) hS ?_
        simp only [Act.put, List.setIfInBounds_toArray, List.set_cons_zero, List.set_cons_succ]
        refine take_lawH 7 (some 51) (.int .i64 0) rfl rfl (by kernel_rfl) (by kernel_rfl) (by kernel_rfl) (fun _ _ _ h => h) (Or.inl ⟨by rfl, fun w' hw' => by rfl⟩) hS ?_
        simp only [Act.put, List.setIfInBounds_toArray, List.set_cons_zero, List.set_cons_succ]
        refine wpAnyH_ready (rs := [9]) (by kernel_rfl) (by simp) ?_
        refine AllReadyH.cons rfl (fun K hK => ?_) AllReadyH.nil
        refine step_storeK _ rfl none rfl (.tmp 13) (.tmp 50) 42 rfl y2.heap.size Z9 (pg9 k n c l e t (.slice p2 S c2) (.slice u2 32 d2) true) rfl rfl HVV.out rfl rowy_page.2 (pg9_one _ _ _ _ _ _ _ _ _ _ _ _ _) ?_
        intro y8 v9 B9 K9
        have HP2 : Hid (Byt y8 (.slice p2 S c2) Q) := byt_nob HP2.out NB.out K9
        have HY2 : Hid (Byt y8 (.slice u2 32 d2) ys) := byt_nob HY2.out NB.out K9
        have HVV : Hid (Vr y8 y2.heap.size (pg9 k n c l e t (.slice p2 S c2) (.slice u2 32 d2) true)) := v9
        have hS : Below w8.heap.size w8 y8 := hS.trans (B9.mono LB.out)
        clear v9 B9 K9
        refine hK.out _ _ hS (fun _ => ?_)
        simp only [Act.put]
        clear hK K
        refine take_lawH 10 (some 14) (.int .i64 0) rfl rfl (by kernel_rfl) (by kernel_rfl) (by kernel_rfl) (fun _ _ _ h => h) (Or.inl ⟨by rfl, fun w' hw' => by rfl⟩) hS ?_
        simp only [Act.put, List.setIfInBounds_toArray, List.set_cons_zero, List.set_cons_succ]
        refine wpAnyH_done (by kernel_rfl) ?_ _
        go_wp2
        go_meet
        exact ⟨_, p2, c2, u2, d2, rfl, rfl, HVV.out, HP2.out, HY2.out, hS⟩
    · refine step_newN _ rfl (some 13) rfl 42 rfl Z9 zero_page (pg9_nob _ _ _ _ _ _ _ _ _ _ _ _ _) ?_
      intro y9 x9 n9 h9
      have HVV : Hid (Vr y9 y1.heap.size Z9) := x9
      have NB : Hid (NoB y9 y1.heap.size) := n9
      have LB : Hid (w8.heap.size ≤ y1.heap.size) := hS.size
      have hS : Below w8.heap.size w8 y9 := hS.trans (h9.mono hS.size)
      clear h9 x9 n9
      refine hK.out _ _ hS (fun _ => ?_)
      simp only [Act.put, List.setIfInBounds_toArray, List.set_cons_zero, List.set_cons_succ]
      clear hK K
      refine wpAnyH_ready (rs := [3]) (by kernel_rfl) (by simp) ?_
      refine AllReadyH.cons rfl (fun K hK => ?_) AllReadyH.nil
      refine step_callW _ (by rfl) (some 48) rfl 22 #[.tmp 46, .tmp 47] #[28, 28] rfl (fun q w' => by rfl) #[.slice mo T mc, .slice co T cc] (by simp only [List.map_toArray, List.map_cons, List.map_nil]; rfl) (fun u w' => Byt w' u Z1 ∧ Below y9.heap.size y9 w') ?_ ?_
      · exact SA.out _ _ _ (HM.out.below hS) (HC.out.below hS)
      rintro av y10 ⟨y9, h9⟩
      have NB : Hid (NoB y10 y1.heap.size) := NB.out.heap (h9.block _ (range_lt HVV.out.1 (Nat.succ_pos _)))
      have HVV : Hid (Vr y10 y1.heap.size Z9) := HVV.out.below h9 (range_lt HVV.out.1 (Nat.succ_pos _))
      have HN : Hid (Byt y10 av Z1) := y9
      have hS : Below w8.heap.size w8 y10 := hS.trans (h9.mono hS.size)
      clear h9 y9
      refine hK.out _ _ hS (fun _ => ?_)
      simp only [Act.put, List.setIfInBounds_toArray, List.set_cons_zero, List.set_cons_succ]
      clear hK K
      refine wpAnyH_ready (rs := [4]) (by kernel_rfl) (by simp) ?_
      refine AllReadyH.cons rfl (fun K hK => ?_) AllReadyH.nil
      refine step_callW _ (by rfl) (some 49) rfl 15 #[.tmp 45, .tmp 48] #[23, 28] rfl (fun q w' => by rfl) #[.agg ([.int .i64 g0, .int .i64 g1, .int .i64 (S : Int), .int .i64 g3, .int .i64 g4, .int .i64 g5] : List Value).toArray, av] (by simp only [List.map_toArray, List.map_cons, List.map_nil]; rfl) (fun u w' => (∃ po pc uo uc, u = .tuple #[.agg (pg9 k n c l e t (.slice po S pc) (.slice uo 32 uc) true).toArray, .int .i64 0] ∧ Byt w' (.slice po S pc) Q ∧ Byt w' (.slice uo 32 uc) ys) ∧ Below y10.heap.size y10 w') ?_ ?_
      · exact SR2.out _ _ (BB.out.trans (hS.mono BB.out.size)) HN.out
      rintro _ y11 ⟨⟨p2, c2, u2, d2, rfl, y8, y9⟩, h9⟩
      have NB : Hid (NoB y11 y1.heap.size) := NB.out.heap (h9.block _ (range_lt HVV.out.1 (Nat.succ_pos _)))
      have HVV : Hid (Vr y11 y1.heap.size Z9) := HVV.out.below h9 (range_lt HVV.out.1 (Nat.succ_pos _))
      have HN : Hid (Byt y11 av Z1) := HN.out.below h9
      have HP2 : Hid (Byt y11 (.slice p2 S c2) Q) := y8
      have HY2 : Hid (Byt y11 (.slice u2 32 d2) ys) := y9
      have hS : Below w8.heap.size w8 y11 := hS.trans (h9.mono hS.size)
      clear h9 y8 y9
      refine hK.out _ _ hS (fun _ => ?_)
      simp only [Act.put, List.setIfInBounds_toArray, List.set_cons_zero, List.set_cons_succ]
      clear hK K
      refine take_lawH 5 (some 44) (.tuple #[.agg (pg9 k n c l e t (.slice p2 S c2) (.slice u2 32 d2) true).toArray, .int .i64 0]) rfl rfl (by kernel_rfl) (by kernel_rfl) (by kernel_rfl) (fun _ _ _ h => h) (Or.inl ⟨by rfl, fun w' hw' => by rfl⟩) hS ?_
      simp only [Act.put, List.setIfInBounds_toArray, List.set_cons_zero, List.set_cons_succ]
      refine take_lawH 6 (some 50) (.agg (pg9 k n c l e t (.slice p2 S c2) (.slice u2 32 d2) true).toArray) rfl rfl (by kernel_rfl) (by kernel_rfl) (by kernel_rfl) (fun _ _ _ h => h) (Or.inl ⟨by rfl, fun w' hw' => by rfl⟩) hS ?_
      simp only [Act.put, List.setIfInBounds_toArray, List.set_cons_zero, List.set_cons_succ]
      refine take_lawH 7 (some 51) (.int .i64 0) rfl rfl (by kernel_rfl) (by kernel_rfl) (by kernel_rfl) (fun _ _ _ h => h) (Or.inl ⟨by rfl, fun w' hw' => by rfl⟩) hS ?_
      simp only [Act.put, List.setIfInBounds_toArray, List.set_cons_zero, List.set_cons_succ]
      refine wpAnyH_ready (rs := [9]) (by kernel_rfl) (by simp) ?_
      refine AllReadyH.cons rfl (fun K hK => ?_) AllReadyH.nil
      refine step_storeK _ rfl none rfl (.tmp 13) (.tmp 50) 42 rfl y1.heap.size Z9 (pg9 k n c l e t (.slice p2 S c2) (.slice u2 32 d2) true) rfl rfl HVV.out rfl rowy_page.2 (pg9_one _ _ _ _ _ _ _ _ _ _ _ _ _) ?_
      intro y12 v9 B9 K9
      have HP2 : Hid (Byt y12 (.slice p2 S c2) Q) := byt_nob HP2.out NB.out K9
      have HY2 : Hid (Byt y12 (.slice u2 32 d2) ys) := byt_nob HY2.out NB.out K9
      have HVV : Hid (Vr y12 y1.heap.size (pg9 k n c l e t (.slice p2 S c2) (.slice u2 32 d2) true)) := v9
      have hS : Below w8.heap.size w8 y12 := hS.trans (B9.mono LB.out)
      clear v9 B9 K9
      refine hK.out _ _ hS (fun _ => ?_)
      simp only [Act.put]
      clear hK K
      refine take_lawH 10 (some 14) (.int .i64 0) rfl rfl (by kernel_rfl) (by kernel_rfl) (by kernel_rfl) (fun _ _ _ h => h) (Or.inl ⟨by rfl, fun w' hw' => by rfl⟩) hS ?_
      simp only [Act.put, List.setIfInBounds_toArray, List.set_cons_zero, List.set_cons_succ]
      refine wpAnyH_done (by kernel_rfl) ?_ _
      go_wp2
      go_meet
      exact ⟨_, p2, c2, u2, d2, rfl, rfl, HVV.out, HP2.out, HY2.out, hS⟩
  case rest =>
    obtain ⟨b13, p2, c2, u2, d2, rfl, rfl, X9, Y8, Y9, hS⟩ := hcut
    clear hb0_0 hb0_1 hb0_2 hb0_3 hb0_4 hb0_5 hb1_0 hb1_1 hb1_2 hb1_3 hb1_4 hb1_5 hb2_0 hb2_1
    have HB0 : Hid (Vr wc w.heap.size [.int .i64 g0, .int .i64 g1, .int .i64 (S : Int), .int .i64 g3, .int .i64 g4, .int .i64 g5]) := HB0.out.below hS (range_lt HB0.out.1 (Nat.succ_pos _))
    have HB1 : Hid (Vr wc w1.heap.size (hv k n c l e t)) := HB1.out.below hS (range_lt HB1.out.1 (Nat.succ_pos _))
    have HB2 : Hid (Vr wc w2.heap.size ([.slice ao 0 ac, .slice bo 32 bc] : List Value)) := HB2.out.below hS (range_lt HB2.out.1 (Nat.succ_pos _))
    have HM : Hid (Byt wc (.slice mo T mc) Z0) := HM.out.below hS
    have HP1 : Hid (Byt wc (.slice p1 S c1) Q) := HP1.out.below hS
    have HY1 : Hid (Byt wc (.slice u1 32 d1) ys) := HY1.out.below hS
    have HV11 : Hid (Vr wc w6.heap.size (pg9 k n c l e t (.slice p1 S c1) (.slice u1 32 d1) false)) := HV11.out.below hS (range_lt HV11.out.1 (Nat.succ_pos _))
    have HV13 : Hid (Vr wc b13 (pg9 k n c l e t (.slice p2 S c2) (.slice u2 32 d2) true)) := X9
    have HP2 : Hid (Byt wc (.slice p2 S c2) Q) := Y8
    have HY2 : Hid (Byt wc (.slice u2 32 d2) ys) := Y9
    have BB : Hid (Below w.heap.size w wc) := BB.out.trans (hS.mono BB.out.size)
    clear X9 Y8 Y9 hS
    have t60 : (1 : Nat) = 1 := rfl
    have hb1_0 := HB1.out.cell 0 _ rfl
    have hb1_1 := HB1.out.cell 1 _ rfl
    have hb1_2 := HB1.out.cell 2 _ rfl
    have hb1_3 := HB1.out.cell 3 _ rfl
    have hb1_4 := HB1.out.cell 4 _ rfl
    have hb1_5 := HB1.out.cell 5 _ rfl
    have hb2_0 := HB2.out.cell 0 _ rfl
    have hb2_1 := HB2.out.cell 1 _ rfl
    have hv11_0 := HV11.out.cell 0 _ rfl
    have hv11_1 := HV11.out.cell 1 _ rfl
    have hv11_2 := HV11.out.cell 2 _ rfl
    have hv11_3 := HV11.out.cell 3 _ rfl
    have hv11_4 := HV11.out.cell 4 _ rfl
    have hv11_5 := HV11.out.cell 5 _ rfl
    have hv11_6 := HV11.out.cell 6 _ rfl
    have hv11_7 := HV11.out.cell 7 _ rfl
    have hv11_8 := HV11.out.cell 8 _ rfl
    have hv13_0 := HV13.out.cell 0 _ rfl
    have hv13_1 := HV13.out.cell 1 _ rfl
    have hv13_2 := HV13.out.cell 2 _ rfl
    have hv13_3 := HV13.out.cell 3 _ rfl
    have hv13_4 := HV13.out.cell 4 _ rfl
    have hv13_5 := HV13.out.cell 5 _ rfl
    have hv13_6 := HV13.out.cell 6 _ rfl
    have hv13_7 := HV13.out.cell 7 _ rfl
    have hv13_8 := HV13.out.cell 8 _ rfl
    go_wp2_with (first
      | (have q64 := t64; go_at_call 10; refine (awake_any w104 (HT.out.below BB.out)).mono ?_; rintro e9 w105 ⟨rfl, B9⟩; have HB0 : Hid (Vr w105 w.heap.size [.int .i64 g0, .int .i64 g1, .int .i64 (S : Int), .int .i64 g3, .int .i64 g4, .int .i64 g5]) := HB0.out.below B9 (range_lt HB0.out.1 (Nat.succ_pos _)); have HB1 : Hid (Vr w105 w1.heap.size (hv k n c l e t)) := HB1.out.below B9 (range_lt HB1.out.1 (Nat.succ_pos _)); have HB2 : Hid (Vr w105 w2.heap.size ([.slice ao 0 ac, .slice bo 32 bc] : List Value)) := HB2.out.below B9 (range_lt HB2.out.1 (Nat.succ_pos _)); have HM : Hid (Byt w105 (.slice mo T mc) Z0) := HM.out.below B9; have HP1 : Hid (Byt w105 (.slice p1 S c1) Q) := HP1.out.below B9; have HY1 : Hid (Byt w105 (.slice u1 32 d1) ys) := HY1.out.below B9; have HV11 : Hid (Vr w105 w6.heap.size (pg9 k n c l e t (.slice p1 S c1) (.slice u1 32 d1) false)) := HV11.out.below B9 (range_lt HV11.out.1 (Nat.succ_pos _)); have HV13 : Hid (Vr w105 b13 (pg9 k n c l e t (.slice p2 S c2) (.slice u2 32 d2) true)) := HV13.out.below B9 (range_lt HV13.out.1 (Nat.succ_pos _)); have HP2 : Hid (Byt w105 (.slice p2 S c2) Q) := HP2.out.below B9; have HY2 : Hid (Byt w105 (.slice u2 32 d2) ys) := HY2.out.below B9; have BB : Hid (Below w.heap.size w w105) := BB.out.trans (B9.mono BB.out.size); clear hb1_0 hb1_1 hb1_2 hb1_3 hb1_4 hb1_5 hb2_0 hb2_1 hv11_0 hv11_1 hv11_2 hv11_3 hv11_4 hv11_5 hv11_6 hv11_7 hv11_8 hv13_0 hv13_1 hv13_2 hv13_3 hv13_4 hv13_5 hv13_6 hv13_7 hv13_8; have hb1_0 := HB1.out.cell 0 _ rfl; have hb1_1 := HB1.out.cell 1 _ rfl; have hb1_2 := HB1.out.cell 2 _ rfl; have hb1_3 := HB1.out.cell 3 _ rfl; have hb1_4 := HB1.out.cell 4 _ rfl; have hb1_5 := HB1.out.cell 5 _ rfl; have hb2_0 := HB2.out.cell 0 _ rfl; have hb2_1 := HB2.out.cell 1 _ rfl; have hv11_0 := HV11.out.cell 0 _ rfl; have hv11_1 := HV11.out.cell 1 _ rfl; have hv11_2 := HV11.out.cell 2 _ rfl; have hv11_3 := HV11.out.cell 3 _ rfl; have hv11_4 := HV11.out.cell 4 _ rfl; have hv11_5 := HV11.out.cell 5 _ rfl; have hv11_6 := HV11.out.cell 6 _ rfl; have hv11_7 := HV11.out.cell 7 _ rfl; have hv11_8 := HV11.out.cell 8 _ rfl; have hv13_0 := HV13.out.cell 0 _ rfl; have hv13_1 := HV13.out.cell 1 _ rfl; have hv13_2 := HV13.out.cell 2 _ rfl; have hv13_3 := HV13.out.cell 3 _ rfl; have hv13_4 := HV13.out.cell 4 _ rfl; have hv13_5 := HV13.out.cell 5 _ rfl; have hv13_6 := HV13.out.cell 6 _ rfl; have hv13_7 := HV13.out.cell 7 _ rfl; have hv13_8 := HV13.out.cell 8 _ rfl; clear B9; clear t64; have t65 : (1 : Nat) = 1 := rfl)
      | (have q63 := t63; go_at_call 11; refine (same_yes w103 _ _ ys HY1.out (HYA.out.below BB.out)).mono ?_; rintro e9 w104 ⟨rfl, B9⟩; have HB0 : Hid (Vr w104 w.heap.size [.int .i64 g0, .int .i64 g1, .int .i64 (S : Int), .int .i64 g3, .int .i64 g4, .int .i64 g5]) := HB0.out.below B9 (range_lt HB0.out.1 (Nat.succ_pos _)); have HB1 : Hid (Vr w104 w1.heap.size (hv k n c l e t)) := HB1.out.below B9 (range_lt HB1.out.1 (Nat.succ_pos _)); have HB2 : Hid (Vr w104 w2.heap.size ([.slice ao 0 ac, .slice bo 32 bc] : List Value)) := HB2.out.below B9 (range_lt HB2.out.1 (Nat.succ_pos _)); have HM : Hid (Byt w104 (.slice mo T mc) Z0) := HM.out.below B9; have HP1 : Hid (Byt w104 (.slice p1 S c1) Q) := HP1.out.below B9; have HY1 : Hid (Byt w104 (.slice u1 32 d1) ys) := HY1.out.below B9; have HV11 : Hid (Vr w104 w6.heap.size (pg9 k n c l e t (.slice p1 S c1) (.slice u1 32 d1) false)) := HV11.out.below B9 (range_lt HV11.out.1 (Nat.succ_pos _)); have HV13 : Hid (Vr w104 b13 (pg9 k n c l e t (.slice p2 S c2) (.slice u2 32 d2) true)) := HV13.out.below B9 (range_lt HV13.out.1 (Nat.succ_pos _)); have HP2 : Hid (Byt w104 (.slice p2 S c2) Q) := HP2.out.below B9; have HY2 : Hid (Byt w104 (.slice u2 32 d2) ys) := HY2.out.below B9; have BB : Hid (Below w.heap.size w w104) := BB.out.trans (B9.mono BB.out.size); clear hb1_0 hb1_1 hb1_2 hb1_3 hb1_4 hb1_5 hb2_0 hb2_1 hv11_0 hv11_1 hv11_2 hv11_3 hv11_4 hv11_5 hv11_6 hv11_7 hv11_8 hv13_0 hv13_1 hv13_2 hv13_3 hv13_4 hv13_5 hv13_6 hv13_7 hv13_8; have hb1_0 := HB1.out.cell 0 _ rfl; have hb1_1 := HB1.out.cell 1 _ rfl; have hb1_2 := HB1.out.cell 2 _ rfl; have hb1_3 := HB1.out.cell 3 _ rfl; have hb1_4 := HB1.out.cell 4 _ rfl; have hb1_5 := HB1.out.cell 5 _ rfl; have hb2_0 := HB2.out.cell 0 _ rfl; have hb2_1 := HB2.out.cell 1 _ rfl; have hv11_0 := HV11.out.cell 0 _ rfl; have hv11_1 := HV11.out.cell 1 _ rfl; have hv11_2 := HV11.out.cell 2 _ rfl; have hv11_3 := HV11.out.cell 3 _ rfl; have hv11_4 := HV11.out.cell 4 _ rfl; have hv11_5 := HV11.out.cell 5 _ rfl; have hv11_6 := HV11.out.cell 6 _ rfl; have hv11_7 := HV11.out.cell 7 _ rfl; have hv11_8 := HV11.out.cell 8 _ rfl; have hv13_0 := HV13.out.cell 0 _ rfl; have hv13_1 := HV13.out.cell 1 _ rfl; have hv13_2 := HV13.out.cell 2 _ rfl; have hv13_3 := HV13.out.cell 3 _ rfl; have hv13_4 := HV13.out.cell 4 _ rfl; have hv13_5 := HV13.out.cell 5 _ rfl; have hv13_6 := HV13.out.cell 6 _ rfl; have hv13_7 := HV13.out.cell 7 _ rfl; have hv13_8 := HV13.out.cell 8 _ rfl; clear B9; clear t63; have t64 : (1 : Nat) = 1 := rfl)
      | (have q62 := t62; go_at_call 11; refine (same_yes w102 _ _ ys HY1.out HY2.out).mono ?_; rintro e9 w103 ⟨rfl, B9⟩; have HB0 : Hid (Vr w103 w.heap.size [.int .i64 g0, .int .i64 g1, .int .i64 (S : Int), .int .i64 g3, .int .i64 g4, .int .i64 g5]) := HB0.out.below B9 (range_lt HB0.out.1 (Nat.succ_pos _)); have HB1 : Hid (Vr w103 w1.heap.size (hv k n c l e t)) := HB1.out.below B9 (range_lt HB1.out.1 (Nat.succ_pos _)); have HB2 : Hid (Vr w103 w2.heap.size ([.slice ao 0 ac, .slice bo 32 bc] : List Value)) := HB2.out.below B9 (range_lt HB2.out.1 (Nat.succ_pos _)); have HM : Hid (Byt w103 (.slice mo T mc) Z0) := HM.out.below B9; have HP1 : Hid (Byt w103 (.slice p1 S c1) Q) := HP1.out.below B9; have HY1 : Hid (Byt w103 (.slice u1 32 d1) ys) := HY1.out.below B9; have HV11 : Hid (Vr w103 w6.heap.size (pg9 k n c l e t (.slice p1 S c1) (.slice u1 32 d1) false)) := HV11.out.below B9 (range_lt HV11.out.1 (Nat.succ_pos _)); have HV13 : Hid (Vr w103 b13 (pg9 k n c l e t (.slice p2 S c2) (.slice u2 32 d2) true)) := HV13.out.below B9 (range_lt HV13.out.1 (Nat.succ_pos _)); have HP2 : Hid (Byt w103 (.slice p2 S c2) Q) := HP2.out.below B9; have HY2 : Hid (Byt w103 (.slice u2 32 d2) ys) := HY2.out.below B9; have BB : Hid (Below w.heap.size w w103) := BB.out.trans (B9.mono BB.out.size); clear hb1_0 hb1_1 hb1_2 hb1_3 hb1_4 hb1_5 hb2_0 hb2_1 hv11_0 hv11_1 hv11_2 hv11_3 hv11_4 hv11_5 hv11_6 hv11_7 hv11_8 hv13_0 hv13_1 hv13_2 hv13_3 hv13_4 hv13_5 hv13_6 hv13_7 hv13_8; have hb1_0 := HB1.out.cell 0 _ rfl; have hb1_1 := HB1.out.cell 1 _ rfl; have hb1_2 := HB1.out.cell 2 _ rfl; have hb1_3 := HB1.out.cell 3 _ rfl; have hb1_4 := HB1.out.cell 4 _ rfl; have hb1_5 := HB1.out.cell 5 _ rfl; have hb2_0 := HB2.out.cell 0 _ rfl; have hb2_1 := HB2.out.cell 1 _ rfl; have hv11_0 := HV11.out.cell 0 _ rfl; have hv11_1 := HV11.out.cell 1 _ rfl; have hv11_2 := HV11.out.cell 2 _ rfl; have hv11_3 := HV11.out.cell 3 _ rfl; have hv11_4 := HV11.out.cell 4 _ rfl; have hv11_5 := HV11.out.cell 5 _ rfl; have hv11_6 := HV11.out.cell 6 _ rfl; have hv11_7 := HV11.out.cell 7 _ rfl; have hv11_8 := HV11.out.cell 8 _ rfl; have hv13_0 := HV13.out.cell 0 _ rfl; have hv13_1 := HV13.out.cell 1 _ rfl; have hv13_2 := HV13.out.cell 2 _ rfl; have hv13_3 := HV13.out.cell 3 _ rfl; have hv13_4 := HV13.out.cell 4 _ rfl; have hv13_5 := HV13.out.cell 5 _ rfl; have hv13_6 := HV13.out.cell 6 _ rfl; have hv13_7 := HV13.out.cell 7 _ rfl; have hv13_8 := HV13.out.cell 8 _ rfl; clear B9; clear t62; have t63 : (1 : Nat) = 1 := rfl)
      | (have q61 := t61; go_at_call 11; refine (same_yes w101 _ _ Q HP1.out HP2.out).mono ?_; rintro e9 w102 ⟨rfl, B9⟩; have HB0 : Hid (Vr w102 w.heap.size [.int .i64 g0, .int .i64 g1, .int .i64 (S : Int), .int .i64 g3, .int .i64 g4, .int .i64 g5]) := HB0.out.below B9 (range_lt HB0.out.1 (Nat.succ_pos _)); have HB1 : Hid (Vr w102 w1.heap.size (hv k n c l e t)) := HB1.out.below B9 (range_lt HB1.out.1 (Nat.succ_pos _)); have HB2 : Hid (Vr w102 w2.heap.size ([.slice ao 0 ac, .slice bo 32 bc] : List Value)) := HB2.out.below B9 (range_lt HB2.out.1 (Nat.succ_pos _)); have HM : Hid (Byt w102 (.slice mo T mc) Z0) := HM.out.below B9; have HP1 : Hid (Byt w102 (.slice p1 S c1) Q) := HP1.out.below B9; have HY1 : Hid (Byt w102 (.slice u1 32 d1) ys) := HY1.out.below B9; have HV11 : Hid (Vr w102 w6.heap.size (pg9 k n c l e t (.slice p1 S c1) (.slice u1 32 d1) false)) := HV11.out.below B9 (range_lt HV11.out.1 (Nat.succ_pos _)); have HV13 : Hid (Vr w102 b13 (pg9 k n c l e t (.slice p2 S c2) (.slice u2 32 d2) true)) := HV13.out.below B9 (range_lt HV13.out.1 (Nat.succ_pos _)); have HP2 : Hid (Byt w102 (.slice p2 S c2) Q) := HP2.out.below B9; have HY2 : Hid (Byt w102 (.slice u2 32 d2) ys) := HY2.out.below B9; have BB : Hid (Below w.heap.size w w102) := BB.out.trans (B9.mono BB.out.size); clear hb1_0 hb1_1 hb1_2 hb1_3 hb1_4 hb1_5 hb2_0 hb2_1 hv11_0 hv11_1 hv11_2 hv11_3 hv11_4 hv11_5 hv11_6 hv11_7 hv11_8 hv13_0 hv13_1 hv13_2 hv13_3 hv13_4 hv13_5 hv13_6 hv13_7 hv13_8; have hb1_0 := HB1.out.cell 0 _ rfl; have hb1_1 := HB1.out.cell 1 _ rfl; have hb1_2 := HB1.out.cell 2 _ rfl; have hb1_3 := HB1.out.cell 3 _ rfl; have hb1_4 := HB1.out.cell 4 _ rfl; have hb1_5 := HB1.out.cell 5 _ rfl; have hb2_0 := HB2.out.cell 0 _ rfl; have hb2_1 := HB2.out.cell 1 _ rfl; have hv11_0 := HV11.out.cell 0 _ rfl; have hv11_1 := HV11.out.cell 1 _ rfl; have hv11_2 := HV11.out.cell 2 _ rfl; have hv11_3 := HV11.out.cell 3 _ rfl; have hv11_4 := HV11.out.cell 4 _ rfl; have hv11_5 := HV11.out.cell 5 _ rfl; have hv11_6 := HV11.out.cell 6 _ rfl; have hv11_7 := HV11.out.cell 7 _ rfl; have hv11_8 := HV11.out.cell 8 _ rfl; have hv13_0 := HV13.out.cell 0 _ rfl; have hv13_1 := HV13.out.cell 1 _ rfl; have hv13_2 := HV13.out.cell 2 _ rfl; have hv13_3 := HV13.out.cell 3 _ rfl; have hv13_4 := HV13.out.cell 4 _ rfl; have hv13_5 := HV13.out.cell 5 _ rfl; have hv13_6 := HV13.out.cell 6 _ rfl; have hv13_7 := HV13.out.cell 7 _ rfl; have hv13_8 := HV13.out.cell 8 _ rfl; clear B9; clear t61; have t62 : (1 : Nat) = 1 := rfl)
      | (have q60 := t60; go_at_call 17; refine (blank_no wc _ Z0 HM.out ZN.out).mono ?_; rintro e9 w101 ⟨rfl, B9⟩; have HB0 : Hid (Vr w101 w.heap.size [.int .i64 g0, .int .i64 g1, .int .i64 (S : Int), .int .i64 g3, .int .i64 g4, .int .i64 g5]) := HB0.out.below B9 (range_lt HB0.out.1 (Nat.succ_pos _)); have HB1 : Hid (Vr w101 w1.heap.size (hv k n c l e t)) := HB1.out.below B9 (range_lt HB1.out.1 (Nat.succ_pos _)); have HB2 : Hid (Vr w101 w2.heap.size ([.slice ao 0 ac, .slice bo 32 bc] : List Value)) := HB2.out.below B9 (range_lt HB2.out.1 (Nat.succ_pos _)); have HM : Hid (Byt w101 (.slice mo T mc) Z0) := HM.out.below B9; have HP1 : Hid (Byt w101 (.slice p1 S c1) Q) := HP1.out.below B9; have HY1 : Hid (Byt w101 (.slice u1 32 d1) ys) := HY1.out.below B9; have HV11 : Hid (Vr w101 w6.heap.size (pg9 k n c l e t (.slice p1 S c1) (.slice u1 32 d1) false)) := HV11.out.below B9 (range_lt HV11.out.1 (Nat.succ_pos _)); have HV13 : Hid (Vr w101 b13 (pg9 k n c l e t (.slice p2 S c2) (.slice u2 32 d2) true)) := HV13.out.below B9 (range_lt HV13.out.1 (Nat.succ_pos _)); have HP2 : Hid (Byt w101 (.slice p2 S c2) Q) := HP2.out.below B9; have HY2 : Hid (Byt w101 (.slice u2 32 d2) ys) := HY2.out.below B9; have BB : Hid (Below w.heap.size w w101) := BB.out.trans (B9.mono BB.out.size); clear hb1_0 hb1_1 hb1_2 hb1_3 hb1_4 hb1_5 hb2_0 hb2_1 hv11_0 hv11_1 hv11_2 hv11_3 hv11_4 hv11_5 hv11_6 hv11_7 hv11_8 hv13_0 hv13_1 hv13_2 hv13_3 hv13_4 hv13_5 hv13_6 hv13_7 hv13_8; have hb1_0 := HB1.out.cell 0 _ rfl; have hb1_1 := HB1.out.cell 1 _ rfl; have hb1_2 := HB1.out.cell 2 _ rfl; have hb1_3 := HB1.out.cell 3 _ rfl; have hb1_4 := HB1.out.cell 4 _ rfl; have hb1_5 := HB1.out.cell 5 _ rfl; have hb2_0 := HB2.out.cell 0 _ rfl; have hb2_1 := HB2.out.cell 1 _ rfl; have hv11_0 := HV11.out.cell 0 _ rfl; have hv11_1 := HV11.out.cell 1 _ rfl; have hv11_2 := HV11.out.cell 2 _ rfl; have hv11_3 := HV11.out.cell 3 _ rfl; have hv11_4 := HV11.out.cell 4 _ rfl; have hv11_5 := HV11.out.cell 5 _ rfl; have hv11_6 := HV11.out.cell 6 _ rfl; have hv11_7 := HV11.out.cell 7 _ rfl; have hv11_8 := HV11.out.cell 8 _ rfl; have hv13_0 := HV13.out.cell 0 _ rfl; have hv13_1 := HV13.out.cell 1 _ rfl; have hv13_2 := HV13.out.cell 2 _ rfl; have hv13_3 := HV13.out.cell 3 _ rfl; have hv13_4 := HV13.out.cell 4 _ rfl; have hv13_5 := HV13.out.cell 5 _ rfl; have hv13_6 := HV13.out.cell 6 _ rfl; have hv13_7 := HV13.out.cell 7 _ rfl; have hv13_8 := HV13.out.cell 8 _ rfl; clear B9; clear t60; have t61 : (1 : Nat) = 1 := rfl))
    go_ret
    exact ⟨rfl, BB.out⟩

set_option maxHeartbeats 8000000 in
theorem back_fe (g0 g1 g3 g4 g5 : Int) (S : Nat) (k n c l e t : Int) (ao bo : Option Addr) (ac bc : Nat) (xs ys : List Int) (w : World) (hH : Hb l e t) (ha : Byt w (.slice ao S ac) xs) (hy : Byt w (.slice bo 0 bc) ys) (hT : Tab w) (hr : ge.Rt [g0, g1, (S : Int), g3, g4, g5]) (hk : Rh k n c) (hl : xs.length = S) (hn : ys.length = 0) :
    Calls Tryd.prog 5 #[.agg (ints .i64 [g0, g1, (S : Int), g3, g4, g5]), .agg (hv k n c l e t).toArray, .agg ([.slice ao S ac, .slice bo 0 bc] : List Value).toArray] w fun x w' => x = .returned (.bool true) ∧ Below w.heap.size w w' := by
  have HT : Hid (Tab w) := hT
  have hl' : xs.length = 0 ∨ xs.length = S := Or.inr hl
  have hn' : ys.length = 0 ∨ ys.length = 32 := Or.inl hn
  have ⟨s1, s2⟩ := sec_le hr
  have ZL : (plo S xs ++ hend (hb k n c l e t) (tgo ys) (List.replicate 8 255)).length = S + 88 := by rw [List.length_append, plo_len hl', hend_len (hb_len _ _ _ _ _ _) (tgo_len hn') (by simp)]
  have SM : Hid (∀ w0, Below w.heap.size w w0 → Calls Tryd.prog 7 #[.agg (ints .i64 [g0, g1, (S : Int), g3, g4, g5]), .agg (hv k n c l e t).toArray, .slice ao S ac, .slice bo 0 bc] w0 fun x w' => ∃ mo mc, x = .returned (.tuple #[.slice mo (S + 88) mc, .int .i64 0]) ∧ Byt w' (.slice mo (S + 88) mc) (plo S xs ++ hend (hb k n c l e t) (tgo ys) (List.replicate 8 255)) ∧ Below w0.heap.size w0 w') := fun w0 hw => (make_yes g0 g1 g3 g4 g5 S k n c l e t _ _ xs ys w0 (ha.below hw) (hy.below hw) hH (hT.below hw) hr hl' hk hn').mono (by rintro _ _ ⟨v, rfl, h1, h2⟩; have h1 := h1.byt (page_all ha.all hy.all hk); obtain ⟨mo, mc, rfl⟩ := byt_form h1 ZL; exact ⟨mo, mc, rfl, h1, h2⟩)
  have SC : Hid (∀ w0, Calls Tryd.prog 8 #[.agg (ints .i64 [g0, g1, (S : Int), g3, g4, g5])] w0 fun x w' => ∃ co cc, x = .returned (.tuple #[.slice co (S + 88) cc, .int .i64 0]) ∧ Byt w' (.slice co (S + 88) cc) (he.mark (S + 88)) ∧ Below w0.heap.size w0 w') := fun w0 => (commit_yes g0 g1 g3 g4 g5 S w0 hr).mono (by rintro _ _ ⟨v, rfl, h1, h2⟩; have h1 := h1.byt (mark_all _); obtain ⟨mo, mc, rfl⟩ := byt_form h1 (mark_len _ (by omega)); exact ⟨mo, mc, rfl, h1, h2⟩)
  have SR1 : Hid (∀ w0 v, Below w.heap.size w w0 → Byt w0 v (plo S xs ++ hend (hb k n c l e t) (tgo ys) (List.replicate 8 255)) → Calls Tryd.prog 15 #[.agg (ints .i64 [g0, g1, (S : Int), g3, g4, g5]), v] w0 fun x w' => ∃ v9, x = .returned v9 ∧ (∃ po pc uo uc, v9 = .tuple #[.agg (pg9 k n c l e t (.slice po S pc) (.slice uo 32 uc) false).toArray, .int .i64 0] ∧ Byt w' (.slice po S pc) (plo S xs) ∧ Byt w' (.slice uo 32 uc) (tgo ys)) ∧ Below w0.heap.size w0 w') := fun w0 v hw hv => read_made g0 g1 g3 g4 g5 S v k n c l e t xs (tgo ys) _ w0 hr hl' (tgo_len hn') (by simp) hk hH hv (hT.below hw) false (by decide)
  have SR2 : Hid (∀ w0 v, Below w.heap.size w w0 → Byt w0 v (plo S xs ++ hend (hb k n c l e t) (tgo ys) (List.replicate 8 0)) → Calls Tryd.prog 15 #[.agg (ints .i64 [g0, g1, (S : Int), g3, g4, g5]), v] w0 fun x w' => ∃ v9, x = .returned v9 ∧ (∃ po pc uo uc, v9 = .tuple #[.agg (pg9 k n c l e t (.slice po S pc) (.slice uo 32 uc) true).toArray, .int .i64 0] ∧ Byt w' (.slice po S pc) (plo S xs) ∧ Byt w' (.slice uo 32 uc) (tgo ys)) ∧ Below w0.heap.size w0 w') := fun w0 v hw hv => read_made g0 g1 g3 g4 g5 S v k n c l e t xs (tgo ys) _ w0 hr hl' (tgo_len hn') (by simp) hk hH hv (hT.below hw) true (by decide)
  have SA : Hid (∀ w0 u v, Byt w0 u (plo S xs ++ hend (hb k n c l e t) (tgo ys) (List.replicate 8 255)) → Byt w0 v (he.mark (S + 88)) → Calls Tryd.prog 22 #[u, v] w0 fun x w' => ∃ v, x = .returned v ∧ Byt w' v (plo S xs ++ hend (hb k n c l e t) (tgo ys) (List.replicate 8 0)) ∧ Below w0.heap.size w0 w') := fun w0 u v hu hv => by
    have z := fa.rand_any u v _ _ w0 hu hv (by rw [ZL, mark_len _ (by omega)]) (by rw [ZL]; omega)
    rw [page_mark hl' hn' ha.all hy.all hk] at z
    exact z
  have ZN : Hid (decide (plo S xs ++ hend (hb k n c l e t) (tgo ys) (List.replicate 8 255) = List.replicate (plo S xs ++ hend (hb k n c l e t) (tgo ys) (List.replicate 8 255)).length 255) = false) := not_blank hl' hk
  have HXA : Hid (Byt w (.slice ao S ac) xs) := ha
  have HYA : Hid (Byt w (.slice bo 0 bc) ys) := hy
  have EP : plo S xs = xs := if_neg (by omega)
  rw [EP] at SR1 SR2 SA SM ZN
  have hnq := neq_head k n c l e t
  generalize hZ0 : xs ++ hend (hb k n c l e t) (tgo ys) (List.replicate 8 255) = Z0 at SM SR1 SA ZN
  generalize hZ1 : xs ++ hend (hb k n c l e t) (tgo ys) (List.replicate 8 0) = Z1 at SR2 SA
  generalize he.mark (S + 88) = M at SC SA
  clear hZ0 hZ1
  generalize tgo ys = U at SR1 SR2
  generalize S + 88 = T at SM SC
  have n0 : ((S : Int) == 0) = false := beq_eq_false_iff_ne.2 (by omega)
  clear hr hT hH ha hy hk hl hn hl' hn' s1 s2 ZL EP
  have t0 : (0 : Nat) = 0 := rfl
  go_enter Tryd.func5, Tryd.ntmps5
  go_wp2_with (first
    | (have q7 := t7; (with_reducible refine at_store ?_); refine store_lawC _ (pg9 k n c l e t (.slice p1 S c1) (.slice u1 32 d1) false) w6.heap.size 0 rfl rfl HV11.out.2 rowy_page.2 (pg9_one _ _ _ _ _ _ _ _ _ _ _ _ _) ?_; intro w8 E9 R9 T9 B9; have K9 : ∀ k, k ≠ w6.heap.size → w8.heap[k]? = w7.heap[k]? := (by rw [E9.out]; exact fun k hk => heap_cells _ _ _ _ k hk); have HB0 : Hid (Vr w8 w.heap.size [.int .i64 g0, .int .i64 g1, .int .i64 (S : Int), .int .i64 g3, .int .i64 g4, .int .i64 g5]) := HB0.out.heap (K9 _ (Nat.ne_of_lt LT_HB0_HV11.out)); have HB1 : Hid (Vr w8 w1.heap.size (hv k n c l e t)) := HB1.out.heap (K9 _ (Nat.ne_of_lt LT_HB1_HV11.out)); have HB2 : Hid (Vr w8 w2.heap.size ([.slice ao S ac, .slice bo 0 bc] : List Value)) := HB2.out.heap (K9 _ (Nat.ne_of_lt LT_HB2_HV11.out)); have HM : Hid (Byt w8 (.slice mo T mc) Z0) := byt_nob HM.out NB_HV11.out K9; have HC : Hid (Byt w8 (.slice co T cc) M) := byt_nob HC.out NB_HV11.out K9; have HP1 : Hid (Byt w8 (.slice p1 S c1) xs) := byt_nob HP1.out NB_HV11.out K9; have HY1 : Hid (Byt w8 (.slice u1 32 d1) U) := byt_nob HY1.out NB_HV11.out K9; have NB_HV11 : Hid (NoB w8 w6.heap.size) := (by rw [E9.out]; exact NB_HV11.out.set HV11.out rfl (pg9_nob _ _ _ _ _ _ _ _ _ _ _ _ _)); have HV11 : Hid (Vr w8 w6.heap.size (pg9 k n c l e t (.slice p1 S c1) (.slice u1 32 d1) false)) := ⟨R9, T9⟩; have BB : Hid (Below w.heap.size w w8) := BB.out.trans (B9.mono LE_HV11.out); clear hb0_0 hb0_1 hb0_2 hb0_3 hb0_4 hb0_5 hb1_0 hb1_1 hb1_2 hb1_3 hb1_4 hb1_5 hb2_0 hb2_1; have hb0_0 := HB0.out.cell 0 _ rfl; have hb0_1 := HB0.out.cell 1 _ rfl; have hb0_2 := HB0.out.cell 2 _ rfl; have hb0_3 := HB0.out.cell 3 _ rfl; have hb0_4 := HB0.out.cell 4 _ rfl; have hb0_5 := HB0.out.cell 5 _ rfl; have hb1_0 := HB1.out.cell 0 _ rfl; have hb1_1 := HB1.out.cell 1 _ rfl; have hb1_2 := HB1.out.cell 2 _ rfl; have hb1_3 := HB1.out.cell 3 _ rfl; have hb1_4 := HB1.out.cell 4 _ rfl; have hb1_5 := HB1.out.cell 5 _ rfl; have hb2_0 := HB2.out.cell 0 _ rfl; have hb2_1 := HB2.out.cell 1 _ rfl; clear E9 R9 T9 B9 K9; clear t7; have t8 : (1 : Nat) = 1 := rfl)
    | (have q6 := t6; (with_reducible refine at_alloc ?_); refine new_lawN _ Z9 zero_page (pg9_nob _ _ _ _ _ _ _ _ _ _ _ _ _) ?_; intro w7 X9 N9 B9; have LT_HB0_HV11 : Hid (w.heap.size < w6.heap.size) := range_lt HB0.out.1 (Nat.succ_pos _); have LT_HB1_HV11 : Hid (w1.heap.size < w6.heap.size) := range_lt HB1.out.1 (Nat.succ_pos _); have LT_HB2_HV11 : Hid (w2.heap.size < w6.heap.size) := range_lt HB2.out.1 (Nat.succ_pos _); have LE_HV11 : Hid (w.heap.size ≤ w6.heap.size) := BB.out.size; have HB0 : Hid (Vr w7 w.heap.size [.int .i64 g0, .int .i64 g1, .int .i64 (S : Int), .int .i64 g3, .int .i64 g4, .int .i64 g5]) := HB0.out.below B9 (range_lt HB0.out.1 (Nat.succ_pos _)); have HB1 : Hid (Vr w7 w1.heap.size (hv k n c l e t)) := HB1.out.below B9 (range_lt HB1.out.1 (Nat.succ_pos _)); have HB2 : Hid (Vr w7 w2.heap.size ([.slice ao S ac, .slice bo 0 bc] : List Value)) := HB2.out.below B9 (range_lt HB2.out.1 (Nat.succ_pos _)); have HM : Hid (Byt w7 (.slice mo T mc) Z0) := HM.out.below B9; have HC : Hid (Byt w7 (.slice co T cc) M) := HC.out.below B9; have HP1 : Hid (Byt w7 (.slice p1 S c1) xs) := HP1.out.below B9; have HY1 : Hid (Byt w7 (.slice u1 32 d1) U) := HY1.out.below B9; have HV11 : Hid (Vr w7 w6.heap.size Z9) := X9; have NB_HV11 : Hid (NoB w7 w6.heap.size) := N9; have BB : Hid (Below w.heap.size w w7) := BB.out.trans (B9.mono BB.out.size); clear hb0_0 hb0_1 hb0_2 hb0_3 hb0_4 hb0_5 hb1_0 hb1_1 hb1_2 hb1_3 hb1_4 hb1_5 hb2_0 hb2_1; have hb0_0 := HB0.out.cell 0 _ rfl; have hb0_1 := HB0.out.cell 1 _ rfl; have hb0_2 := HB0.out.cell 2 _ rfl; have hb0_3 := HB0.out.cell 3 _ rfl; have hb0_4 := HB0.out.cell 4 _ rfl; have hb0_5 := HB0.out.cell 5 _ rfl; have hb1_0 := HB1.out.cell 0 _ rfl; have hb1_1 := HB1.out.cell 1 _ rfl; have hb1_2 := HB1.out.cell 2 _ rfl; have hb1_3 := HB1.out.cell 3 _ rfl; have hb1_4 := HB1.out.cell 4 _ rfl; have hb1_5 := HB1.out.cell 5 _ rfl; have hb2_0 := HB2.out.cell 0 _ rfl; have hb2_1 := HB2.out.cell 1 _ rfl; clear X9 N9 B9; clear t6; have t7 : (1 : Nat) = 1 := rfl)
    | (have q5 := t5; go_at_call 15; refine (SR1.out w5 (.slice mo T mc) BB.out HM.out).mono ?_; rintro e9 w6 ⟨_, rfl, ⟨p1, c1, u1, d1, rfl, Y8, Y9⟩, B9⟩; have HB0 : Hid (Vr w6 w.heap.size [.int .i64 g0, .int .i64 g1, .int .i64 (S : Int), .int .i64 g3, .int .i64 g4, .int .i64 g5]) := HB0.out.below B9 (range_lt HB0.out.1 (Nat.succ_pos _)); have HB1 : Hid (Vr w6 w1.heap.size (hv k n c l e t)) := HB1.out.below B9 (range_lt HB1.out.1 (Nat.succ_pos _)); have HB2 : Hid (Vr w6 w2.heap.size ([.slice ao S ac, .slice bo 0 bc] : List Value)) := HB2.out.below B9 (range_lt HB2.out.1 (Nat.succ_pos _)); have HM : Hid (Byt w6 (.slice mo T mc) Z0) := HM.out.below B9; have HC : Hid (Byt w6 (.slice co T cc) M) := HC.out.below B9; have HP1 : Hid (Byt w6 (.slice p1 S c1) xs) := Y8; have HY1 : Hid (Byt w6 (.slice u1 32 d1) U) := Y9; have BB : Hid (Below w.heap.size w w6) := BB.out.trans (B9.mono BB.out.size); clear hb0_0 hb0_1 hb0_2 hb0_3 hb0_4 hb0_5 hb1_0 hb1_1 hb1_2 hb1_3 hb1_4 hb1_5 hb2_0 hb2_1; have hb0_0 := HB0.out.cell 0 _ rfl; have hb0_1 := HB0.out.cell 1 _ rfl; have hb0_2 := HB0.out.cell 2 _ rfl; have hb0_3 := HB0.out.cell 3 _ rfl; have hb0_4 := HB0.out.cell 4 _ rfl; have hb0_5 := HB0.out.cell 5 _ rfl; have hb1_0 := HB1.out.cell 0 _ rfl; have hb1_1 := HB1.out.cell 1 _ rfl; have hb1_2 := HB1.out.cell 2 _ rfl; have hb1_3 := HB1.out.cell 3 _ rfl; have hb1_4 := HB1.out.cell 4 _ rfl; have hb1_5 := HB1.out.cell 5 _ rfl; have hb2_0 := HB2.out.cell 0 _ rfl; have hb2_1 := HB2.out.cell 1 _ rfl; clear B9 Y8 Y9; clear t5; have t6 : (1 : Nat) = 1 := rfl)
    | (have q4 := t4; go_at_call 8; refine (SC.out w4).mono ?_; rintro e9 w5 ⟨co, cc, rfl, Y9, B9⟩; have HB0 : Hid (Vr w5 w.heap.size [.int .i64 g0, .int .i64 g1, .int .i64 (S : Int), .int .i64 g3, .int .i64 g4, .int .i64 g5]) := HB0.out.below B9 (range_lt HB0.out.1 (Nat.succ_pos _)); have HB1 : Hid (Vr w5 w1.heap.size (hv k n c l e t)) := HB1.out.below B9 (range_lt HB1.out.1 (Nat.succ_pos _)); have HB2 : Hid (Vr w5 w2.heap.size ([.slice ao S ac, .slice bo 0 bc] : List Value)) := HB2.out.below B9 (range_lt HB2.out.1 (Nat.succ_pos _)); have HM : Hid (Byt w5 (.slice mo T mc) Z0) := HM.out.below B9; have HC : Hid (Byt w5 (.slice co T cc) M) := Y9; have BB : Hid (Below w.heap.size w w5) := BB.out.trans (B9.mono BB.out.size); clear hb0_0 hb0_1 hb0_2 hb0_3 hb0_4 hb0_5 hb1_0 hb1_1 hb1_2 hb1_3 hb1_4 hb1_5 hb2_0 hb2_1; have hb0_0 := HB0.out.cell 0 _ rfl; have hb0_1 := HB0.out.cell 1 _ rfl; have hb0_2 := HB0.out.cell 2 _ rfl; have hb0_3 := HB0.out.cell 3 _ rfl; have hb0_4 := HB0.out.cell 4 _ rfl; have hb0_5 := HB0.out.cell 5 _ rfl; have hb1_0 := HB1.out.cell 0 _ rfl; have hb1_1 := HB1.out.cell 1 _ rfl; have hb1_2 := HB1.out.cell 2 _ rfl; have hb1_3 := HB1.out.cell 3 _ rfl; have hb1_4 := HB1.out.cell 4 _ rfl; have hb1_5 := HB1.out.cell 5 _ rfl; have hb2_0 := HB2.out.cell 0 _ rfl; have hb2_1 := HB2.out.cell 1 _ rfl; clear B9 Y9; clear t4; have t5 : (1 : Nat) = 1 := rfl)
    | (have q3 := t3; go_at_call 7; refine (SM.out w3 BB.out).mono ?_; rintro e9 w4 ⟨mo, mc, rfl, Y9, B9⟩; have HB0 : Hid (Vr w4 w.heap.size [.int .i64 g0, .int .i64 g1, .int .i64 (S : Int), .int .i64 g3, .int .i64 g4, .int .i64 g5]) := HB0.out.below B9 (range_lt HB0.out.1 (Nat.succ_pos _)); have HB1 : Hid (Vr w4 w1.heap.size (hv k n c l e t)) := HB1.out.below B9 (range_lt HB1.out.1 (Nat.succ_pos _)); have HB2 : Hid (Vr w4 w2.heap.size ([.slice ao S ac, .slice bo 0 bc] : List Value)) := HB2.out.below B9 (range_lt HB2.out.1 (Nat.succ_pos _)); have HM : Hid (Byt w4 (.slice mo T mc) Z0) := Y9; have BB : Hid (Below w.heap.size w w4) := BB.out.trans (B9.mono BB.out.size); clear hb0_0 hb0_1 hb0_2 hb0_3 hb0_4 hb0_5 hb1_0 hb1_1 hb1_2 hb1_3 hb1_4 hb1_5 hb2_0 hb2_1; have hb0_0 := HB0.out.cell 0 _ rfl; have hb0_1 := HB0.out.cell 1 _ rfl; have hb0_2 := HB0.out.cell 2 _ rfl; have hb0_3 := HB0.out.cell 3 _ rfl; have hb0_4 := HB0.out.cell 4 _ rfl; have hb0_5 := HB0.out.cell 5 _ rfl; have hb1_0 := HB1.out.cell 0 _ rfl; have hb1_1 := HB1.out.cell 1 _ rfl; have hb1_2 := HB1.out.cell 2 _ rfl; have hb1_3 := HB1.out.cell 3 _ rfl; have hb1_4 := HB1.out.cell 4 _ rfl; have hb1_5 := HB1.out.cell 5 _ rfl; have hb2_0 := HB2.out.cell 0 _ rfl; have hb2_1 := HB2.out.cell 1 _ rfl; clear B9 Y9; clear t3; have t4 : (1 : Nat) = 1 := rfl)
    | (have q2 := t2; refine box_lawC _ ([.slice ao S ac, .slice bo 0 bc] : List Value) rfl ?_; intro w3 X9 B9 l9; have HB0 : Hid (Vr w3 w.heap.size [.int .i64 g0, .int .i64 g1, .int .i64 (S : Int), .int .i64 g3, .int .i64 g4, .int .i64 g5]) := HB0.out.below B9 (range_lt HB0.out.1 (Nat.succ_pos _)); have HB1 : Hid (Vr w3 w1.heap.size (hv k n c l e t)) := HB1.out.below B9 (range_lt HB1.out.1 (Nat.succ_pos _)); have HB2 : Hid (Vr w3 w2.heap.size ([.slice ao S ac, .slice bo 0 bc] : List Value)) := X9; have BB : Hid (Below w.heap.size w w3) := BB.out.trans (B9.mono BB.out.size); have hb0_0 := HB0.out.cell 0 _ rfl; have hb0_1 := HB0.out.cell 1 _ rfl; have hb0_2 := HB0.out.cell 2 _ rfl; have hb0_3 := HB0.out.cell 3 _ rfl; have hb0_4 := HB0.out.cell 4 _ rfl; have hb0_5 := HB0.out.cell 5 _ rfl; have hb1_0 := HB1.out.cell 0 _ rfl; have hb1_1 := HB1.out.cell 1 _ rfl; have hb1_2 := HB1.out.cell 2 _ rfl; have hb1_3 := HB1.out.cell 3 _ rfl; have hb1_4 := HB1.out.cell 4 _ rfl; have hb1_5 := HB1.out.cell 5 _ rfl; have hb2_0 := HB2.out.cell 0 _ rfl; have hb2_1 := HB2.out.cell 1 _ rfl; clear X9 B9 l9; clear t2; have t3 : (1 : Nat) = 1 := rfl)
    | (have q1 := t1; refine box_lawC _ (hv k n c l e t) rfl ?_; intro w2 X9 B9 l9; have HB0 : Hid (Vr w2 w.heap.size [.int .i64 g0, .int .i64 g1, .int .i64 (S : Int), .int .i64 g3, .int .i64 g4, .int .i64 g5]) := HB0.out.below B9 (range_lt HB0.out.1 (Nat.succ_pos _)); have HB1 : Hid (Vr w2 w1.heap.size (hv k n c l e t)) := X9; have BB : Hid (Below w.heap.size w w2) := BB.out.trans (B9.mono BB.out.size); clear X9 B9 l9; clear t1; have t2 : (1 : Nat) = 1 := rfl)
    | (have q0 := t0; refine box_lawC _ [.int .i64 g0, .int .i64 g1, .int .i64 (S : Int), .int .i64 g3, .int .i64 g4, .int .i64 g5] rfl ?_; intro w1 X9 B9 l9; have HB0 : Hid (Vr w1 w.heap.size [.int .i64 g0, .int .i64 g1, .int .i64 (S : Int), .int .i64 g3, .int .i64 g4, .int .i64 g5]) := X9; have BB : Hid (Below w.heap.size w w1) := B9; clear X9 B9 l9; clear t0; have t1 : (1 : Nat) = 1 := rfl))
  go_cut [13, 14] (fun r13 r14 wc => ∃ (b13 : Nat) (p2 : Option Addr) (c2 : Nat) (u2 : Option Addr) (d2 : Nat), r13 = .pointer (some ⟨b13, 0, none⟩) ∧ r14 = .int .i64 0 ∧ Vr wc b13 (pg9 k n c l e t (.slice p2 S c2) (.slice u2 32 d2) true) ∧ Byt wc (.slice p2 S c2) xs ∧ Byt wc (.slice u2 32 d2) U ∧ Below w8.heap.size w8 wc)
  case first =>
    refine wp_region_held_drew (S := fun w' => Below w8.heap.size w8 w') (by kernel_rfl) (Below.refl _ _).drew (fun hS => ?_)
    obtain ⟨y1, hx0⟩ : ∃ x, x = w8.drew := ⟨_, rfl⟩
    rw [← hx0] at hS  ⊢
    clear hx0
    refine take_lawH 0 (some 45) (.agg ([.int .i64 g0, .int .i64 g1, .int .i64 (S : Int), .int .i64 g3, .int .i64 g4, .int .i64 g5] : List Value).toArray) rfl rfl (by kernel_rfl) (by kernel_rfl) (by kernel_rfl) (fun _ _ _ h => h) (Or.inl ⟨by rfl, fun w' hw' => by exact exec_loadN 23 (.tmp 3) rfl _ rfl _ _ (load_cells rowy_geo (HB0.out.below hw' (range_lt HB0.out.1 (Nat.succ_pos _))).1)⟩) hS ?_
    simp only [Act.put, List.setIfInBounds_toArray, List.set_cons_zero, List.set_cons_succ]
    refine take_lawH 1 (some 46) (.slice mo T mc) rfl rfl (by kernel_rfl) (by kernel_rfl) (by kernel_rfl) (fun _ _ _ h => h) (Or.inl ⟨by rfl, fun w' hw' => by rfl⟩) hS ?_
    simp only [Act.put, List.setIfInBounds_toArray, List.set_cons_zero, List.set_cons_succ]
    refine take_lawH 2 (some 47) (.slice co T cc) rfl rfl (by kernel_rfl) (by kernel_rfl) (by kernel_rfl) (fun _ _ _ h => h) (Or.inl ⟨by rfl, fun w' hw' => by rfl⟩) hS ?_
    simp only [Act.put, List.setIfInBounds_toArray, List.set_cons_zero, List.set_cons_succ]
    refine wpAnyH_ready (rs := [3, 8]) (by kernel_rfl) (by simp) ?_
    refine AllReadyH.cons rfl (fun K hK => ?_) (AllReadyH.cons rfl (fun K hK => ?_) AllReadyH.nil)
    · refine step_callW _ (by rfl) (some 48) rfl 22 #[.tmp 46, .tmp 47] #[28, 28] rfl (fun q w' => by rfl) #[.slice mo T mc, .slice co T cc] (by simp only [List.map_toArray, List.map_cons, List.map_nil]; rfl) (fun u w' => Byt w' u Z1 ∧ Below y1.heap.size y1 w') ?_ ?_
      · exact SA.out _ _ _ (HM.out.below hS) (HC.out.below hS)
      rintro av y2 ⟨y9, h9⟩
      have HN : Hid (Byt y2 av Z1) := y9
      have hS : Below w8.heap.size w8 y2 := hS.trans (h9.mono hS.size)
      clear h9 y9
      refine hK.out _ _ hS (fun _ => ?_)
      simp only [Act.put, List.setIfInBounds_toArray, List.set_cons_zero, List.set_cons_succ]
      clear hK K
      refine wpAnyH_ready (rs := [4, 8]) (by kernel_rfl) (by simp) ?_
      refine AllReadyH.cons rfl (fun K hK => ?_) (AllReadyH.cons rfl (fun K hK => ?_) AllReadyH.nil)
      · refine step_callW _ (by rfl) (some 49) rfl 15 #[.tmp 45, .tmp 48] #[23, 28] rfl (fun q w' => by rfl) #[.agg ([.int .i64 g0, .int .i64 g1, .int .i64 (S : Int), .int .i64 g3, .int .i64 g4, .int .i64 g5] : List Value).toArray, av] (by simp only [List.map_toArray, List.map_cons, List.map_nil]; rfl) (fun u w' => (∃ po pc uo uc, u = .tuple #[.agg (pg9 k n c l e t (.slice po S pc) (.slice uo 32 uc) true).toArray, .int .i64 0] ∧ Byt w' (.slice po S pc) xs ∧ Byt w' (.slice uo 32 uc) U) ∧ Below y2.heap.size y2 w') ?_ ?_
        · exact SR2.out _ _ (BB.out.trans (hS.mono BB.out.size)) HN.out
        rintro _ y3 ⟨⟨p2, c2, u2, d2, rfl, y8, y9⟩, h9⟩
        have HN : Hid (Byt y3 av Z1) := HN.out.below h9
        have HP2 : Hid (Byt y3 (.slice p2 S c2) xs) := y8
        have HY2 : Hid (Byt y3 (.slice u2 32 d2) U) := y9
        have hS : Below w8.heap.size w8 y3 := hS.trans (h9.mono hS.size)
        clear h9 y8 y9
        refine hK.out _ _ hS (fun _ => ?_)
        simp only [Act.put, List.setIfInBounds_toArray, List.set_cons_zero, List.set_cons_succ]
        clear hK K
        refine take_lawH 5 (some 44) (.tuple #[.agg (pg9 k n c l e t (.slice p2 S c2) (.slice u2 32 d2) true).toArray, .int .i64 0]) rfl rfl (by kernel_rfl) (by kernel_rfl) (by kernel_rfl) (fun _ _ _ h => h) (Or.inl ⟨by rfl, fun w' hw' => by rfl⟩) hS ?_
        simp only [Act.put, List.setIfInBounds_toArray, List.set_cons_zero, List.set_cons_succ]
        refine take_lawH 6 (some 50) (.agg (pg9 k n c l e t (.slice p2 S c2) (.slice u2 32 d2) true).toArray) rfl rfl (by kernel_rfl) (by kernel_rfl) (by kernel_rfl) (fun _ _ _ h => h) (Or.inl ⟨by rfl, fun w' hw' => by rfl⟩) hS ?_
        simp only [Act.put, List.setIfInBounds_toArray, List.set_cons_zero, List.set_cons_succ]
        refine take_lawH 7 (some 51) (.int .i64 0) rfl rfl (by kernel_rfl) (by kernel_rfl) (by kernel_rfl) (fun _ _ _ h => h) (Or.inl ⟨by rfl, fun w' hw' => by rfl⟩) hS ?_
        simp only [Act.put, List.setIfInBounds_toArray, List.set_cons_zero, List.set_cons_succ]
        refine wpAnyH_ready (rs := [8]) (by kernel_rfl) (by simp) ?_
        refine AllReadyH.cons rfl (fun K hK => ?_) AllReadyH.nil
        refine step_newN _ rfl (some 13) rfl 42 rfl Z9 zero_page (pg9_nob _ _ _ _ _ _ _ _ _ _ _ _ _) ?_
        intro y4 x9 n9 h9
        have HN : Hid (Byt y4 av Z1) := HN.out.below h9
        have HP2 : Hid (Byt y4 (.slice p2 S c2) xs) := HP2.out.below h9
        have HY2 : Hid (Byt y4 (.slice u2 32 d2) U) := HY2.out.below h9
        have HVV : Hid (Vr y4 y3.heap.size Z9) := x9
        have NB : Hid (NoB y4 y3.heap.size) := n9
        have LB : Hid (w8.heap.size ≤ y3.heap.size) := hS.size
        have hS : Below w8.heap.size w8 y4 := hS.trans (h9.mono hS.size)
        clear h9 x9 n9
        refine hK.out _ _ hS (fun _ => ?_)
        simp only [Act.put, List.setIfInBounds_toArray, List.set_cons_zero, List.set_cons_succ]
        clear hK K
        refine wpAnyH_ready (rs := [9]) (by kernel_rfl) (by simp) ?_
        refine AllReadyH.cons rfl (fun K hK => ?_) AllReadyH.nil
        refine step_storeK _ rfl none rfl (.tmp 13) (.tmp 50) 42 rfl y3.heap.size Z9 (pg9 k n c l e t (.slice p2 S c2) (.slice u2 32 d2) true) rfl rfl HVV.out rfl rowy_page.2 (pg9_one _ _ _ _ _ _ _ _ _ _ _ _ _) ?_
        intro y5 v9 B9 K9
        have HP2 : Hid (Byt y5 (.slice p2 S c2) xs) := byt_nob HP2.out NB.out K9
        have HY2 : Hid (Byt y5 (.slice u2 32 d2) U) := byt_nob HY2.out NB.out K9
        have HVV : Hid (Vr y5 y3.heap.size (pg9 k n c l e t (.slice p2 S c2) (.slice u2 32 d2) true)) := v9
        have hS : Below w8.heap.size w8 y5 := hS.trans (B9.mono LB.out)
        clear v9 B9 K9
        refine hK.out _ _ hS (fun _ => ?_)
        simp only [Act.put]
        clear hK K
        refine take_lawH 10 (some 14) (.int .i64 0) rfl rfl (by kernel_rfl) (by kernel_rfl) (by kernel_rfl) (fun _ _ _ h => h) (Or.inl ⟨by rfl, fun w' hw' => by rfl⟩) hS ?_
        simp only [Act.put, List.setIfInBounds_toArray, List.set_cons_zero, List.set_cons_succ]
        refine wpAnyH_done (by kernel_rfl) ?_ _
        go_wp2
        go_meet
        exact ⟨_, p2, c2, u2, d2, rfl, rfl, HVV.out, HP2.out, HY2.out, hS⟩
      · refine step_newN _ rfl (some 13) rfl 42 rfl Z9 zero_page (pg9_nob _ _ _ _ _ _ _ _ _ _ _ _ _) ?_
        intro y6 x9 n9 h9
        have HN : Hid (Byt y6 av Z1) := HN.out.below h9
        have HVV : Hid (Vr y6 y2.heap.size Z9) := x9
        have NB : Hid (NoB y6 y2.heap.size) := n9
        have LB : Hid (w8.heap.size ≤ y2.heap.size) := hS.size
        have hS : Below w8.heap.size w8 y6 := hS.trans (h9.mono hS.size)
        clear h9 x9 n9
        refine hK.out _ _ hS (fun _ => ?_)
        simp only [Act.put, List.setIfInBounds_toArray, List.set_cons_zero, List.set_cons_succ]
        clear hK K
        refine wpAnyH_ready (rs := [4]) (by kernel_rfl) (by simp) ?_
        refine AllReadyH.cons rfl (fun K hK => ?_) AllReadyH.nil
        refine step_callW _ (by rfl) (some 49) rfl 15 #[.tmp 45, .tmp 48] #[23, 28] rfl (fun q w' => by rfl) #[.agg ([.int .i64 g0, .int .i64 g1, .int .i64 (S : Int), .int .i64 g3, .int .i64 g4, .int .i64 g5] : List Value).toArray, av] (by simp only [List.map_toArray, List.map_cons, List.map_nil]; rfl) (fun u w' => (∃ po pc uo uc, u = .tuple #[.agg (pg9 k n c l e t (.slice po S pc) (.slice uo 32 uc) true).toArray, .int .i64 0] ∧ Byt w' (.slice po S pc) xs ∧ Byt w' (.slice uo 32 uc) U) ∧ Below y6.heap.size y6 w') ?_ ?_
        · exact SR2.out _ _ (BB.out.trans (hS.mono BB.out.size)) HN.out
        rintro _ y7 ⟨⟨p2, c2, u2, d2, rfl, y8, y9⟩, h9⟩
        have NB : Hid (NoB y7 y2.heap.size) := NB.out.heap (h9.block _ (range_lt HVV.out.1 (Nat.succ_pos _)))
        have HVV : Hid (Vr y7 y2.heap.size Z9) := HVV.out.below h9 (range_lt HVV.out.1 (Nat.succ_pos _))
        have HN : Hid (Byt y7 av Z1) := HN.out.below h9
        have HP2 : Hid (Byt y7 (.slice p2 S c2) xs) := y8
        have HY2 : Hid (Byt y7 (.slice u2 32 d2) U) := y9
        have hS : Below w8.heap.size w8 y7 := hS.trans (h9.mono hS.size)
        clear h9 y8 y9
        refine hK.out _ _ hS (fun _ => ?_)
        simp only [Act.put, List.setIfInBounds_toArray, List.set_cons_zero, List.set_cons_succ]
        clear hK K
        refine take_lawH 5 (some 44) (.tuple #[.agg (pg9 k n c l e t (.slice p2 S c2) (.slice u2 32 d2) true).toArray, .int .i64 0]) rfl rfl (by kernel_rfl) (by kernel_rfl) (by kernel_rfl) (fun _ _ _ h => h) (Or.inl ⟨by rfl, fun w' hw' => by rfl⟩) hS ?_
        simp only [Act.put, List.setIfInBounds_toArray, List.set_cons_zero, List.set_cons_succ]
        refine take_lawH 6 (some 50) (.agg (pg9 k n c l e t (.slice p2 S c2) (.slice u2 32 d2) true).toArray) rfl rfl (by kernel_rfl) (by kernel_rfl) (by kernel_rfl) (fun _ _ _ h => h) (Or.inl ⟨by rfl, fun w' hw' => by rfl⟩) hS ?_
        simp only [Act.put, List.setIfInBounds_toArray, List.set_cons_zero, List.set_cons_succ]
        refine take_lawH 7 (some 51) (.int .i64 0) rfl rfl (by kernel_rfl) (by kernel_rfl) (by kernel_rfl) (fun _ _ _ h => h) (Or.inl ⟨by rfl, fun w' hw' => by rfl⟩) hS ?_
        simp only [Act.put, List.setIfInBounds_toArray, List.set_cons_zero, List.set_cons_succ]
        refine wpAnyH_ready (rs := [9]) (by kernel_rfl) (by simp) ?_
        refine AllReadyH.cons rfl (fun K hK => ?_) AllReadyH.nil
        refine step_storeK _ rfl none rfl (.tmp 13) (.tmp 50) 42 rfl y2.heap.size Z9 (pg9 k n c l e t (.slice p2 S c2) (.slice u2 32 d2) true) rfl rfl HVV.out rfl rowy_page.2 (pg9_one _ _ _ _ _ _ _ _ _ _ _ _ _) ?_
        intro y8 v9 B9 K9
        have HP2 : Hid (Byt y8 (.slice p2 S c2) xs) := byt_nob HP2.out NB.out K9
        have HY2 : Hid (Byt y8 (.slice u2 32 d2) U) := byt_nob HY2.out NB.out K9
        have HVV : Hid (Vr y8 y2.heap.size (pg9 k n c l e t (.slice p2 S c2) (.slice u2 32 d2) true)) := v9
        have hS : Below w8.heap.size w8 y8 := hS.trans (B9.mono LB.out)
        clear v9 B9 K9
        refine hK.out _ _ hS (fun _ => ?_)
        simp only [Act.put]
        clear hK K
        refine take_lawH 10 (some 14) (.int .i64 0) rfl rfl (by kernel_rfl) (by kernel_rfl) (by kernel_rfl) (fun _ _ _ h => h) (Or.inl ⟨by rfl, fun w' hw' => by rfl⟩) hS ?_
        simp only [Act.put, List.setIfInBounds_toArray, List.set_cons_zero, List.set_cons_succ]
        refine wpAnyH_done (by kernel_rfl) ?_ _
        go_wp2
        go_meet
        exact ⟨_, p2, c2, u2, d2, rfl, rfl, HVV.out, HP2.out, HY2.out, hS⟩
    · refine step_newN _ rfl (some 13) rfl 42 rfl Z9 zero_page (pg9_nob _ _ _ _ _ _ _ _ _ _ _ _ _) ?_
      intro y9 x9 n9 h9
      have HVV : Hid (Vr y9 y1.heap.size Z9) := x9
      have NB : Hid (NoB y9 y1.heap.size) := n9
      have LB : Hid (w8.heap.size ≤ y1.heap.size) := hS.size
      have hS : Below w8.heap.size w8 y9 := hS.trans (h9.mono hS.size)
      clear h9 x9 n9
      refine hK.out _ _ hS (fun _ => ?_)
      simp only [Act.put, List.setIfInBounds_toArray, List.set_cons_zero, List.set_cons_succ]
      clear hK K
      refine wpAnyH_ready (rs := [3]) (by kernel_rfl) (by simp) ?_
      refine AllReadyH.cons rfl (fun K hK => ?_) AllReadyH.nil
      refine step_callW _ (by rfl) (some 48) rfl 22 #[.tmp 46, .tmp 47] #[28, 28] rfl (fun q w' => by rfl) #[.slice mo T mc, .slice co T cc] (by simp only [List.map_toArray, List.map_cons, List.map_nil]; rfl) (fun u w' => Byt w' u Z1 ∧ Below y9.heap.size y9 w') ?_ ?_
      · exact SA.out _ _ _ (HM.out.below hS) (HC.out.below hS)
      rintro av y10 ⟨y9, h9⟩
      have NB : Hid (NoB y10 y1.heap.size) := NB.out.heap (h9.block _ (range_lt HVV.out.1 (Nat.succ_pos _)))
      have HVV : Hid (Vr y10 y1.heap.size Z9) := HVV.out.below h9 (range_lt HVV.out.1 (Nat.succ_pos _))
      have HN : Hid (Byt y10 av Z1) := y9
      have hS : Below w8.heap.size w8 y10 := hS.trans (h9.mono hS.size)
      clear h9 y9
      refine hK.out _ _ hS (fun _ => ?_)
      simp only [Act.put, List.setIfInBounds_toArray, List.set_cons_zero, List.set_cons_succ]
      clear hK K
      refine wpAnyH_ready (rs := [4]) (by kernel_rfl) (by simp) ?_
      refine AllReadyH.cons rfl (fun K hK => ?_) AllReadyH.nil
      refine step_callW _ (by rfl) (some 49) rfl 15 #[.tmp 45, .tmp 48] #[23, 28] rfl (fun q w' => by rfl) #[.agg ([.int .i64 g0, .int .i64 g1, .int .i64 (S : Int), .int .i64 g3, .int .i64 g4, .int .i64 g5] : List Value).toArray, av] (by simp only [List.map_toArray, List.map_cons, List.map_nil]; rfl) (fun u w' => (∃ po pc uo uc, u = .tuple #[.agg (pg9 k n c l e t (.slice po S pc) (.slice uo 32 uc) true).toArray, .int .i64 0] ∧ Byt w' (.slice po S pc) xs ∧ Byt w' (.slice uo 32 uc) U) ∧ Below y10.heap.size y10 w') ?_ ?_
      · exact SR2.out _ _ (BB.out.trans (hS.mono BB.out.size)) HN.out
      rintro _ y11 ⟨⟨p2, c2, u2, d2, rfl, y8, y9⟩, h9⟩
      have NB : Hid (NoB y11 y1.heap.size) := NB.out.heap (h9.block _ (range_lt HVV.out.1 (Nat.succ_pos _)))
      have HVV : Hid (Vr y11 y1.heap.size Z9) := HVV.out.below h9 (range_lt HVV.out.1 (Nat.succ_pos _))
      have HN : Hid (Byt y11 av Z1) := HN.out.below h9
      have HP2 : Hid (Byt y11 (.slice p2 S c2) xs) := y8
      have HY2 : Hid (Byt y11 (.slice u2 32 d2) U) := y9
      have hS : Below w8.heap.size w8 y11 := hS.trans (h9.mono hS.size)
      clear h9 y8 y9
      refine hK.out _ _ hS (fun _ => ?_)
      simp only [Act.put, List.setIfInBounds_toArray, List.set_cons_zero, List.set_cons_succ]
      clear hK K
      refine take_lawH 5 (some 44) (.tuple #[.agg (pg9 k n c l e t (.slice p2 S c2) (.slice u2 32 d2) true).toArray, .int .i64 0]) rfl rfl (by kernel_rfl) (by kernel_rfl) (by kernel_rfl) (fun _ _ _ h => h) (Or.inl ⟨by rfl, fun w' hw' => by rfl⟩) hS ?_
      simp only [Act.put, List.setIfInBounds_toArray, List.set_cons_zero, List.set_cons_succ]
      refine take_lawH 6 (some 50) (.agg (pg9 k n c l e t (.slice p2 S c2) (.slice u2 32 d2) true).toArray) rfl rfl (by kernel_rfl) (by kernel_rfl) (by kernel_rfl) (fun _ _ _ h => h) (Or.inl ⟨by rfl, fun w' hw' => by rfl⟩) hS ?_
      simp only [Act.put, List.setIfInBounds_toArray, List.set_cons_zero, List.set_cons_succ]
      refine take_lawH 7 (some 51) (.int .i64 0) rfl rfl (by kernel_rfl) (by kernel_rfl) (by kernel_rfl) (fun _ _ _ h => h) (Or.inl ⟨by rfl, fun w' hw' => by rfl⟩) hS ?_
      simp only [Act.put, List.setIfInBounds_toArray, List.set_cons_zero, List.set_cons_succ]
      refine wpAnyH_ready (rs := [9]) (by kernel_rfl) (by simp) ?_
      refine AllReadyH.cons rfl (fun K hK => ?_) AllReadyH.nil
      refine step_storeK _ rfl none rfl (.tmp 13) (.tmp 50) 42 rfl y1.heap.size Z9 (pg9 k n c l e t (.slice p2 S c2) (.slice u2 32 d2) true) rfl rfl HVV.out rfl rowy_page.2 (pg9_one _ _ _ _ _ _ _ _ _ _ _ _ _) ?_
      intro y12 v9 B9 K9
      have HP2 : Hid (Byt y12 (.slice p2 S c2) xs) := byt_nob HP2.out NB.out K9
      have HY2 : Hid (Byt y12 (.slice u2 32 d2) U) := byt_nob HY2.out NB.out K9
      have HVV : Hid (Vr y12 y1.heap.size (pg9 k n c l e t (.slice p2 S c2) (.slice u2 32 d2) true)) := v9
      have hS : Below w8.heap.size w8 y12 := hS.trans (B9.mono LB.out)
      clear v9 B9 K9
      refine hK.out _ _ hS (fun _ => ?_)
      simp only [Act.put]
      clear hK K
      refine take_lawH 10 (some 14) (.int .i64 0) rfl rfl (by kernel_rfl) (by kernel_rfl) (by kernel_rfl) (fun _ _ _ h => h) (Or.inl ⟨by rfl, fun w' hw' => by rfl⟩) hS ?_
      simp only [Act.put, List.setIfInBounds_toArray, List.set_cons_zero, List.set_cons_succ]
      refine wpAnyH_done (by kernel_rfl) ?_ _
      go_wp2
      go_meet
      exact ⟨_, p2, c2, u2, d2, rfl, rfl, HVV.out, HP2.out, HY2.out, hS⟩
  case rest =>
    obtain ⟨b13, p2, c2, u2, d2, rfl, rfl, X9, Y8, Y9, hS⟩ := hcut
    clear hb0_0 hb0_1 hb0_2 hb0_3 hb0_4 hb0_5 hb1_0 hb1_1 hb1_2 hb1_3 hb1_4 hb1_5 hb2_0 hb2_1
    have HB0 : Hid (Vr wc w.heap.size [.int .i64 g0, .int .i64 g1, .int .i64 (S : Int), .int .i64 g3, .int .i64 g4, .int .i64 g5]) := HB0.out.below hS (range_lt HB0.out.1 (Nat.succ_pos _))
    have HB1 : Hid (Vr wc w1.heap.size (hv k n c l e t)) := HB1.out.below hS (range_lt HB1.out.1 (Nat.succ_pos _))
    have HB2 : Hid (Vr wc w2.heap.size ([.slice ao S ac, .slice bo 0 bc] : List Value)) := HB2.out.below hS (range_lt HB2.out.1 (Nat.succ_pos _))
    have HM : Hid (Byt wc (.slice mo T mc) Z0) := HM.out.below hS
    have HP1 : Hid (Byt wc (.slice p1 S c1) xs) := HP1.out.below hS
    have HY1 : Hid (Byt wc (.slice u1 32 d1) U) := HY1.out.below hS
    have HV11 : Hid (Vr wc w6.heap.size (pg9 k n c l e t (.slice p1 S c1) (.slice u1 32 d1) false)) := HV11.out.below hS (range_lt HV11.out.1 (Nat.succ_pos _))
    have HV13 : Hid (Vr wc b13 (pg9 k n c l e t (.slice p2 S c2) (.slice u2 32 d2) true)) := X9
    have HP2 : Hid (Byt wc (.slice p2 S c2) xs) := Y8
    have HY2 : Hid (Byt wc (.slice u2 32 d2) U) := Y9
    have BB : Hid (Below w.heap.size w wc) := BB.out.trans (hS.mono BB.out.size)
    clear X9 Y8 Y9 hS
    have t60 : (1 : Nat) = 1 := rfl
    have hb1_0 := HB1.out.cell 0 _ rfl
    have hb1_1 := HB1.out.cell 1 _ rfl
    have hb1_2 := HB1.out.cell 2 _ rfl
    have hb1_3 := HB1.out.cell 3 _ rfl
    have hb1_4 := HB1.out.cell 4 _ rfl
    have hb1_5 := HB1.out.cell 5 _ rfl
    have hb2_0 := HB2.out.cell 0 _ rfl
    have hb2_1 := HB2.out.cell 1 _ rfl
    have hv11_0 := HV11.out.cell 0 _ rfl
    have hv11_1 := HV11.out.cell 1 _ rfl
    have hv11_2 := HV11.out.cell 2 _ rfl
    have hv11_3 := HV11.out.cell 3 _ rfl
    have hv11_4 := HV11.out.cell 4 _ rfl
    have hv11_5 := HV11.out.cell 5 _ rfl
    have hv11_6 := HV11.out.cell 6 _ rfl
    have hv11_7 := HV11.out.cell 7 _ rfl
    have hv11_8 := HV11.out.cell 8 _ rfl
    have hv13_0 := HV13.out.cell 0 _ rfl
    have hv13_1 := HV13.out.cell 1 _ rfl
    have hv13_2 := HV13.out.cell 2 _ rfl
    have hv13_3 := HV13.out.cell 3 _ rfl
    have hv13_4 := HV13.out.cell 4 _ rfl
    have hv13_5 := HV13.out.cell 5 _ rfl
    have hv13_6 := HV13.out.cell 6 _ rfl
    have hv13_7 := HV13.out.cell 7 _ rfl
    have hv13_8 := HV13.out.cell 8 _ rfl
    go_wp2_with (first
      | (have q64 := t64; go_at_call 10; refine (awake_any w104 (HT.out.below BB.out)).mono ?_; rintro e9 w105 ⟨rfl, B9⟩; have HB0 : Hid (Vr w105 w.heap.size [.int .i64 g0, .int .i64 g1, .int .i64 (S : Int), .int .i64 g3, .int .i64 g4, .int .i64 g5]) := HB0.out.below B9 (range_lt HB0.out.1 (Nat.succ_pos _)); have HB1 : Hid (Vr w105 w1.heap.size (hv k n c l e t)) := HB1.out.below B9 (range_lt HB1.out.1 (Nat.succ_pos _)); have HB2 : Hid (Vr w105 w2.heap.size ([.slice ao S ac, .slice bo 0 bc] : List Value)) := HB2.out.below B9 (range_lt HB2.out.1 (Nat.succ_pos _)); have HM : Hid (Byt w105 (.slice mo T mc) Z0) := HM.out.below B9; have HP1 : Hid (Byt w105 (.slice p1 S c1) xs) := HP1.out.below B9; have HY1 : Hid (Byt w105 (.slice u1 32 d1) U) := HY1.out.below B9; have HV11 : Hid (Vr w105 w6.heap.size (pg9 k n c l e t (.slice p1 S c1) (.slice u1 32 d1) false)) := HV11.out.below B9 (range_lt HV11.out.1 (Nat.succ_pos _)); have HV13 : Hid (Vr w105 b13 (pg9 k n c l e t (.slice p2 S c2) (.slice u2 32 d2) true)) := HV13.out.below B9 (range_lt HV13.out.1 (Nat.succ_pos _)); have HP2 : Hid (Byt w105 (.slice p2 S c2) xs) := HP2.out.below B9; have HY2 : Hid (Byt w105 (.slice u2 32 d2) U) := HY2.out.below B9; have BB : Hid (Below w.heap.size w w105) := BB.out.trans (B9.mono BB.out.size); clear hb1_0 hb1_1 hb1_2 hb1_3 hb1_4 hb1_5 hb2_0 hb2_1 hv11_0 hv11_1 hv11_2 hv11_3 hv11_4 hv11_5 hv11_6 hv11_7 hv11_8 hv13_0 hv13_1 hv13_2 hv13_3 hv13_4 hv13_5 hv13_6 hv13_7 hv13_8; have hb1_0 := HB1.out.cell 0 _ rfl; have hb1_1 := HB1.out.cell 1 _ rfl; have hb1_2 := HB1.out.cell 2 _ rfl; have hb1_3 := HB1.out.cell 3 _ rfl; have hb1_4 := HB1.out.cell 4 _ rfl; have hb1_5 := HB1.out.cell 5 _ rfl; have hb2_0 := HB2.out.cell 0 _ rfl; have hb2_1 := HB2.out.cell 1 _ rfl; have hv11_0 := HV11.out.cell 0 _ rfl; have hv11_1 := HV11.out.cell 1 _ rfl; have hv11_2 := HV11.out.cell 2 _ rfl; have hv11_3 := HV11.out.cell 3 _ rfl; have hv11_4 := HV11.out.cell 4 _ rfl; have hv11_5 := HV11.out.cell 5 _ rfl; have hv11_6 := HV11.out.cell 6 _ rfl; have hv11_7 := HV11.out.cell 7 _ rfl; have hv11_8 := HV11.out.cell 8 _ rfl; have hv13_0 := HV13.out.cell 0 _ rfl; have hv13_1 := HV13.out.cell 1 _ rfl; have hv13_2 := HV13.out.cell 2 _ rfl; have hv13_3 := HV13.out.cell 3 _ rfl; have hv13_4 := HV13.out.cell 4 _ rfl; have hv13_5 := HV13.out.cell 5 _ rfl; have hv13_6 := HV13.out.cell 6 _ rfl; have hv13_7 := HV13.out.cell 7 _ rfl; have hv13_8 := HV13.out.cell 8 _ rfl; clear B9; clear t64; have t65 : (1 : Nat) = 1 := rfl)
      | (have q63 := t63; go_at_call 11; refine (same_yes w103 _ _ xs HP1.out (HXA.out.below BB.out)).mono ?_; rintro e9 w104 ⟨rfl, B9⟩; have HB0 : Hid (Vr w104 w.heap.size [.int .i64 g0, .int .i64 g1, .int .i64 (S : Int), .int .i64 g3, .int .i64 g4, .int .i64 g5]) := HB0.out.below B9 (range_lt HB0.out.1 (Nat.succ_pos _)); have HB1 : Hid (Vr w104 w1.heap.size (hv k n c l e t)) := HB1.out.below B9 (range_lt HB1.out.1 (Nat.succ_pos _)); have HB2 : Hid (Vr w104 w2.heap.size ([.slice ao S ac, .slice bo 0 bc] : List Value)) := HB2.out.below B9 (range_lt HB2.out.1 (Nat.succ_pos _)); have HM : Hid (Byt w104 (.slice mo T mc) Z0) := HM.out.below B9; have HP1 : Hid (Byt w104 (.slice p1 S c1) xs) := HP1.out.below B9; have HY1 : Hid (Byt w104 (.slice u1 32 d1) U) := HY1.out.below B9; have HV11 : Hid (Vr w104 w6.heap.size (pg9 k n c l e t (.slice p1 S c1) (.slice u1 32 d1) false)) := HV11.out.below B9 (range_lt HV11.out.1 (Nat.succ_pos _)); have HV13 : Hid (Vr w104 b13 (pg9 k n c l e t (.slice p2 S c2) (.slice u2 32 d2) true)) := HV13.out.below B9 (range_lt HV13.out.1 (Nat.succ_pos _)); have HP2 : Hid (Byt w104 (.slice p2 S c2) xs) := HP2.out.below B9; have HY2 : Hid (Byt w104 (.slice u2 32 d2) U) := HY2.out.below B9; have BB : Hid (Below w.heap.size w w104) := BB.out.trans (B9.mono BB.out.size); clear hb1_0 hb1_1 hb1_2 hb1_3 hb1_4 hb1_5 hb2_0 hb2_1 hv11_0 hv11_1 hv11_2 hv11_3 hv11_4 hv11_5 hv11_6 hv11_7 hv11_8 hv13_0 hv13_1 hv13_2 hv13_3 hv13_4 hv13_5 hv13_6 hv13_7 hv13_8; have hb1_0 := HB1.out.cell 0 _ rfl; have hb1_1 := HB1.out.cell 1 _ rfl; have hb1_2 := HB1.out.cell 2 _ rfl; have hb1_3 := HB1.out.cell 3 _ rfl; have hb1_4 := HB1.out.cell 4 _ rfl; have hb1_5 := HB1.out.cell 5 _ rfl; have hb2_0 := HB2.out.cell 0 _ rfl; have hb2_1 := HB2.out.cell 1 _ rfl; have hv11_0 := HV11.out.cell 0 _ rfl; have hv11_1 := HV11.out.cell 1 _ rfl; have hv11_2 := HV11.out.cell 2 _ rfl; have hv11_3 := HV11.out.cell 3 _ rfl; have hv11_4 := HV11.out.cell 4 _ rfl; have hv11_5 := HV11.out.cell 5 _ rfl; have hv11_6 := HV11.out.cell 6 _ rfl; have hv11_7 := HV11.out.cell 7 _ rfl; have hv11_8 := HV11.out.cell 8 _ rfl; have hv13_0 := HV13.out.cell 0 _ rfl; have hv13_1 := HV13.out.cell 1 _ rfl; have hv13_2 := HV13.out.cell 2 _ rfl; have hv13_3 := HV13.out.cell 3 _ rfl; have hv13_4 := HV13.out.cell 4 _ rfl; have hv13_5 := HV13.out.cell 5 _ rfl; have hv13_6 := HV13.out.cell 6 _ rfl; have hv13_7 := HV13.out.cell 7 _ rfl; have hv13_8 := HV13.out.cell 8 _ rfl; clear B9; clear t63; have t64 : (1 : Nat) = 1 := rfl)
      | (have q62 := t62; go_at_call 11; refine (same_yes w102 _ _ U HY1.out HY2.out).mono ?_; rintro e9 w103 ⟨rfl, B9⟩; have HB0 : Hid (Vr w103 w.heap.size [.int .i64 g0, .int .i64 g1, .int .i64 (S : Int), .int .i64 g3, .int .i64 g4, .int .i64 g5]) := HB0.out.below B9 (range_lt HB0.out.1 (Nat.succ_pos _)); have HB1 : Hid (Vr w103 w1.heap.size (hv k n c l e t)) := HB1.out.below B9 (range_lt HB1.out.1 (Nat.succ_pos _)); have HB2 : Hid (Vr w103 w2.heap.size ([.slice ao S ac, .slice bo 0 bc] : List Value)) := HB2.out.below B9 (range_lt HB2.out.1 (Nat.succ_pos _)); have HM : Hid (Byt w103 (.slice mo T mc) Z0) := HM.out.below B9; have HP1 : Hid (Byt w103 (.slice p1 S c1) xs) := HP1.out.below B9; have HY1 : Hid (Byt w103 (.slice u1 32 d1) U) := HY1.out.below B9; have HV11 : Hid (Vr w103 w6.heap.size (pg9 k n c l e t (.slice p1 S c1) (.slice u1 32 d1) false)) := HV11.out.below B9 (range_lt HV11.out.1 (Nat.succ_pos _)); have HV13 : Hid (Vr w103 b13 (pg9 k n c l e t (.slice p2 S c2) (.slice u2 32 d2) true)) := HV13.out.below B9 (range_lt HV13.out.1 (Nat.succ_pos _)); have HP2 : Hid (Byt w103 (.slice p2 S c2) xs) := HP2.out.below B9; have HY2 : Hid (Byt w103 (.slice u2 32 d2) U) := HY2.out.below B9; have BB : Hid (Below w.heap.size w w103) := BB.out.trans (B9.mono BB.out.size); clear hb1_0 hb1_1 hb1_2 hb1_3 hb1_4 hb1_5 hb2_0 hb2_1 hv11_0 hv11_1 hv11_2 hv11_3 hv11_4 hv11_5 hv11_6 hv11_7 hv11_8 hv13_0 hv13_1 hv13_2 hv13_3 hv13_4 hv13_5 hv13_6 hv13_7 hv13_8; have hb1_0 := HB1.out.cell 0 _ rfl; have hb1_1 := HB1.out.cell 1 _ rfl; have hb1_2 := HB1.out.cell 2 _ rfl; have hb1_3 := HB1.out.cell 3 _ rfl; have hb1_4 := HB1.out.cell 4 _ rfl; have hb1_5 := HB1.out.cell 5 _ rfl; have hb2_0 := HB2.out.cell 0 _ rfl; have hb2_1 := HB2.out.cell 1 _ rfl; have hv11_0 := HV11.out.cell 0 _ rfl; have hv11_1 := HV11.out.cell 1 _ rfl; have hv11_2 := HV11.out.cell 2 _ rfl; have hv11_3 := HV11.out.cell 3 _ rfl; have hv11_4 := HV11.out.cell 4 _ rfl; have hv11_5 := HV11.out.cell 5 _ rfl; have hv11_6 := HV11.out.cell 6 _ rfl; have hv11_7 := HV11.out.cell 7 _ rfl; have hv11_8 := HV11.out.cell 8 _ rfl; have hv13_0 := HV13.out.cell 0 _ rfl; have hv13_1 := HV13.out.cell 1 _ rfl; have hv13_2 := HV13.out.cell 2 _ rfl; have hv13_3 := HV13.out.cell 3 _ rfl; have hv13_4 := HV13.out.cell 4 _ rfl; have hv13_5 := HV13.out.cell 5 _ rfl; have hv13_6 := HV13.out.cell 6 _ rfl; have hv13_7 := HV13.out.cell 7 _ rfl; have hv13_8 := HV13.out.cell 8 _ rfl; clear B9; clear t62; have t63 : (1 : Nat) = 1 := rfl)
      | (have q61 := t61; go_at_call 11; refine (same_yes w101 _ _ xs HP1.out HP2.out).mono ?_; rintro e9 w102 ⟨rfl, B9⟩; have HB0 : Hid (Vr w102 w.heap.size [.int .i64 g0, .int .i64 g1, .int .i64 (S : Int), .int .i64 g3, .int .i64 g4, .int .i64 g5]) := HB0.out.below B9 (range_lt HB0.out.1 (Nat.succ_pos _)); have HB1 : Hid (Vr w102 w1.heap.size (hv k n c l e t)) := HB1.out.below B9 (range_lt HB1.out.1 (Nat.succ_pos _)); have HB2 : Hid (Vr w102 w2.heap.size ([.slice ao S ac, .slice bo 0 bc] : List Value)) := HB2.out.below B9 (range_lt HB2.out.1 (Nat.succ_pos _)); have HM : Hid (Byt w102 (.slice mo T mc) Z0) := HM.out.below B9; have HP1 : Hid (Byt w102 (.slice p1 S c1) xs) := HP1.out.below B9; have HY1 : Hid (Byt w102 (.slice u1 32 d1) U) := HY1.out.below B9; have HV11 : Hid (Vr w102 w6.heap.size (pg9 k n c l e t (.slice p1 S c1) (.slice u1 32 d1) false)) := HV11.out.below B9 (range_lt HV11.out.1 (Nat.succ_pos _)); have HV13 : Hid (Vr w102 b13 (pg9 k n c l e t (.slice p2 S c2) (.slice u2 32 d2) true)) := HV13.out.below B9 (range_lt HV13.out.1 (Nat.succ_pos _)); have HP2 : Hid (Byt w102 (.slice p2 S c2) xs) := HP2.out.below B9; have HY2 : Hid (Byt w102 (.slice u2 32 d2) U) := HY2.out.below B9; have BB : Hid (Below w.heap.size w w102) := BB.out.trans (B9.mono BB.out.size); clear hb1_0 hb1_1 hb1_2 hb1_3 hb1_4 hb1_5 hb2_0 hb2_1 hv11_0 hv11_1 hv11_2 hv11_3 hv11_4 hv11_5 hv11_6 hv11_7 hv11_8 hv13_0 hv13_1 hv13_2 hv13_3 hv13_4 hv13_5 hv13_6 hv13_7 hv13_8; have hb1_0 := HB1.out.cell 0 _ rfl; have hb1_1 := HB1.out.cell 1 _ rfl; have hb1_2 := HB1.out.cell 2 _ rfl; have hb1_3 := HB1.out.cell 3 _ rfl; have hb1_4 := HB1.out.cell 4 _ rfl; have hb1_5 := HB1.out.cell 5 _ rfl; have hb2_0 := HB2.out.cell 0 _ rfl; have hb2_1 := HB2.out.cell 1 _ rfl; have hv11_0 := HV11.out.cell 0 _ rfl; have hv11_1 := HV11.out.cell 1 _ rfl; have hv11_2 := HV11.out.cell 2 _ rfl; have hv11_3 := HV11.out.cell 3 _ rfl; have hv11_4 := HV11.out.cell 4 _ rfl; have hv11_5 := HV11.out.cell 5 _ rfl; have hv11_6 := HV11.out.cell 6 _ rfl; have hv11_7 := HV11.out.cell 7 _ rfl; have hv11_8 := HV11.out.cell 8 _ rfl; have hv13_0 := HV13.out.cell 0 _ rfl; have hv13_1 := HV13.out.cell 1 _ rfl; have hv13_2 := HV13.out.cell 2 _ rfl; have hv13_3 := HV13.out.cell 3 _ rfl; have hv13_4 := HV13.out.cell 4 _ rfl; have hv13_5 := HV13.out.cell 5 _ rfl; have hv13_6 := HV13.out.cell 6 _ rfl; have hv13_7 := HV13.out.cell 7 _ rfl; have hv13_8 := HV13.out.cell 8 _ rfl; clear B9; clear t61; have t62 : (1 : Nat) = 1 := rfl)
      | (have q60 := t60; go_at_call 17; refine (blank_no wc _ Z0 HM.out ZN.out).mono ?_; rintro e9 w101 ⟨rfl, B9⟩; have HB0 : Hid (Vr w101 w.heap.size [.int .i64 g0, .int .i64 g1, .int .i64 (S : Int), .int .i64 g3, .int .i64 g4, .int .i64 g5]) := HB0.out.below B9 (range_lt HB0.out.1 (Nat.succ_pos _)); have HB1 : Hid (Vr w101 w1.heap.size (hv k n c l e t)) := HB1.out.below B9 (range_lt HB1.out.1 (Nat.succ_pos _)); have HB2 : Hid (Vr w101 w2.heap.size ([.slice ao S ac, .slice bo 0 bc] : List Value)) := HB2.out.below B9 (range_lt HB2.out.1 (Nat.succ_pos _)); have HM : Hid (Byt w101 (.slice mo T mc) Z0) := HM.out.below B9; have HP1 : Hid (Byt w101 (.slice p1 S c1) xs) := HP1.out.below B9; have HY1 : Hid (Byt w101 (.slice u1 32 d1) U) := HY1.out.below B9; have HV11 : Hid (Vr w101 w6.heap.size (pg9 k n c l e t (.slice p1 S c1) (.slice u1 32 d1) false)) := HV11.out.below B9 (range_lt HV11.out.1 (Nat.succ_pos _)); have HV13 : Hid (Vr w101 b13 (pg9 k n c l e t (.slice p2 S c2) (.slice u2 32 d2) true)) := HV13.out.below B9 (range_lt HV13.out.1 (Nat.succ_pos _)); have HP2 : Hid (Byt w101 (.slice p2 S c2) xs) := HP2.out.below B9; have HY2 : Hid (Byt w101 (.slice u2 32 d2) U) := HY2.out.below B9; have BB : Hid (Below w.heap.size w w101) := BB.out.trans (B9.mono BB.out.size); clear hb1_0 hb1_1 hb1_2 hb1_3 hb1_4 hb1_5 hb2_0 hb2_1 hv11_0 hv11_1 hv11_2 hv11_3 hv11_4 hv11_5 hv11_6 hv11_7 hv11_8 hv13_0 hv13_1 hv13_2 hv13_3 hv13_4 hv13_5 hv13_6 hv13_7 hv13_8; have hb1_0 := HB1.out.cell 0 _ rfl; have hb1_1 := HB1.out.cell 1 _ rfl; have hb1_2 := HB1.out.cell 2 _ rfl; have hb1_3 := HB1.out.cell 3 _ rfl; have hb1_4 := HB1.out.cell 4 _ rfl; have hb1_5 := HB1.out.cell 5 _ rfl; have hb2_0 := HB2.out.cell 0 _ rfl; have hb2_1 := HB2.out.cell 1 _ rfl; have hv11_0 := HV11.out.cell 0 _ rfl; have hv11_1 := HV11.out.cell 1 _ rfl; have hv11_2 := HV11.out.cell 2 _ rfl; have hv11_3 := HV11.out.cell 3 _ rfl; have hv11_4 := HV11.out.cell 4 _ rfl; have hv11_5 := HV11.out.cell 5 _ rfl; have hv11_6 := HV11.out.cell 6 _ rfl; have hv11_7 := HV11.out.cell 7 _ rfl; have hv11_8 := HV11.out.cell 8 _ rfl; have hv13_0 := HV13.out.cell 0 _ rfl; have hv13_1 := HV13.out.cell 1 _ rfl; have hv13_2 := HV13.out.cell 2 _ rfl; have hv13_3 := HV13.out.cell 3 _ rfl; have hv13_4 := HV13.out.cell 4 _ rfl; have hv13_5 := HV13.out.cell 5 _ rfl; have hv13_6 := HV13.out.cell 6 _ rfl; have hv13_7 := HV13.out.cell 7 _ rfl; have hv13_8 := HV13.out.cell 8 _ rfl; clear B9; clear t60; have t61 : (1 : Nat) = 1 := rfl))
    go_ret
    exact ⟨rfl, BB.out⟩

set_option maxHeartbeats 8000000 in
theorem back_ff (g0 g1 g3 g4 g5 : Int) (S : Nat) (k n c l e t : Int) (ao bo : Option Addr) (ac bc : Nat) (xs ys : List Int) (w : World) (hH : Hb l e t) (ha : Byt w (.slice ao S ac) xs) (hy : Byt w (.slice bo 32 bc) ys) (hT : Tab w) (hr : ge.Rt [g0, g1, (S : Int), g3, g4, g5]) (hk : Rh k n c) (hl : xs.length = S) (hn : ys.length = 32) :
    Calls Tryd.prog 5 #[.agg (ints .i64 [g0, g1, (S : Int), g3, g4, g5]), .agg (hv k n c l e t).toArray, .agg ([.slice ao S ac, .slice bo 32 bc] : List Value).toArray] w fun x w' => x = .returned (.bool true) ∧ Below w.heap.size w w' := by
  have HT : Hid (Tab w) := hT
  have hl' : xs.length = 0 ∨ xs.length = S := Or.inr hl
  have hn' : ys.length = 0 ∨ ys.length = 32 := Or.inr hn
  have ⟨s1, s2⟩ := sec_le hr
  have ZL : (plo S xs ++ hend (hb k n c l e t) (tgo ys) (List.replicate 8 255)).length = S + 88 := by rw [List.length_append, plo_len hl', hend_len (hb_len _ _ _ _ _ _) (tgo_len hn') (by simp)]
  have SM : Hid (∀ w0, Below w.heap.size w w0 → Calls Tryd.prog 7 #[.agg (ints .i64 [g0, g1, (S : Int), g3, g4, g5]), .agg (hv k n c l e t).toArray, .slice ao S ac, .slice bo 32 bc] w0 fun x w' => ∃ mo mc, x = .returned (.tuple #[.slice mo (S + 88) mc, .int .i64 0]) ∧ Byt w' (.slice mo (S + 88) mc) (plo S xs ++ hend (hb k n c l e t) (tgo ys) (List.replicate 8 255)) ∧ Below w0.heap.size w0 w') := fun w0 hw => (make_yes g0 g1 g3 g4 g5 S k n c l e t _ _ xs ys w0 (ha.below hw) (hy.below hw) hH (hT.below hw) hr hl' hk hn').mono (by rintro _ _ ⟨v, rfl, h1, h2⟩; have h1 := h1.byt (page_all ha.all hy.all hk); obtain ⟨mo, mc, rfl⟩ := byt_form h1 ZL; exact ⟨mo, mc, rfl, h1, h2⟩)
  have SC : Hid (∀ w0, Calls Tryd.prog 8 #[.agg (ints .i64 [g0, g1, (S : Int), g3, g4, g5])] w0 fun x w' => ∃ co cc, x = .returned (.tuple #[.slice co (S + 88) cc, .int .i64 0]) ∧ Byt w' (.slice co (S + 88) cc) (he.mark (S + 88)) ∧ Below w0.heap.size w0 w') := fun w0 => (commit_yes g0 g1 g3 g4 g5 S w0 hr).mono (by rintro _ _ ⟨v, rfl, h1, h2⟩; have h1 := h1.byt (mark_all _); obtain ⟨mo, mc, rfl⟩ := byt_form h1 (mark_len _ (by omega)); exact ⟨mo, mc, rfl, h1, h2⟩)
  have SR1 : Hid (∀ w0 v, Below w.heap.size w w0 → Byt w0 v (plo S xs ++ hend (hb k n c l e t) (tgo ys) (List.replicate 8 255)) → Calls Tryd.prog 15 #[.agg (ints .i64 [g0, g1, (S : Int), g3, g4, g5]), v] w0 fun x w' => ∃ v9, x = .returned v9 ∧ (∃ po pc uo uc, v9 = .tuple #[.agg (pg9 k n c l e t (.slice po S pc) (.slice uo 32 uc) false).toArray, .int .i64 0] ∧ Byt w' (.slice po S pc) (plo S xs) ∧ Byt w' (.slice uo 32 uc) (tgo ys)) ∧ Below w0.heap.size w0 w') := fun w0 v hw hv => read_made g0 g1 g3 g4 g5 S v k n c l e t xs (tgo ys) _ w0 hr hl' (tgo_len hn') (by simp) hk hH hv (hT.below hw) false (by decide)
  have SR2 : Hid (∀ w0 v, Below w.heap.size w w0 → Byt w0 v (plo S xs ++ hend (hb k n c l e t) (tgo ys) (List.replicate 8 0)) → Calls Tryd.prog 15 #[.agg (ints .i64 [g0, g1, (S : Int), g3, g4, g5]), v] w0 fun x w' => ∃ v9, x = .returned v9 ∧ (∃ po pc uo uc, v9 = .tuple #[.agg (pg9 k n c l e t (.slice po S pc) (.slice uo 32 uc) true).toArray, .int .i64 0] ∧ Byt w' (.slice po S pc) (plo S xs) ∧ Byt w' (.slice uo 32 uc) (tgo ys)) ∧ Below w0.heap.size w0 w') := fun w0 v hw hv => read_made g0 g1 g3 g4 g5 S v k n c l e t xs (tgo ys) _ w0 hr hl' (tgo_len hn') (by simp) hk hH hv (hT.below hw) true (by decide)
  have SA : Hid (∀ w0 u v, Byt w0 u (plo S xs ++ hend (hb k n c l e t) (tgo ys) (List.replicate 8 255)) → Byt w0 v (he.mark (S + 88)) → Calls Tryd.prog 22 #[u, v] w0 fun x w' => ∃ v, x = .returned v ∧ Byt w' v (plo S xs ++ hend (hb k n c l e t) (tgo ys) (List.replicate 8 0)) ∧ Below w0.heap.size w0 w') := fun w0 u v hu hv => by
    have z := fa.rand_any u v _ _ w0 hu hv (by rw [ZL, mark_len _ (by omega)]) (by rw [ZL]; omega)
    rw [page_mark hl' hn' ha.all hy.all hk] at z
    exact z
  have ZN : Hid (decide (plo S xs ++ hend (hb k n c l e t) (tgo ys) (List.replicate 8 255) = List.replicate (plo S xs ++ hend (hb k n c l e t) (tgo ys) (List.replicate 8 255)).length 255) = false) := not_blank hl' hk
  have HXA : Hid (Byt w (.slice ao S ac) xs) := ha
  have HYA : Hid (Byt w (.slice bo 32 bc) ys) := hy
  have EP : plo S xs = xs := if_neg (by omega)
  rw [EP] at SR1 SR2 SA SM ZN
  have ET : tgo ys = ys := if_neg (by omega)
  rw [ET] at SR1 SR2 SA SM ZN
  have hnq := neq_head k n c l e t
  generalize hZ0 : xs ++ hend (hb k n c l e t) ys (List.replicate 8 255) = Z0 at SM SR1 SA ZN
  generalize hZ1 : xs ++ hend (hb k n c l e t) ys (List.replicate 8 0) = Z1 at SR2 SA
  generalize he.mark (S + 88) = M at SC SA
  clear hZ0 hZ1
  generalize S + 88 = T at SM SC
  have n0 : ((S : Int) == 0) = false := beq_eq_false_iff_ne.2 (by omega)
  clear hr hT hH ha hy hk hl hn hl' hn' s1 s2 ZL EP ET
  have t0 : (0 : Nat) = 0 := rfl
  go_enter Tryd.func5, Tryd.ntmps5
  go_wp2_with (first
    | (have q7 := t7; (with_reducible refine at_store ?_); refine store_lawC _ (pg9 k n c l e t (.slice p1 S c1) (.slice u1 32 d1) false) w6.heap.size 0 rfl rfl HV11.out.2 rowy_page.2 (pg9_one _ _ _ _ _ _ _ _ _ _ _ _ _) ?_; intro w8 E9 R9 T9 B9; have K9 : ∀ k, k ≠ w6.heap.size → w8.heap[k]? = w7.heap[k]? := (by rw [E9.out]; exact fun k hk => heap_cells _ _ _ _ k hk); have HB0 : Hid (Vr w8 w.heap.size [.int .i64 g0, .int .i64 g1, .int .i64 (S : Int), .int .i64 g3, .int .i64 g4, .int .i64 g5]) := HB0.out.heap (K9 _ (Nat.ne_of_lt LT_HB0_HV11.out)); have HB1 : Hid (Vr w8 w1.heap.size (hv k n c l e t)) := HB1.out.heap (K9 _ (Nat.ne_of_lt LT_HB1_HV11.out)); have HB2 : Hid (Vr w8 w2.heap.size ([.slice ao S ac, .slice bo 32 bc] : List Value)) := HB2.out.heap (K9 _ (Nat.ne_of_lt LT_HB2_HV11.out)); have HM : Hid (Byt w8 (.slice mo T mc) Z0) := byt_nob HM.out NB_HV11.out K9; have HC : Hid (Byt w8 (.slice co T cc) M) := byt_nob HC.out NB_HV11.out K9; have HP1 : Hid (Byt w8 (.slice p1 S c1) xs) := byt_nob HP1.out NB_HV11.out K9; have HY1 : Hid (Byt w8 (.slice u1 32 d1) ys) := byt_nob HY1.out NB_HV11.out K9; have NB_HV11 : Hid (NoB w8 w6.heap.size) := (by rw [E9.out]; exact NB_HV11.out.set HV11.out rfl (pg9_nob _ _ _ _ _ _ _ _ _ _ _ _ _)); have HV11 : Hid (Vr w8 w6.heap.size (pg9 k n c l e t (.slice p1 S c1) (.slice u1 32 d1) false)) := ⟨R9, T9⟩; have BB : Hid (Below w.heap.size w w8) := BB.out.trans (B9.mono LE_HV11.out); clear hb0_0 hb0_1 hb0_2 hb0_3 hb0_4 hb0_5 hb1_0 hb1_1 hb1_2 hb1_3 hb1_4 hb1_5 hb2_0 hb2_1; have hb0_0 := HB0.out.cell 0 _ rfl; have hb0_1 := HB0.out.cell 1 _ rfl; have hb0_2 := HB0.out.cell 2 _ rfl; have hb0_3 := HB0.out.cell 3 _ rfl; have hb0_4 := HB0.out.cell 4 _ rfl; have hb0_5 := HB0.out.cell 5 _ rfl; have hb1_0 := HB1.out.cell 0 _ rfl; have hb1_1 := HB1.out.cell 1 _ rfl; have hb1_2 := HB1.out.cell 2 _ rfl; have hb1_3 := HB1.out.cell 3 _ rfl; have hb1_4 := HB1.out.cell 4 _ rfl; have hb1_5 := HB1.out.cell 5 _ rfl; have hb2_0 := HB2.out.cell 0 _ rfl; have hb2_1 := HB2.out.cell 1 _ rfl; clear E9 R9 T9 B9 K9; clear t7; have t8 : (1 : Nat) = 1 := rfl)
    | (have q6 := t6; (with_reducible refine at_alloc ?_); refine new_lawN _ Z9 zero_page (pg9_nob _ _ _ _ _ _ _ _ _ _ _ _ _) ?_; intro w7 X9 N9 B9; have LT_HB0_HV11 : Hid (w.heap.size < w6.heap.size) := range_lt HB0.out.1 (Nat.succ_pos _); have LT_HB1_HV11 : Hid (w1.heap.size < w6.heap.size) := range_lt HB1.out.1 (Nat.succ_pos _); have LT_HB2_HV11 : Hid (w2.heap.size < w6.heap.size) := range_lt HB2.out.1 (Nat.succ_pos _); have LE_HV11 : Hid (w.heap.size ≤ w6.heap.size) := BB.out.size; have HB0 : Hid (Vr w7 w.heap.size [.int .i64 g0, .int .i64 g1, .int .i64 (S : Int), .int .i64 g3, .int .i64 g4, .int .i64 g5]) := HB0.out.below B9 (range_lt HB0.out.1 (Nat.succ_pos _)); have HB1 : Hid (Vr w7 w1.heap.size (hv k n c l e t)) := HB1.out.below B9 (range_lt HB1.out.1 (Nat.succ_pos _)); have HB2 : Hid (Vr w7 w2.heap.size ([.slice ao S ac, .slice bo 32 bc] : List Value)) := HB2.out.below B9 (range_lt HB2.out.1 (Nat.succ_pos _)); have HM : Hid (Byt w7 (.slice mo T mc) Z0) := HM.out.below B9; have HC : Hid (Byt w7 (.slice co T cc) M) := HC.out.below B9; have HP1 : Hid (Byt w7 (.slice p1 S c1) xs) := HP1.out.below B9; have HY1 : Hid (Byt w7 (.slice u1 32 d1) ys) := HY1.out.below B9; have HV11 : Hid (Vr w7 w6.heap.size Z9) := X9; have NB_HV11 : Hid (NoB w7 w6.heap.size) := N9; have BB : Hid (Below w.heap.size w w7) := BB.out.trans (B9.mono BB.out.size); clear hb0_0 hb0_1 hb0_2 hb0_3 hb0_4 hb0_5 hb1_0 hb1_1 hb1_2 hb1_3 hb1_4 hb1_5 hb2_0 hb2_1; have hb0_0 := HB0.out.cell 0 _ rfl; have hb0_1 := HB0.out.cell 1 _ rfl; have hb0_2 := HB0.out.cell 2 _ rfl; have hb0_3 := HB0.out.cell 3 _ rfl; have hb0_4 := HB0.out.cell 4 _ rfl; have hb0_5 := HB0.out.cell 5 _ rfl; have hb1_0 := HB1.out.cell 0 _ rfl; have hb1_1 := HB1.out.cell 1 _ rfl; have hb1_2 := HB1.out.cell 2 _ rfl; have hb1_3 := HB1.out.cell 3 _ rfl; have hb1_4 := HB1.out.cell 4 _ rfl; have hb1_5 := HB1.out.cell 5 _ rfl; have hb2_0 := HB2.out.cell 0 _ rfl; have hb2_1 := HB2.out.cell 1 _ rfl; clear X9 N9 B9; clear t6; have t7 : (1 : Nat) = 1 := rfl)
    | (have q5 := t5; go_at_call 15; refine (SR1.out w5 (.slice mo T mc) BB.out HM.out).mono ?_; rintro e9 w6 ⟨_, rfl, ⟨p1, c1, u1, d1, rfl, Y8, Y9⟩, B9⟩; have HB0 : Hid (Vr w6 w.heap.size [.int .i64 g0, .int .i64 g1, .int .i64 (S : Int), .int .i64 g3, .int .i64 g4, .int .i64 g5]) := HB0.out.below B9 (range_lt HB0.out.1 (Nat.succ_pos _)); have HB1 : Hid (Vr w6 w1.heap.size (hv k n c l e t)) := HB1.out.below B9 (range_lt HB1.out.1 (Nat.succ_pos _)); have HB2 : Hid (Vr w6 w2.heap.size ([.slice ao S ac, .slice bo 32 bc] : List Value)) := HB2.out.below B9 (range_lt HB2.out.1 (Nat.succ_pos _)); have HM : Hid (Byt w6 (.slice mo T mc) Z0) := HM.out.below B9; have HC : Hid (Byt w6 (.slice co T cc) M) := HC.out.below B9; have HP1 : Hid (Byt w6 (.slice p1 S c1) xs) := Y8; have HY1 : Hid (Byt w6 (.slice u1 32 d1) ys) := Y9; have BB : Hid (Below w.heap.size w w6) := BB.out.trans (B9.mono BB.out.size); clear hb0_0 hb0_1 hb0_2 hb0_3 hb0_4 hb0_5 hb1_0 hb1_1 hb1_2 hb1_3 hb1_4 hb1_5 hb2_0 hb2_1; have hb0_0 := HB0.out.cell 0 _ rfl; have hb0_1 := HB0.out.cell 1 _ rfl; have hb0_2 := HB0.out.cell 2 _ rfl; have hb0_3 := HB0.out.cell 3 _ rfl; have hb0_4 := HB0.out.cell 4 _ rfl; have hb0_5 := HB0.out.cell 5 _ rfl; have hb1_0 := HB1.out.cell 0 _ rfl; have hb1_1 := HB1.out.cell 1 _ rfl; have hb1_2 := HB1.out.cell 2 _ rfl; have hb1_3 := HB1.out.cell 3 _ rfl; have hb1_4 := HB1.out.cell 4 _ rfl; have hb1_5 := HB1.out.cell 5 _ rfl; have hb2_0 := HB2.out.cell 0 _ rfl; have hb2_1 := HB2.out.cell 1 _ rfl; clear B9 Y8 Y9; clear t5; have t6 : (1 : Nat) = 1 := rfl)
    | (have q4 := t4; go_at_call 8; refine (SC.out w4).mono ?_; rintro e9 w5 ⟨co, cc, rfl, Y9, B9⟩; have HB0 : Hid (Vr w5 w.heap.size [.int .i64 g0, .int .i64 g1, .int .i64 (S : Int), .int .i64 g3, .int .i64 g4, .int .i64 g5]) := HB0.out.below B9 (range_lt HB0.out.1 (Nat.succ_pos _)); have HB1 : Hid (Vr w5 w1.heap.size (hv k n c l e t)) := HB1.out.below B9 (range_lt HB1.out.1 (Nat.succ_pos _)); have HB2 : Hid (Vr w5 w2.heap.size ([.slice ao S ac, .slice bo 32 bc] : List Value)) := HB2.out.below B9 (range_lt HB2.out.1 (Nat.succ_pos _)); have HM : Hid (Byt w5 (.slice mo T mc) Z0) := HM.out.below B9; have HC : Hid (Byt w5 (.slice co T cc) M) := Y9; have BB : Hid (Below w.heap.size w w5) := BB.out.trans (B9.mono BB.out.size); clear hb0_0 hb0_1 hb0_2 hb0_3 hb0_4 hb0_5 hb1_0 hb1_1 hb1_2 hb1_3 hb1_4 hb1_5 hb2_0 hb2_1; have hb0_0 := HB0.out.cell 0 _ rfl; have hb0_1 := HB0.out.cell 1 _ rfl; have hb0_2 := HB0.out.cell 2 _ rfl; have hb0_3 := HB0.out.cell 3 _ rfl; have hb0_4 := HB0.out.cell 4 _ rfl; have hb0_5 := HB0.out.cell 5 _ rfl; have hb1_0 := HB1.out.cell 0 _ rfl; have hb1_1 := HB1.out.cell 1 _ rfl; have hb1_2 := HB1.out.cell 2 _ rfl; have hb1_3 := HB1.out.cell 3 _ rfl; have hb1_4 := HB1.out.cell 4 _ rfl; have hb1_5 := HB1.out.cell 5 _ rfl; have hb2_0 := HB2.out.cell 0 _ rfl; have hb2_1 := HB2.out.cell 1 _ rfl; clear B9 Y9; clear t4; have t5 : (1 : Nat) = 1 := rfl)
    | (have q3 := t3; go_at_call 7; refine (SM.out w3 BB.out).mono ?_; rintro e9 w4 ⟨mo, mc, rfl, Y9, B9⟩; have HB0 : Hid (Vr w4 w.heap.size [.int .i64 g0, .int .i64 g1, .int .i64 (S : Int), .int .i64 g3, .int .i64 g4, .int .i64 g5]) := HB0.out.below B9 (range_lt HB0.out.1 (Nat.succ_pos _)); have HB1 : Hid (Vr w4 w1.heap.size (hv k n c l e t)) := HB1.out.below B9 (range_lt HB1.out.1 (Nat.succ_pos _)); have HB2 : Hid (Vr w4 w2.heap.size ([.slice ao S ac, .slice bo 32 bc] : List Value)) := HB2.out.below B9 (range_lt HB2.out.1 (Nat.succ_pos _)); have HM : Hid (Byt w4 (.slice mo T mc) Z0) := Y9; have BB : Hid (Below w.heap.size w w4) := BB.out.trans (B9.mono BB.out.size); clear hb0_0 hb0_1 hb0_2 hb0_3 hb0_4 hb0_5 hb1_0 hb1_1 hb1_2 hb1_3 hb1_4 hb1_5 hb2_0 hb2_1; have hb0_0 := HB0.out.cell 0 _ rfl; have hb0_1 := HB0.out.cell 1 _ rfl; have hb0_2 := HB0.out.cell 2 _ rfl; have hb0_3 := HB0.out.cell 3 _ rfl; have hb0_4 := HB0.out.cell 4 _ rfl; have hb0_5 := HB0.out.cell 5 _ rfl; have hb1_0 := HB1.out.cell 0 _ rfl; have hb1_1 := HB1.out.cell 1 _ rfl; have hb1_2 := HB1.out.cell 2 _ rfl; have hb1_3 := HB1.out.cell 3 _ rfl; have hb1_4 := HB1.out.cell 4 _ rfl; have hb1_5 := HB1.out.cell 5 _ rfl; have hb2_0 := HB2.out.cell 0 _ rfl; have hb2_1 := HB2.out.cell 1 _ rfl; clear B9 Y9; clear t3; have t4 : (1 : Nat) = 1 := rfl)
    | (have q2 := t2; refine box_lawC _ ([.slice ao S ac, .slice bo 32 bc] : List Value) rfl ?_; intro w3 X9 B9 l9; have HB0 : Hid (Vr w3 w.heap.size [.int .i64 g0, .int .i64 g1, .int .i64 (S : Int), .int .i64 g3, .int .i64 g4, .int .i64 g5]) := HB0.out.below B9 (range_lt HB0.out.1 (Nat.succ_pos _)); have HB1 : Hid (Vr w3 w1.heap.size (hv k n c l e t)) := HB1.out.below B9 (range_lt HB1.out.1 (Nat.succ_pos _)); have HB2 : Hid (Vr w3 w2.heap.size ([.slice ao S ac, .slice bo 32 bc] : List Value)) := X9; have BB : Hid (Below w.heap.size w w3) := BB.out.trans (B9.mono BB.out.size); have hb0_0 := HB0.out.cell 0 _ rfl; have hb0_1 := HB0.out.cell 1 _ rfl; have hb0_2 := HB0.out.cell 2 _ rfl; have hb0_3 := HB0.out.cell 3 _ rfl; have hb0_4 := HB0.out.cell 4 _ rfl; have hb0_5 := HB0.out.cell 5 _ rfl; have hb1_0 := HB1.out.cell 0 _ rfl; have hb1_1 := HB1.out.cell 1 _ rfl; have hb1_2 := HB1.out.cell 2 _ rfl; have hb1_3 := HB1.out.cell 3 _ rfl; have hb1_4 := HB1.out.cell 4 _ rfl; have hb1_5 := HB1.out.cell 5 _ rfl; have hb2_0 := HB2.out.cell 0 _ rfl; have hb2_1 := HB2.out.cell 1 _ rfl; clear X9 B9 l9; clear t2; have t3 : (1 : Nat) = 1 := rfl)
    | (have q1 := t1; refine box_lawC _ (hv k n c l e t) rfl ?_; intro w2 X9 B9 l9; have HB0 : Hid (Vr w2 w.heap.size [.int .i64 g0, .int .i64 g1, .int .i64 (S : Int), .int .i64 g3, .int .i64 g4, .int .i64 g5]) := HB0.out.below B9 (range_lt HB0.out.1 (Nat.succ_pos _)); have HB1 : Hid (Vr w2 w1.heap.size (hv k n c l e t)) := X9; have BB : Hid (Below w.heap.size w w2) := BB.out.trans (B9.mono BB.out.size); clear X9 B9 l9; clear t1; have t2 : (1 : Nat) = 1 := rfl)
    | (have q0 := t0; refine box_lawC _ [.int .i64 g0, .int .i64 g1, .int .i64 (S : Int), .int .i64 g3, .int .i64 g4, .int .i64 g5] rfl ?_; intro w1 X9 B9 l9; have HB0 : Hid (Vr w1 w.heap.size [.int .i64 g0, .int .i64 g1, .int .i64 (S : Int), .int .i64 g3, .int .i64 g4, .int .i64 g5]) := X9; have BB : Hid (Below w.heap.size w w1) := B9; clear X9 B9 l9; clear t0; have t1 : (1 : Nat) = 1 := rfl))
  go_cut [13, 14] (fun r13 r14 wc => ∃ (b13 : Nat) (p2 : Option Addr) (c2 : Nat) (u2 : Option Addr) (d2 : Nat), r13 = .pointer (some ⟨b13, 0, none⟩) ∧ r14 = .int .i64 0 ∧ Vr wc b13 (pg9 k n c l e t (.slice p2 S c2) (.slice u2 32 d2) true) ∧ Byt wc (.slice p2 S c2) xs ∧ Byt wc (.slice u2 32 d2) ys ∧ Below w8.heap.size w8 wc)
  case first =>
    refine wp_region_held_drew (S := fun w' => Below w8.heap.size w8 w') (by kernel_rfl) (Below.refl _ _).drew (fun hS => ?_)
    obtain ⟨y1, hx0⟩ : ∃ x, x = w8.drew := ⟨_, rfl⟩
    rw [← hx0] at hS  ⊢
    clear hx0
    refine take_lawH 0 (some 45) (.agg ([.int .i64 g0, .int .i64 g1, .int .i64 (S : Int), .int .i64 g3, .int .i64 g4, .int .i64 g5] : List Value).toArray) rfl rfl (by kernel_rfl) (by kernel_rfl) (by kernel_rfl) (fun _ _ _ h => h) (Or.inl ⟨by rfl, fun w' hw' => by exact exec_loadN 23 (.tmp 3) rfl _ rfl _ _ (load_cells rowy_geo (HB0.out.below hw' (range_lt HB0.out.1 (Nat.succ_pos _))).1)⟩) hS ?_
    simp only [Act.put, List.setIfInBounds_toArray, List.set_cons_zero, List.set_cons_succ]
    refine take_lawH 1 (some 46) (.slice mo T mc) rfl rfl (by kernel_rfl) (by kernel_rfl) (by kernel_rfl) (fun _ _ _ h => h) (Or.inl ⟨by rfl, fun w' hw' => by rfl⟩) hS ?_
    simp only [Act.put, List.setIfInBounds_toArray, List.set_cons_zero, List.set_cons_succ]
    refine take_lawH 2 (some 47) (.slice co T cc) rfl rfl (by kernel_rfl) (by kernel_rfl) (by kernel_rfl) (fun _ _ _ h => h) (Or.inl ⟨by rfl, fun w' hw' => by rfl⟩) hS ?_
    simp only [Act.put, List.setIfInBounds_toArray, List.set_cons_zero, List.set_cons_succ]
    refine wpAnyH_ready (rs := [3, 8]) (by kernel_rfl) (by simp) ?_
    refine AllReadyH.cons rfl (fun K hK => ?_) (AllReadyH.cons rfl (fun K hK => ?_) AllReadyH.nil)
    · refine step_callW _ (by rfl) (some 48) rfl 22 #[.tmp 46, .tmp 47] #[28, 28] rfl (fun q w' => by rfl) #[.slice mo T mc, .slice co T cc] (by simp only [List.map_toArray, List.map_cons, List.map_nil]; rfl) (fun u w' => Byt w' u Z1 ∧ Below y1.heap.size y1 w') ?_ ?_
      · exact SA.out _ _ _ (HM.out.below hS) (HC.out.below hS)
      rintro av y2 ⟨y9, h9⟩
      have HN : Hid (Byt y2 av Z1) := y9
      have hS : Below w8.heap.size w8 y2 := hS.trans (h9.mono hS.size)
      clear h9 y9
      refine hK.out _ _ hS (fun _ => ?_)
      simp only [Act.put, List.setIfInBounds_toArray, List.set_cons_zero, List.set_cons_succ]
      clear hK K
      refine wpAnyH_ready (rs := [4, 8]) (by kernel_rfl) (by simp) ?_
      refine AllReadyH.cons rfl (fun K hK => ?_) (AllReadyH.cons rfl (fun K hK => ?_) AllReadyH.nil)
      · refine step_callW _ (by rfl) (some 49) rfl 15 #[.tmp 45, .tmp 48] #[23, 28] rfl (fun q w' => by rfl) #[.agg ([.int .i64 g0, .int .i64 g1, .int .i64 (S : Int), .int .i64 g3, .int .i64 g4, .int .i64 g5] : List Value).toArray, av] (by simp only [List.map_toArray, List.map_cons, List.map_nil]; rfl) (fun u w' => (∃ po pc uo uc, u = .tuple #[.agg (pg9 k n c l e t (.slice po S pc) (.slice uo 32 uc) true).toArray, .int .i64 0] ∧ Byt w' (.slice po S pc) xs ∧ Byt w' (.slice uo 32 uc) ys) ∧ Below y2.heap.size y2 w') ?_ ?_
        · exact SR2.out _ _ (BB.out.trans (hS.mono BB.out.size)) HN.out
        rintro _ y3 ⟨⟨p2, c2, u2, d2, rfl, y8, y9⟩, h9⟩
        have HN : Hid (Byt y3 av Z1) := HN.out.below h9
        have HP2 : Hid (Byt y3 (.slice p2 S c2) xs) := y8
        have HY2 : Hid (Byt y3 (.slice u2 32 d2) ys) := y9
        have hS : Below w8.heap.size w8 y3 := hS.trans (h9.mono hS.size)
        clear h9 y8 y9
        refine hK.out _ _ hS (fun _ => ?_)
        simp only [Act.put, List.setIfInBounds_toArray, List.set_cons_zero, List.set_cons_succ]
        clear hK K
        refine take_lawH 5 (some 44) (.tuple #[.agg (pg9 k n c l e t (.slice p2 S c2) (.slice u2 32 d2) true).toArray, .int .i64 0]) rfl rfl (by kernel_rfl) (by kernel_rfl) (by kernel_rfl) (fun _ _ _ h => h) (Or.inl ⟨by rfl, fun w' hw' => by rfl⟩) hS ?_
        simp only [Act.put, List.setIfInBounds_toArray, List.set_cons_zero, List.set_cons_succ]
        refine take_lawH 6 (some 50) (.agg (pg9 k n c l e t (.slice p2 S c2) (.slice u2 32 d2) true).toArray) rfl rfl (by kernel_rfl) (by kernel_rfl) (by kernel_rfl) (fun _ _ _ h => h) (Or.inl ⟨by rfl, fun w' hw' => by rfl⟩) hS ?_
        simp only [Act.put, List.setIfInBounds_toArray, List.set_cons_zero, List.set_cons_succ]
        refine take_lawH 7 (some 51) (.int .i64 0) rfl rfl (by kernel_rfl) (by kernel_rfl) (by kernel_rfl) (fun _ _ _ h => h) (Or.inl ⟨by rfl, fun w' hw' => by rfl⟩) hS ?_
        simp only [Act.put, List.setIfInBounds_toArray, List.set_cons_zero, List.set_cons_succ]
        refine wpAnyH_ready (rs := [8]) (by kernel_rfl) (by simp) ?_
        refine AllReadyH.cons rfl (fun K hK => ?_) AllReadyH.nil
        refine step_newN _ rfl (some 13) rfl 42 rfl Z9 zero_page (pg9_nob _ _ _ _ _ _ _ _ _ _ _ _ _) ?_
        intro y4 x9 n9 h9
        have HN : Hid (Byt y4 av Z1) := HN.out.below h9
        have HP2 : Hid (Byt y4 (.slice p2 S c2) xs) := HP2.out.below h9
        have HY2 : Hid (Byt y4 (.slice u2 32 d2) ys) := HY2.out.below h9
        have HVV : Hid (Vr y4 y3.heap.size Z9) := x9
        have NB : Hid (NoB y4 y3.heap.size) := n9
        have LB : Hid (w8.heap.size ≤ y3.heap.size) := hS.size
        have hS : Below w8.heap.size w8 y4 := hS.trans (h9.mono hS.size)
        clear h9 x9 n9
        refine hK.out _ _ hS (fun _ => ?_)
        simp only [Act.put, List.setIfInBounds_toArray, List.set_cons_zero, List.set_cons_succ]
        clear hK K
        refine wpAnyH_ready (rs := [9]) (by kernel_rfl) (by simp) ?_
        refine AllReadyH.cons rfl (fun K hK => ?_) AllReadyH.nil
        refine step_storeK _ rfl none rfl (.tmp 13) (.tmp 50) 42 rfl y3.heap.size Z9 (pg9 k n c l e t (.slice p2 S c2) (.slice u2 32 d2) true) rfl rfl HVV.out rfl rowy_page.2 (pg9_one _ _ _ _ _ _ _ _ _ _ _ _ _) ?_
        intro y5 v9 B9 K9
        have HP2 : Hid (Byt y5 (.slice p2 S c2) xs) := byt_nob HP2.out NB.out K9
        have HY2 : Hid (Byt y5 (.slice u2 32 d2) ys) := byt_nob HY2.out NB.out K9
        have HVV : Hid (Vr y5 y3.heap.size (pg9 k n c l e t (.slice p2 S c2) (.slice u2 32 d2) true)) := v9
        have hS : Below w8.heap.size w8 y5 := hS.trans (B9.mono LB.out)
        clear v9 B9 K9
        refine hK.out _ _ hS (fun _ => ?_)
        simp only [Act.put]
        clear hK K
        refine take_lawH 10 (some 14) (.int .i64 0) rfl rfl (by kernel_rfl) (by kernel_rfl) (by kernel_rfl) (fun _ _ _ h => h) (Or.inl ⟨by rfl, fun w' hw' => by rfl⟩) hS ?_
        simp only [Act.put, List.setIfInBounds_toArray, List.set_cons_zero, List.set_cons_succ]
        refine wpAnyH_done (by kernel_rfl) ?_ _
        go_wp2
        go_meet
        exact ⟨_, p2, c2, u2, d2, rfl, rfl, HVV.out, HP2.out, HY2.out, hS⟩
      · refine step_newN _ rfl (some 13) rfl 42 rfl Z9 zero_page (pg9_nob _ _ _ _ _ _ _ _ _ _ _ _ _) ?_
        intro y6 x9 n9 h9
        have HN : Hid (Byt y6 av Z1) := HN.out.below h9
        have HVV : Hid (Vr y6 y2.heap.size Z9) := x9
        have NB : Hid (NoB y6 y2.heap.size) := n9
        have LB : Hid (w8.heap.size ≤ y2.heap.size) := hS.size
        have hS : Below w8.heap.size w8 y6 := hS.trans (h9.mono hS.size)
        clear h9 x9 n9
        refine hK.out _ _ hS (fun _ => ?_)
        simp only [Act.put, List.setIfInBounds_toArray, List.set_cons_zero, List.set_cons_succ]
        clear hK K
        refine wpAnyH_ready (rs := [4]) (by kernel_rfl) (by simp) ?_
        refine AllReadyH.cons rfl (fun K hK => ?_) AllReadyH.nil
        refine step_callW _ (by rfl) (some 49) rfl 15 #[.tmp 45, .tmp 48] #[23, 28] rfl (fun q w' => by rfl) #[.agg ([.int .i64 g0, .int .i64 g1, .int .i64 (S : Int), .int .i64 g3, .int .i64 g4, .int .i64 g5] : List Value).toArray, av] (by simp only [List.map_toArray, List.map_cons, List.map_nil]; rfl) (fun u w' => (∃ po pc uo uc, u = .tuple #[.agg (pg9 k n c l e t (.slice po S pc) (.slice uo 32 uc) true).toArray, .int .i64 0] ∧ Byt w' (.slice po S pc) xs ∧ Byt w' (.slice uo 32 uc) ys) ∧ Below y6.heap.size y6 w') ?_ ?_
        · exact SR2.out _ _ (BB.out.trans (hS.mono BB.out.size)) HN.out
        rintro _ y7 ⟨⟨p2, c2, u2, d2, rfl, y8, y9⟩, h9⟩
        have NB : Hid (NoB y7 y2.heap.size) := NB.out.heap (h9.block _ (range_lt HVV.out.1 (Nat.succ_pos _)))
        have HVV : Hid (Vr y7 y2.heap.size Z9) := HVV.out.below h9 (range_lt HVV.out.1 (Nat.succ_pos _))
        have HN : Hid (Byt y7 av Z1) := HN.out.below h9
        have HP2 : Hid (Byt y7 (.slice p2 S c2) xs) := y8
        have HY2 : Hid (Byt y7 (.slice u2 32 d2) ys) := y9
        have hS : Below w8.heap.size w8 y7 := hS.trans (h9.mono hS.size)
        clear h9 y8 y9
        refine hK.out _ _ hS (fun _ => ?_)
        simp only [Act.put, List.setIfInBounds_toArray, List.set_cons_zero, List.set_cons_succ]
        clear hK K
        refine take_lawH 5 (some 44) (.tuple #[.agg (pg9 k n c l e t (.slice p2 S c2) (.slice u2 32 d2) true).toArray, .int .i64 0]) rfl rfl (by kernel_rfl) (by kernel_rfl) (by kernel_rfl) (fun _ _ _ h => h) (Or.inl ⟨by rfl, fun w' hw' => by rfl⟩) hS ?_
        simp only [Act.put, List.setIfInBounds_toArray, List.set_cons_zero, List.set_cons_succ]
        refine take_lawH 6 (some 50) (.agg (pg9 k n c l e t (.slice p2 S c2) (.slice u2 32 d2) true).toArray) rfl rfl (by kernel_rfl) (by kernel_rfl) (by kernel_rfl) (fun _ _ _ h => h) (Or.inl ⟨by rfl, fun w' hw' => by rfl⟩) hS ?_
        simp only [Act.put, List.setIfInBounds_toArray, List.set_cons_zero, List.set_cons_succ]
        refine take_lawH 7 (some 51) (.int .i64 0) rfl rfl (by kernel_rfl) (by kernel_rfl) (by kernel_rfl) (fun _ _ _ h => h) (Or.inl ⟨by rfl, fun w' hw' => by rfl⟩) hS ?_
        simp only [Act.put, List.setIfInBounds_toArray, List.set_cons_zero, List.set_cons_succ]
        refine wpAnyH_ready (rs := [9]) (by kernel_rfl) (by simp) ?_
        refine AllReadyH.cons rfl (fun K hK => ?_) AllReadyH.nil
        refine step_storeK _ rfl none rfl (.tmp 13) (.tmp 50) 42 rfl y2.heap.size Z9 (pg9 k n c l e t (.slice p2 S c2) (.slice u2 32 d2) true) rfl rfl HVV.out rfl rowy_page.2 (pg9_one _ _ _ _ _ _ _ _ _ _ _ _ _) ?_
        intro y8 v9 B9 K9
        have HP2 : Hid (Byt y8 (.slice p2 S c2) xs) := byt_nob HP2.out NB.out K9
        have HY2 : Hid (Byt y8 (.slice u2 32 d2) ys) := byt_nob HY2.out NB.out K9
        have HVV : Hid (Vr y8 y2.heap.size (pg9 k n c l e t (.slice p2 S c2) (.slice u2 32 d2) true)) := v9
        have hS : Below w8.heap.size w8 y8 := hS.trans (B9.mono LB.out)
        clear v9 B9 K9
        refine hK.out _ _ hS (fun _ => ?_)
        simp only [Act.put]
        clear hK K
        refine take_lawH 10 (some 14) (.int .i64 0) rfl rfl (by kernel_rfl) (by kernel_rfl) (by kernel_rfl) (fun _ _ _ h => h) (Or.inl ⟨by rfl, fun w' hw' => by rfl⟩) hS ?_
        simp only [Act.put, List.setIfInBounds_toArray, List.set_cons_zero, List.set_cons_succ]
        refine wpAnyH_done (by kernel_rfl) ?_ _
        go_wp2
        go_meet
        exact ⟨_, p2, c2, u2, d2, rfl, rfl, HVV.out, HP2.out, HY2.out, hS⟩
    · refine step_newN _ rfl (some 13) rfl 42 rfl Z9 zero_page (pg9_nob _ _ _ _ _ _ _ _ _ _ _ _ _) ?_
      intro y9 x9 n9 h9
      have HVV : Hid (Vr y9 y1.heap.size Z9) := x9
      have NB : Hid (NoB y9 y1.heap.size) := n9
      have LB : Hid (w8.heap.size ≤ y1.heap.size) := hS.size
      have hS : Below w8.heap.size w8 y9 := hS.trans (h9.mono hS.size)
      clear h9 x9 n9
      refine hK.out _ _ hS (fun _ => ?_)
      simp only [Act.put, List.setIfInBounds_toArray, List.set_cons_zero, List.set_cons_succ]
      clear hK K
      refine wpAnyH_ready (rs := [3]) (by kernel_rfl) (by simp) ?_
      refine AllReadyH.cons rfl (fun K hK => ?_) AllReadyH.nil
      refine step_callW _ (by rfl) (some 48) rfl 22 #[.tmp 46, .tmp 47] #[28, 28] rfl (fun q w' => by rfl) #[.slice mo T mc, .slice co T cc] (by simp only [List.map_toArray, List.map_cons, List.map_nil]; rfl) (fun u w' => Byt w' u Z1 ∧ Below y9.heap.size y9 w') ?_ ?_
      · exact SA.out _ _ _ (HM.out.below hS) (HC.out.below hS)
      rintro av y10 ⟨y9, h9⟩
      have NB : Hid (NoB y10 y1.heap.size) := NB.out.heap (h9.block _ (range_lt HVV.out.1 (Nat.succ_pos _)))
      have HVV : Hid (Vr y10 y1.heap.size Z9) := HVV.out.below h9 (range_lt HVV.out.1 (Nat.succ_pos _))
      have HN : Hid (Byt y10 av Z1) := y9
      have hS : Below w8.heap.size w8 y10 := hS.trans (h9.mono hS.size)
      clear h9 y9
      refine hK.out _ _ hS (fun _ => ?_)
      simp only [Act.put, List.setIfInBounds_toArray, List.set_cons_zero, List.set_cons_succ]
      clear hK K
      refine wpAnyH_ready (rs := [4]) (by kernel_rfl) (by simp) ?_
      refine AllReadyH.cons rfl (fun K hK => ?_) AllReadyH.nil
      refine step_callW _ (by rfl) (some 49) rfl 15 #[.tmp 45, .tmp 48] #[23, 28] rfl (fun q w' => by rfl) #[.agg ([.int .i64 g0, .int .i64 g1, .int .i64 (S : Int), .int .i64 g3, .int .i64 g4, .int .i64 g5] : List Value).toArray, av] (by simp only [List.map_toArray, List.map_cons, List.map_nil]; rfl) (fun u w' => (∃ po pc uo uc, u = .tuple #[.agg (pg9 k n c l e t (.slice po S pc) (.slice uo 32 uc) true).toArray, .int .i64 0] ∧ Byt w' (.slice po S pc) xs ∧ Byt w' (.slice uo 32 uc) ys) ∧ Below y10.heap.size y10 w') ?_ ?_
      · exact SR2.out _ _ (BB.out.trans (hS.mono BB.out.size)) HN.out
      rintro _ y11 ⟨⟨p2, c2, u2, d2, rfl, y8, y9⟩, h9⟩
      have NB : Hid (NoB y11 y1.heap.size) := NB.out.heap (h9.block _ (range_lt HVV.out.1 (Nat.succ_pos _)))
      have HVV : Hid (Vr y11 y1.heap.size Z9) := HVV.out.below h9 (range_lt HVV.out.1 (Nat.succ_pos _))
      have HN : Hid (Byt y11 av Z1) := HN.out.below h9
      have HP2 : Hid (Byt y11 (.slice p2 S c2) xs) := y8
      have HY2 : Hid (Byt y11 (.slice u2 32 d2) ys) := y9
      have hS : Below w8.heap.size w8 y11 := hS.trans (h9.mono hS.size)
      clear h9 y8 y9
      refine hK.out _ _ hS (fun _ => ?_)
      simp only [Act.put, List.setIfInBounds_toArray, List.set_cons_zero, List.set_cons_succ]
      clear hK K
      refine take_lawH 5 (some 44) (.tuple #[.agg (pg9 k n c l e t (.slice p2 S c2) (.slice u2 32 d2) true).toArray, .int .i64 0]) rfl rfl (by kernel_rfl) (by kernel_rfl) (by kernel_rfl) (fun _ _ _ h => h) (Or.inl ⟨by rfl, fun w' hw' => by rfl⟩) hS ?_
      simp only [Act.put, List.setIfInBounds_toArray, List.set_cons_zero, List.set_cons_succ]
      refine take_lawH 6 (some 50) (.agg (pg9 k n c l e t (.slice p2 S c2) (.slice u2 32 d2) true).toArray) rfl rfl (by kernel_rfl) (by kernel_rfl) (by kernel_rfl) (fun _ _ _ h => h) (Or.inl ⟨by rfl, fun w' hw' => by rfl⟩) hS ?_
      simp only [Act.put, List.setIfInBounds_toArray, List.set_cons_zero, List.set_cons_succ]
      refine take_lawH 7 (some 51) (.int .i64 0) rfl rfl (by kernel_rfl) (by kernel_rfl) (by kernel_rfl) (fun _ _ _ h => h) (Or.inl ⟨by rfl, fun w' hw' => by rfl⟩) hS ?_
      simp only [Act.put, List.setIfInBounds_toArray, List.set_cons_zero, List.set_cons_succ]
      refine wpAnyH_ready (rs := [9]) (by kernel_rfl) (by simp) ?_
      refine AllReadyH.cons rfl (fun K hK => ?_) AllReadyH.nil
      refine step_storeK _ rfl none rfl (.tmp 13) (.tmp 50) 42 rfl y1.heap.size Z9 (pg9 k n c l e t (.slice p2 S c2) (.slice u2 32 d2) true) rfl rfl HVV.out rfl rowy_page.2 (pg9_one _ _ _ _ _ _ _ _ _ _ _ _ _) ?_
      intro y12 v9 B9 K9
      have HP2 : Hid (Byt y12 (.slice p2 S c2) xs) := byt_nob HP2.out NB.out K9
      have HY2 : Hid (Byt y12 (.slice u2 32 d2) ys) := byt_nob HY2.out NB.out K9
      have HVV : Hid (Vr y12 y1.heap.size (pg9 k n c l e t (.slice p2 S c2) (.slice u2 32 d2) true)) := v9
      have hS : Below w8.heap.size w8 y12 := hS.trans (B9.mono LB.out)
      clear v9 B9 K9
      refine hK.out _ _ hS (fun _ => ?_)
      simp only [Act.put]
      clear hK K
      refine take_lawH 10 (some 14) (.int .i64 0) rfl rfl (by kernel_rfl) (by kernel_rfl) (by kernel_rfl) (fun _ _ _ h => h) (Or.inl ⟨by rfl, fun w' hw' => by rfl⟩) hS ?_
      simp only [Act.put, List.setIfInBounds_toArray, List.set_cons_zero, List.set_cons_succ]
      refine wpAnyH_done (by kernel_rfl) ?_ _
      go_wp2
      go_meet
      exact ⟨_, p2, c2, u2, d2, rfl, rfl, HVV.out, HP2.out, HY2.out, hS⟩
  case rest =>
    obtain ⟨b13, p2, c2, u2, d2, rfl, rfl, X9, Y8, Y9, hS⟩ := hcut
    clear hb0_0 hb0_1 hb0_2 hb0_3 hb0_4 hb0_5 hb1_0 hb1_1 hb1_2 hb1_3 hb1_4 hb1_5 hb2_0 hb2_1
    have HB0 : Hid (Vr wc w.heap.size [.int .i64 g0, .int .i64 g1, .int .i64 (S : Int), .int .i64 g3, .int .i64 g4, .int .i64 g5]) := HB0.out.below hS (range_lt HB0.out.1 (Nat.succ_pos _))
    have HB1 : Hid (Vr wc w1.heap.size (hv k n c l e t)) := HB1.out.below hS (range_lt HB1.out.1 (Nat.succ_pos _))
    have HB2 : Hid (Vr wc w2.heap.size ([.slice ao S ac, .slice bo 32 bc] : List Value)) := HB2.out.below hS (range_lt HB2.out.1 (Nat.succ_pos _))
    have HM : Hid (Byt wc (.slice mo T mc) Z0) := HM.out.below hS
    have HP1 : Hid (Byt wc (.slice p1 S c1) xs) := HP1.out.below hS
    have HY1 : Hid (Byt wc (.slice u1 32 d1) ys) := HY1.out.below hS
    have HV11 : Hid (Vr wc w6.heap.size (pg9 k n c l e t (.slice p1 S c1) (.slice u1 32 d1) false)) := HV11.out.below hS (range_lt HV11.out.1 (Nat.succ_pos _))
    have HV13 : Hid (Vr wc b13 (pg9 k n c l e t (.slice p2 S c2) (.slice u2 32 d2) true)) := X9
    have HP2 : Hid (Byt wc (.slice p2 S c2) xs) := Y8
    have HY2 : Hid (Byt wc (.slice u2 32 d2) ys) := Y9
    have BB : Hid (Below w.heap.size w wc) := BB.out.trans (hS.mono BB.out.size)
    clear X9 Y8 Y9 hS
    have t60 : (1 : Nat) = 1 := rfl
    have hb1_0 := HB1.out.cell 0 _ rfl
    have hb1_1 := HB1.out.cell 1 _ rfl
    have hb1_2 := HB1.out.cell 2 _ rfl
    have hb1_3 := HB1.out.cell 3 _ rfl
    have hb1_4 := HB1.out.cell 4 _ rfl
    have hb1_5 := HB1.out.cell 5 _ rfl
    have hb2_0 := HB2.out.cell 0 _ rfl
    have hb2_1 := HB2.out.cell 1 _ rfl
    have hv11_0 := HV11.out.cell 0 _ rfl
    have hv11_1 := HV11.out.cell 1 _ rfl
    have hv11_2 := HV11.out.cell 2 _ rfl
    have hv11_3 := HV11.out.cell 3 _ rfl
    have hv11_4 := HV11.out.cell 4 _ rfl
    have hv11_5 := HV11.out.cell 5 _ rfl
    have hv11_6 := HV11.out.cell 6 _ rfl
    have hv11_7 := HV11.out.cell 7 _ rfl
    have hv11_8 := HV11.out.cell 8 _ rfl
    have hv13_0 := HV13.out.cell 0 _ rfl
    have hv13_1 := HV13.out.cell 1 _ rfl
    have hv13_2 := HV13.out.cell 2 _ rfl
    have hv13_3 := HV13.out.cell 3 _ rfl
    have hv13_4 := HV13.out.cell 4 _ rfl
    have hv13_5 := HV13.out.cell 5 _ rfl
    have hv13_6 := HV13.out.cell 6 _ rfl
    have hv13_7 := HV13.out.cell 7 _ rfl
    have hv13_8 := HV13.out.cell 8 _ rfl
    go_wp2_with (first
      | (have q65 := t65; go_at_call 10; refine (awake_any w105 (HT.out.below BB.out)).mono ?_; rintro e9 w106 ⟨rfl, B9⟩; have HB0 : Hid (Vr w106 w.heap.size [.int .i64 g0, .int .i64 g1, .int .i64 (S : Int), .int .i64 g3, .int .i64 g4, .int .i64 g5]) := HB0.out.below B9 (range_lt HB0.out.1 (Nat.succ_pos _)); have HB1 : Hid (Vr w106 w1.heap.size (hv k n c l e t)) := HB1.out.below B9 (range_lt HB1.out.1 (Nat.succ_pos _)); have HB2 : Hid (Vr w106 w2.heap.size ([.slice ao S ac, .slice bo 32 bc] : List Value)) := HB2.out.below B9 (range_lt HB2.out.1 (Nat.succ_pos _)); have HM : Hid (Byt w106 (.slice mo T mc) Z0) := HM.out.below B9; have HP1 : Hid (Byt w106 (.slice p1 S c1) xs) := HP1.out.below B9; have HY1 : Hid (Byt w106 (.slice u1 32 d1) ys) := HY1.out.below B9; have HV11 : Hid (Vr w106 w6.heap.size (pg9 k n c l e t (.slice p1 S c1) (.slice u1 32 d1) false)) := HV11.out.below B9 (range_lt HV11.out.1 (Nat.succ_pos _)); have HV13 : Hid (Vr w106 b13 (pg9 k n c l e t (.slice p2 S c2) (.slice u2 32 d2) true)) := HV13.out.below B9 (range_lt HV13.out.1 (Nat.succ_pos _)); have HP2 : Hid (Byt w106 (.slice p2 S c2) xs) := HP2.out.below B9; have HY2 : Hid (Byt w106 (.slice u2 32 d2) ys) := HY2.out.below B9; have BB : Hid (Below w.heap.size w w106) := BB.out.trans (B9.mono BB.out.size); clear hb1_0 hb1_1 hb1_2 hb1_3 hb1_4 hb1_5 hb2_0 hb2_1 hv11_0 hv11_1 hv11_2 hv11_3 hv11_4 hv11_5 hv11_6 hv11_7 hv11_8 hv13_0 hv13_1 hv13_2 hv13_3 hv13_4 hv13_5 hv13_6 hv13_7 hv13_8; have hb1_0 := HB1.out.cell 0 _ rfl; have hb1_1 := HB1.out.cell 1 _ rfl; have hb1_2 := HB1.out.cell 2 _ rfl; have hb1_3 := HB1.out.cell 3 _ rfl; have hb1_4 := HB1.out.cell 4 _ rfl; have hb1_5 := HB1.out.cell 5 _ rfl; have hb2_0 := HB2.out.cell 0 _ rfl; have hb2_1 := HB2.out.cell 1 _ rfl; have hv11_0 := HV11.out.cell 0 _ rfl; have hv11_1 := HV11.out.cell 1 _ rfl; have hv11_2 := HV11.out.cell 2 _ rfl; have hv11_3 := HV11.out.cell 3 _ rfl; have hv11_4 := HV11.out.cell 4 _ rfl; have hv11_5 := HV11.out.cell 5 _ rfl; have hv11_6 := HV11.out.cell 6 _ rfl; have hv11_7 := HV11.out.cell 7 _ rfl; have hv11_8 := HV11.out.cell 8 _ rfl; have hv13_0 := HV13.out.cell 0 _ rfl; have hv13_1 := HV13.out.cell 1 _ rfl; have hv13_2 := HV13.out.cell 2 _ rfl; have hv13_3 := HV13.out.cell 3 _ rfl; have hv13_4 := HV13.out.cell 4 _ rfl; have hv13_5 := HV13.out.cell 5 _ rfl; have hv13_6 := HV13.out.cell 6 _ rfl; have hv13_7 := HV13.out.cell 7 _ rfl; have hv13_8 := HV13.out.cell 8 _ rfl; clear B9; clear t65; have t66 : (1 : Nat) = 1 := rfl)
      | (have q64 := t64; go_at_call 11; refine (same_yes w104 _ _ ys HY1.out (HYA.out.below BB.out)).mono ?_; rintro e9 w105 ⟨rfl, B9⟩; have HB0 : Hid (Vr w105 w.heap.size [.int .i64 g0, .int .i64 g1, .int .i64 (S : Int), .int .i64 g3, .int .i64 g4, .int .i64 g5]) := HB0.out.below B9 (range_lt HB0.out.1 (Nat.succ_pos _)); have HB1 : Hid (Vr w105 w1.heap.size (hv k n c l e t)) := HB1.out.below B9 (range_lt HB1.out.1 (Nat.succ_pos _)); have HB2 : Hid (Vr w105 w2.heap.size ([.slice ao S ac, .slice bo 32 bc] : List Value)) := HB2.out.below B9 (range_lt HB2.out.1 (Nat.succ_pos _)); have HM : Hid (Byt w105 (.slice mo T mc) Z0) := HM.out.below B9; have HP1 : Hid (Byt w105 (.slice p1 S c1) xs) := HP1.out.below B9; have HY1 : Hid (Byt w105 (.slice u1 32 d1) ys) := HY1.out.below B9; have HV11 : Hid (Vr w105 w6.heap.size (pg9 k n c l e t (.slice p1 S c1) (.slice u1 32 d1) false)) := HV11.out.below B9 (range_lt HV11.out.1 (Nat.succ_pos _)); have HV13 : Hid (Vr w105 b13 (pg9 k n c l e t (.slice p2 S c2) (.slice u2 32 d2) true)) := HV13.out.below B9 (range_lt HV13.out.1 (Nat.succ_pos _)); have HP2 : Hid (Byt w105 (.slice p2 S c2) xs) := HP2.out.below B9; have HY2 : Hid (Byt w105 (.slice u2 32 d2) ys) := HY2.out.below B9; have BB : Hid (Below w.heap.size w w105) := BB.out.trans (B9.mono BB.out.size); clear hb1_0 hb1_1 hb1_2 hb1_3 hb1_4 hb1_5 hb2_0 hb2_1 hv11_0 hv11_1 hv11_2 hv11_3 hv11_4 hv11_5 hv11_6 hv11_7 hv11_8 hv13_0 hv13_1 hv13_2 hv13_3 hv13_4 hv13_5 hv13_6 hv13_7 hv13_8; have hb1_0 := HB1.out.cell 0 _ rfl; have hb1_1 := HB1.out.cell 1 _ rfl; have hb1_2 := HB1.out.cell 2 _ rfl; have hb1_3 := HB1.out.cell 3 _ rfl; have hb1_4 := HB1.out.cell 4 _ rfl; have hb1_5 := HB1.out.cell 5 _ rfl; have hb2_0 := HB2.out.cell 0 _ rfl; have hb2_1 := HB2.out.cell 1 _ rfl; have hv11_0 := HV11.out.cell 0 _ rfl; have hv11_1 := HV11.out.cell 1 _ rfl; have hv11_2 := HV11.out.cell 2 _ rfl; have hv11_3 := HV11.out.cell 3 _ rfl; have hv11_4 := HV11.out.cell 4 _ rfl; have hv11_5 := HV11.out.cell 5 _ rfl; have hv11_6 := HV11.out.cell 6 _ rfl; have hv11_7 := HV11.out.cell 7 _ rfl; have hv11_8 := HV11.out.cell 8 _ rfl; have hv13_0 := HV13.out.cell 0 _ rfl; have hv13_1 := HV13.out.cell 1 _ rfl; have hv13_2 := HV13.out.cell 2 _ rfl; have hv13_3 := HV13.out.cell 3 _ rfl; have hv13_4 := HV13.out.cell 4 _ rfl; have hv13_5 := HV13.out.cell 5 _ rfl; have hv13_6 := HV13.out.cell 6 _ rfl; have hv13_7 := HV13.out.cell 7 _ rfl; have hv13_8 := HV13.out.cell 8 _ rfl; clear B9; clear t64; have t65 : (1 : Nat) = 1 := rfl)
      | (have q63 := t63; go_at_call 11; refine (same_yes w103 _ _ xs HP1.out (HXA.out.below BB.out)).mono ?_; rintro e9 w104 ⟨rfl, B9⟩; have HB0 : Hid (Vr w104 w.heap.size [.int .i64 g0, .int .i64 g1, .int .i64 (S : Int), .int .i64 g3, .int .i64 g4, .int .i64 g5]) := HB0.out.below B9 (range_lt HB0.out.1 (Nat.succ_pos _)); have HB1 : Hid (Vr w104 w1.heap.size (hv k n c l e t)) := HB1.out.below B9 (range_lt HB1.out.1 (Nat.succ_pos _)); have HB2 : Hid (Vr w104 w2.heap.size ([.slice ao S ac, .slice bo 32 bc] : List Value)) := HB2.out.below B9 (range_lt HB2.out.1 (Nat.succ_pos _)); have HM : Hid (Byt w104 (.slice mo T mc) Z0) := HM.out.below B9; have HP1 : Hid (Byt w104 (.slice p1 S c1) xs) := HP1.out.below B9; have HY1 : Hid (Byt w104 (.slice u1 32 d1) ys) := HY1.out.below B9; have HV11 : Hid (Vr w104 w6.heap.size (pg9 k n c l e t (.slice p1 S c1) (.slice u1 32 d1) false)) := HV11.out.below B9 (range_lt HV11.out.1 (Nat.succ_pos _)); have HV13 : Hid (Vr w104 b13 (pg9 k n c l e t (.slice p2 S c2) (.slice u2 32 d2) true)) := HV13.out.below B9 (range_lt HV13.out.1 (Nat.succ_pos _)); have HP2 : Hid (Byt w104 (.slice p2 S c2) xs) := HP2.out.below B9; have HY2 : Hid (Byt w104 (.slice u2 32 d2) ys) := HY2.out.below B9; have BB : Hid (Below w.heap.size w w104) := BB.out.trans (B9.mono BB.out.size); clear hb1_0 hb1_1 hb1_2 hb1_3 hb1_4 hb1_5 hb2_0 hb2_1 hv11_0 hv11_1 hv11_2 hv11_3 hv11_4 hv11_5 hv11_6 hv11_7 hv11_8 hv13_0 hv13_1 hv13_2 hv13_3 hv13_4 hv13_5 hv13_6 hv13_7 hv13_8; have hb1_0 := HB1.out.cell 0 _ rfl; have hb1_1 := HB1.out.cell 1 _ rfl; have hb1_2 := HB1.out.cell 2 _ rfl; have hb1_3 := HB1.out.cell 3 _ rfl; have hb1_4 := HB1.out.cell 4 _ rfl; have hb1_5 := HB1.out.cell 5 _ rfl; have hb2_0 := HB2.out.cell 0 _ rfl; have hb2_1 := HB2.out.cell 1 _ rfl; have hv11_0 := HV11.out.cell 0 _ rfl; have hv11_1 := HV11.out.cell 1 _ rfl; have hv11_2 := HV11.out.cell 2 _ rfl; have hv11_3 := HV11.out.cell 3 _ rfl; have hv11_4 := HV11.out.cell 4 _ rfl; have hv11_5 := HV11.out.cell 5 _ rfl; have hv11_6 := HV11.out.cell 6 _ rfl; have hv11_7 := HV11.out.cell 7 _ rfl; have hv11_8 := HV11.out.cell 8 _ rfl; have hv13_0 := HV13.out.cell 0 _ rfl; have hv13_1 := HV13.out.cell 1 _ rfl; have hv13_2 := HV13.out.cell 2 _ rfl; have hv13_3 := HV13.out.cell 3 _ rfl; have hv13_4 := HV13.out.cell 4 _ rfl; have hv13_5 := HV13.out.cell 5 _ rfl; have hv13_6 := HV13.out.cell 6 _ rfl; have hv13_7 := HV13.out.cell 7 _ rfl; have hv13_8 := HV13.out.cell 8 _ rfl; clear B9; clear t63; have t64 : (1 : Nat) = 1 := rfl)
      | (have q62 := t62; go_at_call 11; refine (same_yes w102 _ _ ys HY1.out HY2.out).mono ?_; rintro e9 w103 ⟨rfl, B9⟩; have HB0 : Hid (Vr w103 w.heap.size [.int .i64 g0, .int .i64 g1, .int .i64 (S : Int), .int .i64 g3, .int .i64 g4, .int .i64 g5]) := HB0.out.below B9 (range_lt HB0.out.1 (Nat.succ_pos _)); have HB1 : Hid (Vr w103 w1.heap.size (hv k n c l e t)) := HB1.out.below B9 (range_lt HB1.out.1 (Nat.succ_pos _)); have HB2 : Hid (Vr w103 w2.heap.size ([.slice ao S ac, .slice bo 32 bc] : List Value)) := HB2.out.below B9 (range_lt HB2.out.1 (Nat.succ_pos _)); have HM : Hid (Byt w103 (.slice mo T mc) Z0) := HM.out.below B9; have HP1 : Hid (Byt w103 (.slice p1 S c1) xs) := HP1.out.below B9; have HY1 : Hid (Byt w103 (.slice u1 32 d1) ys) := HY1.out.below B9; have HV11 : Hid (Vr w103 w6.heap.size (pg9 k n c l e t (.slice p1 S c1) (.slice u1 32 d1) false)) := HV11.out.below B9 (range_lt HV11.out.1 (Nat.succ_pos _)); have HV13 : Hid (Vr w103 b13 (pg9 k n c l e t (.slice p2 S c2) (.slice u2 32 d2) true)) := HV13.out.below B9 (range_lt HV13.out.1 (Nat.succ_pos _)); have HP2 : Hid (Byt w103 (.slice p2 S c2) xs) := HP2.out.below B9; have HY2 : Hid (Byt w103 (.slice u2 32 d2) ys) := HY2.out.below B9; have BB : Hid (Below w.heap.size w w103) := BB.out.trans (B9.mono BB.out.size); clear hb1_0 hb1_1 hb1_2 hb1_3 hb1_4 hb1_5 hb2_0 hb2_1 hv11_0 hv11_1 hv11_2 hv11_3 hv11_4 hv11_5 hv11_6 hv11_7 hv11_8 hv13_0 hv13_1 hv13_2 hv13_3 hv13_4 hv13_5 hv13_6 hv13_7 hv13_8; have hb1_0 := HB1.out.cell 0 _ rfl; have hb1_1 := HB1.out.cell 1 _ rfl; have hb1_2 := HB1.out.cell 2 _ rfl; have hb1_3 := HB1.out.cell 3 _ rfl; have hb1_4 := HB1.out.cell 4 _ rfl; have hb1_5 := HB1.out.cell 5 _ rfl; have hb2_0 := HB2.out.cell 0 _ rfl; have hb2_1 := HB2.out.cell 1 _ rfl; have hv11_0 := HV11.out.cell 0 _ rfl; have hv11_1 := HV11.out.cell 1 _ rfl; have hv11_2 := HV11.out.cell 2 _ rfl; have hv11_3 := HV11.out.cell 3 _ rfl; have hv11_4 := HV11.out.cell 4 _ rfl; have hv11_5 := HV11.out.cell 5 _ rfl; have hv11_6 := HV11.out.cell 6 _ rfl; have hv11_7 := HV11.out.cell 7 _ rfl; have hv11_8 := HV11.out.cell 8 _ rfl; have hv13_0 := HV13.out.cell 0 _ rfl; have hv13_1 := HV13.out.cell 1 _ rfl; have hv13_2 := HV13.out.cell 2 _ rfl; have hv13_3 := HV13.out.cell 3 _ rfl; have hv13_4 := HV13.out.cell 4 _ rfl; have hv13_5 := HV13.out.cell 5 _ rfl; have hv13_6 := HV13.out.cell 6 _ rfl; have hv13_7 := HV13.out.cell 7 _ rfl; have hv13_8 := HV13.out.cell 8 _ rfl; clear B9; clear t62; have t63 : (1 : Nat) = 1 := rfl)
      | (have q61 := t61; go_at_call 11; refine (same_yes w101 _ _ xs HP1.out HP2.out).mono ?_; rintro e9 w102 ⟨rfl, B9⟩; have HB0 : Hid (Vr w102 w.heap.size [.int .i64 g0, .int .i64 g1, .int .i64 (S : Int), .int .i64 g3, .int .i64 g4, .int .i64 g5]) := HB0.out.below B9 (range_lt HB0.out.1 (Nat.succ_pos _)); have HB1 : Hid (Vr w102 w1.heap.size (hv k n c l e t)) := HB1.out.below B9 (range_lt HB1.out.1 (Nat.succ_pos _)); have HB2 : Hid (Vr w102 w2.heap.size ([.slice ao S ac, .slice bo 32 bc] : List Value)) := HB2.out.below B9 (range_lt HB2.out.1 (Nat.succ_pos _)); have HM : Hid (Byt w102 (.slice mo T mc) Z0) := HM.out.below B9; have HP1 : Hid (Byt w102 (.slice p1 S c1) xs) := HP1.out.below B9; have HY1 : Hid (Byt w102 (.slice u1 32 d1) ys) := HY1.out.below B9; have HV11 : Hid (Vr w102 w6.heap.size (pg9 k n c l e t (.slice p1 S c1) (.slice u1 32 d1) false)) := HV11.out.below B9 (range_lt HV11.out.1 (Nat.succ_pos _)); have HV13 : Hid (Vr w102 b13 (pg9 k n c l e t (.slice p2 S c2) (.slice u2 32 d2) true)) := HV13.out.below B9 (range_lt HV13.out.1 (Nat.succ_pos _)); have HP2 : Hid (Byt w102 (.slice p2 S c2) xs) := HP2.out.below B9; have HY2 : Hid (Byt w102 (.slice u2 32 d2) ys) := HY2.out.below B9; have BB : Hid (Below w.heap.size w w102) := BB.out.trans (B9.mono BB.out.size); clear hb1_0 hb1_1 hb1_2 hb1_3 hb1_4 hb1_5 hb2_0 hb2_1 hv11_0 hv11_1 hv11_2 hv11_3 hv11_4 hv11_5 hv11_6 hv11_7 hv11_8 hv13_0 hv13_1 hv13_2 hv13_3 hv13_4 hv13_5 hv13_6 hv13_7 hv13_8; have hb1_0 := HB1.out.cell 0 _ rfl; have hb1_1 := HB1.out.cell 1 _ rfl; have hb1_2 := HB1.out.cell 2 _ rfl; have hb1_3 := HB1.out.cell 3 _ rfl; have hb1_4 := HB1.out.cell 4 _ rfl; have hb1_5 := HB1.out.cell 5 _ rfl; have hb2_0 := HB2.out.cell 0 _ rfl; have hb2_1 := HB2.out.cell 1 _ rfl; have hv11_0 := HV11.out.cell 0 _ rfl; have hv11_1 := HV11.out.cell 1 _ rfl; have hv11_2 := HV11.out.cell 2 _ rfl; have hv11_3 := HV11.out.cell 3 _ rfl; have hv11_4 := HV11.out.cell 4 _ rfl; have hv11_5 := HV11.out.cell 5 _ rfl; have hv11_6 := HV11.out.cell 6 _ rfl; have hv11_7 := HV11.out.cell 7 _ rfl; have hv11_8 := HV11.out.cell 8 _ rfl; have hv13_0 := HV13.out.cell 0 _ rfl; have hv13_1 := HV13.out.cell 1 _ rfl; have hv13_2 := HV13.out.cell 2 _ rfl; have hv13_3 := HV13.out.cell 3 _ rfl; have hv13_4 := HV13.out.cell 4 _ rfl; have hv13_5 := HV13.out.cell 5 _ rfl; have hv13_6 := HV13.out.cell 6 _ rfl; have hv13_7 := HV13.out.cell 7 _ rfl; have hv13_8 := HV13.out.cell 8 _ rfl; clear B9; clear t61; have t62 : (1 : Nat) = 1 := rfl)
      | (have q60 := t60; go_at_call 17; refine (blank_no wc _ Z0 HM.out ZN.out).mono ?_; rintro e9 w101 ⟨rfl, B9⟩; have HB0 : Hid (Vr w101 w.heap.size [.int .i64 g0, .int .i64 g1, .int .i64 (S : Int), .int .i64 g3, .int .i64 g4, .int .i64 g5]) := HB0.out.below B9 (range_lt HB0.out.1 (Nat.succ_pos _)); have HB1 : Hid (Vr w101 w1.heap.size (hv k n c l e t)) := HB1.out.below B9 (range_lt HB1.out.1 (Nat.succ_pos _)); have HB2 : Hid (Vr w101 w2.heap.size ([.slice ao S ac, .slice bo 32 bc] : List Value)) := HB2.out.below B9 (range_lt HB2.out.1 (Nat.succ_pos _)); have HM : Hid (Byt w101 (.slice mo T mc) Z0) := HM.out.below B9; have HP1 : Hid (Byt w101 (.slice p1 S c1) xs) := HP1.out.below B9; have HY1 : Hid (Byt w101 (.slice u1 32 d1) ys) := HY1.out.below B9; have HV11 : Hid (Vr w101 w6.heap.size (pg9 k n c l e t (.slice p1 S c1) (.slice u1 32 d1) false)) := HV11.out.below B9 (range_lt HV11.out.1 (Nat.succ_pos _)); have HV13 : Hid (Vr w101 b13 (pg9 k n c l e t (.slice p2 S c2) (.slice u2 32 d2) true)) := HV13.out.below B9 (range_lt HV13.out.1 (Nat.succ_pos _)); have HP2 : Hid (Byt w101 (.slice p2 S c2) xs) := HP2.out.below B9; have HY2 : Hid (Byt w101 (.slice u2 32 d2) ys) := HY2.out.below B9; have BB : Hid (Below w.heap.size w w101) := BB.out.trans (B9.mono BB.out.size); clear hb1_0 hb1_1 hb1_2 hb1_3 hb1_4 hb1_5 hb2_0 hb2_1 hv11_0 hv11_1 hv11_2 hv11_3 hv11_4 hv11_5 hv11_6 hv11_7 hv11_8 hv13_0 hv13_1 hv13_2 hv13_3 hv13_4 hv13_5 hv13_6 hv13_7 hv13_8; have hb1_0 := HB1.out.cell 0 _ rfl; have hb1_1 := HB1.out.cell 1 _ rfl; have hb1_2 := HB1.out.cell 2 _ rfl; have hb1_3 := HB1.out.cell 3 _ rfl; have hb1_4 := HB1.out.cell 4 _ rfl; have hb1_5 := HB1.out.cell 5 _ rfl; have hb2_0 := HB2.out.cell 0 _ rfl; have hb2_1 := HB2.out.cell 1 _ rfl; have hv11_0 := HV11.out.cell 0 _ rfl; have hv11_1 := HV11.out.cell 1 _ rfl; have hv11_2 := HV11.out.cell 2 _ rfl; have hv11_3 := HV11.out.cell 3 _ rfl; have hv11_4 := HV11.out.cell 4 _ rfl; have hv11_5 := HV11.out.cell 5 _ rfl; have hv11_6 := HV11.out.cell 6 _ rfl; have hv11_7 := HV11.out.cell 7 _ rfl; have hv11_8 := HV11.out.cell 8 _ rfl; have hv13_0 := HV13.out.cell 0 _ rfl; have hv13_1 := HV13.out.cell 1 _ rfl; have hv13_2 := HV13.out.cell 2 _ rfl; have hv13_3 := HV13.out.cell 3 _ rfl; have hv13_4 := HV13.out.cell 4 _ rfl; have hv13_5 := HV13.out.cell 5 _ rfl; have hv13_6 := HV13.out.cell 6 _ rfl; have hv13_7 := HV13.out.cell 7 _ rfl; have hv13_8 := HV13.out.cell 8 _ rfl; clear B9; clear t60; have t61 : (1 : Nat) = 1 := rfl))
    go_ret
    exact ⟨rfl, BB.out⟩

set_option maxHeartbeats 8000000 in
theorem walk (g : List Int) (k n c l e t : Int) (va : Value) (xs : List Int) (vb : Value) (ys : List Int) (w : World) (hg : g.length = 6) (hH : Hb l e t) (ha : Byt w va xs) (hy : Byt w vb ys) (hT : Tab w) :
    Calls Tryd.prog 5 #[.agg (ints .i64 g), .agg (hv k n c l e t).toArray, .agg #[va, vb]] w fun x w' => x = .returned (.bool true) ∧ Below w.heap.size w w' := by
  obtain ⟨g0, g1, g2, g3, g4, g5, rfl⟩ : ∃ g0 g1 g2 g3 g4 g5, g = [g0, g1, g2, g3, g4, g5] := by
    match g, hg with
    | [g0, g1, g2, g3, g4, g5], _ => exact ⟨g0, g1, g2, g3, g4, g5, rfl⟩
  obtain ⟨ao, ac, rfl⟩ : ∃ ao cap, va = .slice ao xs.length cap := by obtain ⟨ao, cap, e, _⟩ := ha; exact ⟨ao, cap, e⟩
  obtain ⟨bo, bc, rfl⟩ : ∃ ao cap, vb = .slice ao ys.length cap := by obtain ⟨ao, cap, e, _⟩ := hy; exact ⟨ao, cap, e⟩
  have HT : Hid (Tab w) := hT
  by_cases hr : ge.Rt [g0, g1, g2, g3, g4, g5]
  · obtain ⟨S, rfl, s1, s2⟩ := sec_of hr
    by_cases hh : Rh k n c ∧ (xs.length = 0 ∨ xs.length = S) ∧ (ys.length = 0 ∨ ys.length = 32)
    · obtain ⟨hk, hl, hn⟩ := hh
      rcases hl with hl | hl
      · rcases hn with hn | hn
        · rw [hl] at ha ⊢
          rw [hn] at hy ⊢
          exact back_ee g0 g1 g3 g4 g5 S k n c l e t ao bo ac bc xs ys w hH ha hy hT hr hk hl hn
        · rw [hl] at ha ⊢
          rw [hn] at hy ⊢
          exact back_ef g0 g1 g3 g4 g5 S k n c l e t ao bo ac bc xs ys w hH ha hy hT hr hk hl hn
      · rcases hn with hn | hn
        · rw [hl] at ha ⊢
          rw [hn] at hy ⊢
          exact back_fe g0 g1 g3 g4 g5 S k n c l e t ao bo ac bc xs ys w hH ha hy hT hr hk hl hn
        · rw [hl] at ha ⊢
          rw [hn] at hy ⊢
          exact back_ff g0 g1 g3 g4 g5 S k n c l e t ao bo ac bc xs ys w hH ha hy hT hr hk hl hn
    · have SM : Hid (∀ w0, Below w.heap.size w w0 → Calls Tryd.prog 7 #[.agg (ints .i64 [g0, g1, (S : Int), g3, g4, g5]), .agg (hv k n c l e t).toArray, .slice ao xs.length ac, .slice bo ys.length bc] w0 fun x w' => x = .returned (.tuple #[.slice none 0 0, .int .i64 2]) ∧ Below w0.heap.size w0 w') := fun w0 hw => make_no g0 g1 g3 g4 g5 S k n c l e t _ _ xs ys w0 (ha.below hw) (hy.below hw) hH (hT.below hw) fun q => hh ⟨q.2.2.1, q.2.1, q.2.2.2⟩
      clear hr hT s1 s2 hg hH ha hy hh
      have t0 : (0 : Nat) = 0 := rfl
      go_enter Tryd.func5, Tryd.ntmps5
      go_wp2_with (first
        | (have q4 := t4; go_at_call 10; refine (awake_any w4 (HT.out.below BB.out)).mono ?_; rintro e9 w5 ⟨rfl, B9⟩; have HB0 : Hid (Vr w5 w.heap.size [.int .i64 g0, .int .i64 g1, .int .i64 (S : Int), .int .i64 g3, .int .i64 g4, .int .i64 g5]) := HB0.out.below B9 (range_lt HB0.out.1 (Nat.succ_pos _)); have HB1 : Hid (Vr w5 w1.heap.size (hv k n c l e t)) := HB1.out.below B9 (range_lt HB1.out.1 (Nat.succ_pos _)); have HB2 : Hid (Vr w5 w2.heap.size ([.slice ao xs.length ac, .slice bo ys.length bc] : List Value)) := HB2.out.below B9 (range_lt HB2.out.1 (Nat.succ_pos _)); have BB : Hid (Below w.heap.size w w5) := BB.out.trans (B9.mono BB.out.size); clear hb0_0 hb0_1 hb0_2 hb0_3 hb0_4 hb0_5 hb1_0 hb1_1 hb1_2 hb1_3 hb1_4 hb1_5 hb2_0 hb2_1; have hb0_0 := HB0.out.cell 0 _ rfl; have hb0_1 := HB0.out.cell 1 _ rfl; have hb0_2 := HB0.out.cell 2 _ rfl; have hb0_3 := HB0.out.cell 3 _ rfl; have hb0_4 := HB0.out.cell 4 _ rfl; have hb0_5 := HB0.out.cell 5 _ rfl; have hb1_0 := HB1.out.cell 0 _ rfl; have hb1_1 := HB1.out.cell 1 _ rfl; have hb1_2 := HB1.out.cell 2 _ rfl; have hb1_3 := HB1.out.cell 3 _ rfl; have hb1_4 := HB1.out.cell 4 _ rfl; have hb1_5 := HB1.out.cell 5 _ rfl; have hb2_0 := HB2.out.cell 0 _ rfl; have hb2_1 := HB2.out.cell 1 _ rfl; clear B9; clear t4; have t5 : (1 : Nat) = 1 := rfl)
        | (have q3 := t3; go_at_call 7; refine (SM.out w3 BB.out).mono ?_; rintro e9 w4 ⟨rfl, B9⟩; have HB0 : Hid (Vr w4 w.heap.size [.int .i64 g0, .int .i64 g1, .int .i64 (S : Int), .int .i64 g3, .int .i64 g4, .int .i64 g5]) := HB0.out.below B9 (range_lt HB0.out.1 (Nat.succ_pos _)); have HB1 : Hid (Vr w4 w1.heap.size (hv k n c l e t)) := HB1.out.below B9 (range_lt HB1.out.1 (Nat.succ_pos _)); have HB2 : Hid (Vr w4 w2.heap.size ([.slice ao xs.length ac, .slice bo ys.length bc] : List Value)) := HB2.out.below B9 (range_lt HB2.out.1 (Nat.succ_pos _)); have BB : Hid (Below w.heap.size w w4) := BB.out.trans (B9.mono BB.out.size); clear hb0_0 hb0_1 hb0_2 hb0_3 hb0_4 hb0_5 hb1_0 hb1_1 hb1_2 hb1_3 hb1_4 hb1_5 hb2_0 hb2_1; have hb0_0 := HB0.out.cell 0 _ rfl; have hb0_1 := HB0.out.cell 1 _ rfl; have hb0_2 := HB0.out.cell 2 _ rfl; have hb0_3 := HB0.out.cell 3 _ rfl; have hb0_4 := HB0.out.cell 4 _ rfl; have hb0_5 := HB0.out.cell 5 _ rfl; have hb1_0 := HB1.out.cell 0 _ rfl; have hb1_1 := HB1.out.cell 1 _ rfl; have hb1_2 := HB1.out.cell 2 _ rfl; have hb1_3 := HB1.out.cell 3 _ rfl; have hb1_4 := HB1.out.cell 4 _ rfl; have hb1_5 := HB1.out.cell 5 _ rfl; have hb2_0 := HB2.out.cell 0 _ rfl; have hb2_1 := HB2.out.cell 1 _ rfl; clear B9; clear t3; have t4 : (1 : Nat) = 1 := rfl)
        | (have q2 := t2; refine box_lawC _ ([.slice ao xs.length ac, .slice bo ys.length bc] : List Value) rfl ?_; intro w3 X9 B9 l9; have HB0 : Hid (Vr w3 w.heap.size [.int .i64 g0, .int .i64 g1, .int .i64 (S : Int), .int .i64 g3, .int .i64 g4, .int .i64 g5]) := HB0.out.below B9 (range_lt HB0.out.1 (Nat.succ_pos _)); have HB1 : Hid (Vr w3 w1.heap.size (hv k n c l e t)) := HB1.out.below B9 (range_lt HB1.out.1 (Nat.succ_pos _)); have HB2 : Hid (Vr w3 w2.heap.size ([.slice ao xs.length ac, .slice bo ys.length bc] : List Value)) := X9; have BB : Hid (Below w.heap.size w w3) := BB.out.trans (B9.mono BB.out.size); have hb0_0 := HB0.out.cell 0 _ rfl; have hb0_1 := HB0.out.cell 1 _ rfl; have hb0_2 := HB0.out.cell 2 _ rfl; have hb0_3 := HB0.out.cell 3 _ rfl; have hb0_4 := HB0.out.cell 4 _ rfl; have hb0_5 := HB0.out.cell 5 _ rfl; have hb1_0 := HB1.out.cell 0 _ rfl; have hb1_1 := HB1.out.cell 1 _ rfl; have hb1_2 := HB1.out.cell 2 _ rfl; have hb1_3 := HB1.out.cell 3 _ rfl; have hb1_4 := HB1.out.cell 4 _ rfl; have hb1_5 := HB1.out.cell 5 _ rfl; have hb2_0 := HB2.out.cell 0 _ rfl; have hb2_1 := HB2.out.cell 1 _ rfl; clear X9 B9 l9; clear t2; have t3 : (1 : Nat) = 1 := rfl)
        | (have q1 := t1; refine box_lawC _ (hv k n c l e t) rfl ?_; intro w2 X9 B9 l9; have HB0 : Hid (Vr w2 w.heap.size [.int .i64 g0, .int .i64 g1, .int .i64 (S : Int), .int .i64 g3, .int .i64 g4, .int .i64 g5]) := HB0.out.below B9 (range_lt HB0.out.1 (Nat.succ_pos _)); have HB1 : Hid (Vr w2 w1.heap.size (hv k n c l e t)) := X9; have BB : Hid (Below w.heap.size w w2) := BB.out.trans (B9.mono BB.out.size); clear X9 B9 l9; clear t1; have t2 : (1 : Nat) = 1 := rfl)
        | (have q0 := t0; refine box_lawC _ [.int .i64 g0, .int .i64 g1, .int .i64 (S : Int), .int .i64 g3, .int .i64 g4, .int .i64 g5] rfl ?_; intro w1 X9 B9 l9; have HB0 : Hid (Vr w1 w.heap.size [.int .i64 g0, .int .i64 g1, .int .i64 (S : Int), .int .i64 g3, .int .i64 g4, .int .i64 g5]) := X9; have BB : Hid (Below w.heap.size w w1) := B9; clear X9 B9 l9; clear t0; have t1 : (1 : Nat) = 1 := rfl))
      go_ret
      exact ⟨rfl, BB.out⟩
  · have SM : Hid (∀ w0, Below w.heap.size w w0 → Calls Tryd.prog 7 #[.agg (ints .i64 [g0, g1, g2, g3, g4, g5]), .agg (hv k n c l e t).toArray, .slice ao xs.length ac, .slice bo ys.length bc] w0 fun x w' => x = .returned (.tuple #[.slice none 0 0, .int .i64 2]) ∧ Below w0.heap.size w0 w') := fun w0 hw => make_geo g0 g1 g2 g3 g4 g5 k n c l e t _ _ xs ys w0 (ha.below hw) (hy.below hw) hH (hT.below hw) hr
    clear hr hT hg hH ha hy
    have t0 : (0 : Nat) = 0 := rfl
    go_enter Tryd.func5, Tryd.ntmps5
    go_wp2_with (first
      | (have q4 := t4; go_at_call 10; refine (awake_any w4 (HT.out.below BB.out)).mono ?_; rintro e9 w5 ⟨rfl, B9⟩; have HB0 : Hid (Vr w5 w.heap.size [.int .i64 g0, .int .i64 g1, .int .i64 g2, .int .i64 g3, .int .i64 g4, .int .i64 g5]) := HB0.out.below B9 (range_lt HB0.out.1 (Nat.succ_pos _)); have HB1 : Hid (Vr w5 w1.heap.size (hv k n c l e t)) := HB1.out.below B9 (range_lt HB1.out.1 (Nat.succ_pos _)); have HB2 : Hid (Vr w5 w2.heap.size ([.slice ao xs.length ac, .slice bo ys.length bc] : List Value)) := HB2.out.below B9 (range_lt HB2.out.1 (Nat.succ_pos _)); have BB : Hid (Below w.heap.size w w5) := BB.out.trans (B9.mono BB.out.size); clear hb0_0 hb0_1 hb0_2 hb0_3 hb0_4 hb0_5 hb1_0 hb1_1 hb1_2 hb1_3 hb1_4 hb1_5 hb2_0 hb2_1; have hb0_0 := HB0.out.cell 0 _ rfl; have hb0_1 := HB0.out.cell 1 _ rfl; have hb0_2 := HB0.out.cell 2 _ rfl; have hb0_3 := HB0.out.cell 3 _ rfl; have hb0_4 := HB0.out.cell 4 _ rfl; have hb0_5 := HB0.out.cell 5 _ rfl; have hb1_0 := HB1.out.cell 0 _ rfl; have hb1_1 := HB1.out.cell 1 _ rfl; have hb1_2 := HB1.out.cell 2 _ rfl; have hb1_3 := HB1.out.cell 3 _ rfl; have hb1_4 := HB1.out.cell 4 _ rfl; have hb1_5 := HB1.out.cell 5 _ rfl; have hb2_0 := HB2.out.cell 0 _ rfl; have hb2_1 := HB2.out.cell 1 _ rfl; clear B9; clear t4; have t5 : (1 : Nat) = 1 := rfl)
      | (have q3 := t3; go_at_call 7; refine (SM.out w3 BB.out).mono ?_; rintro e9 w4 ⟨rfl, B9⟩; have HB0 : Hid (Vr w4 w.heap.size [.int .i64 g0, .int .i64 g1, .int .i64 g2, .int .i64 g3, .int .i64 g4, .int .i64 g5]) := HB0.out.below B9 (range_lt HB0.out.1 (Nat.succ_pos _)); have HB1 : Hid (Vr w4 w1.heap.size (hv k n c l e t)) := HB1.out.below B9 (range_lt HB1.out.1 (Nat.succ_pos _)); have HB2 : Hid (Vr w4 w2.heap.size ([.slice ao xs.length ac, .slice bo ys.length bc] : List Value)) := HB2.out.below B9 (range_lt HB2.out.1 (Nat.succ_pos _)); have BB : Hid (Below w.heap.size w w4) := BB.out.trans (B9.mono BB.out.size); clear hb0_0 hb0_1 hb0_2 hb0_3 hb0_4 hb0_5 hb1_0 hb1_1 hb1_2 hb1_3 hb1_4 hb1_5 hb2_0 hb2_1; have hb0_0 := HB0.out.cell 0 _ rfl; have hb0_1 := HB0.out.cell 1 _ rfl; have hb0_2 := HB0.out.cell 2 _ rfl; have hb0_3 := HB0.out.cell 3 _ rfl; have hb0_4 := HB0.out.cell 4 _ rfl; have hb0_5 := HB0.out.cell 5 _ rfl; have hb1_0 := HB1.out.cell 0 _ rfl; have hb1_1 := HB1.out.cell 1 _ rfl; have hb1_2 := HB1.out.cell 2 _ rfl; have hb1_3 := HB1.out.cell 3 _ rfl; have hb1_4 := HB1.out.cell 4 _ rfl; have hb1_5 := HB1.out.cell 5 _ rfl; have hb2_0 := HB2.out.cell 0 _ rfl; have hb2_1 := HB2.out.cell 1 _ rfl; clear B9; clear t3; have t4 : (1 : Nat) = 1 := rfl)
      | (have q2 := t2; refine box_lawC _ ([.slice ao xs.length ac, .slice bo ys.length bc] : List Value) rfl ?_; intro w3 X9 B9 l9; have HB0 : Hid (Vr w3 w.heap.size [.int .i64 g0, .int .i64 g1, .int .i64 g2, .int .i64 g3, .int .i64 g4, .int .i64 g5]) := HB0.out.below B9 (range_lt HB0.out.1 (Nat.succ_pos _)); have HB1 : Hid (Vr w3 w1.heap.size (hv k n c l e t)) := HB1.out.below B9 (range_lt HB1.out.1 (Nat.succ_pos _)); have HB2 : Hid (Vr w3 w2.heap.size ([.slice ao xs.length ac, .slice bo ys.length bc] : List Value)) := X9; have BB : Hid (Below w.heap.size w w3) := BB.out.trans (B9.mono BB.out.size); have hb0_0 := HB0.out.cell 0 _ rfl; have hb0_1 := HB0.out.cell 1 _ rfl; have hb0_2 := HB0.out.cell 2 _ rfl; have hb0_3 := HB0.out.cell 3 _ rfl; have hb0_4 := HB0.out.cell 4 _ rfl; have hb0_5 := HB0.out.cell 5 _ rfl; have hb1_0 := HB1.out.cell 0 _ rfl; have hb1_1 := HB1.out.cell 1 _ rfl; have hb1_2 := HB1.out.cell 2 _ rfl; have hb1_3 := HB1.out.cell 3 _ rfl; have hb1_4 := HB1.out.cell 4 _ rfl; have hb1_5 := HB1.out.cell 5 _ rfl; have hb2_0 := HB2.out.cell 0 _ rfl; have hb2_1 := HB2.out.cell 1 _ rfl; clear X9 B9 l9; clear t2; have t3 : (1 : Nat) = 1 := rfl)
      | (have q1 := t1; refine box_lawC _ (hv k n c l e t) rfl ?_; intro w2 X9 B9 l9; have HB0 : Hid (Vr w2 w.heap.size [.int .i64 g0, .int .i64 g1, .int .i64 g2, .int .i64 g3, .int .i64 g4, .int .i64 g5]) := HB0.out.below B9 (range_lt HB0.out.1 (Nat.succ_pos _)); have HB1 : Hid (Vr w2 w1.heap.size (hv k n c l e t)) := X9; have BB : Hid (Below w.heap.size w w2) := BB.out.trans (B9.mono BB.out.size); clear X9 B9 l9; clear t1; have t2 : (1 : Nat) = 1 := rfl)
      | (have q0 := t0; refine box_lawC _ [.int .i64 g0, .int .i64 g1, .int .i64 g2, .int .i64 g3, .int .i64 g4, .int .i64 g5] rfl ?_; intro w1 X9 B9 l9; have HB0 : Hid (Vr w1 w.heap.size [.int .i64 g0, .int .i64 g1, .int .i64 g2, .int .i64 g3, .int .i64 g4, .int .i64 g5]) := X9; have BB : Hid (Below w.heap.size w w1) := B9; clear X9 B9 l9; clear t0; have t1 : (1 : Nat) = 1 := rfl))
    go_ret
    exact ⟨rfl, BB.out⟩

theorem params : ∀ t ∈ Tryd.f5.params.toList, Tryd.prog.readableRec t = true ∧ t < Tryd.prog.types.size := by
  rw [Tryd.params5]
  intro t ht
  simp at ht
  rcases ht with rfl | rfl | rfl
  · exact ⟨by kernel_rfl, of_decide_eq_true (by kernel_rfl)⟩
  · exact ⟨by kernel_rfl, of_decide_eq_true (by kernel_rfl)⟩
  · exact ⟨by kernel_rfl, of_decide_eq_true (by kernel_rfl)⟩

theorem contract (H : Type) (enc : TypeId × Value → H) (W : World) (base : Nat) (args : Array Value) (ds gs : List (DataW H)) (before : List MemPlace)
    (hval : ∀ (j : Nat) t v, Tryd.f5.params[j]? = some t → args[j]? = some v → Value.okWide Tryd.prog W .any base t v)
    (hW : DataW.Whole enc Tryd.prog Tryd.f5.params.toList Rows.pageBackSpec.vars false W args.toList ds gs before) (hL : laidMetH Tryd.prog Rows.pageBackRow.laid W) :
    Calls Tryd.prog 5 args W fun e W' => ∃ v, e = .returned v ∧ Rows.pageBackSpec.post enc Tryd.prog Tryd.f5 false true false false W args v W' := by
  have hW' := hW
  obtain ⟨p, q, hA0, hV, rfl, hfz, hnd⟩ := hW
  have hA : DataW.TrodAll enc Tryd.prog W 0 (fun _ => true) true Tryd.f5.params.toList args.toList ds p := hA0
  rw [Tryd.params5] at hA hval
  obtain ⟨v0, v1, v2, d0, d1, d2, p0, p1, p2, rfl, rfl, rfl, h0, h1, h2⟩ := trodAll_three hA
  obtain ⟨rfl, rfl⟩ := trodVars_none hV
  obtain ⟨g0, rfl, n0⟩ := ge.geo_open (hval 0 23 v0 rfl rfl) h0
  obtain ⟨hk1, hn1, hc1, hl1, he1, ht1, rfl, hf1⟩ := head_open (hval 1 27 v1 rfl rfl) h1
  obtain ⟨va2, vb2, xs2, ys2, rfl, b2, c2⟩ := pair_open (hval 2 29 v2 rfl rfl) h2
  clear hA0
  refine (walk g0 hk1 hn1 hc1 hl1 he1 ht1 va2 xs2 vb2 ys2 W n0 hf1 b2 c2 (table hL)).mono fun e W' ⟨he, hg⟩ => ?_
  subst he
  exact ⟨_, rfl, post_law rfl (by kernel_rfl) params rfl rfl rfl hW' hg⟩

theorem laid_met (os : Os) : laidMet Tryd.prog Rows.pageBackRow.laid (({ World.holding Tryd.prog os ⟨#[], #[], []⟩ with heap := (World.holding Tryd.prog os ⟨#[], #[], []⟩).heap.modify 0 fun | .cells _ t frozen => .cells #[.int .i64 1, .int .i64 1, .int .i64 1, .int .i64 1, .int .i64 4, .int .i64 8, .int .i64 8] t frozen | o => o } : World).forCall (fun _ _ => 0) ⟨#[], #[.agg #[.int .i64 0, .int .i64 0, .int .i64 0, .int .i64 0, .int .i64 0, .int .i64 0], .agg #[.int .i64 0, .int .i64 0, .int .i64 0, .int .u32 0, .int .u64 0, .int .u64 0], .agg #[.slice none 0 0, .slice none 0 0]], []⟩).memory :=
  laidMet_of_run' 8 (by kernel_rfl) (by kernel_rfl)
theorem reads (os : Os) {H : Type} (enc : TypeId × Value → H) : ∃ places, DataW.whole enc Tryd.prog (({ World.holding Tryd.prog os ⟨#[], #[], []⟩ with heap := (World.holding Tryd.prog os ⟨#[], #[], []⟩).heap.modify 0 fun | .cells _ t frozen => .cells #[.int .i64 1, .int .i64 1, .int .i64 1, .int .i64 1, .int .i64 4, .int .i64 8, .int .i64 8] t frozen | o => o } : World).forCall (fun _ _ => 0) ⟨#[], #[.agg #[.int .i64 0, .int .i64 0, .int .i64 0, .int .i64 0, .int .i64 0, .int .i64 0], .agg #[.int .i64 0, .int .i64 0, .int .i64 0, .int .u32 0, .int .u64 0, .int .u64 0], .agg #[.slice none 0 0, .slice none 0 0]], []⟩).memory Tryd.f5.params.toList Rows.pageBackSpec.vars false #[Value.agg #[.int .i64 0, .int .i64 0, .int .i64 0, .int .i64 0, .int .i64 0, .int .i64 0], Value.agg #[.int .i64 0, .int .i64 0, .int .i64 0, .int .u32 0, .int .u64 0, .int .u64 0], Value.agg #[.slice none 0 0, .slice none 0 0]].toList 8 = some ([.agg [.lit (.int .i64 0), .lit (.int .i64 0), .lit (.int .i64 0), .lit (.int .i64 0), .lit (.int .i64 0), .lit (.int .i64 0)], .agg [.lit (.int .i64 0), .lit (.int .i64 0), .lit (.int .i64 0), .lit (.int .u32 0), .lit (.int .u64 0), .lit (.int .u64 0)], .agg [.nil, .nil]], [], places) :=
  ⟨[], by kernel_rfl⟩

set_option maxRecDepth 100000 in
theorem lifted (os : Os) (started : os.Started) (H : Type) (enc : TypeId × Value → H) (F : Stop.Interp) :
    ReturnsInHanded {} Tryd.checked os 5 .any ((OpenSpec.ofChange Rows.pageBackSpec).preRow enc Tryd.prog Tryd.f5 Rows.pageBackRow.domain false Rows.pageBackRow.laid) (((OpenSpec.ofChange Rows.pageBackSpec).at F).post enc Tryd.prog Tryd.f5 false true false false) := by
  obtain ⟨places, hx⟩ := reads os enc
  refine returnsInHanded_of_row (C := Tryd.checked) (s := OpenSpec.ofChange Rows.pageBackSpec) own started (by kernel_rfl) Tryd.func5
    (witness_row_at (enc := enc) (C := Tryd.checked) false ({ World.holding Tryd.prog os ⟨#[], #[], []⟩ with heap := (World.holding Tryd.prog os ⟨#[], #[], []⟩).heap.modify 0 fun | .cells _ t frozen => .cells #[.int .i64 1, .int .i64 1, .int .i64 1, .int .i64 1, .int .i64 4, .int .i64 8, .int .i64 8] t frozen | o => o } : World) #[.agg #[.int .i64 0, .int .i64 0, .int .i64 0, .int .i64 0, .int .i64 0, .int .i64 0], .agg #[.int .i64 0, .int .i64 0, .int .i64 0, .int .u32 0, .int .u64 0, .int .u64 0], .agg #[.slice none 0 0, .slice none 0 0]] rfl (by kernel_rfl) (by kernel_rfl) (by kernel_rfl)
      (OpenSpec.preRow_of_cond 8 hx (by kernel_rfl) (fun k hk => by cases hk) (by kernel_rfl) (laid_met os))) ?_
  intro W base args ds gs before hval hW _ _ _ hL _ _
  exact contract H enc W base args ds gs before hval hW hL

theorem said : Rows.PageBackSaid :=
  OpenClaim.holds_of_cond 5 Tryd.f5 rfl rfl rfl rfl rfl rfl rfl ⟨rfl, rfl, rfl, rfl, rfl⟩ rfl rfl rfl rfl rfl (by kernel_rfl) Tryd.func5 (by kernel_rfl)
    (of_decide_eq_true (by kernel_rfl)) (by unfold Func.isWrapper; first | (rw [if_pos (by decide +kernel)]; kernel_rfl) | (rw [if_neg (by decide +kernel)]; exact ⟨rfl, rfl⟩))
    (fun os started H enc _ F => by rw [OpenClaim.pre_eq_preRow]; exact lifted os started H enc F)

theorem plain (f : FuncId) (fn : Func) (hf : Tryd.pinned.checked.prog.funcNamed "nepenthe/nepenthelaw15.PageBack" = some f) (hfn : Tryd.pinned.checked.prog.funcs[f]? = some fn) :
    false = Tryd.pinned.checked.prog.looks [] ∧ ∀ (j : Nat) t, fn.params[j]? = some t → Tryd.pinned.checked.prog.wantsStandIn t = false := by
  obtain rfl : f = 5 := Option.some.inj ((show Tryd.prog.funcNamed "nepenthe/nepenthelaw15.PageBack" = some 5 by kernel_rfl).symm.trans hf) |>.symm
  obtain rfl : fn = Tryd.f5 := (Option.some.inj (Tryd.func5.symm.trans hfn)).symm
  refine ⟨by kernel_rfl, fun j t ht => ?_⟩
  rw [Tryd.params5] at ht
  have hm := Array.mem_of_getElem? ht
  simp at hm
  rcases hm with rfl | rfl | rfl
  · exact (show Tryd.prog.wantsStandIn 23 = false by kernel_rfl)
  · exact (show Tryd.prog.wantsStandIn 27 = false by kernel_rfl)
  · exact (show Tryd.prog.wantsStandIn 29 = false by kernel_rfl)
end Go.Proofs.YtpmakkjcpoillaaDoor.pageBack

namespace Go.Proofs.YtpmakkjcpoillaaDoor
theorem pageBack_card : Rows.PageBackCardSaid :=
  Claim7.holds_tied_plain_at .later [] _ _ _ _ pageBack.said (fun _ h => by cases h) (by kernel_rfl) (fun _ h => by cases h) pageBack_row_tie rfl ⟨rfl, rfl⟩ (by kernel_rfl) rfl pageBack.plain (by kernel_rfl)
#print axioms pageBack_card
end Go.Proofs.YtpmakkjcpoillaaDoor
