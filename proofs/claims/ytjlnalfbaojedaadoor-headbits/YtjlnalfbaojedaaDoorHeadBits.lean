/- P14.3: for every head h, all bytes mask, and both ways: where head.End(h, nil) tells no end, the head may not be, and the answer is ErrShape; else of its first 48 bytes the bits that the mask says are all set, or all cleared: head.Read tells a head of what is left just when nothing changed. -/
import Derived.Test.YtjlnalfbaojedaaDoorCards
import Derived.Test.YtjlnalfbaojedaaDoorTie
import Derived.Test.YtjlnalfbaojedaaDoorHBts
namespace Go.Proofs.YtjlnalfbaojedaaDoor.headBits
open Go.ChangeShapes Go.WideShapes Go.ChangeAt Go.RowKit Go.Proofs.YtjlnalfbaojedaaDoor.he
set_option maxRecDepth 20000

/-- 'append(out, s...)' of bytes, out of the call's own -/
theorem step_pushsK {ops : Array Oper} {o : Oper} {a : Act} {Q : Exit → Act → World → Prop} {K : Act → World → Prop} {E : Prop} (w : World) (hg : o.guard = none) (d : Option Tmp) (hd : o.dst = d) (s x : Operand) (hop : o.op = .call { callee := .builtin .append, args := #[s, x], argTypes := #[26, 26] })
    (B : Nat) (hB : B ≤ w.heap.size) (v vy : Value) (xs ys : List Int) (hs : a.eval s = v) (hx : a.eval x = vy) (hown : Own B w v xs) (hy : Byt w vy ys) (hn : xs.length ≤ 1099511627776) (hm : ys.length ≤ 1099511627776)
    (hK : ∀ v' w', Own B w' v' (xs ++ ys) → Below B w w' → w.grownBy w' v.ownBlock → K (a.put d v') w') : if Region.wanted o (yielded ops a.tmps) = true then Oper.wp Tryd.prog o a w K Q else E := by
  have hw : Region.wanted o (yielded ops a.tmps) = true := by simp [Region.wanted, hg]
  rw [if_pos hw]
  subst hd
  obtain ⟨i0, hi, hz0, hz1, hz2⟩ := info_parts info_u8
  obtain ⟨ao, cap, rfl, h1, h2, h3, h4, h5⟩ := hy
  cases ao with
  | none =>
    have hc := h4 rfl
    subst hc
    have : ys = [] := List.eq_nil_of_length_eq_zero (by omega)
    subst this
    have hrun := run_append_owned_none (P := Tryd.prog) (w := w) B 26 o.type 5 i0 1 Tryd.underlying26 hi v xs.length _ hown
    have hx' : a.eval x = .slice none 0 0 := hx
    unfold Oper.wp
    simp [execOp, hop, resolve, invoke, builtin, hs, hx', hrun, Result.andThen]
    refine hK v w ?_ (Below.refl _ _) (World.grownBy.refl _ _)
    rwa [List.append_nil]
  | some ad =>
    refine wp_append_own _ s x 26 hop B 5 i0 (.int .u8 0) 1 1 Tryd.underlying26 hi hz0 hz1 hz2 rfl (by decide) v xs.length _ hs hown ad ys.length cap (ys.map (Value.int .u8)) hx (by simp) ?_ ?_ (by simp only [maxLen]; omega) (by omega) hB fun v' w' h1 h2 _ => ?_
    · intro j u hj
      have hjl : j < ys.length := by have := (List.getElem?_eq_some_iff.1 hj).1; simpa using this
      obtain ⟨b, off, e, hc⟩ := h5 (by omega)
      cases e
      rw [Addr.add_mid, hc j hjl, ← hj]
      simp [gb, List.getD, hjl]
    · intro u hu
      simp only [List.mem_map] at hu
      obtain ⟨y, _, rfl⟩ := hu
      rfl
    · refine hK v' w' ?_ ?_ h2
      · show w'.ownsRow B 5 1 v' (xs ++ ys).length ((xs ++ ys).map (Value.int .u8))
        simpa using h1
      · exact (Below.refl B w).grown h2 hB fun k hk => (World.ownsRow.lt hown k hk).1
theorem step_newT {ops : Array Oper} {o : Oper} {a : Act} {Q : Exit → Act → World → Prop} {K : Act → World → Prop} {E : Prop} (w : World) (hg : o.guard = none) (d : Option Tmp) (hd : o.dst = d) (t : TypeId) (hop : o.op = Op.alloc t) (cs : List Value) (hz : (Tryd.prog.info? t).map (fun i => (i.zero, i.size)) = some (some (.agg cs.toArray), cs.length))
    (hK : ∀ w', Vr w' w.heap.size cs → Below w.heap.size w w' → w.heap.size < w'.heap.size → (∃ fr, w'.heap[w.heap.size]? = some (.cells cs.toArray t fr)) → K (a.put d (.pointer (some ⟨w.heap.size, 0, none⟩))) w') : if Region.wanted o (yielded ops a.tmps) = true then Oper.wp Tryd.prog o a w K Q else E := by
  have hw : Region.wanted o (yielded ops a.tmps) = true := by simp [Region.wanted, hg]
  rw [if_pos hw]
  subst hd
  have hz' := (zero_of_info hz).1
  unfold Oper.wp
  simp [execOp, hop, Instr.alloc, hz', newVar, newRow, Value.cells, Result.andThen]
  exact hK _ (Vr.new w t cs) ((Below.refl _ _).alloc (Nat.le_refl _) _) (by simp) ⟨_, heap_alloc_last w _⟩
/-- a struct's block is none of bytes -/
theorem own_not {B g : Nat} {w : World} {v : Value} {xs : List Int} {cs : Array Value} (h : Own B w v xs) (hg : ∃ fr, w.heap[g]? = some (.cells cs 25 fr)) : some g ≠ v.ownBlock := by
  obtain ⟨fr, hg⟩ := hg
  rcases h.2 with ⟨rfl, -⟩ | ⟨g', cap, cur, rfl, -, hg', -⟩
  · intro q; cases q
  · intro q
    have e : g = g' := by injection q
    subst e
    rw [hg] at hg'
    injection hg' with hg'
    injection hg' with _ h2
    exact absurd h2 (by decide)
/-- how many bytes a slice has -/
theorem len_lawG {ops : Array Oper} {rest : List Oper} {o : Oper} {a : Act} {Q : Exit → Act → World → Prop} (w : World) (hw : Region.wanted o (yielded ops a.tmps) = true) (x : Operand) (hop : o.op = .call { callee := .builtin .len, args := #[x], argTypes := #[26] }) (v : Value) (xs : List Int) (n : Int) (hx : a.eval x = v) (hb : Byt w v xs) (hn : (xs.length : Int) = n)
    (hK : wpList Tryd.prog ops Q rest (a.put o.dst (.int .i64 n)) w) : wpList Tryd.prog ops Q (o :: rest) a w := by
  refine wpList_want hw fun K hK' => ?_
  obtain ⟨ao, cap, rfl, -⟩ := hb
  subst hn
  unfold Oper.wp
  simp [execOp, hop, resolve, invoke, builtin, hx, Result.andThen]
  exact hK' _ _ hK
open Go.Proofs.YtjlnalfbaojedaaDoor.fa

set_option maxHeartbeats 8000000 in
theorem walk_no (k n c l e t : Int) (v : Value) (b : Bool) (w : World) (hf : Hb l e t) (hT : Tab w) (hr : ¬ Rh k n c) :
    Calls Tryd.prog 7 #[.agg (hv k n c l e t).toArray, v, .bool b] w fun x w' => x = .returned (.bool true) ∧ Below w.heap.size w w' := by
  have t0 : (0 : Nat) = 0 := rfl
  have SE : Hid (∀ w', Below w.heap.size w w' → Calls Tryd.prog 14 #[.agg (hv k n c l e t).toArray, .slice none 0 0] w' fun x w'' => x = .returned (.tuple #[.slice none 0 0, .int .i64 2]) ∧ Below w'.heap.size w' w'') := fun w' q => end_no k n c l e t (.slice none 0 0) [] w' (Byt.nil w') hf.1 hf.2.1 hf.2.2 (hT.below q) (fun z => hr z.1)
  have HRb : Hid (∀ w, Calls Tryd.prog 10 #[.agg (hv k n c l e t).toArray] w fun x w' => x = .returned (.bool false) ∧ Below w.heap.size w w') := fun w => right_any k n c l e t w false (by
    have q : ¬ (1 ≤ k ∧ k ≤ 4 ∧ 0 ≤ n ∧ n ≤ 255 ∧ 0 ≤ c ∧ c ≤ 255) := hr
    exact (decide_eq_false q).symm)
  clear hr hf
  go_enter Tryd.func7, Tryd.ntmps7
  go_wp2_with (first
    | (have qa := ta; go_at_call 11; refine (awake_any _ (hT.below BB.out)).mono ?_; rintro e9 w9 ⟨rfl, B9⟩; have BB : Hid (Below w.heap.size w w9) := BB.out.trans (B9.mono BB.out.size); clear B9 ta)
    | (have q := t2; go_at_call 10; refine (HRb.out _).mono ?_; rintro e9 w3 ⟨rfl, Bx⟩; have BB : Hid (Below w.heap.size w w3) := BB.out.trans (Bx.mono BB.out.size); clear Bx t2; have ta : (0 : Nat) = 0 := rfl)
    | (have q := t1; go_at_call 14; refine (SE.out _ BB.out).mono ?_; rintro e9 w2 ⟨rfl, Bx⟩; have HA : Hid (Vr w2 w.heap.size (hv k n c l e t)) := HA.out.below Bx (range_lt HA.out.1 (by simp [hv])); have BB : Hid (Below w.heap.size w w2) := BB.out.trans (Bx.mono BB.out.size); clear c0 c1 c2 c3 c4 c5; have c0 := HA.out.cell 0 _ rfl; have c1 := HA.out.cell 1 _ rfl; have c2 := HA.out.cell 2 _ rfl; have c3 := HA.out.cell 3 _ rfl; have c4 := HA.out.cell 4 _ rfl; have c5 := HA.out.cell 5 _ rfl; clear Bx t1; have t2 : (0 : Nat) = 0 := rfl)
    | (have q0 := t0; refine box_lawC _ (hv k n c l e t) rfl ?_; intro w1 V1 B1 s1; have HA : Hid (Vr w1 w.heap.size (hv k n c l e t)) := V1; have c0 := HA.out.cell 0 _ rfl; have c1 := HA.out.cell 1 _ rfl; have c2 := HA.out.cell 2 _ rfl; have c3 := HA.out.cell 3 _ rfl; have c4 := HA.out.cell 4 _ rfl; have c5 := HA.out.cell 5 _ rfl; have BB : Hid (Below w.heap.size w w1) := B1; clear V1 B1 t0; have t1 : (0 : Nat) = 0 := rfl))
  go_ret
  exact ⟨rfl, BB.out⟩


set_option maxHeartbeats 8000000 in
theorem walk_sy (k n c l e t : Int) (v : Value) (mask : List Int) (w : World) (hf : Hb l e t) (hv' : Byt w v mask) (hT : Tab w) (hr : Rh k n c) (hx : ofb 48 (erased (hb k n c l e t ++ inv (hb k n c l e t)) mask) = hb k n c l e t ++ inv (hb k n c l e t)) :
    Calls Tryd.prog 7 #[.agg (hv k n c l e t).toArray, v, .bool true] w fun x w' => x = .returned (.bool true) ∧ Below w.heap.size w w' := by
  have t0 : (0 : Nat) = 0 := rfl
  have M8l : (List.replicate 8 (255 : Int)).length = 8 := by simp
  have TGl : (tgo []).length = 32 := tgo_len (.inl rfl)
  have HZ := hb_len k n c l e t
  have SE : Hid (∀ w', Below w.heap.size w w' → Calls Tryd.prog 14 #[.agg (hv k n c l e t).toArray, .slice none 0 0] w' fun x w'' => ∃ v, x = .returned (.tuple #[v, .int .i64 0]) ∧ Own w'.heap.size w'' v (hend (hb k n c l e t) (tgo []) (List.replicate 8 255)) ∧ Below w'.heap.size w' w'') := fun w' q => end_yes k n c l e t (.slice none 0 0) [] w' (Byt.nil w') hf.1 hf.2.1 hf.2.2 (hT.below q) hr (.inl rfl)
  have HE : Hid ((hend (hb k n c l e t) (tgo []) (List.replicate 8 255)).length = 88) := hend_len HZ TGl M8l
  have AE : Hid (AllB (hend (hb k n c l e t) (tgo []) (List.replicate 8 255))) := hend_all (hb_all hr l e t) (tgo_all (allB_mem (by simp))) (allB_replicate 255 8 (by omega))
  have HP : Hid ((hend (hb k n c l e t) (tgo []) (List.replicate 8 255)).take 48 = hb k n c l e t ++ inv (hb k n c l e t)) := take48 HZ
  have HD : Hid ((hend (hb k n c l e t) (tgo []) (List.replicate 8 255)).drop 48 = tgo [] ++ List.replicate 8 255) := drop48 HZ
  have PL : (hb k n c l e t ++ inv (hb k n c l e t)).length = 48 := by rw [List.length_append, inv_len, HZ]
  have SR : Hid (∀ w' a b, Byt w' a (hb k n c l e t ++ inv (hb k n c l e t)) → Byt w' b mask → Calls Tryd.prog 23 #[a, b] w' fun e' w'' => ∃ v, e' = .returned v ∧ Byt w'' v (ofb 48 (erased (hb k n c l e t ++ inv (hb k n c l e t)) mask)) ∧ Below w'.heap.size w' w'') := fun w' a b h1 h2 => by
    have := rerase_any a b _ mask w' h1 h2 (by omega)
    rw [PL] at this
    exact this
  have AX : Hid (AllB (ofb 48 (erased (hb k n c l e t ++ inv (hb k n c l e t)) mask))) := ofb_all _ _
  have LX : Hid ((ofb 48 (erased (hb k n c l e t ++ inv (hb k n c l e t)) mask)).length = 48) := ofb_len _ _
  have TLX := bits_tl (l := l) (e := e) (t := t) (mk := List.replicate 8 255) hr TGl (ofb_len 48 _) (ofb_all 48 _) (.inl fun i hi h => erased_up _ mask 48 i (by omega) h)
  have SD : Hid (∀ w' u, Below w.heap.size w w' → Byt w' u ((ofb 48 (erased (hb k n c l e t ++ inv (hb k n c l e t)) mask)) ++ (tgo [] ++ List.replicate 8 255)) → Calls Tryd.prog 17 #[u] w' fun x w'' => ∃ k n c l e t v, x = .returned (.tuple #[.agg (hv k n c l e t).toArray, v, .int .i64 0]) ∧ Below w'.heap.size w' w'') := fun w' u q h => (read_yes u _ w' h (by rw [List.length_append, LX.out, List.length_append, TGl, M8l]) (hT.below q) (TLX.2 hx)).mono fun e' w'' ⟨u, h1, h2, h3⟩ => ⟨_, _, _, _, _, _, _, h1, h3⟩
  have SS : Hid (∀ w' a b, Byt w' a (ofb 48 (erased (hb k n c l e t ++ inv (hb k n c l e t)) mask)) → Byt w' b (hb k n c l e t ++ inv (hb k n c l e t)) → Calls Tryd.prog 12 #[a, b] w' fun e' w'' => e' = .returned (.bool true) ∧ Below w'.heap.size w' w'') := fun w' a b h1 h2 => (same_any w' a b _ _ h1 h2).mono fun e' w'' ⟨g1, n', g2⟩ => ⟨by rw [g1, decide_eq_true hx], by rw [g2]; exact he.below_drawn (Below.refl _ _) n'⟩
  have HMK : Hid (Byt w v mask) := hv'
  generalize ofb 48 (erased (hb k n c l e t ++ inv (hb k n c l e t)) mask) = X at *
  generalize hend (hb k n c l e t) (tgo []) (List.replicate 8 255) = EE at *
  generalize hb k n c l e t ++ inv (hb k n c l e t) = PP at *
  have LT : Hid ((tgo [] ++ List.replicate 8 (255 : Int)).length = 40) := by
    show _ = _
    rw [List.length_append, TGl, M8l]
  have AT : Hid (AllB (tgo [] ++ List.replicate 8 (255 : Int))) := allB_app (tgo_all (allB_mem (by simp))) (allB_replicate 255 8 (by omega))
  generalize tgo [] ++ List.replicate 8 (255 : Int) = TT at *
  clear hf hv' hr M8l TGl HZ PL TLX hx
  go_enter Tryd.func7, Tryd.ntmps7
  go_wp2_with (first
    | (have q := t4; go_at_call 23; refine (SR.out _ _ _ YP.out (HMK.out.below BB.out)).mono ?_; rintro e9 w4 ⟨xv, rfl, y4, Bx⟩; have YX : Hid (Byt w4 xv X) := y4; have YB : Hid (Byt w4 bv EE) := YB.out.below Bx; have BB : Hid (Below w.heap.size w w4) := BB.out.trans (Bx.mono BB.out.size); clear Bx y4 t4 YP)
    | (have q := t3; refine cut_to _ rfl (.tmp 35) (.const (.int .i64 48)) rfl _ EE _ 48 rfl rfl rfl (by have := HE.out; omega) YB.out ?_; intro v3 y3; rw [HP.out] at y3; have YP : Hid (Byt w2 v3 PP) := y3; clear y3 t3; have t4 : (0 : Nat) = 0 := rfl)
    | (have q := t2; refine len_lawG _ (by rfl) (.tmp 21) rfl _ EE 88 rfl YB.out (by rw [HE.out]; rfl) ?_; clear t2; have t3 : (0 : Nat) = 0 := rfl)
    | (have q := t1; go_at_call 14; refine (SE.out _ BB.out).mono ?_; rintro e9 w2 ⟨bv, rfl, o2, Bx⟩; have YB : Hid (Byt w2 bv EE) := o2.byt AE.out; have BB : Hid (Below w.heap.size w w2) := BB.out.trans (Bx.mono BB.out.size); clear c0 c1 c2 c3 c4 c5; clear o2 Bx t1 HA; have t2 : (0 : Nat) = 0 := rfl)
    | (have q0 := t0; refine box_lawC _ (hv k n c l e t) rfl ?_; intro w1 V1 B1 s1; have HA : Hid (Vr w1 w.heap.size (hv k n c l e t)) := V1; have c0 := HA.out.cell 0 _ rfl; have c1 := HA.out.cell 1 _ rfl; have c2 := HA.out.cell 2 _ rfl; have c3 := HA.out.cell 3 _ rfl; have c4 := HA.out.cell 4 _ rfl; have c5 := HA.out.cell 5 _ rfl; have BB : Hid (Below w.heap.size w w1) := B1; clear V1 B1 t0; have t1 : (0 : Nat) = 0 := rfl))
  refine wp_region_held_drew (S := fun w' => Below w4.heap.size w4 w') (by kernel_rfl) (Below.refl _ _).drew (fun hS => ?_)
  obtain ⟨y1, hx0⟩ : ∃ x, x = w4.drew := ⟨_, rfl⟩
  rw [← hx0] at hS  ⊢
  clear hx0
  refine take_lawH 1 (some 48) (xv) rfl rfl (by kernel_rfl) (by kernel_rfl) (by kernel_rfl) (fun _ _ _ h => h) (Or.inl ⟨by rfl, fun w' hw' => by rfl⟩) hS ?_
  simp only [Act.put, List.setIfInBounds_toArray, List.set_cons_zero, List.set_cons_succ]
  refine take_lawH 3 (some 50) (bv) rfl rfl (by kernel_rfl) (by kernel_rfl) (by kernel_rfl) (fun _ _ _ h => h) (Or.inl ⟨by rfl, fun w' hw' => by rfl⟩) hS ?_
  simp only [Act.put, List.setIfInBounds_toArray, List.set_cons_zero, List.set_cons_succ]
  refine take_lawH 4 (some 51) (sl bv 48 88) rfl rfl (by kernel_rfl) (by kernel_rfl) (by kernel_rfl) (fun _ _ _ h => h) (Or.inl ⟨by rfl, fun w' hw' => by exact exec_from (.tmp 50) (.const (.int .i64 48)) rfl bv EE _ YB.out 48 88 rfl rfl HE.out (by omega) _⟩) hS ?_
  simp only [Act.put, List.setIfInBounds_toArray, List.set_cons_zero, List.set_cons_succ]
  refine wpAnyH_ready (rs := [0, 11]) (by kernel_rfl) (by simp) ?_
  refine AllReadyH.cons rfl (fun K hK => ?_) (AllReadyH.cons rfl (fun K hK => ?_) AllReadyH.nil)
  · refine step_nil _ rfl (some 47) rfl rfl ?_
    intro nv1 y2 y9 hb
    have O1 : Hid (Own w4.heap.size y2 nv1 []) := own_less y9 hS.size
    have hS : Below w4.heap.size w4 y2 := hS.trans (hb.mono hS.size)
    clear hb y9
    refine hK.out _ _ hS (fun _ => ?_)
    simp only [Act.put, List.setIfInBounds_toArray, List.set_cons_zero, List.set_cons_succ]
    clear hK K
    refine wpAnyH_ready (rs := [2, 11]) (by kernel_rfl) (by simp) ?_
    refine AllReadyH.cons rfl (fun K hK => ?_) (AllReadyH.cons rfl (fun K hK => ?_) AllReadyH.nil)
    · refine step_pushsK _ rfl (some 49) rfl (.tmp 47) (.tmp 48) rfl w4.heap.size hS.size _ _ [] X rfl rfl O1.out (YX.out.below hS) (by have := LX.out; simp <;> omega) (by have := LX.out; have := LT.out; omega) ?_
      intro pv1 y3 y9 hb hk9
      have O2 : Hid (Own w4.heap.size y3 pv1 ([] ++ X)) := y9
      have hS : Below w4.heap.size w4 y3 := hS.trans hb
      clear hb y9 hk9
      refine hK.out _ _ hS (fun _ => ?_)
      simp only [Act.put, List.setIfInBounds_toArray, List.set_cons_zero, List.set_cons_succ]
      clear hK K
      refine wpAnyH_ready (rs := [5, 11]) (by kernel_rfl) (by simp) ?_
      refine AllReadyH.cons rfl (fun K hK => ?_) (AllReadyH.cons rfl (fun K hK => ?_) AllReadyH.nil)
      · refine step_pushsK _ rfl (some 52) rfl (.tmp 49) (.tmp 51) rfl w4.heap.size hS.size _ _ ([] ++ X) TT rfl rfl O2.out (HD.out ▸ (HE.out ▸ sl_from (YB.out.below hS) 48 (by have := HE.out; omega))) (by have := LX.out; simp <;> omega) (by have := LX.out; have := LT.out; omega) ?_
        intro pv2 y4 y9 hb hk9
        have O3 : Hid (Own w4.heap.size y4 pv2 ([] ++ X ++ TT)) := y9
        have hS : Below w4.heap.size w4 y4 := hS.trans hb
        clear hb y9 hk9
        refine hK.out _ _ hS (fun _ => ?_)
        simp only [Act.put, List.setIfInBounds_toArray, List.set_cons_zero, List.set_cons_succ]
        clear hK K
        refine wpAnyH_ready (rs := [6, 11]) (by kernel_rfl) (by simp) ?_
        refine AllReadyH.cons rfl (fun K hK => ?_) (AllReadyH.cons rfl (fun K hK => ?_) AllReadyH.nil)
        · refine step_callW _ (by rfl) (some 53) rfl 17 #[.tmp 52] #[26] rfl (fun q w' => by rfl) #[pv2] (by simp only [List.map_toArray, List.map_cons, List.map_nil]; rfl) (fun u w' => (∃ k n c l e t v, u = .tuple #[.agg (hv k n c l e t).toArray, v, .int .i64 0]) ∧ Below y4.heap.size y4 w') ?_ ?_
          · exact (SD.out y4 _ (BB.out.trans (hS.mono BB.out.size)) (O3.out.byt (allB_app AX.out AT.out))).mono fun e' w' ⟨k, n, c, l, e, t, v, h1, h2⟩ => ⟨_, h1, ⟨k, n, c, l, e, t, v, rfl⟩, h2⟩
          rintro _ y5 ⟨⟨qk, qn, qc, ql, qe, qt, qv, rfl⟩, hb⟩
          have hS : Below w4.heap.size w4 y5 := hS.trans (hb.mono hS.size)
          clear hb
          refine hK.out _ _ hS (fun _ => ?_)
          simp only [Act.put, List.setIfInBounds_toArray, List.set_cons_zero, List.set_cons_succ]
          clear hK K
          refine take_lawH 7 (some 46) (.tuple #[.agg (hv qk qn qc ql qe qt).toArray, qv, .int .i64 0]) rfl rfl (by kernel_rfl) (by kernel_rfl) (by kernel_rfl) (fun _ _ _ h => h) (Or.inl ⟨by rfl, fun w' hw' => by rfl⟩) hS ?_
          simp only [Act.put, List.setIfInBounds_toArray, List.set_cons_zero, List.set_cons_succ]
          refine take_lawH 8 (some 54) (.agg (hv qk qn qc ql qe qt).toArray) rfl rfl (by kernel_rfl) (by kernel_rfl) (by kernel_rfl) (fun _ _ _ h => h) (Or.inl ⟨by rfl, fun w' hw' => by rfl⟩) hS ?_
          simp only [Act.put, List.setIfInBounds_toArray, List.set_cons_zero, List.set_cons_succ]
          refine take_lawH 9 (some 55) (qv) rfl rfl (by kernel_rfl) (by kernel_rfl) (by kernel_rfl) (fun _ _ _ h => h) (Or.inl ⟨by rfl, fun w' hw' => by rfl⟩) hS ?_
          simp only [Act.put, List.setIfInBounds_toArray, List.set_cons_zero, List.set_cons_succ]
          refine take_lawH 10 (some 56) (.int .i64 0) rfl rfl (by kernel_rfl) (by kernel_rfl) (by kernel_rfl) (fun _ _ _ h => h) (Or.inl ⟨by rfl, fun w' hw' => by rfl⟩) hS ?_
          simp only [Act.put, List.setIfInBounds_toArray, List.set_cons_zero, List.set_cons_succ]
          refine wpAnyH_ready (rs := [11]) (by kernel_rfl) (by simp) ?_
          refine AllReadyH.cons rfl (fun K hK => ?_) AllReadyH.nil
          refine step_newT _ rfl (some 10) rfl 25 rfl (hv 0 0 0 0 0 0) zero_head ?_
          intro y6 V9 hb s9 hy4
          have g4l : w4.heap.size ≤ y5.heap.size := hS.size
          obtain ⟨g4, hg4⟩ : ∃ g, g = y5.heap.size := ⟨_, rfl⟩
          have hS : Below w4.heap.size w4 y6 := hS.trans (hb.mono hS.size)
          rw [← hg4] at V9 g4l s9 hy4 ⊢
          have HG : Hid (Vr y6 g4 (hv 0 0 0 0 0 0)) := V9
          have HT4 : Hid (∃ fr, y6.heap[g4]? = some (.cells (hv 0 0 0 0 0 0).toArray 25 fr)) := hy4
          clear V9 hb hg4 s9 hy4
          refine hK.out _ _ hS (fun _ => ?_)
          simp only [Act.put, List.setIfInBounds_toArray, List.set_cons_zero, List.set_cons_succ]
          clear hK K
          refine wpAnyH_ready (rs := [12]) (by kernel_rfl) (by simp) ?_
          refine AllReadyH.cons rfl (fun K hK => ?_) AllReadyH.nil
          refine step_storeC _ rfl none rfl (.tmp 10) (.tmp 54) 25 rfl g4 (hv 0 0 0 0 0 0) (hv qk qn qc ql qe qt) rfl rfl HG.out rfl rowy_head.2 (hv_one _ _ _ _ _ _) ?_
          intro y7 v9 B9
          have hS : Below w4.heap.size w4 y7 := hS.trans (B9.mono g4l)
          clear v9 B9
          refine hK.out _ _ hS (fun _ => ?_)
          simp only [Act.put]
          clear hK K
          refine take_lawH 13 (some 11) (qv) rfl rfl (by kernel_rfl) (by kernel_rfl) (by kernel_rfl) (fun _ _ _ h => h) (Or.inl ⟨by rfl, fun w' hw' => by rfl⟩) hS ?_
          simp only [Act.put, List.setIfInBounds_toArray, List.set_cons_zero, List.set_cons_succ]
          refine take_lawH 14 (some 12) (.int .i64 0) rfl rfl (by kernel_rfl) (by kernel_rfl) (by kernel_rfl) (fun _ _ _ h => h) (Or.inl ⟨by rfl, fun w' hw' => by rfl⟩) hS ?_
          simp only [Act.put, List.setIfInBounds_toArray, List.set_cons_zero, List.set_cons_succ]
          refine wpAnyH_done (by kernel_rfl) ?_ _
          have YB : Hid (Byt y7 bv EE) := YB.out.below hS
          have YX : Hid (Byt y7 xv X) := YX.out.below hS
          have BB : Hid (Below w.heap.size w y7) := BB.out.trans (hS.mono BB.out.size)
          clear hS
          have t5 : (0 : Nat) = 0 := rfl
          go_wp2_with (first
            | (have qa := ta; go_at_call 11; refine (awake_any _ (hT.below BB.out)).mono ?_; rintro e9 w9 ⟨rfl, B9⟩; have BB : Hid (Below w.heap.size w w9) := BB.out.trans (B9.mono BB.out.size); clear B9 ta)
            | (have q := t6; go_at_call 12; refine (SS.out _ _ _ YX.out YP.out).mono ?_; rintro e9 w9 ⟨rfl, Bx⟩; have BB : Hid (Below w.heap.size w w9) := BB.out.trans (Bx.mono BB.out.size); clear Bx t6; have ta : (0 : Nat) = 0 := rfl)
            | (have q := t5; refine cut_to _ rfl (.tmp 60) (.const (.int .i64 48)) rfl _ EE _ 48 rfl rfl rfl (by have := HE.out; omega) YB.out ?_; intro v8 y8; rw [HP.out] at y8; have YP : Hid (Byt y7 v8 PP) := y8; clear y8 t5; have t6 : (0 : Nat) = 0 := rfl))
          go_ret
          exact ⟨rfl, BB.out⟩
        · refine step_newT _ rfl (some 10) rfl 25 rfl (hv 0 0 0 0 0 0) zero_head ?_
          intro y8 V9 hb s9 hy4
          have O3 : Hid (Own w4.heap.size y8 pv2 ([] ++ X ++ TT)) := own_low O3.out hb
          have g4l : w4.heap.size ≤ y4.heap.size := hS.size
          obtain ⟨g4, hg4⟩ : ∃ g, g = y4.heap.size := ⟨_, rfl⟩
          have hS : Below w4.heap.size w4 y8 := hS.trans (hb.mono hS.size)
          rw [← hg4] at V9 g4l s9 hy4 ⊢
          have HG : Hid (Vr y8 g4 (hv 0 0 0 0 0 0)) := V9
          have HT4 : Hid (∃ fr, y8.heap[g4]? = some (.cells (hv 0 0 0 0 0 0).toArray 25 fr)) := hy4
          clear V9 hb hg4 s9 hy4
          refine hK.out _ _ hS (fun _ => ?_)
          simp only [Act.put, List.setIfInBounds_toArray, List.set_cons_zero, List.set_cons_succ]
          clear hK K
          refine wpAnyH_ready (rs := [6]) (by kernel_rfl) (by simp) ?_
          refine AllReadyH.cons rfl (fun K hK => ?_) AllReadyH.nil
          refine step_callW _ (by rfl) (some 53) rfl 17 #[.tmp 52] #[26] rfl (fun q w' => by rfl) #[pv2] (by simp only [List.map_toArray, List.map_cons, List.map_nil]; rfl) (fun u w' => (∃ k n c l e t v, u = .tuple #[.agg (hv k n c l e t).toArray, v, .int .i64 0]) ∧ Below y8.heap.size y8 w') ?_ ?_
          · exact (SD.out y8 _ (BB.out.trans (hS.mono BB.out.size)) (O3.out.byt (allB_app AX.out AT.out))).mono fun e' w' ⟨k, n, c, l, e, t, v, h1, h2⟩ => ⟨_, h1, ⟨k, n, c, l, e, t, v, rfl⟩, h2⟩
          rintro _ y9 ⟨⟨qk, qn, qc, ql, qe, qt, qv, rfl⟩, hb⟩
          have HT4 : Hid (∃ fr, y9.heap[g4]? = some (.cells (hv 0 0 0 0 0 0).toArray 25 fr)) := by rw [hb.block g4 (range_lt HG.out.1 (by simp [hv]))]; exact HT4.out
          have HG : Hid (Vr y9 g4 (hv 0 0 0 0 0 0)) := HG.out.below hb (range_lt HG.out.1 (by simp [hv]))
          have hS : Below w4.heap.size w4 y9 := hS.trans (hb.mono hS.size)
          clear hb
          refine hK.out _ _ hS (fun _ => ?_)
          simp only [Act.put, List.setIfInBounds_toArray, List.set_cons_zero, List.set_cons_succ]
          clear hK K
          refine take_lawH 7 (some 46) (.tuple #[.agg (hv qk qn qc ql qe qt).toArray, qv, .int .i64 0]) rfl rfl (by kernel_rfl) (by kernel_rfl) (by kernel_rfl) (fun _ _ _ h => h) (Or.inl ⟨by rfl, fun w' hw' => by rfl⟩) hS ?_
          simp only [Act.put, List.setIfInBounds_toArray, List.set_cons_zero, List.set_cons_succ]
          refine take_lawH 8 (some 54) (.agg (hv qk qn qc ql qe qt).toArray) rfl rfl (by kernel_rfl) (by kernel_rfl) (by kernel_rfl) (fun _ _ _ h => h) (Or.inl ⟨by rfl, fun w' hw' => by rfl⟩) hS ?_
          simp only [Act.put, List.setIfInBounds_toArray, List.set_cons_zero, List.set_cons_succ]
          refine take_lawH 9 (some 55) (qv) rfl rfl (by kernel_rfl) (by kernel_rfl) (by kernel_rfl) (fun _ _ _ h => h) (Or.inl ⟨by rfl, fun w' hw' => by rfl⟩) hS ?_
          simp only [Act.put, List.setIfInBounds_toArray, List.set_cons_zero, List.set_cons_succ]
          refine take_lawH 10 (some 56) (.int .i64 0) rfl rfl (by kernel_rfl) (by kernel_rfl) (by kernel_rfl) (fun _ _ _ h => h) (Or.inl ⟨by rfl, fun w' hw' => by rfl⟩) hS ?_
          simp only [Act.put, List.setIfInBounds_toArray, List.set_cons_zero, List.set_cons_succ]
          refine wpAnyH_ready (rs := [12]) (by kernel_rfl) (by simp) ?_
          refine AllReadyH.cons rfl (fun K hK => ?_) AllReadyH.nil
          refine step_storeC _ rfl none rfl (.tmp 10) (.tmp 54) 25 rfl g4 (hv 0 0 0 0 0 0) (hv qk qn qc ql qe qt) rfl rfl HG.out rfl rowy_head.2 (hv_one _ _ _ _ _ _) ?_
          intro y10 v9 B9
          have hS : Below w4.heap.size w4 y10 := hS.trans (B9.mono g4l)
          clear v9 B9
          refine hK.out _ _ hS (fun _ => ?_)
          simp only [Act.put]
          clear hK K
          refine take_lawH 13 (some 11) (qv) rfl rfl (by kernel_rfl) (by kernel_rfl) (by kernel_rfl) (fun _ _ _ h => h) (Or.inl ⟨by rfl, fun w' hw' => by rfl⟩) hS ?_
          simp only [Act.put, List.setIfInBounds_toArray, List.set_cons_zero, List.set_cons_succ]
          refine take_lawH 14 (some 12) (.int .i64 0) rfl rfl (by kernel_rfl) (by kernel_rfl) (by kernel_rfl) (fun _ _ _ h => h) (Or.inl ⟨by rfl, fun w' hw' => by rfl⟩) hS ?_
          simp only [Act.put, List.setIfInBounds_toArray, List.set_cons_zero, List.set_cons_succ]
          refine wpAnyH_done (by kernel_rfl) ?_ _
          have YB : Hid (Byt y10 bv EE) := YB.out.below hS
          have YX : Hid (Byt y10 xv X) := YX.out.below hS
          have BB : Hid (Below w.heap.size w y10) := BB.out.trans (hS.mono BB.out.size)
          clear hS
          have t5 : (0 : Nat) = 0 := rfl
          go_wp2_with (first
            | (have qa := ta; go_at_call 11; refine (awake_any _ (hT.below BB.out)).mono ?_; rintro e9 w9 ⟨rfl, B9⟩; have BB : Hid (Below w.heap.size w w9) := BB.out.trans (B9.mono BB.out.size); clear B9 ta)
            | (have q := t6; go_at_call 12; refine (SS.out _ _ _ YX.out YP.out).mono ?_; rintro e9 w9 ⟨rfl, Bx⟩; have BB : Hid (Below w.heap.size w w9) := BB.out.trans (Bx.mono BB.out.size); clear Bx t6; have ta : (0 : Nat) = 0 := rfl)
            | (have q := t5; refine cut_to _ rfl (.tmp 60) (.const (.int .i64 48)) rfl _ EE _ 48 rfl rfl rfl (by have := HE.out; omega) YB.out ?_; intro v8 y8; rw [HP.out] at y8; have YP : Hid (Byt y10 v8 PP) := y8; clear y8 t5; have t6 : (0 : Nat) = 0 := rfl))
          go_ret
          exact ⟨rfl, BB.out⟩
      · refine step_newT _ rfl (some 10) rfl 25 rfl (hv 0 0 0 0 0 0) zero_head ?_
        intro y11 V9 hb s9 hy4
        have O2 : Hid (Own w4.heap.size y11 pv1 ([] ++ X)) := own_low O2.out hb
        have g4l : w4.heap.size ≤ y3.heap.size := hS.size
        obtain ⟨g4, hg4⟩ : ∃ g, g = y3.heap.size := ⟨_, rfl⟩
        have hS : Below w4.heap.size w4 y11 := hS.trans (hb.mono hS.size)
        rw [← hg4] at V9 g4l s9 hy4 ⊢
        have HG : Hid (Vr y11 g4 (hv 0 0 0 0 0 0)) := V9
        have HT4 : Hid (∃ fr, y11.heap[g4]? = some (.cells (hv 0 0 0 0 0 0).toArray 25 fr)) := hy4
        clear V9 hb hg4 s9 hy4
        refine hK.out _ _ hS (fun _ => ?_)
        simp only [Act.put, List.setIfInBounds_toArray, List.set_cons_zero, List.set_cons_succ]
        clear hK K
        refine wpAnyH_ready (rs := [5]) (by kernel_rfl) (by simp) ?_
        refine AllReadyH.cons rfl (fun K hK => ?_) AllReadyH.nil
        refine step_pushsK _ rfl (some 52) rfl (.tmp 49) (.tmp 51) rfl w4.heap.size hS.size _ _ ([] ++ X) TT rfl rfl O2.out (HD.out ▸ (HE.out ▸ sl_from (YB.out.below hS) 48 (by have := HE.out; omega))) (by have := LX.out; simp <;> omega) (by have := LX.out; have := LT.out; omega) ?_
        intro pv2 y12 y9 hb hk9
        have e9 : y12.heap[g4]? = y11.heap[g4]? := hk9.block g4 (range_lt HG.out.1 (by simp [hv])) (own_not O2.out HT4.out)
        have HG : Hid (Vr y12 g4 (hv 0 0 0 0 0 0)) := HG.out.heap e9
        have HT4 : Hid (∃ fr, y12.heap[g4]? = some (.cells (hv 0 0 0 0 0 0).toArray 25 fr)) := by rw [e9]; exact HT4.out
        clear e9
        have O3 : Hid (Own w4.heap.size y12 pv2 ([] ++ X ++ TT)) := y9
        have hS : Below w4.heap.size w4 y12 := hS.trans hb
        clear hb y9 hk9
        refine hK.out _ _ hS (fun _ => ?_)
        simp only [Act.put, List.setIfInBounds_toArray, List.set_cons_zero, List.set_cons_succ]
        clear hK K
        refine wpAnyH_ready (rs := [6]) (by kernel_rfl) (by simp) ?_
        refine AllReadyH.cons rfl (fun K hK => ?_) AllReadyH.nil
        refine step_callW _ (by rfl) (some 53) rfl 17 #[.tmp 52] #[26] rfl (fun q w' => by rfl) #[pv2] (by simp only [List.map_toArray, List.map_cons, List.map_nil]; rfl) (fun u w' => (∃ k n c l e t v, u = .tuple #[.agg (hv k n c l e t).toArray, v, .int .i64 0]) ∧ Below y12.heap.size y12 w') ?_ ?_
        · exact (SD.out y12 _ (BB.out.trans (hS.mono BB.out.size)) (O3.out.byt (allB_app AX.out AT.out))).mono fun e' w' ⟨k, n, c, l, e, t, v, h1, h2⟩ => ⟨_, h1, ⟨k, n, c, l, e, t, v, rfl⟩, h2⟩
        rintro _ y13 ⟨⟨qk, qn, qc, ql, qe, qt, qv, rfl⟩, hb⟩
        have HT4 : Hid (∃ fr, y13.heap[g4]? = some (.cells (hv 0 0 0 0 0 0).toArray 25 fr)) := by rw [hb.block g4 (range_lt HG.out.1 (by simp [hv]))]; exact HT4.out
        have HG : Hid (Vr y13 g4 (hv 0 0 0 0 0 0)) := HG.out.below hb (range_lt HG.out.1 (by simp [hv]))
        have hS : Below w4.heap.size w4 y13 := hS.trans (hb.mono hS.size)
        clear hb
        refine hK.out _ _ hS (fun _ => ?_)
        simp only [Act.put, List.setIfInBounds_toArray, List.set_cons_zero, List.set_cons_succ]
        clear hK K
        refine take_lawH 7 (some 46) (.tuple #[.agg (hv qk qn qc ql qe qt).toArray, qv, .int .i64 0]) rfl rfl (by kernel_rfl) (by kernel_rfl) (by kernel_rfl) (fun _ _ _ h => h) (Or.inl ⟨by rfl, fun w' hw' => by rfl⟩) hS ?_
        simp only [Act.put, List.setIfInBounds_toArray, List.set_cons_zero, List.set_cons_succ]
        refine take_lawH 8 (some 54) (.agg (hv qk qn qc ql qe qt).toArray) rfl rfl (by kernel_rfl) (by kernel_rfl) (by kernel_rfl) (fun _ _ _ h => h) (Or.inl ⟨by rfl, fun w' hw' => by rfl⟩) hS ?_
        simp only [Act.put, List.setIfInBounds_toArray, List.set_cons_zero, List.set_cons_succ]
        refine take_lawH 9 (some 55) (qv) rfl rfl (by kernel_rfl) (by kernel_rfl) (by kernel_rfl) (fun _ _ _ h => h) (Or.inl ⟨by rfl, fun w' hw' => by rfl⟩) hS ?_
        simp only [Act.put, List.setIfInBounds_toArray, List.set_cons_zero, List.set_cons_succ]
        refine take_lawH 10 (some 56) (.int .i64 0) rfl rfl (by kernel_rfl) (by kernel_rfl) (by kernel_rfl) (fun _ _ _ h => h) (Or.inl ⟨by rfl, fun w' hw' => by rfl⟩) hS ?_
        simp only [Act.put, List.setIfInBounds_toArray, List.set_cons_zero, List.set_cons_succ]
        refine wpAnyH_ready (rs := [12]) (by kernel_rfl) (by simp) ?_
        refine AllReadyH.cons rfl (fun K hK => ?_) AllReadyH.nil
        refine step_storeC _ rfl none rfl (.tmp 10) (.tmp 54) 25 rfl g4 (hv 0 0 0 0 0 0) (hv qk qn qc ql qe qt) rfl rfl HG.out rfl rowy_head.2 (hv_one _ _ _ _ _ _) ?_
        intro y14 v9 B9
        have hS : Below w4.heap.size w4 y14 := hS.trans (B9.mono g4l)
        clear v9 B9
        refine hK.out _ _ hS (fun _ => ?_)
        simp only [Act.put]
        clear hK K
        refine take_lawH 13 (some 11) (qv) rfl rfl (by kernel_rfl) (by kernel_rfl) (by kernel_rfl) (fun _ _ _ h => h) (Or.inl ⟨by rfl, fun w' hw' => by rfl⟩) hS ?_
        simp only [Act.put, List.setIfInBounds_toArray, List.set_cons_zero, List.set_cons_succ]
        refine take_lawH 14 (some 12) (.int .i64 0) rfl rfl (by kernel_rfl) (by kernel_rfl) (by kernel_rfl) (fun _ _ _ h => h) (Or.inl ⟨by rfl, fun w' hw' => by rfl⟩) hS ?_
        simp only [Act.put, List.setIfInBounds_toArray, List.set_cons_zero, List.set_cons_succ]
        refine wpAnyH_done (by kernel_rfl) ?_ _
        have YB : Hid (Byt y14 bv EE) := YB.out.below hS
        have YX : Hid (Byt y14 xv X) := YX.out.below hS
        have BB : Hid (Below w.heap.size w y14) := BB.out.trans (hS.mono BB.out.size)
        clear hS
        have t5 : (0 : Nat) = 0 := rfl
        go_wp2_with (first
          | (have qa := ta; go_at_call 11; refine (awake_any _ (hT.below BB.out)).mono ?_; rintro e9 w9 ⟨rfl, B9⟩; have BB : Hid (Below w.heap.size w w9) := BB.out.trans (B9.mono BB.out.size); clear B9 ta)
          | (have q := t6; go_at_call 12; refine (SS.out _ _ _ YX.out YP.out).mono ?_; rintro e9 w9 ⟨rfl, Bx⟩; have BB : Hid (Below w.heap.size w w9) := BB.out.trans (Bx.mono BB.out.size); clear Bx t6; have ta : (0 : Nat) = 0 := rfl)
          | (have q := t5; refine cut_to _ rfl (.tmp 60) (.const (.int .i64 48)) rfl _ EE _ 48 rfl rfl rfl (by have := HE.out; omega) YB.out ?_; intro v8 y8; rw [HP.out] at y8; have YP : Hid (Byt y14 v8 PP) := y8; clear y8 t5; have t6 : (0 : Nat) = 0 := rfl))
        go_ret
        exact ⟨rfl, BB.out⟩
    · refine step_newT _ rfl (some 10) rfl 25 rfl (hv 0 0 0 0 0 0) zero_head ?_
      intro y15 V9 hb s9 hy4
      have O1 : Hid (Own w4.heap.size y15 nv1 []) := own_low O1.out hb
      have g4l : w4.heap.size ≤ y2.heap.size := hS.size
      obtain ⟨g4, hg4⟩ : ∃ g, g = y2.heap.size := ⟨_, rfl⟩
      have hS : Below w4.heap.size w4 y15 := hS.trans (hb.mono hS.size)
      rw [← hg4] at V9 g4l s9 hy4 ⊢
      have HG : Hid (Vr y15 g4 (hv 0 0 0 0 0 0)) := V9
      have HT4 : Hid (∃ fr, y15.heap[g4]? = some (.cells (hv 0 0 0 0 0 0).toArray 25 fr)) := hy4
      clear V9 hb hg4 s9 hy4
      refine hK.out _ _ hS (fun _ => ?_)
      simp only [Act.put, List.setIfInBounds_toArray, List.set_cons_zero, List.set_cons_succ]
      clear hK K
      refine wpAnyH_ready (rs := [2]) (by kernel_rfl) (by simp) ?_
      refine AllReadyH.cons rfl (fun K hK => ?_) AllReadyH.nil
      refine step_pushsK _ rfl (some 49) rfl (.tmp 47) (.tmp 48) rfl w4.heap.size hS.size _ _ [] X rfl rfl O1.out (YX.out.below hS) (by have := LX.out; simp <;> omega) (by have := LX.out; have := LT.out; omega) ?_
      intro pv1 y16 y9 hb hk9
      have e9 : y16.heap[g4]? = y15.heap[g4]? := hk9.block g4 (range_lt HG.out.1 (by simp [hv])) (own_not O1.out HT4.out)
      have HG : Hid (Vr y16 g4 (hv 0 0 0 0 0 0)) := HG.out.heap e9
      have HT4 : Hid (∃ fr, y16.heap[g4]? = some (.cells (hv 0 0 0 0 0 0).toArray 25 fr)) := by rw [e9]; exact HT4.out
      clear e9
      have O2 : Hid (Own w4.heap.size y16 pv1 ([] ++ X)) := y9
      have hS : Below w4.heap.size w4 y16 := hS.trans hb
      clear hb y9 hk9
      refine hK.out _ _ hS (fun _ => ?_)
      simp only [Act.put, List.setIfInBounds_toArray, List.set_cons_zero, List.set_cons_succ]
      clear hK K
      refine wpAnyH_ready (rs := [5]) (by kernel_rfl) (by simp) ?_
      refine AllReadyH.cons rfl (fun K hK => ?_) AllReadyH.nil
      refine step_pushsK _ rfl (some 52) rfl (.tmp 49) (.tmp 51) rfl w4.heap.size hS.size _ _ ([] ++ X) TT rfl rfl O2.out (HD.out ▸ (HE.out ▸ sl_from (YB.out.below hS) 48 (by have := HE.out; omega))) (by have := LX.out; simp <;> omega) (by have := LX.out; have := LT.out; omega) ?_
      intro pv2 y17 y9 hb hk9
      have e9 : y17.heap[g4]? = y16.heap[g4]? := hk9.block g4 (range_lt HG.out.1 (by simp [hv])) (own_not O2.out HT4.out)
      have HG : Hid (Vr y17 g4 (hv 0 0 0 0 0 0)) := HG.out.heap e9
      have HT4 : Hid (∃ fr, y17.heap[g4]? = some (.cells (hv 0 0 0 0 0 0).toArray 25 fr)) := by rw [e9]; exact HT4.out
      clear e9
      have O3 : Hid (Own w4.heap.size y17 pv2 ([] ++ X ++ TT)) := y9
      have hS : Below w4.heap.size w4 y17 := hS.trans hb
      clear hb y9 hk9
      refine hK.out _ _ hS (fun _ => ?_)
      simp only [Act.put, List.setIfInBounds_toArray, List.set_cons_zero, List.set_cons_succ]
      clear hK K
      refine wpAnyH_ready (rs := [6]) (by kernel_rfl) (by simp) ?_
      refine AllReadyH.cons rfl (fun K hK => ?_) AllReadyH.nil
      refine step_callW _ (by rfl) (some 53) rfl 17 #[.tmp 52] #[26] rfl (fun q w' => by rfl) #[pv2] (by simp only [List.map_toArray, List.map_cons, List.map_nil]; rfl) (fun u w' => (∃ k n c l e t v, u = .tuple #[.agg (hv k n c l e t).toArray, v, .int .i64 0]) ∧ Below y17.heap.size y17 w') ?_ ?_
      · exact (SD.out y17 _ (BB.out.trans (hS.mono BB.out.size)) (O3.out.byt (allB_app AX.out AT.out))).mono fun e' w' ⟨k, n, c, l, e, t, v, h1, h2⟩ => ⟨_, h1, ⟨k, n, c, l, e, t, v, rfl⟩, h2⟩
      rintro _ y18 ⟨⟨qk, qn, qc, ql, qe, qt, qv, rfl⟩, hb⟩
      have HT4 : Hid (∃ fr, y18.heap[g4]? = some (.cells (hv 0 0 0 0 0 0).toArray 25 fr)) := by rw [hb.block g4 (range_lt HG.out.1 (by simp [hv]))]; exact HT4.out
      have HG : Hid (Vr y18 g4 (hv 0 0 0 0 0 0)) := HG.out.below hb (range_lt HG.out.1 (by simp [hv]))
      have hS : Below w4.heap.size w4 y18 := hS.trans (hb.mono hS.size)
      clear hb
      refine hK.out _ _ hS (fun _ => ?_)
      simp only [Act.put, List.setIfInBounds_toArray, List.set_cons_zero, List.set_cons_succ]
      clear hK K
      refine take_lawH 7 (some 46) (.tuple #[.agg (hv qk qn qc ql qe qt).toArray, qv, .int .i64 0]) rfl rfl (by kernel_rfl) (by kernel_rfl) (by kernel_rfl) (fun _ _ _ h => h) (Or.inl ⟨by rfl, fun w' hw' => by rfl⟩) hS ?_
      simp only [Act.put, List.setIfInBounds_toArray, List.set_cons_zero, List.set_cons_succ]
      refine take_lawH 8 (some 54) (.agg (hv qk qn qc ql qe qt).toArray) rfl rfl (by kernel_rfl) (by kernel_rfl) (by kernel_rfl) (fun _ _ _ h => h) (Or.inl ⟨by rfl, fun w' hw' => by rfl⟩) hS ?_
      simp only [Act.put, List.setIfInBounds_toArray, List.set_cons_zero, List.set_cons_succ]
      refine take_lawH 9 (some 55) (qv) rfl rfl (by kernel_rfl) (by kernel_rfl) (by kernel_rfl) (fun _ _ _ h => h) (Or.inl ⟨by rfl, fun w' hw' => by rfl⟩) hS ?_
      simp only [Act.put, List.setIfInBounds_toArray, List.set_cons_zero, List.set_cons_succ]
      refine take_lawH 10 (some 56) (.int .i64 0) rfl rfl (by kernel_rfl) (by kernel_rfl) (by kernel_rfl) (fun _ _ _ h => h) (Or.inl ⟨by rfl, fun w' hw' => by rfl⟩) hS ?_
      simp only [Act.put, List.setIfInBounds_toArray, List.set_cons_zero, List.set_cons_succ]
      refine wpAnyH_ready (rs := [12]) (by kernel_rfl) (by simp) ?_
      refine AllReadyH.cons rfl (fun K hK => ?_) AllReadyH.nil
      refine step_storeC _ rfl none rfl (.tmp 10) (.tmp 54) 25 rfl g4 (hv 0 0 0 0 0 0) (hv qk qn qc ql qe qt) rfl rfl HG.out rfl rowy_head.2 (hv_one _ _ _ _ _ _) ?_
      intro y19 v9 B9
      have hS : Below w4.heap.size w4 y19 := hS.trans (B9.mono g4l)
      clear v9 B9
      refine hK.out _ _ hS (fun _ => ?_)
      simp only [Act.put]
      clear hK K
      refine take_lawH 13 (some 11) (qv) rfl rfl (by kernel_rfl) (by kernel_rfl) (by kernel_rfl) (fun _ _ _ h => h) (Or.inl ⟨by rfl, fun w' hw' => by rfl⟩) hS ?_
      simp only [Act.put, List.setIfInBounds_toArray, List.set_cons_zero, List.set_cons_succ]
      refine take_lawH 14 (some 12) (.int .i64 0) rfl rfl (by kernel_rfl) (by kernel_rfl) (by kernel_rfl) (fun _ _ _ h => h) (Or.inl ⟨by rfl, fun w' hw' => by rfl⟩) hS ?_
      simp only [Act.put, List.setIfInBounds_toArray, List.set_cons_zero, List.set_cons_succ]
      refine wpAnyH_done (by kernel_rfl) ?_ _
      have YB : Hid (Byt y19 bv EE) := YB.out.below hS
      have YX : Hid (Byt y19 xv X) := YX.out.below hS
      have BB : Hid (Below w.heap.size w y19) := BB.out.trans (hS.mono BB.out.size)
      clear hS
      have t5 : (0 : Nat) = 0 := rfl
      go_wp2_with (first
        | (have qa := ta; go_at_call 11; refine (awake_any _ (hT.below BB.out)).mono ?_; rintro e9 w9 ⟨rfl, B9⟩; have BB : Hid (Below w.heap.size w w9) := BB.out.trans (B9.mono BB.out.size); clear B9 ta)
        | (have q := t6; go_at_call 12; refine (SS.out _ _ _ YX.out YP.out).mono ?_; rintro e9 w9 ⟨rfl, Bx⟩; have BB : Hid (Below w.heap.size w w9) := BB.out.trans (Bx.mono BB.out.size); clear Bx t6; have ta : (0 : Nat) = 0 := rfl)
        | (have q := t5; refine cut_to _ rfl (.tmp 60) (.const (.int .i64 48)) rfl _ EE _ 48 rfl rfl rfl (by have := HE.out; omega) YB.out ?_; intro v8 y8; rw [HP.out] at y8; have YP : Hid (Byt y19 v8 PP) := y8; clear y8 t5; have t6 : (0 : Nat) = 0 := rfl))
      go_ret
      exact ⟨rfl, BB.out⟩
  · refine step_newT _ rfl (some 10) rfl 25 rfl (hv 0 0 0 0 0 0) zero_head ?_
    intro y20 V9 hb s9 hy4
    have g4l : w4.heap.size ≤ y1.heap.size := hS.size
    obtain ⟨g4, hg4⟩ : ∃ g, g = y1.heap.size := ⟨_, rfl⟩
    have hS : Below w4.heap.size w4 y20 := hS.trans (hb.mono hS.size)
    rw [← hg4] at V9 g4l s9 hy4 ⊢
    have HG : Hid (Vr y20 g4 (hv 0 0 0 0 0 0)) := V9
    have HT4 : Hid (∃ fr, y20.heap[g4]? = some (.cells (hv 0 0 0 0 0 0).toArray 25 fr)) := hy4
    clear V9 hb hg4 s9 hy4
    refine hK.out _ _ hS (fun _ => ?_)
    simp only [Act.put, List.setIfInBounds_toArray, List.set_cons_zero, List.set_cons_succ]
    clear hK K
    refine wpAnyH_ready (rs := [0]) (by kernel_rfl) (by simp) ?_
    refine AllReadyH.cons rfl (fun K hK => ?_) AllReadyH.nil
    refine step_nil _ rfl (some 47) rfl rfl ?_
    intro nv1 y21 y9 hb
    have HT4 : Hid (∃ fr, y21.heap[g4]? = some (.cells (hv 0 0 0 0 0 0).toArray 25 fr)) := by rw [hb.block g4 (range_lt HG.out.1 (by simp [hv]))]; exact HT4.out
    have HG : Hid (Vr y21 g4 (hv 0 0 0 0 0 0)) := HG.out.below hb (range_lt HG.out.1 (by simp [hv]))
    have O1 : Hid (Own w4.heap.size y21 nv1 []) := own_less y9 hS.size
    have hS : Below w4.heap.size w4 y21 := hS.trans (hb.mono hS.size)
    clear hb y9
    refine hK.out _ _ hS (fun _ => ?_)
    simp only [Act.put, List.setIfInBounds_toArray, List.set_cons_zero, List.set_cons_succ]
    clear hK K
    refine wpAnyH_ready (rs := [2]) (by kernel_rfl) (by simp) ?_
    refine AllReadyH.cons rfl (fun K hK => ?_) AllReadyH.nil
    refine step_pushsK _ rfl (some 49) rfl (.tmp 47) (.tmp 48) rfl w4.heap.size hS.size _ _ [] X rfl rfl O1.out (YX.out.below hS) (by have := LX.out; simp <;> omega) (by have := LX.out; have := LT.out; omega) ?_
    intro pv1 y22 y9 hb hk9
    have e9 : y22.heap[g4]? = y21.heap[g4]? := hk9.block g4 (range_lt HG.out.1 (by simp [hv])) (own_not O1.out HT4.out)
    have HG : Hid (Vr y22 g4 (hv 0 0 0 0 0 0)) := HG.out.heap e9
    have HT4 : Hid (∃ fr, y22.heap[g4]? = some (.cells (hv 0 0 0 0 0 0).toArray 25 fr)) := by rw [e9]; exact HT4.out
    clear e9
    have O2 : Hid (Own w4.heap.size y22 pv1 ([] ++ X)) := y9
    have hS : Below w4.heap.size w4 y22 := hS.trans hb
    clear hb y9 hk9
    refine hK.out _ _ hS (fun _ => ?_)
    simp only [Act.put, List.setIfInBounds_toArray, List.set_cons_zero, List.set_cons_succ]
    clear hK K
    refine wpAnyH_ready (rs := [5]) (by kernel_rfl) (by simp) ?_
    refine AllReadyH.cons rfl (fun K hK => ?_) AllReadyH.nil
    refine step_pushsK _ rfl (some 52) rfl (.tmp 49) (.tmp 51) rfl w4.heap.size hS.size _ _ ([] ++ X) TT rfl rfl O2.out (HD.out ▸ (HE.out ▸ sl_from (YB.out.below hS) 48 (by have := HE.out; omega))) (by have := LX.out; simp <;> omega) (by have := LX.out; have := LT.out; omega) ?_
    intro pv2 y23 y9 hb hk9
    have e9 : y23.heap[g4]? = y22.heap[g4]? := hk9.block g4 (range_lt HG.out.1 (by simp [hv])) (own_not O2.out HT4.out)
    have HG : Hid (Vr y23 g4 (hv 0 0 0 0 0 0)) := HG.out.heap e9
    have HT4 : Hid (∃ fr, y23.heap[g4]? = some (.cells (hv 0 0 0 0 0 0).toArray 25 fr)) := by rw [e9]; exact HT4.out
    clear e9
    have O3 : Hid (Own w4.heap.size y23 pv2 ([] ++ X ++ TT)) := y9
    have hS : Below w4.heap.size w4 y23 := hS.trans hb
    clear hb y9 hk9
    refine hK.out _ _ hS (fun _ => ?_)
    simp only [Act.put, List.setIfInBounds_toArray, List.set_cons_zero, List.set_cons_succ]
    clear hK K
    refine wpAnyH_ready (rs := [6]) (by kernel_rfl) (by simp) ?_
    refine AllReadyH.cons rfl (fun K hK => ?_) AllReadyH.nil
    refine step_callW _ (by rfl) (some 53) rfl 17 #[.tmp 52] #[26] rfl (fun q w' => by rfl) #[pv2] (by simp only [List.map_toArray, List.map_cons, List.map_nil]; rfl) (fun u w' => (∃ k n c l e t v, u = .tuple #[.agg (hv k n c l e t).toArray, v, .int .i64 0]) ∧ Below y23.heap.size y23 w') ?_ ?_
    · exact (SD.out y23 _ (BB.out.trans (hS.mono BB.out.size)) (O3.out.byt (allB_app AX.out AT.out))).mono fun e' w' ⟨k, n, c, l, e, t, v, h1, h2⟩ => ⟨_, h1, ⟨k, n, c, l, e, t, v, rfl⟩, h2⟩
    rintro _ y24 ⟨⟨qk, qn, qc, ql, qe, qt, qv, rfl⟩, hb⟩
    have HT4 : Hid (∃ fr, y24.heap[g4]? = some (.cells (hv 0 0 0 0 0 0).toArray 25 fr)) := by rw [hb.block g4 (range_lt HG.out.1 (by simp [hv]))]; exact HT4.out
    have HG : Hid (Vr y24 g4 (hv 0 0 0 0 0 0)) := HG.out.below hb (range_lt HG.out.1 (by simp [hv]))
    have hS : Below w4.heap.size w4 y24 := hS.trans (hb.mono hS.size)
    clear hb
    refine hK.out _ _ hS (fun _ => ?_)
    simp only [Act.put, List.setIfInBounds_toArray, List.set_cons_zero, List.set_cons_succ]
    clear hK K
    refine take_lawH 7 (some 46) (.tuple #[.agg (hv qk qn qc ql qe qt).toArray, qv, .int .i64 0]) rfl rfl (by kernel_rfl) (by kernel_rfl) (by kernel_rfl) (fun _ _ _ h => h) (Or.inl ⟨by rfl, fun w' hw' => by rfl⟩) hS ?_
    simp only [Act.put, List.setIfInBounds_toArray, List.set_cons_zero, List.set_cons_succ]
    refine take_lawH 8 (some 54) (.agg (hv qk qn qc ql qe qt).toArray) rfl rfl (by kernel_rfl) (by kernel_rfl) (by kernel_rfl) (fun _ _ _ h => h) (Or.inl ⟨by rfl, fun w' hw' => by rfl⟩) hS ?_
    simp only [Act.put, List.setIfInBounds_toArray, List.set_cons_zero, List.set_cons_succ]
    refine take_lawH 9 (some 55) (qv) rfl rfl (by kernel_rfl) (by kernel_rfl) (by kernel_rfl) (fun _ _ _ h => h) (Or.inl ⟨by rfl, fun w' hw' => by rfl⟩) hS ?_
    simp only [Act.put, List.setIfInBounds_toArray, List.set_cons_zero, List.set_cons_succ]
    refine take_lawH 10 (some 56) (.int .i64 0) rfl rfl (by kernel_rfl) (by kernel_rfl) (by kernel_rfl) (fun _ _ _ h => h) (Or.inl ⟨by rfl, fun w' hw' => by rfl⟩) hS ?_
    simp only [Act.put, List.setIfInBounds_toArray, List.set_cons_zero, List.set_cons_succ]
    refine wpAnyH_ready (rs := [12]) (by kernel_rfl) (by simp) ?_
    refine AllReadyH.cons rfl (fun K hK => ?_) AllReadyH.nil
    refine step_storeC _ rfl none rfl (.tmp 10) (.tmp 54) 25 rfl g4 (hv 0 0 0 0 0 0) (hv qk qn qc ql qe qt) rfl rfl HG.out rfl rowy_head.2 (hv_one _ _ _ _ _ _) ?_
    intro y25 v9 B9
    have hS : Below w4.heap.size w4 y25 := hS.trans (B9.mono g4l)
    clear v9 B9
    refine hK.out _ _ hS (fun _ => ?_)
    simp only [Act.put]
    clear hK K
    refine take_lawH 13 (some 11) (qv) rfl rfl (by kernel_rfl) (by kernel_rfl) (by kernel_rfl) (fun _ _ _ h => h) (Or.inl ⟨by rfl, fun w' hw' => by rfl⟩) hS ?_
    simp only [Act.put, List.setIfInBounds_toArray, List.set_cons_zero, List.set_cons_succ]
    refine take_lawH 14 (some 12) (.int .i64 0) rfl rfl (by kernel_rfl) (by kernel_rfl) (by kernel_rfl) (fun _ _ _ h => h) (Or.inl ⟨by rfl, fun w' hw' => by rfl⟩) hS ?_
    simp only [Act.put, List.setIfInBounds_toArray, List.set_cons_zero, List.set_cons_succ]
    refine wpAnyH_done (by kernel_rfl) ?_ _
    have YB : Hid (Byt y25 bv EE) := YB.out.below hS
    have YX : Hid (Byt y25 xv X) := YX.out.below hS
    have BB : Hid (Below w.heap.size w y25) := BB.out.trans (hS.mono BB.out.size)
    clear hS
    have t5 : (0 : Nat) = 0 := rfl
    go_wp2_with (first
      | (have qa := ta; go_at_call 11; refine (awake_any _ (hT.below BB.out)).mono ?_; rintro e9 w9 ⟨rfl, B9⟩; have BB : Hid (Below w.heap.size w w9) := BB.out.trans (B9.mono BB.out.size); clear B9 ta)
      | (have q := t6; go_at_call 12; refine (SS.out _ _ _ YX.out YP.out).mono ?_; rintro e9 w9 ⟨rfl, Bx⟩; have BB : Hid (Below w.heap.size w w9) := BB.out.trans (Bx.mono BB.out.size); clear Bx t6; have ta : (0 : Nat) = 0 := rfl)
      | (have q := t5; refine cut_to _ rfl (.tmp 60) (.const (.int .i64 48)) rfl _ EE _ 48 rfl rfl rfl (by have := HE.out; omega) YB.out ?_; intro v8 y8; rw [HP.out] at y8; have YP : Hid (Byt y25 v8 PP) := y8; clear y8 t5; have t6 : (0 : Nat) = 0 := rfl))
    go_ret
    exact ⟨rfl, BB.out⟩

set_option maxHeartbeats 8000000 in
theorem walk_sn (k n c l e t : Int) (v : Value) (mask : List Int) (w : World) (hf : Hb l e t) (hv' : Byt w v mask) (hT : Tab w) (hr : Rh k n c) (hx : ¬ ofb 48 (erased (hb k n c l e t ++ inv (hb k n c l e t)) mask) = hb k n c l e t ++ inv (hb k n c l e t)) :
    Calls Tryd.prog 7 #[.agg (hv k n c l e t).toArray, v, .bool true] w fun x w' => x = .returned (.bool true) ∧ Below w.heap.size w w' := by
  have t0 : (0 : Nat) = 0 := rfl
  have M8l : (List.replicate 8 (255 : Int)).length = 8 := by simp
  have TGl : (tgo []).length = 32 := tgo_len (.inl rfl)
  have HZ := hb_len k n c l e t
  have SE : Hid (∀ w', Below w.heap.size w w' → Calls Tryd.prog 14 #[.agg (hv k n c l e t).toArray, .slice none 0 0] w' fun x w'' => ∃ v, x = .returned (.tuple #[v, .int .i64 0]) ∧ Own w'.heap.size w'' v (hend (hb k n c l e t) (tgo []) (List.replicate 8 255)) ∧ Below w'.heap.size w' w'') := fun w' q => end_yes k n c l e t (.slice none 0 0) [] w' (Byt.nil w') hf.1 hf.2.1 hf.2.2 (hT.below q) hr (.inl rfl)
  have HE : Hid ((hend (hb k n c l e t) (tgo []) (List.replicate 8 255)).length = 88) := hend_len HZ TGl M8l
  have AE : Hid (AllB (hend (hb k n c l e t) (tgo []) (List.replicate 8 255))) := hend_all (hb_all hr l e t) (tgo_all (allB_mem (by simp))) (allB_replicate 255 8 (by omega))
  have HP : Hid ((hend (hb k n c l e t) (tgo []) (List.replicate 8 255)).take 48 = hb k n c l e t ++ inv (hb k n c l e t)) := take48 HZ
  have HD : Hid ((hend (hb k n c l e t) (tgo []) (List.replicate 8 255)).drop 48 = tgo [] ++ List.replicate 8 255) := drop48 HZ
  have PL : (hb k n c l e t ++ inv (hb k n c l e t)).length = 48 := by rw [List.length_append, inv_len, HZ]
  have SR : Hid (∀ w' a b, Byt w' a (hb k n c l e t ++ inv (hb k n c l e t)) → Byt w' b mask → Calls Tryd.prog 23 #[a, b] w' fun e' w'' => ∃ v, e' = .returned v ∧ Byt w'' v (ofb 48 (erased (hb k n c l e t ++ inv (hb k n c l e t)) mask)) ∧ Below w'.heap.size w' w'') := fun w' a b h1 h2 => by
    have := rerase_any a b _ mask w' h1 h2 (by omega)
    rw [PL] at this
    exact this
  have AX : Hid (AllB (ofb 48 (erased (hb k n c l e t ++ inv (hb k n c l e t)) mask))) := ofb_all _ _
  have LX : Hid ((ofb 48 (erased (hb k n c l e t ++ inv (hb k n c l e t)) mask)).length = 48) := ofb_len _ _
  have TLX := bits_tl (l := l) (e := e) (t := t) (mk := List.replicate 8 255) hr TGl (ofb_len 48 _) (ofb_all 48 _) (.inl fun i hi h => erased_up _ mask 48 i (by omega) h)
  have SD : Hid (∀ w' u, Below w.heap.size w w' → Byt w' u ((ofb 48 (erased (hb k n c l e t ++ inv (hb k n c l e t)) mask)) ++ (tgo [] ++ List.replicate 8 255)) → Calls Tryd.prog 17 #[u] w' fun x w'' => ∃ k n c l e t v, x = .returned (.tuple #[.agg (hv k n c l e t).toArray, v, .int .i64 1]) ∧ Below w'.heap.size w' w'') := fun w' u q h => (read_no u _ w' h (by rw [List.length_append, LX.out, List.length_append, TGl, M8l]) (hT.below q) (fun z => hx (TLX.1 z))).mono fun e' w'' ⟨h1, h3⟩ => ⟨0, 0, 0, 0, 0, 0, _, h1, h3⟩
  have SS : Hid (∀ w' a b, Byt w' a (ofb 48 (erased (hb k n c l e t ++ inv (hb k n c l e t)) mask)) → Byt w' b (hb k n c l e t ++ inv (hb k n c l e t)) → Calls Tryd.prog 12 #[a, b] w' fun e' w'' => e' = .returned (.bool false) ∧ Below w'.heap.size w' w'') := fun w' a b h1 h2 => (same_any w' a b _ _ h1 h2).mono fun e' w'' ⟨g1, n', g2⟩ => ⟨by rw [g1, decide_eq_false hx], by rw [g2]; exact he.below_drawn (Below.refl _ _) n'⟩
  have HMK : Hid (Byt w v mask) := hv'
  generalize ofb 48 (erased (hb k n c l e t ++ inv (hb k n c l e t)) mask) = X at *
  generalize hend (hb k n c l e t) (tgo []) (List.replicate 8 255) = EE at *
  generalize hb k n c l e t ++ inv (hb k n c l e t) = PP at *
  have LT : Hid ((tgo [] ++ List.replicate 8 (255 : Int)).length = 40) := by
    show _ = _
    rw [List.length_append, TGl, M8l]
  have AT : Hid (AllB (tgo [] ++ List.replicate 8 (255 : Int))) := allB_app (tgo_all (allB_mem (by simp))) (allB_replicate 255 8 (by omega))
  generalize tgo [] ++ List.replicate 8 (255 : Int) = TT at *
  clear hf hv' hr M8l TGl HZ PL TLX hx
  go_enter Tryd.func7, Tryd.ntmps7
  go_wp2_with (first
    | (have q := t4; go_at_call 23; refine (SR.out _ _ _ YP.out (HMK.out.below BB.out)).mono ?_; rintro e9 w4 ⟨xv, rfl, y4, Bx⟩; have YX : Hid (Byt w4 xv X) := y4; have YB : Hid (Byt w4 bv EE) := YB.out.below Bx; have BB : Hid (Below w.heap.size w w4) := BB.out.trans (Bx.mono BB.out.size); clear Bx y4 t4 YP)
    | (have q := t3; refine cut_to _ rfl (.tmp 35) (.const (.int .i64 48)) rfl _ EE _ 48 rfl rfl rfl (by have := HE.out; omega) YB.out ?_; intro v3 y3; rw [HP.out] at y3; have YP : Hid (Byt w2 v3 PP) := y3; clear y3 t3; have t4 : (0 : Nat) = 0 := rfl)
    | (have q := t2; refine len_lawG _ (by rfl) (.tmp 21) rfl _ EE 88 rfl YB.out (by rw [HE.out]; rfl) ?_; clear t2; have t3 : (0 : Nat) = 0 := rfl)
    | (have q := t1; go_at_call 14; refine (SE.out _ BB.out).mono ?_; rintro e9 w2 ⟨bv, rfl, o2, Bx⟩; have YB : Hid (Byt w2 bv EE) := o2.byt AE.out; have BB : Hid (Below w.heap.size w w2) := BB.out.trans (Bx.mono BB.out.size); clear c0 c1 c2 c3 c4 c5; clear o2 Bx t1 HA; have t2 : (0 : Nat) = 0 := rfl)
    | (have q0 := t0; refine box_lawC _ (hv k n c l e t) rfl ?_; intro w1 V1 B1 s1; have HA : Hid (Vr w1 w.heap.size (hv k n c l e t)) := V1; have c0 := HA.out.cell 0 _ rfl; have c1 := HA.out.cell 1 _ rfl; have c2 := HA.out.cell 2 _ rfl; have c3 := HA.out.cell 3 _ rfl; have c4 := HA.out.cell 4 _ rfl; have c5 := HA.out.cell 5 _ rfl; have BB : Hid (Below w.heap.size w w1) := B1; clear V1 B1 t0; have t1 : (0 : Nat) = 0 := rfl))
  refine wp_region_held_drew (S := fun w' => Below w4.heap.size w4 w') (by kernel_rfl) (Below.refl _ _).drew (fun hS => ?_)
  obtain ⟨y1, hx0⟩ : ∃ x, x = w4.drew := ⟨_, rfl⟩
  rw [← hx0] at hS  ⊢
  clear hx0
  refine take_lawH 1 (some 48) (xv) rfl rfl (by kernel_rfl) (by kernel_rfl) (by kernel_rfl) (fun _ _ _ h => h) (Or.inl ⟨by rfl, fun w' hw' => by rfl⟩) hS ?_
  simp only [Act.put, List.setIfInBounds_toArray, List.set_cons_zero, List.set_cons_succ]
  refine take_lawH 3 (some 50) (bv) rfl rfl (by kernel_rfl) (by kernel_rfl) (by kernel_rfl) (fun _ _ _ h => h) (Or.inl ⟨by rfl, fun w' hw' => by rfl⟩) hS ?_
  simp only [Act.put, List.setIfInBounds_toArray, List.set_cons_zero, List.set_cons_succ]
  refine take_lawH 4 (some 51) (sl bv 48 88) rfl rfl (by kernel_rfl) (by kernel_rfl) (by kernel_rfl) (fun _ _ _ h => h) (Or.inl ⟨by rfl, fun w' hw' => by exact exec_from (.tmp 50) (.const (.int .i64 48)) rfl bv EE _ YB.out 48 88 rfl rfl HE.out (by omega) _⟩) hS ?_
  simp only [Act.put, List.setIfInBounds_toArray, List.set_cons_zero, List.set_cons_succ]
  refine wpAnyH_ready (rs := [0, 11]) (by kernel_rfl) (by simp) ?_
  refine AllReadyH.cons rfl (fun K hK => ?_) (AllReadyH.cons rfl (fun K hK => ?_) AllReadyH.nil)
  · refine step_nil _ rfl (some 47) rfl rfl ?_
    intro nv1 y2 y9 hb
    have O1 : Hid (Own w4.heap.size y2 nv1 []) := own_less y9 hS.size
    have hS : Below w4.heap.size w4 y2 := hS.trans (hb.mono hS.size)
    clear hb y9
    refine hK.out _ _ hS (fun _ => ?_)
    simp only [Act.put, List.setIfInBounds_toArray, List.set_cons_zero, List.set_cons_succ]
    clear hK K
    refine wpAnyH_ready (rs := [2, 11]) (by kernel_rfl) (by simp) ?_
    refine AllReadyH.cons rfl (fun K hK => ?_) (AllReadyH.cons rfl (fun K hK => ?_) AllReadyH.nil)
    · refine step_pushsK _ rfl (some 49) rfl (.tmp 47) (.tmp 48) rfl w4.heap.size hS.size _ _ [] X rfl rfl O1.out (YX.out.below hS) (by have := LX.out; simp <;> omega) (by have := LX.out; have := LT.out; omega) ?_
      intro pv1 y3 y9 hb hk9
      have O2 : Hid (Own w4.heap.size y3 pv1 ([] ++ X)) := y9
      have hS : Below w4.heap.size w4 y3 := hS.trans hb
      clear hb y9 hk9
      refine hK.out _ _ hS (fun _ => ?_)
      simp only [Act.put, List.setIfInBounds_toArray, List.set_cons_zero, List.set_cons_succ]
      clear hK K
      refine wpAnyH_ready (rs := [5, 11]) (by kernel_rfl) (by simp) ?_
      refine AllReadyH.cons rfl (fun K hK => ?_) (AllReadyH.cons rfl (fun K hK => ?_) AllReadyH.nil)
      · refine step_pushsK _ rfl (some 52) rfl (.tmp 49) (.tmp 51) rfl w4.heap.size hS.size _ _ ([] ++ X) TT rfl rfl O2.out (HD.out ▸ (HE.out ▸ sl_from (YB.out.below hS) 48 (by have := HE.out; omega))) (by have := LX.out; simp <;> omega) (by have := LX.out; have := LT.out; omega) ?_
        intro pv2 y4 y9 hb hk9
        have O3 : Hid (Own w4.heap.size y4 pv2 ([] ++ X ++ TT)) := y9
        have hS : Below w4.heap.size w4 y4 := hS.trans hb
        clear hb y9 hk9
        refine hK.out _ _ hS (fun _ => ?_)
        simp only [Act.put, List.setIfInBounds_toArray, List.set_cons_zero, List.set_cons_succ]
        clear hK K
        refine wpAnyH_ready (rs := [6, 11]) (by kernel_rfl) (by simp) ?_
        refine AllReadyH.cons rfl (fun K hK => ?_) (AllReadyH.cons rfl (fun K hK => ?_) AllReadyH.nil)
        · refine step_callW _ (by rfl) (some 53) rfl 17 #[.tmp 52] #[26] rfl (fun q w' => by rfl) #[pv2] (by simp only [List.map_toArray, List.map_cons, List.map_nil]; rfl) (fun u w' => (∃ k n c l e t v, u = .tuple #[.agg (hv k n c l e t).toArray, v, .int .i64 1]) ∧ Below y4.heap.size y4 w') ?_ ?_
          · exact (SD.out y4 _ (BB.out.trans (hS.mono BB.out.size)) (O3.out.byt (allB_app AX.out AT.out))).mono fun e' w' ⟨k, n, c, l, e, t, v, h1, h2⟩ => ⟨_, h1, ⟨k, n, c, l, e, t, v, rfl⟩, h2⟩
          rintro _ y5 ⟨⟨qk, qn, qc, ql, qe, qt, qv, rfl⟩, hb⟩
          have hS : Below w4.heap.size w4 y5 := hS.trans (hb.mono hS.size)
          clear hb
          refine hK.out _ _ hS (fun _ => ?_)
          simp only [Act.put, List.setIfInBounds_toArray, List.set_cons_zero, List.set_cons_succ]
          clear hK K
          refine take_lawH 7 (some 46) (.tuple #[.agg (hv qk qn qc ql qe qt).toArray, qv, .int .i64 1]) rfl rfl (by kernel_rfl) (by kernel_rfl) (by kernel_rfl) (fun _ _ _ h => h) (Or.inl ⟨by rfl, fun w' hw' => by rfl⟩) hS ?_
          simp only [Act.put, List.setIfInBounds_toArray, List.set_cons_zero, List.set_cons_succ]
          refine take_lawH 8 (some 54) (.agg (hv qk qn qc ql qe qt).toArray) rfl rfl (by kernel_rfl) (by kernel_rfl) (by kernel_rfl) (fun _ _ _ h => h) (Or.inl ⟨by rfl, fun w' hw' => by rfl⟩) hS ?_
          simp only [Act.put, List.setIfInBounds_toArray, List.set_cons_zero, List.set_cons_succ]
          refine take_lawH 9 (some 55) (qv) rfl rfl (by kernel_rfl) (by kernel_rfl) (by kernel_rfl) (fun _ _ _ h => h) (Or.inl ⟨by rfl, fun w' hw' => by rfl⟩) hS ?_
          simp only [Act.put, List.setIfInBounds_toArray, List.set_cons_zero, List.set_cons_succ]
          refine take_lawH 10 (some 56) (.int .i64 1) rfl rfl (by kernel_rfl) (by kernel_rfl) (by kernel_rfl) (fun _ _ _ h => h) (Or.inl ⟨by rfl, fun w' hw' => by rfl⟩) hS ?_
          simp only [Act.put, List.setIfInBounds_toArray, List.set_cons_zero, List.set_cons_succ]
          refine wpAnyH_ready (rs := [11]) (by kernel_rfl) (by simp) ?_
          refine AllReadyH.cons rfl (fun K hK => ?_) AllReadyH.nil
          refine step_newT _ rfl (some 10) rfl 25 rfl (hv 0 0 0 0 0 0) zero_head ?_
          intro y6 V9 hb s9 hy4
          have g4l : w4.heap.size ≤ y5.heap.size := hS.size
          obtain ⟨g4, hg4⟩ : ∃ g, g = y5.heap.size := ⟨_, rfl⟩
          have hS : Below w4.heap.size w4 y6 := hS.trans (hb.mono hS.size)
          rw [← hg4] at V9 g4l s9 hy4 ⊢
          have HG : Hid (Vr y6 g4 (hv 0 0 0 0 0 0)) := V9
          have HT4 : Hid (∃ fr, y6.heap[g4]? = some (.cells (hv 0 0 0 0 0 0).toArray 25 fr)) := hy4
          clear V9 hb hg4 s9 hy4
          refine hK.out _ _ hS (fun _ => ?_)
          simp only [Act.put, List.setIfInBounds_toArray, List.set_cons_zero, List.set_cons_succ]
          clear hK K
          refine wpAnyH_ready (rs := [12]) (by kernel_rfl) (by simp) ?_
          refine AllReadyH.cons rfl (fun K hK => ?_) AllReadyH.nil
          refine step_storeC _ rfl none rfl (.tmp 10) (.tmp 54) 25 rfl g4 (hv 0 0 0 0 0 0) (hv qk qn qc ql qe qt) rfl rfl HG.out rfl rowy_head.2 (hv_one _ _ _ _ _ _) ?_
          intro y7 v9 B9
          have hS : Below w4.heap.size w4 y7 := hS.trans (B9.mono g4l)
          clear v9 B9
          refine hK.out _ _ hS (fun _ => ?_)
          simp only [Act.put]
          clear hK K
          refine take_lawH 13 (some 11) (qv) rfl rfl (by kernel_rfl) (by kernel_rfl) (by kernel_rfl) (fun _ _ _ h => h) (Or.inl ⟨by rfl, fun w' hw' => by rfl⟩) hS ?_
          simp only [Act.put, List.setIfInBounds_toArray, List.set_cons_zero, List.set_cons_succ]
          refine take_lawH 14 (some 12) (.int .i64 1) rfl rfl (by kernel_rfl) (by kernel_rfl) (by kernel_rfl) (fun _ _ _ h => h) (Or.inl ⟨by rfl, fun w' hw' => by rfl⟩) hS ?_
          simp only [Act.put, List.setIfInBounds_toArray, List.set_cons_zero, List.set_cons_succ]
          refine wpAnyH_done (by kernel_rfl) ?_ _
          have YB : Hid (Byt y7 bv EE) := YB.out.below hS
          have YX : Hid (Byt y7 xv X) := YX.out.below hS
          have BB : Hid (Below w.heap.size w y7) := BB.out.trans (hS.mono BB.out.size)
          clear hS
          have t5 : (0 : Nat) = 0 := rfl
          go_wp2_with (first
            | (have qa := ta; go_at_call 11; refine (awake_any _ (hT.below BB.out)).mono ?_; rintro e9 w9 ⟨rfl, B9⟩; have BB : Hid (Below w.heap.size w w9) := BB.out.trans (B9.mono BB.out.size); clear B9 ta)
            | (have q := t6; go_at_call 12; refine (SS.out _ _ _ YX.out YP.out).mono ?_; rintro e9 w9 ⟨rfl, Bx⟩; have BB : Hid (Below w.heap.size w w9) := BB.out.trans (Bx.mono BB.out.size); clear Bx t6; have ta : (0 : Nat) = 0 := rfl)
            | (have q := t5; refine cut_to _ rfl (.tmp 60) (.const (.int .i64 48)) rfl _ EE _ 48 rfl rfl rfl (by have := HE.out; omega) YB.out ?_; intro v8 y8; rw [HP.out] at y8; have YP : Hid (Byt y7 v8 PP) := y8; clear y8 t5; have t6 : (0 : Nat) = 0 := rfl))
          go_ret
          exact ⟨rfl, BB.out⟩
        · refine step_newT _ rfl (some 10) rfl 25 rfl (hv 0 0 0 0 0 0) zero_head ?_
          intro y8 V9 hb s9 hy4
          have O3 : Hid (Own w4.heap.size y8 pv2 ([] ++ X ++ TT)) := own_low O3.out hb
          have g4l : w4.heap.size ≤ y4.heap.size := hS.size
          obtain ⟨g4, hg4⟩ : ∃ g, g = y4.heap.size := ⟨_, rfl⟩
          have hS : Below w4.heap.size w4 y8 := hS.trans (hb.mono hS.size)
          rw [← hg4] at V9 g4l s9 hy4 ⊢
          have HG : Hid (Vr y8 g4 (hv 0 0 0 0 0 0)) := V9
          have HT4 : Hid (∃ fr, y8.heap[g4]? = some (.cells (hv 0 0 0 0 0 0).toArray 25 fr)) := hy4
          clear V9 hb hg4 s9 hy4
          refine hK.out _ _ hS (fun _ => ?_)
          simp only [Act.put, List.setIfInBounds_toArray, List.set_cons_zero, List.set_cons_succ]
          clear hK K
          refine wpAnyH_ready (rs := [6]) (by kernel_rfl) (by simp) ?_
          refine AllReadyH.cons rfl (fun K hK => ?_) AllReadyH.nil
          refine step_callW _ (by rfl) (some 53) rfl 17 #[.tmp 52] #[26] rfl (fun q w' => by rfl) #[pv2] (by simp only [List.map_toArray, List.map_cons, List.map_nil]; rfl) (fun u w' => (∃ k n c l e t v, u = .tuple #[.agg (hv k n c l e t).toArray, v, .int .i64 1]) ∧ Below y8.heap.size y8 w') ?_ ?_
          · exact (SD.out y8 _ (BB.out.trans (hS.mono BB.out.size)) (O3.out.byt (allB_app AX.out AT.out))).mono fun e' w' ⟨k, n, c, l, e, t, v, h1, h2⟩ => ⟨_, h1, ⟨k, n, c, l, e, t, v, rfl⟩, h2⟩
          rintro _ y9 ⟨⟨qk, qn, qc, ql, qe, qt, qv, rfl⟩, hb⟩
          have HT4 : Hid (∃ fr, y9.heap[g4]? = some (.cells (hv 0 0 0 0 0 0).toArray 25 fr)) := by rw [hb.block g4 (range_lt HG.out.1 (by simp [hv]))]; exact HT4.out
          have HG : Hid (Vr y9 g4 (hv 0 0 0 0 0 0)) := HG.out.below hb (range_lt HG.out.1 (by simp [hv]))
          have hS : Below w4.heap.size w4 y9 := hS.trans (hb.mono hS.size)
          clear hb
          refine hK.out _ _ hS (fun _ => ?_)
          simp only [Act.put, List.setIfInBounds_toArray, List.set_cons_zero, List.set_cons_succ]
          clear hK K
          refine take_lawH 7 (some 46) (.tuple #[.agg (hv qk qn qc ql qe qt).toArray, qv, .int .i64 1]) rfl rfl (by kernel_rfl) (by kernel_rfl) (by kernel_rfl) (fun _ _ _ h => h) (Or.inl ⟨by rfl, fun w' hw' => by rfl⟩) hS ?_
          simp only [Act.put, List.setIfInBounds_toArray, List.set_cons_zero, List.set_cons_succ]
          refine take_lawH 8 (some 54) (.agg (hv qk qn qc ql qe qt).toArray) rfl rfl (by kernel_rfl) (by kernel_rfl) (by kernel_rfl) (fun _ _ _ h => h) (Or.inl ⟨by rfl, fun w' hw' => by rfl⟩) hS ?_
          simp only [Act.put, List.setIfInBounds_toArray, List.set_cons_zero, List.set_cons_succ]
          refine take_lawH 9 (some 55) (qv) rfl rfl (by kernel_rfl) (by kernel_rfl) (by kernel_rfl) (fun _ _ _ h => h) (Or.inl ⟨by rfl, fun w' hw' => by rfl⟩) hS ?_
          simp only [Act.put, List.setIfInBounds_toArray, List.set_cons_zero, List.set_cons_succ]
          refine take_lawH 10 (some 56) (.int .i64 1) rfl rfl (by kernel_rfl) (by kernel_rfl) (by kernel_rfl) (fun _ _ _ h => h) (Or.inl ⟨by rfl, fun w' hw' => by rfl⟩) hS ?_
          simp only [Act.put, List.setIfInBounds_toArray, List.set_cons_zero, List.set_cons_succ]
          refine wpAnyH_ready (rs := [12]) (by kernel_rfl) (by simp) ?_
          refine AllReadyH.cons rfl (fun K hK => ?_) AllReadyH.nil
          refine step_storeC _ rfl none rfl (.tmp 10) (.tmp 54) 25 rfl g4 (hv 0 0 0 0 0 0) (hv qk qn qc ql qe qt) rfl rfl HG.out rfl rowy_head.2 (hv_one _ _ _ _ _ _) ?_
          intro y10 v9 B9
          have hS : Below w4.heap.size w4 y10 := hS.trans (B9.mono g4l)
          clear v9 B9
          refine hK.out _ _ hS (fun _ => ?_)
          simp only [Act.put]
          clear hK K
          refine take_lawH 13 (some 11) (qv) rfl rfl (by kernel_rfl) (by kernel_rfl) (by kernel_rfl) (fun _ _ _ h => h) (Or.inl ⟨by rfl, fun w' hw' => by rfl⟩) hS ?_
          simp only [Act.put, List.setIfInBounds_toArray, List.set_cons_zero, List.set_cons_succ]
          refine take_lawH 14 (some 12) (.int .i64 1) rfl rfl (by kernel_rfl) (by kernel_rfl) (by kernel_rfl) (fun _ _ _ h => h) (Or.inl ⟨by rfl, fun w' hw' => by rfl⟩) hS ?_
          simp only [Act.put, List.setIfInBounds_toArray, List.set_cons_zero, List.set_cons_succ]
          refine wpAnyH_done (by kernel_rfl) ?_ _
          have YB : Hid (Byt y10 bv EE) := YB.out.below hS
          have YX : Hid (Byt y10 xv X) := YX.out.below hS
          have BB : Hid (Below w.heap.size w y10) := BB.out.trans (hS.mono BB.out.size)
          clear hS
          have t5 : (0 : Nat) = 0 := rfl
          go_wp2_with (first
            | (have qa := ta; go_at_call 11; refine (awake_any _ (hT.below BB.out)).mono ?_; rintro e9 w9 ⟨rfl, B9⟩; have BB : Hid (Below w.heap.size w w9) := BB.out.trans (B9.mono BB.out.size); clear B9 ta)
            | (have q := t6; go_at_call 12; refine (SS.out _ _ _ YX.out YP.out).mono ?_; rintro e9 w9 ⟨rfl, Bx⟩; have BB : Hid (Below w.heap.size w w9) := BB.out.trans (Bx.mono BB.out.size); clear Bx t6; have ta : (0 : Nat) = 0 := rfl)
            | (have q := t5; refine cut_to _ rfl (.tmp 60) (.const (.int .i64 48)) rfl _ EE _ 48 rfl rfl rfl (by have := HE.out; omega) YB.out ?_; intro v8 y8; rw [HP.out] at y8; have YP : Hid (Byt y10 v8 PP) := y8; clear y8 t5; have t6 : (0 : Nat) = 0 := rfl))
          go_ret
          exact ⟨rfl, BB.out⟩
      · refine step_newT _ rfl (some 10) rfl 25 rfl (hv 0 0 0 0 0 0) zero_head ?_
        intro y11 V9 hb s9 hy4
        have O2 : Hid (Own w4.heap.size y11 pv1 ([] ++ X)) := own_low O2.out hb
        have g4l : w4.heap.size ≤ y3.heap.size := hS.size
        obtain ⟨g4, hg4⟩ : ∃ g, g = y3.heap.size := ⟨_, rfl⟩
        have hS : Below w4.heap.size w4 y11 := hS.trans (hb.mono hS.size)
        rw [← hg4] at V9 g4l s9 hy4 ⊢
        have HG : Hid (Vr y11 g4 (hv 0 0 0 0 0 0)) := V9
        have HT4 : Hid (∃ fr, y11.heap[g4]? = some (.cells (hv 0 0 0 0 0 0).toArray 25 fr)) := hy4
        clear V9 hb hg4 s9 hy4
        refine hK.out _ _ hS (fun _ => ?_)
        simp only [Act.put, List.setIfInBounds_toArray, List.set_cons_zero, List.set_cons_succ]
        clear hK K
        refine wpAnyH_ready (rs := [5]) (by kernel_rfl) (by simp) ?_
        refine AllReadyH.cons rfl (fun K hK => ?_) AllReadyH.nil
        refine step_pushsK _ rfl (some 52) rfl (.tmp 49) (.tmp 51) rfl w4.heap.size hS.size _ _ ([] ++ X) TT rfl rfl O2.out (HD.out ▸ (HE.out ▸ sl_from (YB.out.below hS) 48 (by have := HE.out; omega))) (by have := LX.out; simp <;> omega) (by have := LX.out; have := LT.out; omega) ?_
        intro pv2 y12 y9 hb hk9
        have e9 : y12.heap[g4]? = y11.heap[g4]? := hk9.block g4 (range_lt HG.out.1 (by simp [hv])) (own_not O2.out HT4.out)
        have HG : Hid (Vr y12 g4 (hv 0 0 0 0 0 0)) := HG.out.heap e9
        have HT4 : Hid (∃ fr, y12.heap[g4]? = some (.cells (hv 0 0 0 0 0 0).toArray 25 fr)) := by rw [e9]; exact HT4.out
        clear e9
        have O3 : Hid (Own w4.heap.size y12 pv2 ([] ++ X ++ TT)) := y9
        have hS : Below w4.heap.size w4 y12 := hS.trans hb
        clear hb y9 hk9
        refine hK.out _ _ hS (fun _ => ?_)
        simp only [Act.put, List.setIfInBounds_toArray, List.set_cons_zero, List.set_cons_succ]
        clear hK K
        refine wpAnyH_ready (rs := [6]) (by kernel_rfl) (by simp) ?_
        refine AllReadyH.cons rfl (fun K hK => ?_) AllReadyH.nil
        refine step_callW _ (by rfl) (some 53) rfl 17 #[.tmp 52] #[26] rfl (fun q w' => by rfl) #[pv2] (by simp only [List.map_toArray, List.map_cons, List.map_nil]; rfl) (fun u w' => (∃ k n c l e t v, u = .tuple #[.agg (hv k n c l e t).toArray, v, .int .i64 1]) ∧ Below y12.heap.size y12 w') ?_ ?_
        · exact (SD.out y12 _ (BB.out.trans (hS.mono BB.out.size)) (O3.out.byt (allB_app AX.out AT.out))).mono fun e' w' ⟨k, n, c, l, e, t, v, h1, h2⟩ => ⟨_, h1, ⟨k, n, c, l, e, t, v, rfl⟩, h2⟩
        rintro _ y13 ⟨⟨qk, qn, qc, ql, qe, qt, qv, rfl⟩, hb⟩
        have HT4 : Hid (∃ fr, y13.heap[g4]? = some (.cells (hv 0 0 0 0 0 0).toArray 25 fr)) := by rw [hb.block g4 (range_lt HG.out.1 (by simp [hv]))]; exact HT4.out
        have HG : Hid (Vr y13 g4 (hv 0 0 0 0 0 0)) := HG.out.below hb (range_lt HG.out.1 (by simp [hv]))
        have hS : Below w4.heap.size w4 y13 := hS.trans (hb.mono hS.size)
        clear hb
        refine hK.out _ _ hS (fun _ => ?_)
        simp only [Act.put, List.setIfInBounds_toArray, List.set_cons_zero, List.set_cons_succ]
        clear hK K
        refine take_lawH 7 (some 46) (.tuple #[.agg (hv qk qn qc ql qe qt).toArray, qv, .int .i64 1]) rfl rfl (by kernel_rfl) (by kernel_rfl) (by kernel_rfl) (fun _ _ _ h => h) (Or.inl ⟨by rfl, fun w' hw' => by rfl⟩) hS ?_
        simp only [Act.put, List.setIfInBounds_toArray, List.set_cons_zero, List.set_cons_succ]
        refine take_lawH 8 (some 54) (.agg (hv qk qn qc ql qe qt).toArray) rfl rfl (by kernel_rfl) (by kernel_rfl) (by kernel_rfl) (fun _ _ _ h => h) (Or.inl ⟨by rfl, fun w' hw' => by rfl⟩) hS ?_
        simp only [Act.put, List.setIfInBounds_toArray, List.set_cons_zero, List.set_cons_succ]
        refine take_lawH 9 (some 55) (qv) rfl rfl (by kernel_rfl) (by kernel_rfl) (by kernel_rfl) (fun _ _ _ h => h) (Or.inl ⟨by rfl, fun w' hw' => by rfl⟩) hS ?_
        simp only [Act.put, List.setIfInBounds_toArray, List.set_cons_zero, List.set_cons_succ]
        refine take_lawH 10 (some 56) (.int .i64 1) rfl rfl (by kernel_rfl) (by kernel_rfl) (by kernel_rfl) (fun _ _ _ h => h) (Or.inl ⟨by rfl, fun w' hw' => by rfl⟩) hS ?_
        simp only [Act.put, List.setIfInBounds_toArray, List.set_cons_zero, List.set_cons_succ]
        refine wpAnyH_ready (rs := [12]) (by kernel_rfl) (by simp) ?_
        refine AllReadyH.cons rfl (fun K hK => ?_) AllReadyH.nil
        refine step_storeC _ rfl none rfl (.tmp 10) (.tmp 54) 25 rfl g4 (hv 0 0 0 0 0 0) (hv qk qn qc ql qe qt) rfl rfl HG.out rfl rowy_head.2 (hv_one _ _ _ _ _ _) ?_
        intro y14 v9 B9
        have hS : Below w4.heap.size w4 y14 := hS.trans (B9.mono g4l)
        clear v9 B9
        refine hK.out _ _ hS (fun _ => ?_)
        simp only [Act.put]
        clear hK K
        refine take_lawH 13 (some 11) (qv) rfl rfl (by kernel_rfl) (by kernel_rfl) (by kernel_rfl) (fun _ _ _ h => h) (Or.inl ⟨by rfl, fun w' hw' => by rfl⟩) hS ?_
        simp only [Act.put, List.setIfInBounds_toArray, List.set_cons_zero, List.set_cons_succ]
        refine take_lawH 14 (some 12) (.int .i64 1) rfl rfl (by kernel_rfl) (by kernel_rfl) (by kernel_rfl) (fun _ _ _ h => h) (Or.inl ⟨by rfl, fun w' hw' => by rfl⟩) hS ?_
        simp only [Act.put, List.setIfInBounds_toArray, List.set_cons_zero, List.set_cons_succ]
        refine wpAnyH_done (by kernel_rfl) ?_ _
        have YB : Hid (Byt y14 bv EE) := YB.out.below hS
        have YX : Hid (Byt y14 xv X) := YX.out.below hS
        have BB : Hid (Below w.heap.size w y14) := BB.out.trans (hS.mono BB.out.size)
        clear hS
        have t5 : (0 : Nat) = 0 := rfl
        go_wp2_with (first
          | (have qa := ta; go_at_call 11; refine (awake_any _ (hT.below BB.out)).mono ?_; rintro e9 w9 ⟨rfl, B9⟩; have BB : Hid (Below w.heap.size w w9) := BB.out.trans (B9.mono BB.out.size); clear B9 ta)
          | (have q := t6; go_at_call 12; refine (SS.out _ _ _ YX.out YP.out).mono ?_; rintro e9 w9 ⟨rfl, Bx⟩; have BB : Hid (Below w.heap.size w w9) := BB.out.trans (Bx.mono BB.out.size); clear Bx t6; have ta : (0 : Nat) = 0 := rfl)
          | (have q := t5; refine cut_to _ rfl (.tmp 60) (.const (.int .i64 48)) rfl _ EE _ 48 rfl rfl rfl (by have := HE.out; omega) YB.out ?_; intro v8 y8; rw [HP.out] at y8; have YP : Hid (Byt y14 v8 PP) := y8; clear y8 t5; have t6 : (0 : Nat) = 0 := rfl))
        go_ret
        exact ⟨rfl, BB.out⟩
    · refine step_newT _ rfl (some 10) rfl 25 rfl (hv 0 0 0 0 0 0) zero_head ?_
      intro y15 V9 hb s9 hy4
      have O1 : Hid (Own w4.heap.size y15 nv1 []) := own_low O1.out hb
      have g4l : w4.heap.size ≤ y2.heap.size := hS.size
      obtain ⟨g4, hg4⟩ : ∃ g, g = y2.heap.size := ⟨_, rfl⟩
      have hS : Below w4.heap.size w4 y15 := hS.trans (hb.mono hS.size)
      rw [← hg4] at V9 g4l s9 hy4 ⊢
      have HG : Hid (Vr y15 g4 (hv 0 0 0 0 0 0)) := V9
      have HT4 : Hid (∃ fr, y15.heap[g4]? = some (.cells (hv 0 0 0 0 0 0).toArray 25 fr)) := hy4
      clear V9 hb hg4 s9 hy4
      refine hK.out _ _ hS (fun _ => ?_)
      simp only [Act.put, List.setIfInBounds_toArray, List.set_cons_zero, List.set_cons_succ]
      clear hK K
      refine wpAnyH_ready (rs := [2]) (by kernel_rfl) (by simp) ?_
      refine AllReadyH.cons rfl (fun K hK => ?_) AllReadyH.nil
      refine step_pushsK _ rfl (some 49) rfl (.tmp 47) (.tmp 48) rfl w4.heap.size hS.size _ _ [] X rfl rfl O1.out (YX.out.below hS) (by have := LX.out; simp <;> omega) (by have := LX.out; have := LT.out; omega) ?_
      intro pv1 y16 y9 hb hk9
      have e9 : y16.heap[g4]? = y15.heap[g4]? := hk9.block g4 (range_lt HG.out.1 (by simp [hv])) (own_not O1.out HT4.out)
      have HG : Hid (Vr y16 g4 (hv 0 0 0 0 0 0)) := HG.out.heap e9
      have HT4 : Hid (∃ fr, y16.heap[g4]? = some (.cells (hv 0 0 0 0 0 0).toArray 25 fr)) := by rw [e9]; exact HT4.out
      clear e9
      have O2 : Hid (Own w4.heap.size y16 pv1 ([] ++ X)) := y9
      have hS : Below w4.heap.size w4 y16 := hS.trans hb
      clear hb y9 hk9
      refine hK.out _ _ hS (fun _ => ?_)
      simp only [Act.put, List.setIfInBounds_toArray, List.set_cons_zero, List.set_cons_succ]
      clear hK K
      refine wpAnyH_ready (rs := [5]) (by kernel_rfl) (by simp) ?_
      refine AllReadyH.cons rfl (fun K hK => ?_) AllReadyH.nil
      refine step_pushsK _ rfl (some 52) rfl (.tmp 49) (.tmp 51) rfl w4.heap.size hS.size _ _ ([] ++ X) TT rfl rfl O2.out (HD.out ▸ (HE.out ▸ sl_from (YB.out.below hS) 48 (by have := HE.out; omega))) (by have := LX.out; simp <;> omega) (by have := LX.out; have := LT.out; omega) ?_
      intro pv2 y17 y9 hb hk9
      have e9 : y17.heap[g4]? = y16.heap[g4]? := hk9.block g4 (range_lt HG.out.1 (by simp [hv])) (own_not O2.out HT4.out)
      have HG : Hid (Vr y17 g4 (hv 0 0 0 0 0 0)) := HG.out.heap e9
      have HT4 : Hid (∃ fr, y17.heap[g4]? = some (.cells (hv 0 0 0 0 0 0).toArray 25 fr)) := by rw [e9]; exact HT4.out
      clear e9
      have O3 : Hid (Own w4.heap.size y17 pv2 ([] ++ X ++ TT)) := y9
      have hS : Below w4.heap.size w4 y17 := hS.trans hb
      clear hb y9 hk9
      refine hK.out _ _ hS (fun _ => ?_)
      simp only [Act.put, List.setIfInBounds_toArray, List.set_cons_zero, List.set_cons_succ]
      clear hK K
      refine wpAnyH_ready (rs := [6]) (by kernel_rfl) (by simp) ?_
      refine AllReadyH.cons rfl (fun K hK => ?_) AllReadyH.nil
      refine step_callW _ (by rfl) (some 53) rfl 17 #[.tmp 52] #[26] rfl (fun q w' => by rfl) #[pv2] (by simp only [List.map_toArray, List.map_cons, List.map_nil]; rfl) (fun u w' => (∃ k n c l e t v, u = .tuple #[.agg (hv k n c l e t).toArray, v, .int .i64 1]) ∧ Below y17.heap.size y17 w') ?_ ?_
      · exact (SD.out y17 _ (BB.out.trans (hS.mono BB.out.size)) (O3.out.byt (allB_app AX.out AT.out))).mono fun e' w' ⟨k, n, c, l, e, t, v, h1, h2⟩ => ⟨_, h1, ⟨k, n, c, l, e, t, v, rfl⟩, h2⟩
      rintro _ y18 ⟨⟨qk, qn, qc, ql, qe, qt, qv, rfl⟩, hb⟩
      have HT4 : Hid (∃ fr, y18.heap[g4]? = some (.cells (hv 0 0 0 0 0 0).toArray 25 fr)) := by rw [hb.block g4 (range_lt HG.out.1 (by simp [hv]))]; exact HT4.out
      have HG : Hid (Vr y18 g4 (hv 0 0 0 0 0 0)) := HG.out.below hb (range_lt HG.out.1 (by simp [hv]))
      have hS : Below w4.heap.size w4 y18 := hS.trans (hb.mono hS.size)
      clear hb
      refine hK.out _ _ hS (fun _ => ?_)
      simp only [Act.put, List.setIfInBounds_toArray, List.set_cons_zero, List.set_cons_succ]
      clear hK K
      refine take_lawH 7 (some 46) (.tuple #[.agg (hv qk qn qc ql qe qt).toArray, qv, .int .i64 1]) rfl rfl (by kernel_rfl) (by kernel_rfl) (by kernel_rfl) (fun _ _ _ h => h) (Or.inl ⟨by rfl, fun w' hw' => by rfl⟩) hS ?_
      simp only [Act.put, List.setIfInBounds_toArray, List.set_cons_zero, List.set_cons_succ]
      refine take_lawH 8 (some 54) (.agg (hv qk qn qc ql qe qt).toArray) rfl rfl (by kernel_rfl) (by kernel_rfl) (by kernel_rfl) (fun _ _ _ h => h) (Or.inl ⟨by rfl, fun w' hw' => by rfl⟩) hS ?_
      simp only [Act.put, List.setIfInBounds_toArray, List.set_cons_zero, List.set_cons_succ]
      refine take_lawH 9 (some 55) (qv) rfl rfl (by kernel_rfl) (by kernel_rfl) (by kernel_rfl) (fun _ _ _ h => h) (Or.inl ⟨by rfl, fun w' hw' => by rfl⟩) hS ?_
      simp only [Act.put, List.setIfInBounds_toArray, List.set_cons_zero, List.set_cons_succ]
      refine take_lawH 10 (some 56) (.int .i64 1) rfl rfl (by kernel_rfl) (by kernel_rfl) (by kernel_rfl) (fun _ _ _ h => h) (Or.inl ⟨by rfl, fun w' hw' => by rfl⟩) hS ?_
      simp only [Act.put, List.setIfInBounds_toArray, List.set_cons_zero, List.set_cons_succ]
      refine wpAnyH_ready (rs := [12]) (by kernel_rfl) (by simp) ?_
      refine AllReadyH.cons rfl (fun K hK => ?_) AllReadyH.nil
      refine step_storeC _ rfl none rfl (.tmp 10) (.tmp 54) 25 rfl g4 (hv 0 0 0 0 0 0) (hv qk qn qc ql qe qt) rfl rfl HG.out rfl rowy_head.2 (hv_one _ _ _ _ _ _) ?_
      intro y19 v9 B9
      have hS : Below w4.heap.size w4 y19 := hS.trans (B9.mono g4l)
      clear v9 B9
      refine hK.out _ _ hS (fun _ => ?_)
      simp only [Act.put]
      clear hK K
      refine take_lawH 13 (some 11) (qv) rfl rfl (by kernel_rfl) (by kernel_rfl) (by kernel_rfl) (fun _ _ _ h => h) (Or.inl ⟨by rfl, fun w' hw' => by rfl⟩) hS ?_
      simp only [Act.put, List.setIfInBounds_toArray, List.set_cons_zero, List.set_cons_succ]
      refine take_lawH 14 (some 12) (.int .i64 1) rfl rfl (by kernel_rfl) (by kernel_rfl) (by kernel_rfl) (fun _ _ _ h => h) (Or.inl ⟨by rfl, fun w' hw' => by rfl⟩) hS ?_
      simp only [Act.put, List.setIfInBounds_toArray, List.set_cons_zero, List.set_cons_succ]
      refine wpAnyH_done (by kernel_rfl) ?_ _
      have YB : Hid (Byt y19 bv EE) := YB.out.below hS
      have YX : Hid (Byt y19 xv X) := YX.out.below hS
      have BB : Hid (Below w.heap.size w y19) := BB.out.trans (hS.mono BB.out.size)
      clear hS
      have t5 : (0 : Nat) = 0 := rfl
      go_wp2_with (first
        | (have qa := ta; go_at_call 11; refine (awake_any _ (hT.below BB.out)).mono ?_; rintro e9 w9 ⟨rfl, B9⟩; have BB : Hid (Below w.heap.size w w9) := BB.out.trans (B9.mono BB.out.size); clear B9 ta)
        | (have q := t6; go_at_call 12; refine (SS.out _ _ _ YX.out YP.out).mono ?_; rintro e9 w9 ⟨rfl, Bx⟩; have BB : Hid (Below w.heap.size w w9) := BB.out.trans (Bx.mono BB.out.size); clear Bx t6; have ta : (0 : Nat) = 0 := rfl)
        | (have q := t5; refine cut_to _ rfl (.tmp 60) (.const (.int .i64 48)) rfl _ EE _ 48 rfl rfl rfl (by have := HE.out; omega) YB.out ?_; intro v8 y8; rw [HP.out] at y8; have YP : Hid (Byt y19 v8 PP) := y8; clear y8 t5; have t6 : (0 : Nat) = 0 := rfl))
      go_ret
      exact ⟨rfl, BB.out⟩
  · refine step_newT _ rfl (some 10) rfl 25 rfl (hv 0 0 0 0 0 0) zero_head ?_
    intro y20 V9 hb s9 hy4
    have g4l : w4.heap.size ≤ y1.heap.size := hS.size
    obtain ⟨g4, hg4⟩ : ∃ g, g = y1.heap.size := ⟨_, rfl⟩
    have hS : Below w4.heap.size w4 y20 := hS.trans (hb.mono hS.size)
    rw [← hg4] at V9 g4l s9 hy4 ⊢
    have HG : Hid (Vr y20 g4 (hv 0 0 0 0 0 0)) := V9
    have HT4 : Hid (∃ fr, y20.heap[g4]? = some (.cells (hv 0 0 0 0 0 0).toArray 25 fr)) := hy4
    clear V9 hb hg4 s9 hy4
    refine hK.out _ _ hS (fun _ => ?_)
    simp only [Act.put, List.setIfInBounds_toArray, List.set_cons_zero, List.set_cons_succ]
    clear hK K
    refine wpAnyH_ready (rs := [0]) (by kernel_rfl) (by simp) ?_
    refine AllReadyH.cons rfl (fun K hK => ?_) AllReadyH.nil
    refine step_nil _ rfl (some 47) rfl rfl ?_
    intro nv1 y21 y9 hb
    have HT4 : Hid (∃ fr, y21.heap[g4]? = some (.cells (hv 0 0 0 0 0 0).toArray 25 fr)) := by rw [hb.block g4 (range_lt HG.out.1 (by simp [hv]))]; exact HT4.out
    have HG : Hid (Vr y21 g4 (hv 0 0 0 0 0 0)) := HG.out.below hb (range_lt HG.out.1 (by simp [hv]))
    have O1 : Hid (Own w4.heap.size y21 nv1 []) := own_less y9 hS.size
    have hS : Below w4.heap.size w4 y21 := hS.trans (hb.mono hS.size)
    clear hb y9
    refine hK.out _ _ hS (fun _ => ?_)
    simp only [Act.put, List.setIfInBounds_toArray, List.set_cons_zero, List.set_cons_succ]
    clear hK K
    refine wpAnyH_ready (rs := [2]) (by kernel_rfl) (by simp) ?_
    refine AllReadyH.cons rfl (fun K hK => ?_) AllReadyH.nil
    refine step_pushsK _ rfl (some 49) rfl (.tmp 47) (.tmp 48) rfl w4.heap.size hS.size _ _ [] X rfl rfl O1.out (YX.out.below hS) (by have := LX.out; simp <;> omega) (by have := LX.out; have := LT.out; omega) ?_
    intro pv1 y22 y9 hb hk9
    have e9 : y22.heap[g4]? = y21.heap[g4]? := hk9.block g4 (range_lt HG.out.1 (by simp [hv])) (own_not O1.out HT4.out)
    have HG : Hid (Vr y22 g4 (hv 0 0 0 0 0 0)) := HG.out.heap e9
    have HT4 : Hid (∃ fr, y22.heap[g4]? = some (.cells (hv 0 0 0 0 0 0).toArray 25 fr)) := by rw [e9]; exact HT4.out
    clear e9
    have O2 : Hid (Own w4.heap.size y22 pv1 ([] ++ X)) := y9
    have hS : Below w4.heap.size w4 y22 := hS.trans hb
    clear hb y9 hk9
    refine hK.out _ _ hS (fun _ => ?_)
    simp only [Act.put, List.setIfInBounds_toArray, List.set_cons_zero, List.set_cons_succ]
    clear hK K
    refine wpAnyH_ready (rs := [5]) (by kernel_rfl) (by simp) ?_
    refine AllReadyH.cons rfl (fun K hK => ?_) AllReadyH.nil
    refine step_pushsK _ rfl (some 52) rfl (.tmp 49) (.tmp 51) rfl w4.heap.size hS.size _ _ ([] ++ X) TT rfl rfl O2.out (HD.out ▸ (HE.out ▸ sl_from (YB.out.below hS) 48 (by have := HE.out; omega))) (by have := LX.out; simp <;> omega) (by have := LX.out; have := LT.out; omega) ?_
    intro pv2 y23 y9 hb hk9
    have e9 : y23.heap[g4]? = y22.heap[g4]? := hk9.block g4 (range_lt HG.out.1 (by simp [hv])) (own_not O2.out HT4.out)
    have HG : Hid (Vr y23 g4 (hv 0 0 0 0 0 0)) := HG.out.heap e9
    have HT4 : Hid (∃ fr, y23.heap[g4]? = some (.cells (hv 0 0 0 0 0 0).toArray 25 fr)) := by rw [e9]; exact HT4.out
    clear e9
    have O3 : Hid (Own w4.heap.size y23 pv2 ([] ++ X ++ TT)) := y9
    have hS : Below w4.heap.size w4 y23 := hS.trans hb
    clear hb y9 hk9
    refine hK.out _ _ hS (fun _ => ?_)
    simp only [Act.put, List.setIfInBounds_toArray, List.set_cons_zero, List.set_cons_succ]
    clear hK K
    refine wpAnyH_ready (rs := [6]) (by kernel_rfl) (by simp) ?_
    refine AllReadyH.cons rfl (fun K hK => ?_) AllReadyH.nil
    refine step_callW _ (by rfl) (some 53) rfl 17 #[.tmp 52] #[26] rfl (fun q w' => by rfl) #[pv2] (by simp only [List.map_toArray, List.map_cons, List.map_nil]; rfl) (fun u w' => (∃ k n c l e t v, u = .tuple #[.agg (hv k n c l e t).toArray, v, .int .i64 1]) ∧ Below y23.heap.size y23 w') ?_ ?_
    · exact (SD.out y23 _ (BB.out.trans (hS.mono BB.out.size)) (O3.out.byt (allB_app AX.out AT.out))).mono fun e' w' ⟨k, n, c, l, e, t, v, h1, h2⟩ => ⟨_, h1, ⟨k, n, c, l, e, t, v, rfl⟩, h2⟩
    rintro _ y24 ⟨⟨qk, qn, qc, ql, qe, qt, qv, rfl⟩, hb⟩
    have HT4 : Hid (∃ fr, y24.heap[g4]? = some (.cells (hv 0 0 0 0 0 0).toArray 25 fr)) := by rw [hb.block g4 (range_lt HG.out.1 (by simp [hv]))]; exact HT4.out
    have HG : Hid (Vr y24 g4 (hv 0 0 0 0 0 0)) := HG.out.below hb (range_lt HG.out.1 (by simp [hv]))
    have hS : Below w4.heap.size w4 y24 := hS.trans (hb.mono hS.size)
    clear hb
    refine hK.out _ _ hS (fun _ => ?_)
    simp only [Act.put, List.setIfInBounds_toArray, List.set_cons_zero, List.set_cons_succ]
    clear hK K
    refine take_lawH 7 (some 46) (.tuple #[.agg (hv qk qn qc ql qe qt).toArray, qv, .int .i64 1]) rfl rfl (by kernel_rfl) (by kernel_rfl) (by kernel_rfl) (fun _ _ _ h => h) (Or.inl ⟨by rfl, fun w' hw' => by rfl⟩) hS ?_
    simp only [Act.put, List.setIfInBounds_toArray, List.set_cons_zero, List.set_cons_succ]
    refine take_lawH 8 (some 54) (.agg (hv qk qn qc ql qe qt).toArray) rfl rfl (by kernel_rfl) (by kernel_rfl) (by kernel_rfl) (fun _ _ _ h => h) (Or.inl ⟨by rfl, fun w' hw' => by rfl⟩) hS ?_
    simp only [Act.put, List.setIfInBounds_toArray, List.set_cons_zero, List.set_cons_succ]
    refine take_lawH 9 (some 55) (qv) rfl rfl (by kernel_rfl) (by kernel_rfl) (by kernel_rfl) (fun _ _ _ h => h) (Or.inl ⟨by rfl, fun w' hw' => by rfl⟩) hS ?_
    simp only [Act.put, List.setIfInBounds_toArray, List.set_cons_zero, List.set_cons_succ]
    refine take_lawH 10 (some 56) (.int .i64 1) rfl rfl (by kernel_rfl) (by kernel_rfl) (by kernel_rfl) (fun _ _ _ h => h) (Or.inl ⟨by rfl, fun w' hw' => by rfl⟩) hS ?_
    simp only [Act.put, List.setIfInBounds_toArray, List.set_cons_zero, List.set_cons_succ]
    refine wpAnyH_ready (rs := [12]) (by kernel_rfl) (by simp) ?_
    refine AllReadyH.cons rfl (fun K hK => ?_) AllReadyH.nil
    refine step_storeC _ rfl none rfl (.tmp 10) (.tmp 54) 25 rfl g4 (hv 0 0 0 0 0 0) (hv qk qn qc ql qe qt) rfl rfl HG.out rfl rowy_head.2 (hv_one _ _ _ _ _ _) ?_
    intro y25 v9 B9
    have hS : Below w4.heap.size w4 y25 := hS.trans (B9.mono g4l)
    clear v9 B9
    refine hK.out _ _ hS (fun _ => ?_)
    simp only [Act.put]
    clear hK K
    refine take_lawH 13 (some 11) (qv) rfl rfl (by kernel_rfl) (by kernel_rfl) (by kernel_rfl) (fun _ _ _ h => h) (Or.inl ⟨by rfl, fun w' hw' => by rfl⟩) hS ?_
    simp only [Act.put, List.setIfInBounds_toArray, List.set_cons_zero, List.set_cons_succ]
    refine take_lawH 14 (some 12) (.int .i64 1) rfl rfl (by kernel_rfl) (by kernel_rfl) (by kernel_rfl) (fun _ _ _ h => h) (Or.inl ⟨by rfl, fun w' hw' => by rfl⟩) hS ?_
    simp only [Act.put, List.setIfInBounds_toArray, List.set_cons_zero, List.set_cons_succ]
    refine wpAnyH_done (by kernel_rfl) ?_ _
    have YB : Hid (Byt y25 bv EE) := YB.out.below hS
    have YX : Hid (Byt y25 xv X) := YX.out.below hS
    have BB : Hid (Below w.heap.size w y25) := BB.out.trans (hS.mono BB.out.size)
    clear hS
    have t5 : (0 : Nat) = 0 := rfl
    go_wp2_with (first
      | (have qa := ta; go_at_call 11; refine (awake_any _ (hT.below BB.out)).mono ?_; rintro e9 w9 ⟨rfl, B9⟩; have BB : Hid (Below w.heap.size w w9) := BB.out.trans (B9.mono BB.out.size); clear B9 ta)
      | (have q := t6; go_at_call 12; refine (SS.out _ _ _ YX.out YP.out).mono ?_; rintro e9 w9 ⟨rfl, Bx⟩; have BB : Hid (Below w.heap.size w w9) := BB.out.trans (Bx.mono BB.out.size); clear Bx t6; have ta : (0 : Nat) = 0 := rfl)
      | (have q := t5; refine cut_to _ rfl (.tmp 60) (.const (.int .i64 48)) rfl _ EE _ 48 rfl rfl rfl (by have := HE.out; omega) YB.out ?_; intro v8 y8; rw [HP.out] at y8; have YP : Hid (Byt y25 v8 PP) := y8; clear y8 t5; have t6 : (0 : Nat) = 0 := rfl))
    go_ret
    exact ⟨rfl, BB.out⟩

set_option maxHeartbeats 8000000 in
theorem walk_cy (k n c l e t : Int) (v : Value) (mask : List Int) (w : World) (hf : Hb l e t) (hv' : Byt w v mask) (hT : Tab w) (hr : Rh k n c) (hx : ofb 48 (prg (hb k n c l e t ++ inv (hb k n c l e t)) (List.replicate 48 0) mask false (8 * 48)) = hb k n c l e t ++ inv (hb k n c l e t)) :
    Calls Tryd.prog 7 #[.agg (hv k n c l e t).toArray, v, .bool false] w fun x w' => x = .returned (.bool true) ∧ Below w.heap.size w w' := by
  have t0 : (0 : Nat) = 0 := rfl
  have M8l : (List.replicate 8 (255 : Int)).length = 8 := by simp
  have TGl : (tgo []).length = 32 := tgo_len (.inl rfl)
  have HZ := hb_len k n c l e t
  have SE : Hid (∀ w', Below w.heap.size w w' → Calls Tryd.prog 14 #[.agg (hv k n c l e t).toArray, .slice none 0 0] w' fun x w'' => ∃ v, x = .returned (.tuple #[v, .int .i64 0]) ∧ Own w'.heap.size w'' v (hend (hb k n c l e t) (tgo []) (List.replicate 8 255)) ∧ Below w'.heap.size w' w'') := fun w' q => end_yes k n c l e t (.slice none 0 0) [] w' (Byt.nil w') hf.1 hf.2.1 hf.2.2 (hT.below q) hr (.inl rfl)
  have HE : Hid ((hend (hb k n c l e t) (tgo []) (List.replicate 8 255)).length = 88) := hend_len HZ TGl M8l
  have AE : Hid (AllB (hend (hb k n c l e t) (tgo []) (List.replicate 8 255))) := hend_all (hb_all hr l e t) (tgo_all (allB_mem (by simp))) (allB_replicate 255 8 (by omega))
  have HP : Hid ((hend (hb k n c l e t) (tgo []) (List.replicate 8 255)).take 48 = hb k n c l e t ++ inv (hb k n c l e t)) := take48 HZ
  have HD : Hid ((hend (hb k n c l e t) (tgo []) (List.replicate 8 255)).drop 48 = tgo [] ++ List.replicate 8 255) := drop48 HZ
  have PL : (hb k n c l e t ++ inv (hb k n c l e t)).length = 48 := by rw [List.length_append, inv_len, HZ]
  have SR : Hid (∀ w' a b, Byt w' a (hb k n c l e t ++ inv (hb k n c l e t)) → Byt w' b mask → Calls Tryd.prog 23 #[a, b] w' fun e' w'' => ∃ v, e' = .returned v ∧ Byt w'' v (ofb 48 (erased (hb k n c l e t ++ inv (hb k n c l e t)) mask)) ∧ Below w'.heap.size w' w'') := fun w' a b h1 h2 => by
    have := rerase_any a b _ mask w' h1 h2 (by omega)
    rw [PL] at this
    exact this
  have S0 : Hid (∀ w, Calls Tryd.prog 21 #[.int .u8 0, .int .i64 48] w fun e w' => ∃ v, e = .returned v ∧ Byt w' v (List.replicate 48 0) ∧ Below w.heap.size w w') := fun w => by
    have := rfill_any 0 48 w (by omega)
    rw [show clamp 48 65536 = 48 by decide] at this
    exact this
  have SP : Hid (∀ w' a b d, Byt w' a (hb k n c l e t ++ inv (hb k n c l e t)) → Byt w' b (List.replicate 48 0) → Byt w' d mask → Calls Tryd.prog 24 #[a, b, d, .bool false] w' fun e' w'' => ∃ v, e' = .returned v ∧ Byt w'' v (ofb 48 (prg (hb k n c l e t ++ inv (hb k n c l e t)) (List.replicate 48 0) mask false (8 * 48))) ∧ Below w'.heap.size w' w'') := fun w' a b d h1 h2 h3 => by
    have := rprog_false a b d _ (List.replicate 48 0) mask w' h1 h2 h3 (by rw [PL, List.length_replicate]) (by omega)
    rw [PL] at this
    exact this
  have AX : Hid (AllB (ofb 48 (prg (hb k n c l e t ++ inv (hb k n c l e t)) (List.replicate 48 0) mask false (8 * 48)))) := ofb_all _ _
  have LX : Hid ((ofb 48 (prg (hb k n c l e t ++ inv (hb k n c l e t)) (List.replicate 48 0) mask false (8 * 48))).length = 48) := ofb_len _ _
  have TLX := bits_tl (l := l) (e := e) (t := t) (mk := List.replicate 8 255) hr TGl (ofb_len 48 _) (ofb_all 48 _) (.inr fun i hi h => torn_down _ (List.replicate 48 0) mask (8 * 48) 48 i (by omega) h)
  have SD : Hid (∀ w' u, Below w.heap.size w w' → Byt w' u ((ofb 48 (prg (hb k n c l e t ++ inv (hb k n c l e t)) (List.replicate 48 0) mask false (8 * 48))) ++ (tgo [] ++ List.replicate 8 255)) → Calls Tryd.prog 17 #[u] w' fun x w'' => ∃ k n c l e t v, x = .returned (.tuple #[.agg (hv k n c l e t).toArray, v, .int .i64 0]) ∧ Below w'.heap.size w' w'') := fun w' u q h => (read_yes u _ w' h (by rw [List.length_append, LX.out, List.length_append, TGl, M8l]) (hT.below q) (TLX.2 hx)).mono fun e' w'' ⟨u, h1, h2, h3⟩ => ⟨_, _, _, _, _, _, _, h1, h3⟩
  have SS : Hid (∀ w' a b, Byt w' a (ofb 48 (prg (hb k n c l e t ++ inv (hb k n c l e t)) (List.replicate 48 0) mask false (8 * 48))) → Byt w' b (hb k n c l e t ++ inv (hb k n c l e t)) → Calls Tryd.prog 12 #[a, b] w' fun e' w'' => e' = .returned (.bool true) ∧ Below w'.heap.size w' w'') := fun w' a b h1 h2 => (same_any w' a b _ _ h1 h2).mono fun e' w'' ⟨g1, n', g2⟩ => ⟨by rw [g1, decide_eq_true hx], by rw [g2]; exact he.below_drawn (Below.refl _ _) n'⟩
  have HMK : Hid (Byt w v mask) := hv'
  generalize ofb 48 (prg (hb k n c l e t ++ inv (hb k n c l e t)) (List.replicate 48 0) mask false (8 * 48)) = X at *
  generalize ofb 48 (erased (hb k n c l e t ++ inv (hb k n c l e t)) mask) = XE at *
  generalize hend (hb k n c l e t) (tgo []) (List.replicate 8 255) = EE at *
  generalize hb k n c l e t ++ inv (hb k n c l e t) = PP at *
  generalize List.replicate 48 (0 : Int) = R0 at *
  have LT : Hid ((tgo [] ++ List.replicate 8 (255 : Int)).length = 40) := by
    show _ = _
    rw [List.length_append, TGl, M8l]
  have AT : Hid (AllB (tgo [] ++ List.replicate 8 (255 : Int))) := allB_app (tgo_all (allB_mem (by simp))) (allB_replicate 255 8 (by omega))
  generalize tgo [] ++ List.replicate 8 (255 : Int) = TT at *
  clear hf hv' hr M8l TGl HZ PL TLX hx
  go_enter Tryd.func7, Tryd.ntmps7
  go_wp2_with (first
    | (have q := t4; go_at_call 23; refine (SR.out _ _ _ YP.out (HMK.out.below BB.out)).mono ?_; rintro e9 w4 ⟨xe, rfl, y4, Bx⟩; have YX : Hid (Byt w4 xe XE) := y4; have YB : Hid (Byt w4 bv EE) := YB.out.below Bx; have BB : Hid (Below w.heap.size w w4) := BB.out.trans (Bx.mono BB.out.size); clear Bx y4 t4 YP)
    | (have q := t3; refine cut_to _ rfl (.tmp 35) (.const (.int .i64 48)) rfl _ EE _ 48 rfl rfl rfl (by have := HE.out; omega) YB.out ?_; intro v3 y3; rw [HP.out] at y3; have YP : Hid (Byt w2 v3 PP) := y3; clear y3 t3; have t4 : (0 : Nat) = 0 := rfl)
    | (have q := t2; refine len_lawG _ (by rfl) (.tmp 21) rfl _ EE 88 rfl YB.out (by rw [HE.out]; rfl) ?_; clear t2; have t3 : (0 : Nat) = 0 := rfl)
    | (have q := t1; go_at_call 14; refine (SE.out _ BB.out).mono ?_; rintro e9 w2 ⟨bv, rfl, o2, Bx⟩; have YB : Hid (Byt w2 bv EE) := o2.byt AE.out; have BB : Hid (Below w.heap.size w w2) := BB.out.trans (Bx.mono BB.out.size); clear c0 c1 c2 c3 c4 c5; clear o2 Bx t1 HA; have t2 : (0 : Nat) = 0 := rfl)
    | (have q0 := t0; refine box_lawC _ (hv k n c l e t) rfl ?_; intro w1 V1 B1 s1; have HA : Hid (Vr w1 w.heap.size (hv k n c l e t)) := V1; have c0 := HA.out.cell 0 _ rfl; have c1 := HA.out.cell 1 _ rfl; have c2 := HA.out.cell 2 _ rfl; have c3 := HA.out.cell 3 _ rfl; have c4 := HA.out.cell 4 _ rfl; have c5 := HA.out.cell 5 _ rfl; have BB : Hid (Below w.heap.size w w1) := B1; clear V1 B1 t0; have t1 : (0 : Nat) = 0 := rfl))
  refine wp_region_held_drew (S := fun w' => Below w4.heap.size w4 w') (by kernel_rfl) (Below.refl _ _).drew (fun hS => ?_)
  obtain ⟨z1, hx0⟩ : ∃ x, x = w4.drew := ⟨_, rfl⟩
  rw [← hx0] at hS  ⊢
  clear hx0
  refine take_lawH 0 (some 41) (bv) rfl rfl (by kernel_rfl) (by kernel_rfl) (by kernel_rfl) (fun _ _ _ h => h) (Or.inl ⟨by rfl, fun w' hw' => by rfl⟩) hS ?_
  simp only [Act.put, List.setIfInBounds_toArray, List.set_cons_zero, List.set_cons_succ]
  refine take_lawH 1 (some 42) (sl bv 0 48) rfl rfl (by kernel_rfl) (by kernel_rfl) (by kernel_rfl) (fun _ _ _ h => h) (Or.inl ⟨by rfl, fun w' hw' => by exact exec_to (.tmp 41) (.const (.int .i64 48)) rfl bv EE _ YB.out 48 rfl rfl (by have := HE.out; omega) _⟩) hS ?_
  simp only [Act.put, List.setIfInBounds_toArray, List.set_cons_zero, List.set_cons_succ]
  refine take_lawH 3 (some 44) (v) rfl rfl (by kernel_rfl) (by kernel_rfl) (by kernel_rfl) (fun _ _ _ h => h) (Or.inl ⟨by rfl, fun w' hw' => by rfl⟩) hS ?_
  simp only [Act.put, List.setIfInBounds_toArray, List.set_cons_zero, List.set_cons_succ]
  refine wpAnyH_ready (rs := [2]) (by kernel_rfl) (by simp) ?_
  refine AllReadyH.cons rfl (fun K hK => ?_) AllReadyH.nil
  refine step_callW _ (by rfl) (some 43) rfl 21 #[.const (.int .u8 0), .const (.int .i64 48)] #[5, 3] rfl (fun q w' => by rfl) #[.int .u8 0, .int .i64 48] (by simp only [List.map_toArray, List.map_cons, List.map_nil]; rfl) (fun u w' => (Byt w' u R0) ∧ Below z1.heap.size z1 w') ?_ ?_
  · exact S0.out z1
  rintro u1 z2 ⟨y9, hb⟩
  have YU : Hid (Byt z2 u1 R0) := y9
  have hS : Below w4.heap.size w4 z2 := hS.trans (hb.mono hS.size)
  clear hb y9
  refine hK.out _ _ hS (fun _ => ?_)
  simp only [Act.put, List.setIfInBounds_toArray, List.set_cons_zero, List.set_cons_succ]
  clear hK K
  refine wpAnyH_ready (rs := [4]) (by kernel_rfl) (by simp) ?_
  refine AllReadyH.cons rfl (fun K hK => ?_) AllReadyH.nil
  refine step_callW _ (by rfl) (some 45) rfl 24 #[.tmp 42, .tmp 43, .tmp 44, .const (.bool false)] #[26, 26, 26, 4] rfl (fun q w' => by rfl) #[sl bv 0 48, u1, v, .bool false] (by simp only [List.map_toArray, List.map_cons, List.map_nil]; rfl) (fun u w' => (Byt w' u X) ∧ Below z2.heap.size z2 w') ?_ ?_
  · exact SP.out z2 _ _ _ (HP.out ▸ sl_to (YB.out.below hS) 48 (by have := HE.out; omega)) YU.out (HMK.out.below (BB.out.trans (hS.mono BB.out.size)))
  rintro xv z3 ⟨y9, hb⟩
  have YU : Hid (Byt z3 u1 R0) := YU.out.below hb
  have YX : Hid (Byt z3 xv X) := y9
  have hS : Below w4.heap.size w4 z3 := hS.trans (hb.mono hS.size)
  clear hb y9
  refine hK.out _ _ hS (fun _ => ?_)
  simp only [Act.put, List.setIfInBounds_toArray, List.set_cons_zero, List.set_cons_succ]
  clear hK K
  refine take_lawH 5 (some 9) (xv) rfl rfl (by kernel_rfl) (by kernel_rfl) (by kernel_rfl) (fun _ _ _ h => h) (Or.inl ⟨by rfl, fun w' hw' => by rfl⟩) hS ?_
  simp only [Act.put, List.setIfInBounds_toArray, List.set_cons_zero, List.set_cons_succ]
  refine wpAnyH_done (by kernel_rfl) ?_ _
  have YB : Hid (Byt z3 bv EE) := YB.out.below hS
  have BB : Hid (Below w.heap.size w z3) := BB.out.trans (hS.mono BB.out.size)
  obtain ⟨wq, hwq⟩ : ∃ x, x = z3 := ⟨_, rfl⟩
  rw [← hwq] at YB BB YX ⊢
  clear hS hwq YU
  go_wp2
  refine wp_region_held_drew (S := fun w' => Below wq.heap.size wq w') (by kernel_rfl) (Below.refl _ _).drew (fun hS => ?_)
  obtain ⟨y1, hx0⟩ : ∃ x, x = wq.drew := ⟨_, rfl⟩
  rw [← hx0] at hS  ⊢
  clear hx0
  refine take_lawH 1 (some 48) (xv) rfl rfl (by kernel_rfl) (by kernel_rfl) (by kernel_rfl) (fun _ _ _ h => h) (Or.inl ⟨by rfl, fun w' hw' => by rfl⟩) hS ?_
  simp only [Act.put, List.setIfInBounds_toArray, List.set_cons_zero, List.set_cons_succ]
  refine take_lawH 3 (some 50) (bv) rfl rfl (by kernel_rfl) (by kernel_rfl) (by kernel_rfl) (fun _ _ _ h => h) (Or.inl ⟨by rfl, fun w' hw' => by rfl⟩) hS ?_
  simp only [Act.put, List.setIfInBounds_toArray, List.set_cons_zero, List.set_cons_succ]
  refine take_lawH 4 (some 51) (sl bv 48 88) rfl rfl (by kernel_rfl) (by kernel_rfl) (by kernel_rfl) (fun _ _ _ h => h) (Or.inl ⟨by rfl, fun w' hw' => by exact exec_from (.tmp 50) (.const (.int .i64 48)) rfl bv EE _ YB.out 48 88 rfl rfl HE.out (by omega) _⟩) hS ?_
  simp only [Act.put, List.setIfInBounds_toArray, List.set_cons_zero, List.set_cons_succ]
  refine wpAnyH_ready (rs := [0, 11]) (by kernel_rfl) (by simp) ?_
  refine AllReadyH.cons rfl (fun K hK => ?_) (AllReadyH.cons rfl (fun K hK => ?_) AllReadyH.nil)
  · refine step_nil _ rfl (some 47) rfl rfl ?_
    intro nv1 y2 y9 hb
    have O1 : Hid (Own wq.heap.size y2 nv1 []) := own_less y9 hS.size
    have hS : Below wq.heap.size wq y2 := hS.trans (hb.mono hS.size)
    clear hb y9
    refine hK.out _ _ hS (fun _ => ?_)
    simp only [Act.put, List.setIfInBounds_toArray, List.set_cons_zero, List.set_cons_succ]
    clear hK K
    refine wpAnyH_ready (rs := [2, 11]) (by kernel_rfl) (by simp) ?_
    refine AllReadyH.cons rfl (fun K hK => ?_) (AllReadyH.cons rfl (fun K hK => ?_) AllReadyH.nil)
    · refine step_pushsK _ rfl (some 49) rfl (.tmp 47) (.tmp 48) rfl wq.heap.size hS.size _ _ [] X rfl rfl O1.out (YX.out.below hS) (by have := LX.out; simp <;> omega) (by have := LX.out; have := LT.out; omega) ?_
      intro pv1 y3 y9 hb hk9
      have O2 : Hid (Own wq.heap.size y3 pv1 ([] ++ X)) := y9
      have hS : Below wq.heap.size wq y3 := hS.trans hb
      clear hb y9 hk9
      refine hK.out _ _ hS (fun _ => ?_)
      simp only [Act.put, List.setIfInBounds_toArray, List.set_cons_zero, List.set_cons_succ]
      clear hK K
      refine wpAnyH_ready (rs := [5, 11]) (by kernel_rfl) (by simp) ?_
      refine AllReadyH.cons rfl (fun K hK => ?_) (AllReadyH.cons rfl (fun K hK => ?_) AllReadyH.nil)
      · refine step_pushsK _ rfl (some 52) rfl (.tmp 49) (.tmp 51) rfl wq.heap.size hS.size _ _ ([] ++ X) TT rfl rfl O2.out (HD.out ▸ (HE.out ▸ sl_from (YB.out.below hS) 48 (by have := HE.out; omega))) (by have := LX.out; simp <;> omega) (by have := LX.out; have := LT.out; omega) ?_
        intro pv2 y4 y9 hb hk9
        have O3 : Hid (Own wq.heap.size y4 pv2 ([] ++ X ++ TT)) := y9
        have hS : Below wq.heap.size wq y4 := hS.trans hb
        clear hb y9 hk9
        refine hK.out _ _ hS (fun _ => ?_)
        simp only [Act.put, List.setIfInBounds_toArray, List.set_cons_zero, List.set_cons_succ]
        clear hK K
        refine wpAnyH_ready (rs := [6, 11]) (by kernel_rfl) (by simp) ?_
        refine AllReadyH.cons rfl (fun K hK => ?_) (AllReadyH.cons rfl (fun K hK => ?_) AllReadyH.nil)
        · refine step_callW _ (by rfl) (some 53) rfl 17 #[.tmp 52] #[26] rfl (fun q w' => by rfl) #[pv2] (by simp only [List.map_toArray, List.map_cons, List.map_nil]; rfl) (fun u w' => (∃ k n c l e t v, u = .tuple #[.agg (hv k n c l e t).toArray, v, .int .i64 0]) ∧ Below y4.heap.size y4 w') ?_ ?_
          · exact (SD.out y4 _ (BB.out.trans (hS.mono BB.out.size)) (O3.out.byt (allB_app AX.out AT.out))).mono fun e' w' ⟨k, n, c, l, e, t, v, h1, h2⟩ => ⟨_, h1, ⟨k, n, c, l, e, t, v, rfl⟩, h2⟩
          rintro _ y5 ⟨⟨qk, qn, qc, ql, qe, qt, qv, rfl⟩, hb⟩
          have hS : Below wq.heap.size wq y5 := hS.trans (hb.mono hS.size)
          clear hb
          refine hK.out _ _ hS (fun _ => ?_)
          simp only [Act.put, List.setIfInBounds_toArray, List.set_cons_zero, List.set_cons_succ]
          clear hK K
          refine take_lawH 7 (some 46) (.tuple #[.agg (hv qk qn qc ql qe qt).toArray, qv, .int .i64 0]) rfl rfl (by kernel_rfl) (by kernel_rfl) (by kernel_rfl) (fun _ _ _ h => h) (Or.inl ⟨by rfl, fun w' hw' => by rfl⟩) hS ?_
          simp only [Act.put, List.setIfInBounds_toArray, List.set_cons_zero, List.set_cons_succ]
          refine take_lawH 8 (some 54) (.agg (hv qk qn qc ql qe qt).toArray) rfl rfl (by kernel_rfl) (by kernel_rfl) (by kernel_rfl) (fun _ _ _ h => h) (Or.inl ⟨by rfl, fun w' hw' => by rfl⟩) hS ?_
          simp only [Act.put, List.setIfInBounds_toArray, List.set_cons_zero, List.set_cons_succ]
          refine take_lawH 9 (some 55) (qv) rfl rfl (by kernel_rfl) (by kernel_rfl) (by kernel_rfl) (fun _ _ _ h => h) (Or.inl ⟨by rfl, fun w' hw' => by rfl⟩) hS ?_
          simp only [Act.put, List.setIfInBounds_toArray, List.set_cons_zero, List.set_cons_succ]
          refine take_lawH 10 (some 56) (.int .i64 0) rfl rfl (by kernel_rfl) (by kernel_rfl) (by kernel_rfl) (fun _ _ _ h => h) (Or.inl ⟨by rfl, fun w' hw' => by rfl⟩) hS ?_
          simp only [Act.put, List.setIfInBounds_toArray, List.set_cons_zero, List.set_cons_succ]
          refine wpAnyH_ready (rs := [11]) (by kernel_rfl) (by simp) ?_
          refine AllReadyH.cons rfl (fun K hK => ?_) AllReadyH.nil
          refine step_newT _ rfl (some 10) rfl 25 rfl (hv 0 0 0 0 0 0) zero_head ?_
          intro y6 V9 hb s9 hy4
          have g4l : wq.heap.size ≤ y5.heap.size := hS.size
          obtain ⟨g4, hg4⟩ : ∃ g, g = y5.heap.size := ⟨_, rfl⟩
          have hS : Below wq.heap.size wq y6 := hS.trans (hb.mono hS.size)
          rw [← hg4] at V9 g4l s9 hy4 ⊢
          have HG : Hid (Vr y6 g4 (hv 0 0 0 0 0 0)) := V9
          have HT4 : Hid (∃ fr, y6.heap[g4]? = some (.cells (hv 0 0 0 0 0 0).toArray 25 fr)) := hy4
          clear V9 hb hg4 s9 hy4
          refine hK.out _ _ hS (fun _ => ?_)
          simp only [Act.put, List.setIfInBounds_toArray, List.set_cons_zero, List.set_cons_succ]
          clear hK K
          refine wpAnyH_ready (rs := [12]) (by kernel_rfl) (by simp) ?_
          refine AllReadyH.cons rfl (fun K hK => ?_) AllReadyH.nil
          refine step_storeC _ rfl none rfl (.tmp 10) (.tmp 54) 25 rfl g4 (hv 0 0 0 0 0 0) (hv qk qn qc ql qe qt) rfl rfl HG.out rfl rowy_head.2 (hv_one _ _ _ _ _ _) ?_
          intro y7 v9 B9
          have hS : Below wq.heap.size wq y7 := hS.trans (B9.mono g4l)
          clear v9 B9
          refine hK.out _ _ hS (fun _ => ?_)
          simp only [Act.put]
          clear hK K
          refine take_lawH 13 (some 11) (qv) rfl rfl (by kernel_rfl) (by kernel_rfl) (by kernel_rfl) (fun _ _ _ h => h) (Or.inl ⟨by rfl, fun w' hw' => by rfl⟩) hS ?_
          simp only [Act.put, List.setIfInBounds_toArray, List.set_cons_zero, List.set_cons_succ]
          refine take_lawH 14 (some 12) (.int .i64 0) rfl rfl (by kernel_rfl) (by kernel_rfl) (by kernel_rfl) (fun _ _ _ h => h) (Or.inl ⟨by rfl, fun w' hw' => by rfl⟩) hS ?_
          simp only [Act.put, List.setIfInBounds_toArray, List.set_cons_zero, List.set_cons_succ]
          refine wpAnyH_done (by kernel_rfl) ?_ _
          have YB : Hid (Byt y7 bv EE) := YB.out.below hS
          have YX : Hid (Byt y7 xv X) := YX.out.below hS
          have BB : Hid (Below w.heap.size w y7) := BB.out.trans (hS.mono BB.out.size)
          clear hS
          have t5 : (0 : Nat) = 0 := rfl
          go_wp2_with (first
            | (have qa := ta; go_at_call 11; refine (awake_any _ (hT.below BB.out)).mono ?_; rintro e9 w9 ⟨rfl, B9⟩; have BB : Hid (Below w.heap.size w w9) := BB.out.trans (B9.mono BB.out.size); clear B9 ta)
            | (have q := t6; go_at_call 12; refine (SS.out _ _ _ YX.out YP.out).mono ?_; rintro e9 w9 ⟨rfl, Bx⟩; have BB : Hid (Below w.heap.size w w9) := BB.out.trans (Bx.mono BB.out.size); clear Bx t6; have ta : (0 : Nat) = 0 := rfl)
            | (have q := t5; refine cut_to _ rfl (.tmp 60) (.const (.int .i64 48)) rfl _ EE _ 48 rfl rfl rfl (by have := HE.out; omega) YB.out ?_; intro v8 y8; rw [HP.out] at y8; have YP : Hid (Byt y7 v8 PP) := y8; clear y8 t5; have t6 : (0 : Nat) = 0 := rfl))
          go_ret
          exact ⟨rfl, BB.out⟩
        · refine step_newT _ rfl (some 10) rfl 25 rfl (hv 0 0 0 0 0 0) zero_head ?_
          intro y8 V9 hb s9 hy4
          have O3 : Hid (Own wq.heap.size y8 pv2 ([] ++ X ++ TT)) := own_low O3.out hb
          have g4l : wq.heap.size ≤ y4.heap.size := hS.size
          obtain ⟨g4, hg4⟩ : ∃ g, g = y4.heap.size := ⟨_, rfl⟩
          have hS : Below wq.heap.size wq y8 := hS.trans (hb.mono hS.size)
          rw [← hg4] at V9 g4l s9 hy4 ⊢
          have HG : Hid (Vr y8 g4 (hv 0 0 0 0 0 0)) := V9
          have HT4 : Hid (∃ fr, y8.heap[g4]? = some (.cells (hv 0 0 0 0 0 0).toArray 25 fr)) := hy4
          clear V9 hb hg4 s9 hy4
          refine hK.out _ _ hS (fun _ => ?_)
          simp only [Act.put, List.setIfInBounds_toArray, List.set_cons_zero, List.set_cons_succ]
          clear hK K
          refine wpAnyH_ready (rs := [6]) (by kernel_rfl) (by simp) ?_
          refine AllReadyH.cons rfl (fun K hK => ?_) AllReadyH.nil
          refine step_callW _ (by rfl) (some 53) rfl 17 #[.tmp 52] #[26] rfl (fun q w' => by rfl) #[pv2] (by simp only [List.map_toArray, List.map_cons, List.map_nil]; rfl) (fun u w' => (∃ k n c l e t v, u = .tuple #[.agg (hv k n c l e t).toArray, v, .int .i64 0]) ∧ Below y8.heap.size y8 w') ?_ ?_
          · exact (SD.out y8 _ (BB.out.trans (hS.mono BB.out.size)) (O3.out.byt (allB_app AX.out AT.out))).mono fun e' w' ⟨k, n, c, l, e, t, v, h1, h2⟩ => ⟨_, h1, ⟨k, n, c, l, e, t, v, rfl⟩, h2⟩
          rintro _ y9 ⟨⟨qk, qn, qc, ql, qe, qt, qv, rfl⟩, hb⟩
          have HT4 : Hid (∃ fr, y9.heap[g4]? = some (.cells (hv 0 0 0 0 0 0).toArray 25 fr)) := by rw [hb.block g4 (range_lt HG.out.1 (by simp [hv]))]; exact HT4.out
          have HG : Hid (Vr y9 g4 (hv 0 0 0 0 0 0)) := HG.out.below hb (range_lt HG.out.1 (by simp [hv]))
          have hS : Below wq.heap.size wq y9 := hS.trans (hb.mono hS.size)
          clear hb
          refine hK.out _ _ hS (fun _ => ?_)
          simp only [Act.put, List.setIfInBounds_toArray, List.set_cons_zero, List.set_cons_succ]
          clear hK K
          refine take_lawH 7 (some 46) (.tuple #[.agg (hv qk qn qc ql qe qt).toArray, qv, .int .i64 0]) rfl rfl (by kernel_rfl) (by kernel_rfl) (by kernel_rfl) (fun _ _ _ h => h) (Or.inl ⟨by rfl, fun w' hw' => by rfl⟩) hS ?_
          simp only [Act.put, List.setIfInBounds_toArray, List.set_cons_zero, List.set_cons_succ]
          refine take_lawH 8 (some 54) (.agg (hv qk qn qc ql qe qt).toArray) rfl rfl (by kernel_rfl) (by kernel_rfl) (by kernel_rfl) (fun _ _ _ h => h) (Or.inl ⟨by rfl, fun w' hw' => by rfl⟩) hS ?_
          simp only [Act.put, List.setIfInBounds_toArray, List.set_cons_zero, List.set_cons_succ]
          refine take_lawH 9 (some 55) (qv) rfl rfl (by kernel_rfl) (by kernel_rfl) (by kernel_rfl) (fun _ _ _ h => h) (Or.inl ⟨by rfl, fun w' hw' => by rfl⟩) hS ?_
          simp only [Act.put, List.setIfInBounds_toArray, List.set_cons_zero, List.set_cons_succ]
          refine take_lawH 10 (some 56) (.int .i64 0) rfl rfl (by kernel_rfl) (by kernel_rfl) (by kernel_rfl) (fun _ _ _ h => h) (Or.inl ⟨by rfl, fun w' hw' => by rfl⟩) hS ?_
          simp only [Act.put, List.setIfInBounds_toArray, List.set_cons_zero, List.set_cons_succ]
          refine wpAnyH_ready (rs := [12]) (by kernel_rfl) (by simp) ?_
          refine AllReadyH.cons rfl (fun K hK => ?_) AllReadyH.nil
          refine step_storeC _ rfl none rfl (.tmp 10) (.tmp 54) 25 rfl g4 (hv 0 0 0 0 0 0) (hv qk qn qc ql qe qt) rfl rfl HG.out rfl rowy_head.2 (hv_one _ _ _ _ _ _) ?_
          intro y10 v9 B9
          have hS : Below wq.heap.size wq y10 := hS.trans (B9.mono g4l)
          clear v9 B9
          refine hK.out _ _ hS (fun _ => ?_)
          simp only [Act.put]
          clear hK K
          refine take_lawH 13 (some 11) (qv) rfl rfl (by kernel_rfl) (by kernel_rfl) (by kernel_rfl) (fun _ _ _ h => h) (Or.inl ⟨by rfl, fun w' hw' => by rfl⟩) hS ?_
          simp only [Act.put, List.setIfInBounds_toArray, List.set_cons_zero, List.set_cons_succ]
          refine take_lawH 14 (some 12) (.int .i64 0) rfl rfl (by kernel_rfl) (by kernel_rfl) (by kernel_rfl) (fun _ _ _ h => h) (Or.inl ⟨by rfl, fun w' hw' => by rfl⟩) hS ?_
          simp only [Act.put, List.setIfInBounds_toArray, List.set_cons_zero, List.set_cons_succ]
          refine wpAnyH_done (by kernel_rfl) ?_ _
          have YB : Hid (Byt y10 bv EE) := YB.out.below hS
          have YX : Hid (Byt y10 xv X) := YX.out.below hS
          have BB : Hid (Below w.heap.size w y10) := BB.out.trans (hS.mono BB.out.size)
          clear hS
          have t5 : (0 : Nat) = 0 := rfl
          go_wp2_with (first
            | (have qa := ta; go_at_call 11; refine (awake_any _ (hT.below BB.out)).mono ?_; rintro e9 w9 ⟨rfl, B9⟩; have BB : Hid (Below w.heap.size w w9) := BB.out.trans (B9.mono BB.out.size); clear B9 ta)
            | (have q := t6; go_at_call 12; refine (SS.out _ _ _ YX.out YP.out).mono ?_; rintro e9 w9 ⟨rfl, Bx⟩; have BB : Hid (Below w.heap.size w w9) := BB.out.trans (Bx.mono BB.out.size); clear Bx t6; have ta : (0 : Nat) = 0 := rfl)
            | (have q := t5; refine cut_to _ rfl (.tmp 60) (.const (.int .i64 48)) rfl _ EE _ 48 rfl rfl rfl (by have := HE.out; omega) YB.out ?_; intro v8 y8; rw [HP.out] at y8; have YP : Hid (Byt y10 v8 PP) := y8; clear y8 t5; have t6 : (0 : Nat) = 0 := rfl))
          go_ret
          exact ⟨rfl, BB.out⟩
      · refine step_newT _ rfl (some 10) rfl 25 rfl (hv 0 0 0 0 0 0) zero_head ?_
        intro y11 V9 hb s9 hy4
        have O2 : Hid (Own wq.heap.size y11 pv1 ([] ++ X)) := own_low O2.out hb
        have g4l : wq.heap.size ≤ y3.heap.size := hS.size
        obtain ⟨g4, hg4⟩ : ∃ g, g = y3.heap.size := ⟨_, rfl⟩
        have hS : Below wq.heap.size wq y11 := hS.trans (hb.mono hS.size)
        rw [← hg4] at V9 g4l s9 hy4 ⊢
        have HG : Hid (Vr y11 g4 (hv 0 0 0 0 0 0)) := V9
        have HT4 : Hid (∃ fr, y11.heap[g4]? = some (.cells (hv 0 0 0 0 0 0).toArray 25 fr)) := hy4
        clear V9 hb hg4 s9 hy4
        refine hK.out _ _ hS (fun _ => ?_)
        simp only [Act.put, List.setIfInBounds_toArray, List.set_cons_zero, List.set_cons_succ]
        clear hK K
        refine wpAnyH_ready (rs := [5]) (by kernel_rfl) (by simp) ?_
        refine AllReadyH.cons rfl (fun K hK => ?_) AllReadyH.nil
        refine step_pushsK _ rfl (some 52) rfl (.tmp 49) (.tmp 51) rfl wq.heap.size hS.size _ _ ([] ++ X) TT rfl rfl O2.out (HD.out ▸ (HE.out ▸ sl_from (YB.out.below hS) 48 (by have := HE.out; omega))) (by have := LX.out; simp <;> omega) (by have := LX.out; have := LT.out; omega) ?_
        intro pv2 y12 y9 hb hk9
        have e9 : y12.heap[g4]? = y11.heap[g4]? := hk9.block g4 (range_lt HG.out.1 (by simp [hv])) (own_not O2.out HT4.out)
        have HG : Hid (Vr y12 g4 (hv 0 0 0 0 0 0)) := HG.out.heap e9
        have HT4 : Hid (∃ fr, y12.heap[g4]? = some (.cells (hv 0 0 0 0 0 0).toArray 25 fr)) := by rw [e9]; exact HT4.out
        clear e9
        have O3 : Hid (Own wq.heap.size y12 pv2 ([] ++ X ++ TT)) := y9
        have hS : Below wq.heap.size wq y12 := hS.trans hb
        clear hb y9 hk9
        refine hK.out _ _ hS (fun _ => ?_)
        simp only [Act.put, List.setIfInBounds_toArray, List.set_cons_zero, List.set_cons_succ]
        clear hK K
        refine wpAnyH_ready (rs := [6]) (by kernel_rfl) (by simp) ?_
        refine AllReadyH.cons rfl (fun K hK => ?_) AllReadyH.nil
        refine step_callW _ (by rfl) (some 53) rfl 17 #[.tmp 52] #[26] rfl (fun q w' => by rfl) #[pv2] (by simp only [List.map_toArray, List.map_cons, List.map_nil]; rfl) (fun u w' => (∃ k n c l e t v, u = .tuple #[.agg (hv k n c l e t).toArray, v, .int .i64 0]) ∧ Below y12.heap.size y12 w') ?_ ?_
        · exact (SD.out y12 _ (BB.out.trans (hS.mono BB.out.size)) (O3.out.byt (allB_app AX.out AT.out))).mono fun e' w' ⟨k, n, c, l, e, t, v, h1, h2⟩ => ⟨_, h1, ⟨k, n, c, l, e, t, v, rfl⟩, h2⟩
        rintro _ y13 ⟨⟨qk, qn, qc, ql, qe, qt, qv, rfl⟩, hb⟩
        have HT4 : Hid (∃ fr, y13.heap[g4]? = some (.cells (hv 0 0 0 0 0 0).toArray 25 fr)) := by rw [hb.block g4 (range_lt HG.out.1 (by simp [hv]))]; exact HT4.out
        have HG : Hid (Vr y13 g4 (hv 0 0 0 0 0 0)) := HG.out.below hb (range_lt HG.out.1 (by simp [hv]))
        have hS : Below wq.heap.size wq y13 := hS.trans (hb.mono hS.size)
        clear hb
        refine hK.out _ _ hS (fun _ => ?_)
        simp only [Act.put, List.setIfInBounds_toArray, List.set_cons_zero, List.set_cons_succ]
        clear hK K
        refine take_lawH 7 (some 46) (.tuple #[.agg (hv qk qn qc ql qe qt).toArray, qv, .int .i64 0]) rfl rfl (by kernel_rfl) (by kernel_rfl) (by kernel_rfl) (fun _ _ _ h => h) (Or.inl ⟨by rfl, fun w' hw' => by rfl⟩) hS ?_
        simp only [Act.put, List.setIfInBounds_toArray, List.set_cons_zero, List.set_cons_succ]
        refine take_lawH 8 (some 54) (.agg (hv qk qn qc ql qe qt).toArray) rfl rfl (by kernel_rfl) (by kernel_rfl) (by kernel_rfl) (fun _ _ _ h => h) (Or.inl ⟨by rfl, fun w' hw' => by rfl⟩) hS ?_
        simp only [Act.put, List.setIfInBounds_toArray, List.set_cons_zero, List.set_cons_succ]
        refine take_lawH 9 (some 55) (qv) rfl rfl (by kernel_rfl) (by kernel_rfl) (by kernel_rfl) (fun _ _ _ h => h) (Or.inl ⟨by rfl, fun w' hw' => by rfl⟩) hS ?_
        simp only [Act.put, List.setIfInBounds_toArray, List.set_cons_zero, List.set_cons_succ]
        refine take_lawH 10 (some 56) (.int .i64 0) rfl rfl (by kernel_rfl) (by kernel_rfl) (by kernel_rfl) (fun _ _ _ h => h) (Or.inl ⟨by rfl, fun w' hw' => by rfl⟩) hS ?_
        simp only [Act.put, List.setIfInBounds_toArray, List.set_cons_zero, List.set_cons_succ]
        refine wpAnyH_ready (rs := [12]) (by kernel_rfl) (by simp) ?_
        refine AllReadyH.cons rfl (fun K hK => ?_) AllReadyH.nil
        refine step_storeC _ rfl none rfl (.tmp 10) (.tmp 54) 25 rfl g4 (hv 0 0 0 0 0 0) (hv qk qn qc ql qe qt) rfl rfl HG.out rfl rowy_head.2 (hv_one _ _ _ _ _ _) ?_
        intro y14 v9 B9
        have hS : Below wq.heap.size wq y14 := hS.trans (B9.mono g4l)
        clear v9 B9
        refine hK.out _ _ hS (fun _ => ?_)
        simp only [Act.put]
        clear hK K
        refine take_lawH 13 (some 11) (qv) rfl rfl (by kernel_rfl) (by kernel_rfl) (by kernel_rfl) (fun _ _ _ h => h) (Or.inl ⟨by rfl, fun w' hw' => by rfl⟩) hS ?_
        simp only [Act.put, List.setIfInBounds_toArray, List.set_cons_zero, List.set_cons_succ]
        refine take_lawH 14 (some 12) (.int .i64 0) rfl rfl (by kernel_rfl) (by kernel_rfl) (by kernel_rfl) (fun _ _ _ h => h) (Or.inl ⟨by rfl, fun w' hw' => by rfl⟩) hS ?_
        simp only [Act.put, List.setIfInBounds_toArray, List.set_cons_zero, List.set_cons_succ]
        refine wpAnyH_done (by kernel_rfl) ?_ _
        have YB : Hid (Byt y14 bv EE) := YB.out.below hS
        have YX : Hid (Byt y14 xv X) := YX.out.below hS
        have BB : Hid (Below w.heap.size w y14) := BB.out.trans (hS.mono BB.out.size)
        clear hS
        have t5 : (0 : Nat) = 0 := rfl
        go_wp2_with (first
          | (have qa := ta; go_at_call 11; refine (awake_any _ (hT.below BB.out)).mono ?_; rintro e9 w9 ⟨rfl, B9⟩; have BB : Hid (Below w.heap.size w w9) := BB.out.trans (B9.mono BB.out.size); clear B9 ta)
          | (have q := t6; go_at_call 12; refine (SS.out _ _ _ YX.out YP.out).mono ?_; rintro e9 w9 ⟨rfl, Bx⟩; have BB : Hid (Below w.heap.size w w9) := BB.out.trans (Bx.mono BB.out.size); clear Bx t6; have ta : (0 : Nat) = 0 := rfl)
          | (have q := t5; refine cut_to _ rfl (.tmp 60) (.const (.int .i64 48)) rfl _ EE _ 48 rfl rfl rfl (by have := HE.out; omega) YB.out ?_; intro v8 y8; rw [HP.out] at y8; have YP : Hid (Byt y14 v8 PP) := y8; clear y8 t5; have t6 : (0 : Nat) = 0 := rfl))
        go_ret
        exact ⟨rfl, BB.out⟩
    · refine step_newT _ rfl (some 10) rfl 25 rfl (hv 0 0 0 0 0 0) zero_head ?_
      intro y15 V9 hb s9 hy4
      have O1 : Hid (Own wq.heap.size y15 nv1 []) := own_low O1.out hb
      have g4l : wq.heap.size ≤ y2.heap.size := hS.size
      obtain ⟨g4, hg4⟩ : ∃ g, g = y2.heap.size := ⟨_, rfl⟩
      have hS : Below wq.heap.size wq y15 := hS.trans (hb.mono hS.size)
      rw [← hg4] at V9 g4l s9 hy4 ⊢
      have HG : Hid (Vr y15 g4 (hv 0 0 0 0 0 0)) := V9
      have HT4 : Hid (∃ fr, y15.heap[g4]? = some (.cells (hv 0 0 0 0 0 0).toArray 25 fr)) := hy4
      clear V9 hb hg4 s9 hy4
      refine hK.out _ _ hS (fun _ => ?_)
      simp only [Act.put, List.setIfInBounds_toArray, List.set_cons_zero, List.set_cons_succ]
      clear hK K
      refine wpAnyH_ready (rs := [2]) (by kernel_rfl) (by simp) ?_
      refine AllReadyH.cons rfl (fun K hK => ?_) AllReadyH.nil
      refine step_pushsK _ rfl (some 49) rfl (.tmp 47) (.tmp 48) rfl wq.heap.size hS.size _ _ [] X rfl rfl O1.out (YX.out.below hS) (by have := LX.out; simp <;> omega) (by have := LX.out; have := LT.out; omega) ?_
      intro pv1 y16 y9 hb hk9
      have e9 : y16.heap[g4]? = y15.heap[g4]? := hk9.block g4 (range_lt HG.out.1 (by simp [hv])) (own_not O1.out HT4.out)
      have HG : Hid (Vr y16 g4 (hv 0 0 0 0 0 0)) := HG.out.heap e9
      have HT4 : Hid (∃ fr, y16.heap[g4]? = some (.cells (hv 0 0 0 0 0 0).toArray 25 fr)) := by rw [e9]; exact HT4.out
      clear e9
      have O2 : Hid (Own wq.heap.size y16 pv1 ([] ++ X)) := y9
      have hS : Below wq.heap.size wq y16 := hS.trans hb
      clear hb y9 hk9
      refine hK.out _ _ hS (fun _ => ?_)
      simp only [Act.put, List.setIfInBounds_toArray, List.set_cons_zero, List.set_cons_succ]
      clear hK K
      refine wpAnyH_ready (rs := [5]) (by kernel_rfl) (by simp) ?_
      refine AllReadyH.cons rfl (fun K hK => ?_) AllReadyH.nil
      refine step_pushsK _ rfl (some 52) rfl (.tmp 49) (.tmp 51) rfl wq.heap.size hS.size _ _ ([] ++ X) TT rfl rfl O2.out (HD.out ▸ (HE.out ▸ sl_from (YB.out.below hS) 48 (by have := HE.out; omega))) (by have := LX.out; simp <;> omega) (by have := LX.out; have := LT.out; omega) ?_
      intro pv2 y17 y9 hb hk9
      have e9 : y17.heap[g4]? = y16.heap[g4]? := hk9.block g4 (range_lt HG.out.1 (by simp [hv])) (own_not O2.out HT4.out)
      have HG : Hid (Vr y17 g4 (hv 0 0 0 0 0 0)) := HG.out.heap e9
      have HT4 : Hid (∃ fr, y17.heap[g4]? = some (.cells (hv 0 0 0 0 0 0).toArray 25 fr)) := by rw [e9]; exact HT4.out
      clear e9
      have O3 : Hid (Own wq.heap.size y17 pv2 ([] ++ X ++ TT)) := y9
      have hS : Below wq.heap.size wq y17 := hS.trans hb
      clear hb y9 hk9
      refine hK.out _ _ hS (fun _ => ?_)
      simp only [Act.put, List.setIfInBounds_toArray, List.set_cons_zero, List.set_cons_succ]
      clear hK K
      refine wpAnyH_ready (rs := [6]) (by kernel_rfl) (by simp) ?_
      refine AllReadyH.cons rfl (fun K hK => ?_) AllReadyH.nil
      refine step_callW _ (by rfl) (some 53) rfl 17 #[.tmp 52] #[26] rfl (fun q w' => by rfl) #[pv2] (by simp only [List.map_toArray, List.map_cons, List.map_nil]; rfl) (fun u w' => (∃ k n c l e t v, u = .tuple #[.agg (hv k n c l e t).toArray, v, .int .i64 0]) ∧ Below y17.heap.size y17 w') ?_ ?_
      · exact (SD.out y17 _ (BB.out.trans (hS.mono BB.out.size)) (O3.out.byt (allB_app AX.out AT.out))).mono fun e' w' ⟨k, n, c, l, e, t, v, h1, h2⟩ => ⟨_, h1, ⟨k, n, c, l, e, t, v, rfl⟩, h2⟩
      rintro _ y18 ⟨⟨qk, qn, qc, ql, qe, qt, qv, rfl⟩, hb⟩
      have HT4 : Hid (∃ fr, y18.heap[g4]? = some (.cells (hv 0 0 0 0 0 0).toArray 25 fr)) := by rw [hb.block g4 (range_lt HG.out.1 (by simp [hv]))]; exact HT4.out
      have HG : Hid (Vr y18 g4 (hv 0 0 0 0 0 0)) := HG.out.below hb (range_lt HG.out.1 (by simp [hv]))
      have hS : Below wq.heap.size wq y18 := hS.trans (hb.mono hS.size)
      clear hb
      refine hK.out _ _ hS (fun _ => ?_)
      simp only [Act.put, List.setIfInBounds_toArray, List.set_cons_zero, List.set_cons_succ]
      clear hK K
      refine take_lawH 7 (some 46) (.tuple #[.agg (hv qk qn qc ql qe qt).toArray, qv, .int .i64 0]) rfl rfl (by kernel_rfl) (by kernel_rfl) (by kernel_rfl) (fun _ _ _ h => h) (Or.inl ⟨by rfl, fun w' hw' => by rfl⟩) hS ?_
      simp only [Act.put, List.setIfInBounds_toArray, List.set_cons_zero, List.set_cons_succ]
      refine take_lawH 8 (some 54) (.agg (hv qk qn qc ql qe qt).toArray) rfl rfl (by kernel_rfl) (by kernel_rfl) (by kernel_rfl) (fun _ _ _ h => h) (Or.inl ⟨by rfl, fun w' hw' => by rfl⟩) hS ?_
      simp only [Act.put, List.setIfInBounds_toArray, List.set_cons_zero, List.set_cons_succ]
      refine take_lawH 9 (some 55) (qv) rfl rfl (by kernel_rfl) (by kernel_rfl) (by kernel_rfl) (fun _ _ _ h => h) (Or.inl ⟨by rfl, fun w' hw' => by rfl⟩) hS ?_
      simp only [Act.put, List.setIfInBounds_toArray, List.set_cons_zero, List.set_cons_succ]
      refine take_lawH 10 (some 56) (.int .i64 0) rfl rfl (by kernel_rfl) (by kernel_rfl) (by kernel_rfl) (fun _ _ _ h => h) (Or.inl ⟨by rfl, fun w' hw' => by rfl⟩) hS ?_
      simp only [Act.put, List.setIfInBounds_toArray, List.set_cons_zero, List.set_cons_succ]
      refine wpAnyH_ready (rs := [12]) (by kernel_rfl) (by simp) ?_
      refine AllReadyH.cons rfl (fun K hK => ?_) AllReadyH.nil
      refine step_storeC _ rfl none rfl (.tmp 10) (.tmp 54) 25 rfl g4 (hv 0 0 0 0 0 0) (hv qk qn qc ql qe qt) rfl rfl HG.out rfl rowy_head.2 (hv_one _ _ _ _ _ _) ?_
      intro y19 v9 B9
      have hS : Below wq.heap.size wq y19 := hS.trans (B9.mono g4l)
      clear v9 B9
      refine hK.out _ _ hS (fun _ => ?_)
      simp only [Act.put]
      clear hK K
      refine take_lawH 13 (some 11) (qv) rfl rfl (by kernel_rfl) (by kernel_rfl) (by kernel_rfl) (fun _ _ _ h => h) (Or.inl ⟨by rfl, fun w' hw' => by rfl⟩) hS ?_
      simp only [Act.put, List.setIfInBounds_toArray, List.set_cons_zero, List.set_cons_succ]
      refine take_lawH 14 (some 12) (.int .i64 0) rfl rfl (by kernel_rfl) (by kernel_rfl) (by kernel_rfl) (fun _ _ _ h => h) (Or.inl ⟨by rfl, fun w' hw' => by rfl⟩) hS ?_
      simp only [Act.put, List.setIfInBounds_toArray, List.set_cons_zero, List.set_cons_succ]
      refine wpAnyH_done (by kernel_rfl) ?_ _
      have YB : Hid (Byt y19 bv EE) := YB.out.below hS
      have YX : Hid (Byt y19 xv X) := YX.out.below hS
      have BB : Hid (Below w.heap.size w y19) := BB.out.trans (hS.mono BB.out.size)
      clear hS
      have t5 : (0 : Nat) = 0 := rfl
      go_wp2_with (first
        | (have qa := ta; go_at_call 11; refine (awake_any _ (hT.below BB.out)).mono ?_; rintro e9 w9 ⟨rfl, B9⟩; have BB : Hid (Below w.heap.size w w9) := BB.out.trans (B9.mono BB.out.size); clear B9 ta)
        | (have q := t6; go_at_call 12; refine (SS.out _ _ _ YX.out YP.out).mono ?_; rintro e9 w9 ⟨rfl, Bx⟩; have BB : Hid (Below w.heap.size w w9) := BB.out.trans (Bx.mono BB.out.size); clear Bx t6; have ta : (0 : Nat) = 0 := rfl)
        | (have q := t5; refine cut_to _ rfl (.tmp 60) (.const (.int .i64 48)) rfl _ EE _ 48 rfl rfl rfl (by have := HE.out; omega) YB.out ?_; intro v8 y8; rw [HP.out] at y8; have YP : Hid (Byt y19 v8 PP) := y8; clear y8 t5; have t6 : (0 : Nat) = 0 := rfl))
      go_ret
      exact ⟨rfl, BB.out⟩
  · refine step_newT _ rfl (some 10) rfl 25 rfl (hv 0 0 0 0 0 0) zero_head ?_
    intro y20 V9 hb s9 hy4
    have g4l : wq.heap.size ≤ y1.heap.size := hS.size
    obtain ⟨g4, hg4⟩ : ∃ g, g = y1.heap.size := ⟨_, rfl⟩
    have hS : Below wq.heap.size wq y20 := hS.trans (hb.mono hS.size)
    rw [← hg4] at V9 g4l s9 hy4 ⊢
    have HG : Hid (Vr y20 g4 (hv 0 0 0 0 0 0)) := V9
    have HT4 : Hid (∃ fr, y20.heap[g4]? = some (.cells (hv 0 0 0 0 0 0).toArray 25 fr)) := hy4
    clear V9 hb hg4 s9 hy4
    refine hK.out _ _ hS (fun _ => ?_)
    simp only [Act.put, List.setIfInBounds_toArray, List.set_cons_zero, List.set_cons_succ]
    clear hK K
    refine wpAnyH_ready (rs := [0]) (by kernel_rfl) (by simp) ?_
    refine AllReadyH.cons rfl (fun K hK => ?_) AllReadyH.nil
    refine step_nil _ rfl (some 47) rfl rfl ?_
    intro nv1 y21 y9 hb
    have HT4 : Hid (∃ fr, y21.heap[g4]? = some (.cells (hv 0 0 0 0 0 0).toArray 25 fr)) := by rw [hb.block g4 (range_lt HG.out.1 (by simp [hv]))]; exact HT4.out
    have HG : Hid (Vr y21 g4 (hv 0 0 0 0 0 0)) := HG.out.below hb (range_lt HG.out.1 (by simp [hv]))
    have O1 : Hid (Own wq.heap.size y21 nv1 []) := own_less y9 hS.size
    have hS : Below wq.heap.size wq y21 := hS.trans (hb.mono hS.size)
    clear hb y9
    refine hK.out _ _ hS (fun _ => ?_)
    simp only [Act.put, List.setIfInBounds_toArray, List.set_cons_zero, List.set_cons_succ]
    clear hK K
    refine wpAnyH_ready (rs := [2]) (by kernel_rfl) (by simp) ?_
    refine AllReadyH.cons rfl (fun K hK => ?_) AllReadyH.nil
    refine step_pushsK _ rfl (some 49) rfl (.tmp 47) (.tmp 48) rfl wq.heap.size hS.size _ _ [] X rfl rfl O1.out (YX.out.below hS) (by have := LX.out; simp <;> omega) (by have := LX.out; have := LT.out; omega) ?_
    intro pv1 y22 y9 hb hk9
    have e9 : y22.heap[g4]? = y21.heap[g4]? := hk9.block g4 (range_lt HG.out.1 (by simp [hv])) (own_not O1.out HT4.out)
    have HG : Hid (Vr y22 g4 (hv 0 0 0 0 0 0)) := HG.out.heap e9
    have HT4 : Hid (∃ fr, y22.heap[g4]? = some (.cells (hv 0 0 0 0 0 0).toArray 25 fr)) := by rw [e9]; exact HT4.out
    clear e9
    have O2 : Hid (Own wq.heap.size y22 pv1 ([] ++ X)) := y9
    have hS : Below wq.heap.size wq y22 := hS.trans hb
    clear hb y9 hk9
    refine hK.out _ _ hS (fun _ => ?_)
    simp only [Act.put, List.setIfInBounds_toArray, List.set_cons_zero, List.set_cons_succ]
    clear hK K
    refine wpAnyH_ready (rs := [5]) (by kernel_rfl) (by simp) ?_
    refine AllReadyH.cons rfl (fun K hK => ?_) AllReadyH.nil
    refine step_pushsK _ rfl (some 52) rfl (.tmp 49) (.tmp 51) rfl wq.heap.size hS.size _ _ ([] ++ X) TT rfl rfl O2.out (HD.out ▸ (HE.out ▸ sl_from (YB.out.below hS) 48 (by have := HE.out; omega))) (by have := LX.out; simp <;> omega) (by have := LX.out; have := LT.out; omega) ?_
    intro pv2 y23 y9 hb hk9
    have e9 : y23.heap[g4]? = y22.heap[g4]? := hk9.block g4 (range_lt HG.out.1 (by simp [hv])) (own_not O2.out HT4.out)
    have HG : Hid (Vr y23 g4 (hv 0 0 0 0 0 0)) := HG.out.heap e9
    have HT4 : Hid (∃ fr, y23.heap[g4]? = some (.cells (hv 0 0 0 0 0 0).toArray 25 fr)) := by rw [e9]; exact HT4.out
    clear e9
    have O3 : Hid (Own wq.heap.size y23 pv2 ([] ++ X ++ TT)) := y9
    have hS : Below wq.heap.size wq y23 := hS.trans hb
    clear hb y9 hk9
    refine hK.out _ _ hS (fun _ => ?_)
    simp only [Act.put, List.setIfInBounds_toArray, List.set_cons_zero, List.set_cons_succ]
    clear hK K
    refine wpAnyH_ready (rs := [6]) (by kernel_rfl) (by simp) ?_
    refine AllReadyH.cons rfl (fun K hK => ?_) AllReadyH.nil
    refine step_callW _ (by rfl) (some 53) rfl 17 #[.tmp 52] #[26] rfl (fun q w' => by rfl) #[pv2] (by simp only [List.map_toArray, List.map_cons, List.map_nil]; rfl) (fun u w' => (∃ k n c l e t v, u = .tuple #[.agg (hv k n c l e t).toArray, v, .int .i64 0]) ∧ Below y23.heap.size y23 w') ?_ ?_
    · exact (SD.out y23 _ (BB.out.trans (hS.mono BB.out.size)) (O3.out.byt (allB_app AX.out AT.out))).mono fun e' w' ⟨k, n, c, l, e, t, v, h1, h2⟩ => ⟨_, h1, ⟨k, n, c, l, e, t, v, rfl⟩, h2⟩
    rintro _ y24 ⟨⟨qk, qn, qc, ql, qe, qt, qv, rfl⟩, hb⟩
    have HT4 : Hid (∃ fr, y24.heap[g4]? = some (.cells (hv 0 0 0 0 0 0).toArray 25 fr)) := by rw [hb.block g4 (range_lt HG.out.1 (by simp [hv]))]; exact HT4.out
    have HG : Hid (Vr y24 g4 (hv 0 0 0 0 0 0)) := HG.out.below hb (range_lt HG.out.1 (by simp [hv]))
    have hS : Below wq.heap.size wq y24 := hS.trans (hb.mono hS.size)
    clear hb
    refine hK.out _ _ hS (fun _ => ?_)
    simp only [Act.put, List.setIfInBounds_toArray, List.set_cons_zero, List.set_cons_succ]
    clear hK K
    refine take_lawH 7 (some 46) (.tuple #[.agg (hv qk qn qc ql qe qt).toArray, qv, .int .i64 0]) rfl rfl (by kernel_rfl) (by kernel_rfl) (by kernel_rfl) (fun _ _ _ h => h) (Or.inl ⟨by rfl, fun w' hw' => by rfl⟩) hS ?_
    simp only [Act.put, List.setIfInBounds_toArray, List.set_cons_zero, List.set_cons_succ]
    refine take_lawH 8 (some 54) (.agg (hv qk qn qc ql qe qt).toArray) rfl rfl (by kernel_rfl) (by kernel_rfl) (by kernel_rfl) (fun _ _ _ h => h) (Or.inl ⟨by rfl, fun w' hw' => by rfl⟩) hS ?_
    simp only [Act.put, List.setIfInBounds_toArray, List.set_cons_zero, List.set_cons_succ]
    refine take_lawH 9 (some 55) (qv) rfl rfl (by kernel_rfl) (by kernel_rfl) (by kernel_rfl) (fun _ _ _ h => h) (Or.inl ⟨by rfl, fun w' hw' => by rfl⟩) hS ?_
    simp only [Act.put, List.setIfInBounds_toArray, List.set_cons_zero, List.set_cons_succ]
    refine take_lawH 10 (some 56) (.int .i64 0) rfl rfl (by kernel_rfl) (by kernel_rfl) (by kernel_rfl) (fun _ _ _ h => h) (Or.inl ⟨by rfl, fun w' hw' => by rfl⟩) hS ?_
    simp only [Act.put, List.setIfInBounds_toArray, List.set_cons_zero, List.set_cons_succ]
    refine wpAnyH_ready (rs := [12]) (by kernel_rfl) (by simp) ?_
    refine AllReadyH.cons rfl (fun K hK => ?_) AllReadyH.nil
    refine step_storeC _ rfl none rfl (.tmp 10) (.tmp 54) 25 rfl g4 (hv 0 0 0 0 0 0) (hv qk qn qc ql qe qt) rfl rfl HG.out rfl rowy_head.2 (hv_one _ _ _ _ _ _) ?_
    intro y25 v9 B9
    have hS : Below wq.heap.size wq y25 := hS.trans (B9.mono g4l)
    clear v9 B9
    refine hK.out _ _ hS (fun _ => ?_)
    simp only [Act.put]
    clear hK K
    refine take_lawH 13 (some 11) (qv) rfl rfl (by kernel_rfl) (by kernel_rfl) (by kernel_rfl) (fun _ _ _ h => h) (Or.inl ⟨by rfl, fun w' hw' => by rfl⟩) hS ?_
    simp only [Act.put, List.setIfInBounds_toArray, List.set_cons_zero, List.set_cons_succ]
    refine take_lawH 14 (some 12) (.int .i64 0) rfl rfl (by kernel_rfl) (by kernel_rfl) (by kernel_rfl) (fun _ _ _ h => h) (Or.inl ⟨by rfl, fun w' hw' => by rfl⟩) hS ?_
    simp only [Act.put, List.setIfInBounds_toArray, List.set_cons_zero, List.set_cons_succ]
    refine wpAnyH_done (by kernel_rfl) ?_ _
    have YB : Hid (Byt y25 bv EE) := YB.out.below hS
    have YX : Hid (Byt y25 xv X) := YX.out.below hS
    have BB : Hid (Below w.heap.size w y25) := BB.out.trans (hS.mono BB.out.size)
    clear hS
    have t5 : (0 : Nat) = 0 := rfl
    go_wp2_with (first
      | (have qa := ta; go_at_call 11; refine (awake_any _ (hT.below BB.out)).mono ?_; rintro e9 w9 ⟨rfl, B9⟩; have BB : Hid (Below w.heap.size w w9) := BB.out.trans (B9.mono BB.out.size); clear B9 ta)
      | (have q := t6; go_at_call 12; refine (SS.out _ _ _ YX.out YP.out).mono ?_; rintro e9 w9 ⟨rfl, Bx⟩; have BB : Hid (Below w.heap.size w w9) := BB.out.trans (Bx.mono BB.out.size); clear Bx t6; have ta : (0 : Nat) = 0 := rfl)
      | (have q := t5; refine cut_to _ rfl (.tmp 60) (.const (.int .i64 48)) rfl _ EE _ 48 rfl rfl rfl (by have := HE.out; omega) YB.out ?_; intro v8 y8; rw [HP.out] at y8; have YP : Hid (Byt y25 v8 PP) := y8; clear y8 t5; have t6 : (0 : Nat) = 0 := rfl))
    go_ret
    exact ⟨rfl, BB.out⟩

set_option maxHeartbeats 8000000 in
theorem walk_cn (k n c l e t : Int) (v : Value) (mask : List Int) (w : World) (hf : Hb l e t) (hv' : Byt w v mask) (hT : Tab w) (hr : Rh k n c) (hx : ¬ ofb 48 (prg (hb k n c l e t ++ inv (hb k n c l e t)) (List.replicate 48 0) mask false (8 * 48)) = hb k n c l e t ++ inv (hb k n c l e t)) :
    Calls Tryd.prog 7 #[.agg (hv k n c l e t).toArray, v, .bool false] w fun x w' => x = .returned (.bool true) ∧ Below w.heap.size w w' := by
  have t0 : (0 : Nat) = 0 := rfl
  have M8l : (List.replicate 8 (255 : Int)).length = 8 := by simp
  have TGl : (tgo []).length = 32 := tgo_len (.inl rfl)
  have HZ := hb_len k n c l e t
  have SE : Hid (∀ w', Below w.heap.size w w' → Calls Tryd.prog 14 #[.agg (hv k n c l e t).toArray, .slice none 0 0] w' fun x w'' => ∃ v, x = .returned (.tuple #[v, .int .i64 0]) ∧ Own w'.heap.size w'' v (hend (hb k n c l e t) (tgo []) (List.replicate 8 255)) ∧ Below w'.heap.size w' w'') := fun w' q => end_yes k n c l e t (.slice none 0 0) [] w' (Byt.nil w') hf.1 hf.2.1 hf.2.2 (hT.below q) hr (.inl rfl)
  have HE : Hid ((hend (hb k n c l e t) (tgo []) (List.replicate 8 255)).length = 88) := hend_len HZ TGl M8l
  have AE : Hid (AllB (hend (hb k n c l e t) (tgo []) (List.replicate 8 255))) := hend_all (hb_all hr l e t) (tgo_all (allB_mem (by simp))) (allB_replicate 255 8 (by omega))
  have HP : Hid ((hend (hb k n c l e t) (tgo []) (List.replicate 8 255)).take 48 = hb k n c l e t ++ inv (hb k n c l e t)) := take48 HZ
  have HD : Hid ((hend (hb k n c l e t) (tgo []) (List.replicate 8 255)).drop 48 = tgo [] ++ List.replicate 8 255) := drop48 HZ
  have PL : (hb k n c l e t ++ inv (hb k n c l e t)).length = 48 := by rw [List.length_append, inv_len, HZ]
  have SR : Hid (∀ w' a b, Byt w' a (hb k n c l e t ++ inv (hb k n c l e t)) → Byt w' b mask → Calls Tryd.prog 23 #[a, b] w' fun e' w'' => ∃ v, e' = .returned v ∧ Byt w'' v (ofb 48 (erased (hb k n c l e t ++ inv (hb k n c l e t)) mask)) ∧ Below w'.heap.size w' w'') := fun w' a b h1 h2 => by
    have := rerase_any a b _ mask w' h1 h2 (by omega)
    rw [PL] at this
    exact this
  have S0 : Hid (∀ w, Calls Tryd.prog 21 #[.int .u8 0, .int .i64 48] w fun e w' => ∃ v, e = .returned v ∧ Byt w' v (List.replicate 48 0) ∧ Below w.heap.size w w') := fun w => by
    have := rfill_any 0 48 w (by omega)
    rw [show clamp 48 65536 = 48 by decide] at this
    exact this
  have SP : Hid (∀ w' a b d, Byt w' a (hb k n c l e t ++ inv (hb k n c l e t)) → Byt w' b (List.replicate 48 0) → Byt w' d mask → Calls Tryd.prog 24 #[a, b, d, .bool false] w' fun e' w'' => ∃ v, e' = .returned v ∧ Byt w'' v (ofb 48 (prg (hb k n c l e t ++ inv (hb k n c l e t)) (List.replicate 48 0) mask false (8 * 48))) ∧ Below w'.heap.size w' w'') := fun w' a b d h1 h2 h3 => by
    have := rprog_false a b d _ (List.replicate 48 0) mask w' h1 h2 h3 (by rw [PL, List.length_replicate]) (by omega)
    rw [PL] at this
    exact this
  have AX : Hid (AllB (ofb 48 (prg (hb k n c l e t ++ inv (hb k n c l e t)) (List.replicate 48 0) mask false (8 * 48)))) := ofb_all _ _
  have LX : Hid ((ofb 48 (prg (hb k n c l e t ++ inv (hb k n c l e t)) (List.replicate 48 0) mask false (8 * 48))).length = 48) := ofb_len _ _
  have TLX := bits_tl (l := l) (e := e) (t := t) (mk := List.replicate 8 255) hr TGl (ofb_len 48 _) (ofb_all 48 _) (.inr fun i hi h => torn_down _ (List.replicate 48 0) mask (8 * 48) 48 i (by omega) h)
  have SD : Hid (∀ w' u, Below w.heap.size w w' → Byt w' u ((ofb 48 (prg (hb k n c l e t ++ inv (hb k n c l e t)) (List.replicate 48 0) mask false (8 * 48))) ++ (tgo [] ++ List.replicate 8 255)) → Calls Tryd.prog 17 #[u] w' fun x w'' => ∃ k n c l e t v, x = .returned (.tuple #[.agg (hv k n c l e t).toArray, v, .int .i64 1]) ∧ Below w'.heap.size w' w'') := fun w' u q h => (read_no u _ w' h (by rw [List.length_append, LX.out, List.length_append, TGl, M8l]) (hT.below q) (fun z => hx (TLX.1 z))).mono fun e' w'' ⟨h1, h3⟩ => ⟨0, 0, 0, 0, 0, 0, _, h1, h3⟩
  have SS : Hid (∀ w' a b, Byt w' a (ofb 48 (prg (hb k n c l e t ++ inv (hb k n c l e t)) (List.replicate 48 0) mask false (8 * 48))) → Byt w' b (hb k n c l e t ++ inv (hb k n c l e t)) → Calls Tryd.prog 12 #[a, b] w' fun e' w'' => e' = .returned (.bool false) ∧ Below w'.heap.size w' w'') := fun w' a b h1 h2 => (same_any w' a b _ _ h1 h2).mono fun e' w'' ⟨g1, n', g2⟩ => ⟨by rw [g1, decide_eq_false hx], by rw [g2]; exact he.below_drawn (Below.refl _ _) n'⟩
  have HMK : Hid (Byt w v mask) := hv'
  generalize ofb 48 (prg (hb k n c l e t ++ inv (hb k n c l e t)) (List.replicate 48 0) mask false (8 * 48)) = X at *
  generalize ofb 48 (erased (hb k n c l e t ++ inv (hb k n c l e t)) mask) = XE at *
  generalize hend (hb k n c l e t) (tgo []) (List.replicate 8 255) = EE at *
  generalize hb k n c l e t ++ inv (hb k n c l e t) = PP at *
  generalize List.replicate 48 (0 : Int) = R0 at *
  have LT : Hid ((tgo [] ++ List.replicate 8 (255 : Int)).length = 40) := by
    show _ = _
    rw [List.length_append, TGl, M8l]
  have AT : Hid (AllB (tgo [] ++ List.replicate 8 (255 : Int))) := allB_app (tgo_all (allB_mem (by simp))) (allB_replicate 255 8 (by omega))
  generalize tgo [] ++ List.replicate 8 (255 : Int) = TT at *
  clear hf hv' hr M8l TGl HZ PL TLX hx
  go_enter Tryd.func7, Tryd.ntmps7
  go_wp2_with (first
    | (have q := t4; go_at_call 23; refine (SR.out _ _ _ YP.out (HMK.out.below BB.out)).mono ?_; rintro e9 w4 ⟨xe, rfl, y4, Bx⟩; have YX : Hid (Byt w4 xe XE) := y4; have YB : Hid (Byt w4 bv EE) := YB.out.below Bx; have BB : Hid (Below w.heap.size w w4) := BB.out.trans (Bx.mono BB.out.size); clear Bx y4 t4 YP)
    | (have q := t3; refine cut_to _ rfl (.tmp 35) (.const (.int .i64 48)) rfl _ EE _ 48 rfl rfl rfl (by have := HE.out; omega) YB.out ?_; intro v3 y3; rw [HP.out] at y3; have YP : Hid (Byt w2 v3 PP) := y3; clear y3 t3; have t4 : (0 : Nat) = 0 := rfl)
    | (have q := t2; refine len_lawG _ (by rfl) (.tmp 21) rfl _ EE 88 rfl YB.out (by rw [HE.out]; rfl) ?_; clear t2; have t3 : (0 : Nat) = 0 := rfl)
    | (have q := t1; go_at_call 14; refine (SE.out _ BB.out).mono ?_; rintro e9 w2 ⟨bv, rfl, o2, Bx⟩; have YB : Hid (Byt w2 bv EE) := o2.byt AE.out; have BB : Hid (Below w.heap.size w w2) := BB.out.trans (Bx.mono BB.out.size); clear c0 c1 c2 c3 c4 c5; clear o2 Bx t1 HA; have t2 : (0 : Nat) = 0 := rfl)
    | (have q0 := t0; refine box_lawC _ (hv k n c l e t) rfl ?_; intro w1 V1 B1 s1; have HA : Hid (Vr w1 w.heap.size (hv k n c l e t)) := V1; have c0 := HA.out.cell 0 _ rfl; have c1 := HA.out.cell 1 _ rfl; have c2 := HA.out.cell 2 _ rfl; have c3 := HA.out.cell 3 _ rfl; have c4 := HA.out.cell 4 _ rfl; have c5 := HA.out.cell 5 _ rfl; have BB : Hid (Below w.heap.size w w1) := B1; clear V1 B1 t0; have t1 : (0 : Nat) = 0 := rfl))
  refine wp_region_held_drew (S := fun w' => Below w4.heap.size w4 w') (by kernel_rfl) (Below.refl _ _).drew (fun hS => ?_)
  obtain ⟨z1, hx0⟩ : ∃ x, x = w4.drew := ⟨_, rfl⟩
  rw [← hx0] at hS  ⊢
  clear hx0
  refine take_lawH 0 (some 41) (bv) rfl rfl (by kernel_rfl) (by kernel_rfl) (by kernel_rfl) (fun _ _ _ h => h) (Or.inl ⟨by rfl, fun w' hw' => by rfl⟩) hS ?_
  simp only [Act.put, List.setIfInBounds_toArray, List.set_cons_zero, List.set_cons_succ]
  refine take_lawH 1 (some 42) (sl bv 0 48) rfl rfl (by kernel_rfl) (by kernel_rfl) (by kernel_rfl) (fun _ _ _ h => h) (Or.inl ⟨by rfl, fun w' hw' => by exact exec_to (.tmp 41) (.const (.int .i64 48)) rfl bv EE _ YB.out 48 rfl rfl (by have := HE.out; omega) _⟩) hS ?_
  simp only [Act.put, List.setIfInBounds_toArray, List.set_cons_zero, List.set_cons_succ]
  refine take_lawH 3 (some 44) (v) rfl rfl (by kernel_rfl) (by kernel_rfl) (by kernel_rfl) (fun _ _ _ h => h) (Or.inl ⟨by rfl, fun w' hw' => by rfl⟩) hS ?_
  simp only [Act.put, List.setIfInBounds_toArray, List.set_cons_zero, List.set_cons_succ]
  refine wpAnyH_ready (rs := [2]) (by kernel_rfl) (by simp) ?_
  refine AllReadyH.cons rfl (fun K hK => ?_) AllReadyH.nil
  refine step_callW _ (by rfl) (some 43) rfl 21 #[.const (.int .u8 0), .const (.int .i64 48)] #[5, 3] rfl (fun q w' => by rfl) #[.int .u8 0, .int .i64 48] (by simp only [List.map_toArray, List.map_cons, List.map_nil]; rfl) (fun u w' => (Byt w' u R0) ∧ Below z1.heap.size z1 w') ?_ ?_
  · exact S0.out z1
  rintro u1 z2 ⟨y9, hb⟩
  have YU : Hid (Byt z2 u1 R0) := y9
  have hS : Below w4.heap.size w4 z2 := hS.trans (hb.mono hS.size)
  clear hb y9
  refine hK.out _ _ hS (fun _ => ?_)
  simp only [Act.put, List.setIfInBounds_toArray, List.set_cons_zero, List.set_cons_succ]
  clear hK K
  refine wpAnyH_ready (rs := [4]) (by kernel_rfl) (by simp) ?_
  refine AllReadyH.cons rfl (fun K hK => ?_) AllReadyH.nil
  refine step_callW _ (by rfl) (some 45) rfl 24 #[.tmp 42, .tmp 43, .tmp 44, .const (.bool false)] #[26, 26, 26, 4] rfl (fun q w' => by rfl) #[sl bv 0 48, u1, v, .bool false] (by simp only [List.map_toArray, List.map_cons, List.map_nil]; rfl) (fun u w' => (Byt w' u X) ∧ Below z2.heap.size z2 w') ?_ ?_
  · exact SP.out z2 _ _ _ (HP.out ▸ sl_to (YB.out.below hS) 48 (by have := HE.out; omega)) YU.out (HMK.out.below (BB.out.trans (hS.mono BB.out.size)))
  rintro xv z3 ⟨y9, hb⟩
  have YU : Hid (Byt z3 u1 R0) := YU.out.below hb
  have YX : Hid (Byt z3 xv X) := y9
  have hS : Below w4.heap.size w4 z3 := hS.trans (hb.mono hS.size)
  clear hb y9
  refine hK.out _ _ hS (fun _ => ?_)
  simp only [Act.put, List.setIfInBounds_toArray, List.set_cons_zero, List.set_cons_succ]
  clear hK K
  refine take_lawH 5 (some 9) (xv) rfl rfl (by kernel_rfl) (by kernel_rfl) (by kernel_rfl) (fun _ _ _ h => h) (Or.inl ⟨by rfl, fun w' hw' => by rfl⟩) hS ?_
  simp only [Act.put, List.setIfInBounds_toArray, List.set_cons_zero, List.set_cons_succ]
  refine wpAnyH_done (by kernel_rfl) ?_ _
  have YB : Hid (Byt z3 bv EE) := YB.out.below hS
  have BB : Hid (Below w.heap.size w z3) := BB.out.trans (hS.mono BB.out.size)
  obtain ⟨wq, hwq⟩ : ∃ x, x = z3 := ⟨_, rfl⟩
  rw [← hwq] at YB BB YX ⊢
  clear hS hwq YU
  go_wp2
  refine wp_region_held_drew (S := fun w' => Below wq.heap.size wq w') (by kernel_rfl) (Below.refl _ _).drew (fun hS => ?_)
  obtain ⟨y1, hx0⟩ : ∃ x, x = wq.drew := ⟨_, rfl⟩
  rw [← hx0] at hS  ⊢
  clear hx0
  refine take_lawH 1 (some 48) (xv) rfl rfl (by kernel_rfl) (by kernel_rfl) (by kernel_rfl) (fun _ _ _ h => h) (Or.inl ⟨by rfl, fun w' hw' => by rfl⟩) hS ?_
  simp only [Act.put, List.setIfInBounds_toArray, List.set_cons_zero, List.set_cons_succ]
  refine take_lawH 3 (some 50) (bv) rfl rfl (by kernel_rfl) (by kernel_rfl) (by kernel_rfl) (fun _ _ _ h => h) (Or.inl ⟨by rfl, fun w' hw' => by rfl⟩) hS ?_
  simp only [Act.put, List.setIfInBounds_toArray, List.set_cons_zero, List.set_cons_succ]
  refine take_lawH 4 (some 51) (sl bv 48 88) rfl rfl (by kernel_rfl) (by kernel_rfl) (by kernel_rfl) (fun _ _ _ h => h) (Or.inl ⟨by rfl, fun w' hw' => by exact exec_from (.tmp 50) (.const (.int .i64 48)) rfl bv EE _ YB.out 48 88 rfl rfl HE.out (by omega) _⟩) hS ?_
  simp only [Act.put, List.setIfInBounds_toArray, List.set_cons_zero, List.set_cons_succ]
  refine wpAnyH_ready (rs := [0, 11]) (by kernel_rfl) (by simp) ?_
  refine AllReadyH.cons rfl (fun K hK => ?_) (AllReadyH.cons rfl (fun K hK => ?_) AllReadyH.nil)
  · refine step_nil _ rfl (some 47) rfl rfl ?_
    intro nv1 y2 y9 hb
    have O1 : Hid (Own wq.heap.size y2 nv1 []) := own_less y9 hS.size
    have hS : Below wq.heap.size wq y2 := hS.trans (hb.mono hS.size)
    clear hb y9
    refine hK.out _ _ hS (fun _ => ?_)
    simp only [Act.put, List.setIfInBounds_toArray, List.set_cons_zero, List.set_cons_succ]
    clear hK K
    refine wpAnyH_ready (rs := [2, 11]) (by kernel_rfl) (by simp) ?_
    refine AllReadyH.cons rfl (fun K hK => ?_) (AllReadyH.cons rfl (fun K hK => ?_) AllReadyH.nil)
    · refine step_pushsK _ rfl (some 49) rfl (.tmp 47) (.tmp 48) rfl wq.heap.size hS.size _ _ [] X rfl rfl O1.out (YX.out.below hS) (by have := LX.out; simp <;> omega) (by have := LX.out; have := LT.out; omega) ?_
      intro pv1 y3 y9 hb hk9
      have O2 : Hid (Own wq.heap.size y3 pv1 ([] ++ X)) := y9
      have hS : Below wq.heap.size wq y3 := hS.trans hb
      clear hb y9 hk9
      refine hK.out _ _ hS (fun _ => ?_)
      simp only [Act.put, List.setIfInBounds_toArray, List.set_cons_zero, List.set_cons_succ]
      clear hK K
      refine wpAnyH_ready (rs := [5, 11]) (by kernel_rfl) (by simp) ?_
      refine AllReadyH.cons rfl (fun K hK => ?_) (AllReadyH.cons rfl (fun K hK => ?_) AllReadyH.nil)
      · refine step_pushsK _ rfl (some 52) rfl (.tmp 49) (.tmp 51) rfl wq.heap.size hS.size _ _ ([] ++ X) TT rfl rfl O2.out (HD.out ▸ (HE.out ▸ sl_from (YB.out.below hS) 48 (by have := HE.out; omega))) (by have := LX.out; simp <;> omega) (by have := LX.out; have := LT.out; omega) ?_
        intro pv2 y4 y9 hb hk9
        have O3 : Hid (Own wq.heap.size y4 pv2 ([] ++ X ++ TT)) := y9
        have hS : Below wq.heap.size wq y4 := hS.trans hb
        clear hb y9 hk9
        refine hK.out _ _ hS (fun _ => ?_)
        simp only [Act.put, List.setIfInBounds_toArray, List.set_cons_zero, List.set_cons_succ]
        clear hK K
        refine wpAnyH_ready (rs := [6, 11]) (by kernel_rfl) (by simp) ?_
        refine AllReadyH.cons rfl (fun K hK => ?_) (AllReadyH.cons rfl (fun K hK => ?_) AllReadyH.nil)
        · refine step_callW _ (by rfl) (some 53) rfl 17 #[.tmp 52] #[26] rfl (fun q w' => by rfl) #[pv2] (by simp only [List.map_toArray, List.map_cons, List.map_nil]; rfl) (fun u w' => (∃ k n c l e t v, u = .tuple #[.agg (hv k n c l e t).toArray, v, .int .i64 1]) ∧ Below y4.heap.size y4 w') ?_ ?_
          · exact (SD.out y4 _ (BB.out.trans (hS.mono BB.out.size)) (O3.out.byt (allB_app AX.out AT.out))).mono fun e' w' ⟨k, n, c, l, e, t, v, h1, h2⟩ => ⟨_, h1, ⟨k, n, c, l, e, t, v, rfl⟩, h2⟩
          rintro _ y5 ⟨⟨qk, qn, qc, ql, qe, qt, qv, rfl⟩, hb⟩
          have hS : Below wq.heap.size wq y5 := hS.trans (hb.mono hS.size)
          clear hb
          refine hK.out _ _ hS (fun _ => ?_)
          simp only [Act.put, List.setIfInBounds_toArray, List.set_cons_zero, List.set_cons_succ]
          clear hK K
          refine take_lawH 7 (some 46) (.tuple #[.agg (hv qk qn qc ql qe qt).toArray, qv, .int .i64 1]) rfl rfl (by kernel_rfl) (by kernel_rfl) (by kernel_rfl) (fun _ _ _ h => h) (Or.inl ⟨by rfl, fun w' hw' => by rfl⟩) hS ?_
          simp only [Act.put, List.setIfInBounds_toArray, List.set_cons_zero, List.set_cons_succ]
          refine take_lawH 8 (some 54) (.agg (hv qk qn qc ql qe qt).toArray) rfl rfl (by kernel_rfl) (by kernel_rfl) (by kernel_rfl) (fun _ _ _ h => h) (Or.inl ⟨by rfl, fun w' hw' => by rfl⟩) hS ?_
          simp only [Act.put, List.setIfInBounds_toArray, List.set_cons_zero, List.set_cons_succ]
          refine take_lawH 9 (some 55) (qv) rfl rfl (by kernel_rfl) (by kernel_rfl) (by kernel_rfl) (fun _ _ _ h => h) (Or.inl ⟨by rfl, fun w' hw' => by rfl⟩) hS ?_
          simp only [Act.put, List.setIfInBounds_toArray, List.set_cons_zero, List.set_cons_succ]
          refine take_lawH 10 (some 56) (.int .i64 1) rfl rfl (by kernel_rfl) (by kernel_rfl) (by kernel_rfl) (fun _ _ _ h => h) (Or.inl ⟨by rfl, fun w' hw' => by rfl⟩) hS ?_
          simp only [Act.put, List.setIfInBounds_toArray, List.set_cons_zero, List.set_cons_succ]
          refine wpAnyH_ready (rs := [11]) (by kernel_rfl) (by simp) ?_
          refine AllReadyH.cons rfl (fun K hK => ?_) AllReadyH.nil
          refine step_newT _ rfl (some 10) rfl 25 rfl (hv 0 0 0 0 0 0) zero_head ?_
          intro y6 V9 hb s9 hy4
          have g4l : wq.heap.size ≤ y5.heap.size := hS.size
          obtain ⟨g4, hg4⟩ : ∃ g, g = y5.heap.size := ⟨_, rfl⟩
          have hS : Below wq.heap.size wq y6 := hS.trans (hb.mono hS.size)
          rw [← hg4] at V9 g4l s9 hy4 ⊢
          have HG : Hid (Vr y6 g4 (hv 0 0 0 0 0 0)) := V9
          have HT4 : Hid (∃ fr, y6.heap[g4]? = some (.cells (hv 0 0 0 0 0 0).toArray 25 fr)) := hy4
          clear V9 hb hg4 s9 hy4
          refine hK.out _ _ hS (fun _ => ?_)
          simp only [Act.put, List.setIfInBounds_toArray, List.set_cons_zero, List.set_cons_succ]
          clear hK K
          refine wpAnyH_ready (rs := [12]) (by kernel_rfl) (by simp) ?_
          refine AllReadyH.cons rfl (fun K hK => ?_) AllReadyH.nil
          refine step_storeC _ rfl none rfl (.tmp 10) (.tmp 54) 25 rfl g4 (hv 0 0 0 0 0 0) (hv qk qn qc ql qe qt) rfl rfl HG.out rfl rowy_head.2 (hv_one _ _ _ _ _ _) ?_
          intro y7 v9 B9
          have hS : Below wq.heap.size wq y7 := hS.trans (B9.mono g4l)
          clear v9 B9
          refine hK.out _ _ hS (fun _ => ?_)
          simp only [Act.put]
          clear hK K
          refine take_lawH 13 (some 11) (qv) rfl rfl (by kernel_rfl) (by kernel_rfl) (by kernel_rfl) (fun _ _ _ h => h) (Or.inl ⟨by rfl, fun w' hw' => by rfl⟩) hS ?_
          simp only [Act.put, List.setIfInBounds_toArray, List.set_cons_zero, List.set_cons_succ]
          refine take_lawH 14 (some 12) (.int .i64 1) rfl rfl (by kernel_rfl) (by kernel_rfl) (by kernel_rfl) (fun _ _ _ h => h) (Or.inl ⟨by rfl, fun w' hw' => by rfl⟩) hS ?_
          simp only [Act.put, List.setIfInBounds_toArray, List.set_cons_zero, List.set_cons_succ]
          refine wpAnyH_done (by kernel_rfl) ?_ _
          have YB : Hid (Byt y7 bv EE) := YB.out.below hS
          have YX : Hid (Byt y7 xv X) := YX.out.below hS
          have BB : Hid (Below w.heap.size w y7) := BB.out.trans (hS.mono BB.out.size)
          clear hS
          have t5 : (0 : Nat) = 0 := rfl
          go_wp2_with (first
            | (have qa := ta; go_at_call 11; refine (awake_any _ (hT.below BB.out)).mono ?_; rintro e9 w9 ⟨rfl, B9⟩; have BB : Hid (Below w.heap.size w w9) := BB.out.trans (B9.mono BB.out.size); clear B9 ta)
            | (have q := t6; go_at_call 12; refine (SS.out _ _ _ YX.out YP.out).mono ?_; rintro e9 w9 ⟨rfl, Bx⟩; have BB : Hid (Below w.heap.size w w9) := BB.out.trans (Bx.mono BB.out.size); clear Bx t6; have ta : (0 : Nat) = 0 := rfl)
            | (have q := t5; refine cut_to _ rfl (.tmp 60) (.const (.int .i64 48)) rfl _ EE _ 48 rfl rfl rfl (by have := HE.out; omega) YB.out ?_; intro v8 y8; rw [HP.out] at y8; have YP : Hid (Byt y7 v8 PP) := y8; clear y8 t5; have t6 : (0 : Nat) = 0 := rfl))
          go_ret
          exact ⟨rfl, BB.out⟩
        · refine step_newT _ rfl (some 10) rfl 25 rfl (hv 0 0 0 0 0 0) zero_head ?_
          intro y8 V9 hb s9 hy4
          have O3 : Hid (Own wq.heap.size y8 pv2 ([] ++ X ++ TT)) := own_low O3.out hb
          have g4l : wq.heap.size ≤ y4.heap.size := hS.size
          obtain ⟨g4, hg4⟩ : ∃ g, g = y4.heap.size := ⟨_, rfl⟩
          have hS : Below wq.heap.size wq y8 := hS.trans (hb.mono hS.size)
          rw [← hg4] at V9 g4l s9 hy4 ⊢
          have HG : Hid (Vr y8 g4 (hv 0 0 0 0 0 0)) := V9
          have HT4 : Hid (∃ fr, y8.heap[g4]? = some (.cells (hv 0 0 0 0 0 0).toArray 25 fr)) := hy4
          clear V9 hb hg4 s9 hy4
          refine hK.out _ _ hS (fun _ => ?_)
          simp only [Act.put, List.setIfInBounds_toArray, List.set_cons_zero, List.set_cons_succ]
          clear hK K
          refine wpAnyH_ready (rs := [6]) (by kernel_rfl) (by simp) ?_
          refine AllReadyH.cons rfl (fun K hK => ?_) AllReadyH.nil
          refine step_callW _ (by rfl) (some 53) rfl 17 #[.tmp 52] #[26] rfl (fun q w' => by rfl) #[pv2] (by simp only [List.map_toArray, List.map_cons, List.map_nil]; rfl) (fun u w' => (∃ k n c l e t v, u = .tuple #[.agg (hv k n c l e t).toArray, v, .int .i64 1]) ∧ Below y8.heap.size y8 w') ?_ ?_
          · exact (SD.out y8 _ (BB.out.trans (hS.mono BB.out.size)) (O3.out.byt (allB_app AX.out AT.out))).mono fun e' w' ⟨k, n, c, l, e, t, v, h1, h2⟩ => ⟨_, h1, ⟨k, n, c, l, e, t, v, rfl⟩, h2⟩
          rintro _ y9 ⟨⟨qk, qn, qc, ql, qe, qt, qv, rfl⟩, hb⟩
          have HT4 : Hid (∃ fr, y9.heap[g4]? = some (.cells (hv 0 0 0 0 0 0).toArray 25 fr)) := by rw [hb.block g4 (range_lt HG.out.1 (by simp [hv]))]; exact HT4.out
          have HG : Hid (Vr y9 g4 (hv 0 0 0 0 0 0)) := HG.out.below hb (range_lt HG.out.1 (by simp [hv]))
          have hS : Below wq.heap.size wq y9 := hS.trans (hb.mono hS.size)
          clear hb
          refine hK.out _ _ hS (fun _ => ?_)
          simp only [Act.put, List.setIfInBounds_toArray, List.set_cons_zero, List.set_cons_succ]
          clear hK K
          refine take_lawH 7 (some 46) (.tuple #[.agg (hv qk qn qc ql qe qt).toArray, qv, .int .i64 1]) rfl rfl (by kernel_rfl) (by kernel_rfl) (by kernel_rfl) (fun _ _ _ h => h) (Or.inl ⟨by rfl, fun w' hw' => by rfl⟩) hS ?_
          simp only [Act.put, List.setIfInBounds_toArray, List.set_cons_zero, List.set_cons_succ]
          refine take_lawH 8 (some 54) (.agg (hv qk qn qc ql qe qt).toArray) rfl rfl (by kernel_rfl) (by kernel_rfl) (by kernel_rfl) (fun _ _ _ h => h) (Or.inl ⟨by rfl, fun w' hw' => by rfl⟩) hS ?_
          simp only [Act.put, List.setIfInBounds_toArray, List.set_cons_zero, List.set_cons_succ]
          refine take_lawH 9 (some 55) (qv) rfl rfl (by kernel_rfl) (by kernel_rfl) (by kernel_rfl) (fun _ _ _ h => h) (Or.inl ⟨by rfl, fun w' hw' => by rfl⟩) hS ?_
          simp only [Act.put, List.setIfInBounds_toArray, List.set_cons_zero, List.set_cons_succ]
          refine take_lawH 10 (some 56) (.int .i64 1) rfl rfl (by kernel_rfl) (by kernel_rfl) (by kernel_rfl) (fun _ _ _ h => h) (Or.inl ⟨by rfl, fun w' hw' => by rfl⟩) hS ?_
          simp only [Act.put, List.setIfInBounds_toArray, List.set_cons_zero, List.set_cons_succ]
          refine wpAnyH_ready (rs := [12]) (by kernel_rfl) (by simp) ?_
          refine AllReadyH.cons rfl (fun K hK => ?_) AllReadyH.nil
          refine step_storeC _ rfl none rfl (.tmp 10) (.tmp 54) 25 rfl g4 (hv 0 0 0 0 0 0) (hv qk qn qc ql qe qt) rfl rfl HG.out rfl rowy_head.2 (hv_one _ _ _ _ _ _) ?_
          intro y10 v9 B9
          have hS : Below wq.heap.size wq y10 := hS.trans (B9.mono g4l)
          clear v9 B9
          refine hK.out _ _ hS (fun _ => ?_)
          simp only [Act.put]
          clear hK K
          refine take_lawH 13 (some 11) (qv) rfl rfl (by kernel_rfl) (by kernel_rfl) (by kernel_rfl) (fun _ _ _ h => h) (Or.inl ⟨by rfl, fun w' hw' => by rfl⟩) hS ?_
          simp only [Act.put, List.setIfInBounds_toArray, List.set_cons_zero, List.set_cons_succ]
          refine take_lawH 14 (some 12) (.int .i64 1) rfl rfl (by kernel_rfl) (by kernel_rfl) (by kernel_rfl) (fun _ _ _ h => h) (Or.inl ⟨by rfl, fun w' hw' => by rfl⟩) hS ?_
          simp only [Act.put, List.setIfInBounds_toArray, List.set_cons_zero, List.set_cons_succ]
          refine wpAnyH_done (by kernel_rfl) ?_ _
          have YB : Hid (Byt y10 bv EE) := YB.out.below hS
          have YX : Hid (Byt y10 xv X) := YX.out.below hS
          have BB : Hid (Below w.heap.size w y10) := BB.out.trans (hS.mono BB.out.size)
          clear hS
          have t5 : (0 : Nat) = 0 := rfl
          go_wp2_with (first
            | (have qa := ta; go_at_call 11; refine (awake_any _ (hT.below BB.out)).mono ?_; rintro e9 w9 ⟨rfl, B9⟩; have BB : Hid (Below w.heap.size w w9) := BB.out.trans (B9.mono BB.out.size); clear B9 ta)
            | (have q := t6; go_at_call 12; refine (SS.out _ _ _ YX.out YP.out).mono ?_; rintro e9 w9 ⟨rfl, Bx⟩; have BB : Hid (Below w.heap.size w w9) := BB.out.trans (Bx.mono BB.out.size); clear Bx t6; have ta : (0 : Nat) = 0 := rfl)
            | (have q := t5; refine cut_to _ rfl (.tmp 60) (.const (.int .i64 48)) rfl _ EE _ 48 rfl rfl rfl (by have := HE.out; omega) YB.out ?_; intro v8 y8; rw [HP.out] at y8; have YP : Hid (Byt y10 v8 PP) := y8; clear y8 t5; have t6 : (0 : Nat) = 0 := rfl))
          go_ret
          exact ⟨rfl, BB.out⟩
      · refine step_newT _ rfl (some 10) rfl 25 rfl (hv 0 0 0 0 0 0) zero_head ?_
        intro y11 V9 hb s9 hy4
        have O2 : Hid (Own wq.heap.size y11 pv1 ([] ++ X)) := own_low O2.out hb
        have g4l : wq.heap.size ≤ y3.heap.size := hS.size
        obtain ⟨g4, hg4⟩ : ∃ g, g = y3.heap.size := ⟨_, rfl⟩
        have hS : Below wq.heap.size wq y11 := hS.trans (hb.mono hS.size)
        rw [← hg4] at V9 g4l s9 hy4 ⊢
        have HG : Hid (Vr y11 g4 (hv 0 0 0 0 0 0)) := V9
        have HT4 : Hid (∃ fr, y11.heap[g4]? = some (.cells (hv 0 0 0 0 0 0).toArray 25 fr)) := hy4
        clear V9 hb hg4 s9 hy4
        refine hK.out _ _ hS (fun _ => ?_)
        simp only [Act.put, List.setIfInBounds_toArray, List.set_cons_zero, List.set_cons_succ]
        clear hK K
        refine wpAnyH_ready (rs := [5]) (by kernel_rfl) (by simp) ?_
        refine AllReadyH.cons rfl (fun K hK => ?_) AllReadyH.nil
        refine step_pushsK _ rfl (some 52) rfl (.tmp 49) (.tmp 51) rfl wq.heap.size hS.size _ _ ([] ++ X) TT rfl rfl O2.out (HD.out ▸ (HE.out ▸ sl_from (YB.out.below hS) 48 (by have := HE.out; omega))) (by have := LX.out; simp <;> omega) (by have := LX.out; have := LT.out; omega) ?_
        intro pv2 y12 y9 hb hk9
        have e9 : y12.heap[g4]? = y11.heap[g4]? := hk9.block g4 (range_lt HG.out.1 (by simp [hv])) (own_not O2.out HT4.out)
        have HG : Hid (Vr y12 g4 (hv 0 0 0 0 0 0)) := HG.out.heap e9
        have HT4 : Hid (∃ fr, y12.heap[g4]? = some (.cells (hv 0 0 0 0 0 0).toArray 25 fr)) := by rw [e9]; exact HT4.out
        clear e9
        have O3 : Hid (Own wq.heap.size y12 pv2 ([] ++ X ++ TT)) := y9
        have hS : Below wq.heap.size wq y12 := hS.trans hb
        clear hb y9 hk9
        refine hK.out _ _ hS (fun _ => ?_)
        simp only [Act.put, List.setIfInBounds_toArray, List.set_cons_zero, List.set_cons_succ]
        clear hK K
        refine wpAnyH_ready (rs := [6]) (by kernel_rfl) (by simp) ?_
        refine AllReadyH.cons rfl (fun K hK => ?_) AllReadyH.nil
        refine step_callW _ (by rfl) (some 53) rfl 17 #[.tmp 52] #[26] rfl (fun q w' => by rfl) #[pv2] (by simp only [List.map_toArray, List.map_cons, List.map_nil]; rfl) (fun u w' => (∃ k n c l e t v, u = .tuple #[.agg (hv k n c l e t).toArray, v, .int .i64 1]) ∧ Below y12.heap.size y12 w') ?_ ?_
        · exact (SD.out y12 _ (BB.out.trans (hS.mono BB.out.size)) (O3.out.byt (allB_app AX.out AT.out))).mono fun e' w' ⟨k, n, c, l, e, t, v, h1, h2⟩ => ⟨_, h1, ⟨k, n, c, l, e, t, v, rfl⟩, h2⟩
        rintro _ y13 ⟨⟨qk, qn, qc, ql, qe, qt, qv, rfl⟩, hb⟩
        have HT4 : Hid (∃ fr, y13.heap[g4]? = some (.cells (hv 0 0 0 0 0 0).toArray 25 fr)) := by rw [hb.block g4 (range_lt HG.out.1 (by simp [hv]))]; exact HT4.out
        have HG : Hid (Vr y13 g4 (hv 0 0 0 0 0 0)) := HG.out.below hb (range_lt HG.out.1 (by simp [hv]))
        have hS : Below wq.heap.size wq y13 := hS.trans (hb.mono hS.size)
        clear hb
        refine hK.out _ _ hS (fun _ => ?_)
        simp only [Act.put, List.setIfInBounds_toArray, List.set_cons_zero, List.set_cons_succ]
        clear hK K
        refine take_lawH 7 (some 46) (.tuple #[.agg (hv qk qn qc ql qe qt).toArray, qv, .int .i64 1]) rfl rfl (by kernel_rfl) (by kernel_rfl) (by kernel_rfl) (fun _ _ _ h => h) (Or.inl ⟨by rfl, fun w' hw' => by rfl⟩) hS ?_
        simp only [Act.put, List.setIfInBounds_toArray, List.set_cons_zero, List.set_cons_succ]
        refine take_lawH 8 (some 54) (.agg (hv qk qn qc ql qe qt).toArray) rfl rfl (by kernel_rfl) (by kernel_rfl) (by kernel_rfl) (fun _ _ _ h => h) (Or.inl ⟨by rfl, fun w' hw' => by rfl⟩) hS ?_
        simp only [Act.put, List.setIfInBounds_toArray, List.set_cons_zero, List.set_cons_succ]
        refine take_lawH 9 (some 55) (qv) rfl rfl (by kernel_rfl) (by kernel_rfl) (by kernel_rfl) (fun _ _ _ h => h) (Or.inl ⟨by rfl, fun w' hw' => by rfl⟩) hS ?_
        simp only [Act.put, List.setIfInBounds_toArray, List.set_cons_zero, List.set_cons_succ]
        refine take_lawH 10 (some 56) (.int .i64 1) rfl rfl (by kernel_rfl) (by kernel_rfl) (by kernel_rfl) (fun _ _ _ h => h) (Or.inl ⟨by rfl, fun w' hw' => by rfl⟩) hS ?_
        simp only [Act.put, List.setIfInBounds_toArray, List.set_cons_zero, List.set_cons_succ]
        refine wpAnyH_ready (rs := [12]) (by kernel_rfl) (by simp) ?_
        refine AllReadyH.cons rfl (fun K hK => ?_) AllReadyH.nil
        refine step_storeC _ rfl none rfl (.tmp 10) (.tmp 54) 25 rfl g4 (hv 0 0 0 0 0 0) (hv qk qn qc ql qe qt) rfl rfl HG.out rfl rowy_head.2 (hv_one _ _ _ _ _ _) ?_
        intro y14 v9 B9
        have hS : Below wq.heap.size wq y14 := hS.trans (B9.mono g4l)
        clear v9 B9
        refine hK.out _ _ hS (fun _ => ?_)
        simp only [Act.put]
        clear hK K
        refine take_lawH 13 (some 11) (qv) rfl rfl (by kernel_rfl) (by kernel_rfl) (by kernel_rfl) (fun _ _ _ h => h) (Or.inl ⟨by rfl, fun w' hw' => by rfl⟩) hS ?_
        simp only [Act.put, List.setIfInBounds_toArray, List.set_cons_zero, List.set_cons_succ]
        refine take_lawH 14 (some 12) (.int .i64 1) rfl rfl (by kernel_rfl) (by kernel_rfl) (by kernel_rfl) (fun _ _ _ h => h) (Or.inl ⟨by rfl, fun w' hw' => by rfl⟩) hS ?_
        simp only [Act.put, List.setIfInBounds_toArray, List.set_cons_zero, List.set_cons_succ]
        refine wpAnyH_done (by kernel_rfl) ?_ _
        have YB : Hid (Byt y14 bv EE) := YB.out.below hS
        have YX : Hid (Byt y14 xv X) := YX.out.below hS
        have BB : Hid (Below w.heap.size w y14) := BB.out.trans (hS.mono BB.out.size)
        clear hS
        have t5 : (0 : Nat) = 0 := rfl
        go_wp2_with (first
          | (have qa := ta; go_at_call 11; refine (awake_any _ (hT.below BB.out)).mono ?_; rintro e9 w9 ⟨rfl, B9⟩; have BB : Hid (Below w.heap.size w w9) := BB.out.trans (B9.mono BB.out.size); clear B9 ta)
          | (have q := t6; go_at_call 12; refine (SS.out _ _ _ YX.out YP.out).mono ?_; rintro e9 w9 ⟨rfl, Bx⟩; have BB : Hid (Below w.heap.size w w9) := BB.out.trans (Bx.mono BB.out.size); clear Bx t6; have ta : (0 : Nat) = 0 := rfl)
          | (have q := t5; refine cut_to _ rfl (.tmp 60) (.const (.int .i64 48)) rfl _ EE _ 48 rfl rfl rfl (by have := HE.out; omega) YB.out ?_; intro v8 y8; rw [HP.out] at y8; have YP : Hid (Byt y14 v8 PP) := y8; clear y8 t5; have t6 : (0 : Nat) = 0 := rfl))
        go_ret
        exact ⟨rfl, BB.out⟩
    · refine step_newT _ rfl (some 10) rfl 25 rfl (hv 0 0 0 0 0 0) zero_head ?_
      intro y15 V9 hb s9 hy4
      have O1 : Hid (Own wq.heap.size y15 nv1 []) := own_low O1.out hb
      have g4l : wq.heap.size ≤ y2.heap.size := hS.size
      obtain ⟨g4, hg4⟩ : ∃ g, g = y2.heap.size := ⟨_, rfl⟩
      have hS : Below wq.heap.size wq y15 := hS.trans (hb.mono hS.size)
      rw [← hg4] at V9 g4l s9 hy4 ⊢
      have HG : Hid (Vr y15 g4 (hv 0 0 0 0 0 0)) := V9
      have HT4 : Hid (∃ fr, y15.heap[g4]? = some (.cells (hv 0 0 0 0 0 0).toArray 25 fr)) := hy4
      clear V9 hb hg4 s9 hy4
      refine hK.out _ _ hS (fun _ => ?_)
      simp only [Act.put, List.setIfInBounds_toArray, List.set_cons_zero, List.set_cons_succ]
      clear hK K
      refine wpAnyH_ready (rs := [2]) (by kernel_rfl) (by simp) ?_
      refine AllReadyH.cons rfl (fun K hK => ?_) AllReadyH.nil
      refine step_pushsK _ rfl (some 49) rfl (.tmp 47) (.tmp 48) rfl wq.heap.size hS.size _ _ [] X rfl rfl O1.out (YX.out.below hS) (by have := LX.out; simp <;> omega) (by have := LX.out; have := LT.out; omega) ?_
      intro pv1 y16 y9 hb hk9
      have e9 : y16.heap[g4]? = y15.heap[g4]? := hk9.block g4 (range_lt HG.out.1 (by simp [hv])) (own_not O1.out HT4.out)
      have HG : Hid (Vr y16 g4 (hv 0 0 0 0 0 0)) := HG.out.heap e9
      have HT4 : Hid (∃ fr, y16.heap[g4]? = some (.cells (hv 0 0 0 0 0 0).toArray 25 fr)) := by rw [e9]; exact HT4.out
      clear e9
      have O2 : Hid (Own wq.heap.size y16 pv1 ([] ++ X)) := y9
      have hS : Below wq.heap.size wq y16 := hS.trans hb
      clear hb y9 hk9
      refine hK.out _ _ hS (fun _ => ?_)
      simp only [Act.put, List.setIfInBounds_toArray, List.set_cons_zero, List.set_cons_succ]
      clear hK K
      refine wpAnyH_ready (rs := [5]) (by kernel_rfl) (by simp) ?_
      refine AllReadyH.cons rfl (fun K hK => ?_) AllReadyH.nil
      refine step_pushsK _ rfl (some 52) rfl (.tmp 49) (.tmp 51) rfl wq.heap.size hS.size _ _ ([] ++ X) TT rfl rfl O2.out (HD.out ▸ (HE.out ▸ sl_from (YB.out.below hS) 48 (by have := HE.out; omega))) (by have := LX.out; simp <;> omega) (by have := LX.out; have := LT.out; omega) ?_
      intro pv2 y17 y9 hb hk9
      have e9 : y17.heap[g4]? = y16.heap[g4]? := hk9.block g4 (range_lt HG.out.1 (by simp [hv])) (own_not O2.out HT4.out)
      have HG : Hid (Vr y17 g4 (hv 0 0 0 0 0 0)) := HG.out.heap e9
      have HT4 : Hid (∃ fr, y17.heap[g4]? = some (.cells (hv 0 0 0 0 0 0).toArray 25 fr)) := by rw [e9]; exact HT4.out
      clear e9
      have O3 : Hid (Own wq.heap.size y17 pv2 ([] ++ X ++ TT)) := y9
      have hS : Below wq.heap.size wq y17 := hS.trans hb
      clear hb y9 hk9
      refine hK.out _ _ hS (fun _ => ?_)
      simp only [Act.put, List.setIfInBounds_toArray, List.set_cons_zero, List.set_cons_succ]
      clear hK K
      refine wpAnyH_ready (rs := [6]) (by kernel_rfl) (by simp) ?_
      refine AllReadyH.cons rfl (fun K hK => ?_) AllReadyH.nil
      refine step_callW _ (by rfl) (some 53) rfl 17 #[.tmp 52] #[26] rfl (fun q w' => by rfl) #[pv2] (by simp only [List.map_toArray, List.map_cons, List.map_nil]; rfl) (fun u w' => (∃ k n c l e t v, u = .tuple #[.agg (hv k n c l e t).toArray, v, .int .i64 1]) ∧ Below y17.heap.size y17 w') ?_ ?_
      · exact (SD.out y17 _ (BB.out.trans (hS.mono BB.out.size)) (O3.out.byt (allB_app AX.out AT.out))).mono fun e' w' ⟨k, n, c, l, e, t, v, h1, h2⟩ => ⟨_, h1, ⟨k, n, c, l, e, t, v, rfl⟩, h2⟩
      rintro _ y18 ⟨⟨qk, qn, qc, ql, qe, qt, qv, rfl⟩, hb⟩
      have HT4 : Hid (∃ fr, y18.heap[g4]? = some (.cells (hv 0 0 0 0 0 0).toArray 25 fr)) := by rw [hb.block g4 (range_lt HG.out.1 (by simp [hv]))]; exact HT4.out
      have HG : Hid (Vr y18 g4 (hv 0 0 0 0 0 0)) := HG.out.below hb (range_lt HG.out.1 (by simp [hv]))
      have hS : Below wq.heap.size wq y18 := hS.trans (hb.mono hS.size)
      clear hb
      refine hK.out _ _ hS (fun _ => ?_)
      simp only [Act.put, List.setIfInBounds_toArray, List.set_cons_zero, List.set_cons_succ]
      clear hK K
      refine take_lawH 7 (some 46) (.tuple #[.agg (hv qk qn qc ql qe qt).toArray, qv, .int .i64 1]) rfl rfl (by kernel_rfl) (by kernel_rfl) (by kernel_rfl) (fun _ _ _ h => h) (Or.inl ⟨by rfl, fun w' hw' => by rfl⟩) hS ?_
      simp only [Act.put, List.setIfInBounds_toArray, List.set_cons_zero, List.set_cons_succ]
      refine take_lawH 8 (some 54) (.agg (hv qk qn qc ql qe qt).toArray) rfl rfl (by kernel_rfl) (by kernel_rfl) (by kernel_rfl) (fun _ _ _ h => h) (Or.inl ⟨by rfl, fun w' hw' => by rfl⟩) hS ?_
      simp only [Act.put, List.setIfInBounds_toArray, List.set_cons_zero, List.set_cons_succ]
      refine take_lawH 9 (some 55) (qv) rfl rfl (by kernel_rfl) (by kernel_rfl) (by kernel_rfl) (fun _ _ _ h => h) (Or.inl ⟨by rfl, fun w' hw' => by rfl⟩) hS ?_
      simp only [Act.put, List.setIfInBounds_toArray, List.set_cons_zero, List.set_cons_succ]
      refine take_lawH 10 (some 56) (.int .i64 1) rfl rfl (by kernel_rfl) (by kernel_rfl) (by kernel_rfl) (fun _ _ _ h => h) (Or.inl ⟨by rfl, fun w' hw' => by rfl⟩) hS ?_
      simp only [Act.put, List.setIfInBounds_toArray, List.set_cons_zero, List.set_cons_succ]
      refine wpAnyH_ready (rs := [12]) (by kernel_rfl) (by simp) ?_
      refine AllReadyH.cons rfl (fun K hK => ?_) AllReadyH.nil
      refine step_storeC _ rfl none rfl (.tmp 10) (.tmp 54) 25 rfl g4 (hv 0 0 0 0 0 0) (hv qk qn qc ql qe qt) rfl rfl HG.out rfl rowy_head.2 (hv_one _ _ _ _ _ _) ?_
      intro y19 v9 B9
      have hS : Below wq.heap.size wq y19 := hS.trans (B9.mono g4l)
      clear v9 B9
      refine hK.out _ _ hS (fun _ => ?_)
      simp only [Act.put]
      clear hK K
      refine take_lawH 13 (some 11) (qv) rfl rfl (by kernel_rfl) (by kernel_rfl) (by kernel_rfl) (fun _ _ _ h => h) (Or.inl ⟨by rfl, fun w' hw' => by rfl⟩) hS ?_
      simp only [Act.put, List.setIfInBounds_toArray, List.set_cons_zero, List.set_cons_succ]
      refine take_lawH 14 (some 12) (.int .i64 1) rfl rfl (by kernel_rfl) (by kernel_rfl) (by kernel_rfl) (fun _ _ _ h => h) (Or.inl ⟨by rfl, fun w' hw' => by rfl⟩) hS ?_
      simp only [Act.put, List.setIfInBounds_toArray, List.set_cons_zero, List.set_cons_succ]
      refine wpAnyH_done (by kernel_rfl) ?_ _
      have YB : Hid (Byt y19 bv EE) := YB.out.below hS
      have YX : Hid (Byt y19 xv X) := YX.out.below hS
      have BB : Hid (Below w.heap.size w y19) := BB.out.trans (hS.mono BB.out.size)
      clear hS
      have t5 : (0 : Nat) = 0 := rfl
      go_wp2_with (first
        | (have qa := ta; go_at_call 11; refine (awake_any _ (hT.below BB.out)).mono ?_; rintro e9 w9 ⟨rfl, B9⟩; have BB : Hid (Below w.heap.size w w9) := BB.out.trans (B9.mono BB.out.size); clear B9 ta)
        | (have q := t6; go_at_call 12; refine (SS.out _ _ _ YX.out YP.out).mono ?_; rintro e9 w9 ⟨rfl, Bx⟩; have BB : Hid (Below w.heap.size w w9) := BB.out.trans (Bx.mono BB.out.size); clear Bx t6; have ta : (0 : Nat) = 0 := rfl)
        | (have q := t5; refine cut_to _ rfl (.tmp 60) (.const (.int .i64 48)) rfl _ EE _ 48 rfl rfl rfl (by have := HE.out; omega) YB.out ?_; intro v8 y8; rw [HP.out] at y8; have YP : Hid (Byt y19 v8 PP) := y8; clear y8 t5; have t6 : (0 : Nat) = 0 := rfl))
      go_ret
      exact ⟨rfl, BB.out⟩
  · refine step_newT _ rfl (some 10) rfl 25 rfl (hv 0 0 0 0 0 0) zero_head ?_
    intro y20 V9 hb s9 hy4
    have g4l : wq.heap.size ≤ y1.heap.size := hS.size
    obtain ⟨g4, hg4⟩ : ∃ g, g = y1.heap.size := ⟨_, rfl⟩
    have hS : Below wq.heap.size wq y20 := hS.trans (hb.mono hS.size)
    rw [← hg4] at V9 g4l s9 hy4 ⊢
    have HG : Hid (Vr y20 g4 (hv 0 0 0 0 0 0)) := V9
    have HT4 : Hid (∃ fr, y20.heap[g4]? = some (.cells (hv 0 0 0 0 0 0).toArray 25 fr)) := hy4
    clear V9 hb hg4 s9 hy4
    refine hK.out _ _ hS (fun _ => ?_)
    simp only [Act.put, List.setIfInBounds_toArray, List.set_cons_zero, List.set_cons_succ]
    clear hK K
    refine wpAnyH_ready (rs := [0]) (by kernel_rfl) (by simp) ?_
    refine AllReadyH.cons rfl (fun K hK => ?_) AllReadyH.nil
    refine step_nil _ rfl (some 47) rfl rfl ?_
    intro nv1 y21 y9 hb
    have HT4 : Hid (∃ fr, y21.heap[g4]? = some (.cells (hv 0 0 0 0 0 0).toArray 25 fr)) := by rw [hb.block g4 (range_lt HG.out.1 (by simp [hv]))]; exact HT4.out
    have HG : Hid (Vr y21 g4 (hv 0 0 0 0 0 0)) := HG.out.below hb (range_lt HG.out.1 (by simp [hv]))
    have O1 : Hid (Own wq.heap.size y21 nv1 []) := own_less y9 hS.size
    have hS : Below wq.heap.size wq y21 := hS.trans (hb.mono hS.size)
    clear hb y9
    refine hK.out _ _ hS (fun _ => ?_)
    simp only [Act.put, List.setIfInBounds_toArray, List.set_cons_zero, List.set_cons_succ]
    clear hK K
    refine wpAnyH_ready (rs := [2]) (by kernel_rfl) (by simp) ?_
    refine AllReadyH.cons rfl (fun K hK => ?_) AllReadyH.nil
    refine step_pushsK _ rfl (some 49) rfl (.tmp 47) (.tmp 48) rfl wq.heap.size hS.size _ _ [] X rfl rfl O1.out (YX.out.below hS) (by have := LX.out; simp <;> omega) (by have := LX.out; have := LT.out; omega) ?_
    intro pv1 y22 y9 hb hk9
    have e9 : y22.heap[g4]? = y21.heap[g4]? := hk9.block g4 (range_lt HG.out.1 (by simp [hv])) (own_not O1.out HT4.out)
    have HG : Hid (Vr y22 g4 (hv 0 0 0 0 0 0)) := HG.out.heap e9
    have HT4 : Hid (∃ fr, y22.heap[g4]? = some (.cells (hv 0 0 0 0 0 0).toArray 25 fr)) := by rw [e9]; exact HT4.out
    clear e9
    have O2 : Hid (Own wq.heap.size y22 pv1 ([] ++ X)) := y9
    have hS : Below wq.heap.size wq y22 := hS.trans hb
    clear hb y9 hk9
    refine hK.out _ _ hS (fun _ => ?_)
    simp only [Act.put, List.setIfInBounds_toArray, List.set_cons_zero, List.set_cons_succ]
    clear hK K
    refine wpAnyH_ready (rs := [5]) (by kernel_rfl) (by simp) ?_
    refine AllReadyH.cons rfl (fun K hK => ?_) AllReadyH.nil
    refine step_pushsK _ rfl (some 52) rfl (.tmp 49) (.tmp 51) rfl wq.heap.size hS.size _ _ ([] ++ X) TT rfl rfl O2.out (HD.out ▸ (HE.out ▸ sl_from (YB.out.below hS) 48 (by have := HE.out; omega))) (by have := LX.out; simp <;> omega) (by have := LX.out; have := LT.out; omega) ?_
    intro pv2 y23 y9 hb hk9
    have e9 : y23.heap[g4]? = y22.heap[g4]? := hk9.block g4 (range_lt HG.out.1 (by simp [hv])) (own_not O2.out HT4.out)
    have HG : Hid (Vr y23 g4 (hv 0 0 0 0 0 0)) := HG.out.heap e9
    have HT4 : Hid (∃ fr, y23.heap[g4]? = some (.cells (hv 0 0 0 0 0 0).toArray 25 fr)) := by rw [e9]; exact HT4.out
    clear e9
    have O3 : Hid (Own wq.heap.size y23 pv2 ([] ++ X ++ TT)) := y9
    have hS : Below wq.heap.size wq y23 := hS.trans hb
    clear hb y9 hk9
    refine hK.out _ _ hS (fun _ => ?_)
    simp only [Act.put, List.setIfInBounds_toArray, List.set_cons_zero, List.set_cons_succ]
    clear hK K
    refine wpAnyH_ready (rs := [6]) (by kernel_rfl) (by simp) ?_
    refine AllReadyH.cons rfl (fun K hK => ?_) AllReadyH.nil
    refine step_callW _ (by rfl) (some 53) rfl 17 #[.tmp 52] #[26] rfl (fun q w' => by rfl) #[pv2] (by simp only [List.map_toArray, List.map_cons, List.map_nil]; rfl) (fun u w' => (∃ k n c l e t v, u = .tuple #[.agg (hv k n c l e t).toArray, v, .int .i64 1]) ∧ Below y23.heap.size y23 w') ?_ ?_
    · exact (SD.out y23 _ (BB.out.trans (hS.mono BB.out.size)) (O3.out.byt (allB_app AX.out AT.out))).mono fun e' w' ⟨k, n, c, l, e, t, v, h1, h2⟩ => ⟨_, h1, ⟨k, n, c, l, e, t, v, rfl⟩, h2⟩
    rintro _ y24 ⟨⟨qk, qn, qc, ql, qe, qt, qv, rfl⟩, hb⟩
    have HT4 : Hid (∃ fr, y24.heap[g4]? = some (.cells (hv 0 0 0 0 0 0).toArray 25 fr)) := by rw [hb.block g4 (range_lt HG.out.1 (by simp [hv]))]; exact HT4.out
    have HG : Hid (Vr y24 g4 (hv 0 0 0 0 0 0)) := HG.out.below hb (range_lt HG.out.1 (by simp [hv]))
    have hS : Below wq.heap.size wq y24 := hS.trans (hb.mono hS.size)
    clear hb
    refine hK.out _ _ hS (fun _ => ?_)
    simp only [Act.put, List.setIfInBounds_toArray, List.set_cons_zero, List.set_cons_succ]
    clear hK K
    refine take_lawH 7 (some 46) (.tuple #[.agg (hv qk qn qc ql qe qt).toArray, qv, .int .i64 1]) rfl rfl (by kernel_rfl) (by kernel_rfl) (by kernel_rfl) (fun _ _ _ h => h) (Or.inl ⟨by rfl, fun w' hw' => by rfl⟩) hS ?_
    simp only [Act.put, List.setIfInBounds_toArray, List.set_cons_zero, List.set_cons_succ]
    refine take_lawH 8 (some 54) (.agg (hv qk qn qc ql qe qt).toArray) rfl rfl (by kernel_rfl) (by kernel_rfl) (by kernel_rfl) (fun _ _ _ h => h) (Or.inl ⟨by rfl, fun w' hw' => by rfl⟩) hS ?_
    simp only [Act.put, List.setIfInBounds_toArray, List.set_cons_zero, List.set_cons_succ]
    refine take_lawH 9 (some 55) (qv) rfl rfl (by kernel_rfl) (by kernel_rfl) (by kernel_rfl) (fun _ _ _ h => h) (Or.inl ⟨by rfl, fun w' hw' => by rfl⟩) hS ?_
    simp only [Act.put, List.setIfInBounds_toArray, List.set_cons_zero, List.set_cons_succ]
    refine take_lawH 10 (some 56) (.int .i64 1) rfl rfl (by kernel_rfl) (by kernel_rfl) (by kernel_rfl) (fun _ _ _ h => h) (Or.inl ⟨by rfl, fun w' hw' => by rfl⟩) hS ?_
    simp only [Act.put, List.setIfInBounds_toArray, List.set_cons_zero, List.set_cons_succ]
    refine wpAnyH_ready (rs := [12]) (by kernel_rfl) (by simp) ?_
    refine AllReadyH.cons rfl (fun K hK => ?_) AllReadyH.nil
    refine step_storeC _ rfl none rfl (.tmp 10) (.tmp 54) 25 rfl g4 (hv 0 0 0 0 0 0) (hv qk qn qc ql qe qt) rfl rfl HG.out rfl rowy_head.2 (hv_one _ _ _ _ _ _) ?_
    intro y25 v9 B9
    have hS : Below wq.heap.size wq y25 := hS.trans (B9.mono g4l)
    clear v9 B9
    refine hK.out _ _ hS (fun _ => ?_)
    simp only [Act.put]
    clear hK K
    refine take_lawH 13 (some 11) (qv) rfl rfl (by kernel_rfl) (by kernel_rfl) (by kernel_rfl) (fun _ _ _ h => h) (Or.inl ⟨by rfl, fun w' hw' => by rfl⟩) hS ?_
    simp only [Act.put, List.setIfInBounds_toArray, List.set_cons_zero, List.set_cons_succ]
    refine take_lawH 14 (some 12) (.int .i64 1) rfl rfl (by kernel_rfl) (by kernel_rfl) (by kernel_rfl) (fun _ _ _ h => h) (Or.inl ⟨by rfl, fun w' hw' => by rfl⟩) hS ?_
    simp only [Act.put, List.setIfInBounds_toArray, List.set_cons_zero, List.set_cons_succ]
    refine wpAnyH_done (by kernel_rfl) ?_ _
    have YB : Hid (Byt y25 bv EE) := YB.out.below hS
    have YX : Hid (Byt y25 xv X) := YX.out.below hS
    have BB : Hid (Below w.heap.size w y25) := BB.out.trans (hS.mono BB.out.size)
    clear hS
    have t5 : (0 : Nat) = 0 := rfl
    go_wp2_with (first
      | (have qa := ta; go_at_call 11; refine (awake_any _ (hT.below BB.out)).mono ?_; rintro e9 w9 ⟨rfl, B9⟩; have BB : Hid (Below w.heap.size w w9) := BB.out.trans (B9.mono BB.out.size); clear B9 ta)
      | (have q := t6; go_at_call 12; refine (SS.out _ _ _ YX.out YP.out).mono ?_; rintro e9 w9 ⟨rfl, Bx⟩; have BB : Hid (Below w.heap.size w w9) := BB.out.trans (Bx.mono BB.out.size); clear Bx t6; have ta : (0 : Nat) = 0 := rfl)
      | (have q := t5; refine cut_to _ rfl (.tmp 60) (.const (.int .i64 48)) rfl _ EE _ 48 rfl rfl rfl (by have := HE.out; omega) YB.out ?_; intro v8 y8; rw [HP.out] at y8; have YP : Hid (Byt y25 v8 PP) := y8; clear y8 t5; have t6 : (0 : Nat) = 0 := rfl))
    go_ret
    exact ⟨rfl, BB.out⟩

theorem walk (k n c l e t : Int) (v : Value) (mask : List Int) (b : Bool) (w : World) (hf : Hb l e t) (hv' : Byt w v mask) (hT : Tab w) :
    Calls Tryd.prog 7 #[.agg (hv k n c l e t).toArray, v, .bool b] w fun x w' => x = .returned (.bool true) ∧ Below w.heap.size w w' := by
  by_cases hr : Rh k n c
  · cases b
    · by_cases hx : ofb 48 (prg (hb k n c l e t ++ inv (hb k n c l e t)) (List.replicate 48 0) mask false (8 * 48)) = hb k n c l e t ++ inv (hb k n c l e t)
      · exact walk_cy k n c l e t v mask w hf hv' hT hr hx
      · exact walk_cn k n c l e t v mask w hf hv' hT hr hx
    · by_cases hx : ofb 48 (erased (hb k n c l e t ++ inv (hb k n c l e t)) mask) = hb k n c l e t ++ inv (hb k n c l e t)
      · exact walk_sy k n c l e t v mask w hf hv' hT hr hx
      · exact walk_sn k n c l e t v mask w hf hv' hT hr hx
  · exact walk_no k n c l e t v b w hf hT hr

theorem params : ∀ t ∈ Tryd.f7.params.toList, Tryd.prog.readableRec t = true ∧ t < Tryd.prog.types.size := by
  rw [Tryd.params7]
  intro t ht
  simp at ht
  rcases ht with rfl | rfl | rfl
  · exact ⟨by kernel_rfl, of_decide_eq_true (by kernel_rfl)⟩
  · exact ⟨by kernel_rfl, of_decide_eq_true (by kernel_rfl)⟩
  · exact ⟨by kernel_rfl, of_decide_eq_true (by kernel_rfl)⟩

theorem contract (H : Type) (enc : TypeId × Value → H) (W : World) (base : Nat) (args : Array Value) (ds gs : List (DataW H)) (before : List MemPlace)
    (hval : ∀ (j : Nat) t v, Tryd.f7.params[j]? = some t → args[j]? = some v → Value.okWide Tryd.prog W .any base t v)
    (hW : DataW.Whole enc Tryd.prog Tryd.f7.params.toList Rows.headBitsSpec.vars false W args.toList ds gs before) (hL : laidMetH Tryd.prog Rows.headBitsRow.laid W) :
    Calls Tryd.prog 7 args W fun e W' => ∃ v, e = .returned v ∧ Rows.headBitsSpec.post enc Tryd.prog Tryd.f7 false true false false W args v W' := by
  have hW' := hW
  obtain ⟨p, q, hA0, hV, rfl, hfz, hnd⟩ := hW
  have hA : DataW.TrodAll enc Tryd.prog W 0 (fun _ => true) true Tryd.f7.params.toList args.toList ds p := hA0
  rw [Tryd.params7] at hA hval
  obtain ⟨v0, v1, v2, d0, d1, d2, p0, p1, p2, rfl, rfl, rfl, h0, h1, h2⟩ := trodAll_three hA
  obtain ⟨rfl, rfl⟩ := trodVars_none hV
  obtain ⟨hk0, hn0, hc0, hl0, he0, ht0, rfl, hf0⟩ := head_open (hval 0 25 v0 rfl rfl) h0
  obtain ⟨xs1, b1⟩ := byt_open (hval 1 26 v1 rfl rfl) h1
  obtain ⟨bt2, rfl, rfl, rfl⟩ := open_bool Tryd.underlying4 (hval 2 4 v2 rfl rfl) h2
  clear hA0
  refine (walk hk0 hn0 hc0 hl0 he0 ht0 v1 xs1 bt2 W hf0 b1 (table hL)).mono fun e W' ⟨he, hg⟩ => ?_
  subst he
  exact ⟨_, rfl, post_law rfl (by kernel_rfl) params rfl rfl rfl hW' hg⟩

theorem laid_met (os : Os) : laidMet Tryd.prog Rows.headBitsRow.laid (({ World.holding Tryd.prog os ⟨#[], #[], []⟩ with heap := (World.holding Tryd.prog os ⟨#[], #[], []⟩).heap.modify 0 fun | .cells _ t frozen => .cells #[.int .i64 1, .int .i64 1, .int .i64 1, .int .i64 1, .int .i64 4, .int .i64 8, .int .i64 8] t frozen | o => o } : World).forCall (fun _ _ => 0) ⟨#[], #[.agg #[.int .i64 0, .int .i64 0, .int .i64 0, .int .u32 0, .int .u64 0, .int .u64 0], .slice none 0 0, .bool false], []⟩).memory :=
  laidMet_of_run' 8 (by kernel_rfl) (by kernel_rfl)
theorem reads (os : Os) {H : Type} (enc : TypeId × Value → H) : ∃ places, DataW.whole enc Tryd.prog (({ World.holding Tryd.prog os ⟨#[], #[], []⟩ with heap := (World.holding Tryd.prog os ⟨#[], #[], []⟩).heap.modify 0 fun | .cells _ t frozen => .cells #[.int .i64 1, .int .i64 1, .int .i64 1, .int .i64 1, .int .i64 4, .int .i64 8, .int .i64 8] t frozen | o => o } : World).forCall (fun _ _ => 0) ⟨#[], #[.agg #[.int .i64 0, .int .i64 0, .int .i64 0, .int .u32 0, .int .u64 0, .int .u64 0], .slice none 0 0, .bool false], []⟩).memory Tryd.f7.params.toList Rows.headBitsSpec.vars false #[Value.agg #[.int .i64 0, .int .i64 0, .int .i64 0, .int .u32 0, .int .u64 0, .int .u64 0], Value.slice none 0 0, Value.bool false].toList 8 = some ([.agg [.lit (.int .i64 0), .lit (.int .i64 0), .lit (.int .i64 0), .lit (.int .u32 0), .lit (.int .u64 0), .lit (.int .u64 0)], .nil, .lit (.bool false)], [], places) :=
  ⟨[], by kernel_rfl⟩

set_option maxRecDepth 100000 in
theorem lifted (os : Os) (started : os.Started) (H : Type) (enc : TypeId × Value → H) (F : Stop.Interp) :
    ReturnsInHanded {} Tryd.checked os 7 .any ((OpenSpec.ofChange Rows.headBitsSpec).preRow enc Tryd.prog Tryd.f7 Rows.headBitsRow.domain false Rows.headBitsRow.laid) (((OpenSpec.ofChange Rows.headBitsSpec).at F).post enc Tryd.prog Tryd.f7 false true false false) := by
  obtain ⟨places, hx⟩ := reads os enc
  refine returnsInHanded_of_row (C := Tryd.checked) (s := OpenSpec.ofChange Rows.headBitsSpec) own started (by kernel_rfl) Tryd.func7
    (witness_row_at (enc := enc) (C := Tryd.checked) false ({ World.holding Tryd.prog os ⟨#[], #[], []⟩ with heap := (World.holding Tryd.prog os ⟨#[], #[], []⟩).heap.modify 0 fun | .cells _ t frozen => .cells #[.int .i64 1, .int .i64 1, .int .i64 1, .int .i64 1, .int .i64 4, .int .i64 8, .int .i64 8] t frozen | o => o } : World) #[.agg #[.int .i64 0, .int .i64 0, .int .i64 0, .int .u32 0, .int .u64 0, .int .u64 0], .slice none 0 0, .bool false] rfl (by kernel_rfl) (by kernel_rfl) (by kernel_rfl)
      (OpenSpec.preRow_of_cond 8 hx (by kernel_rfl) (fun k hk => by cases hk) (by kernel_rfl) (laid_met os))) ?_
  intro W base args ds gs before hval hW _ _ _ hL _ _
  exact contract H enc W base args ds gs before hval hW hL

theorem said : Rows.HeadBitsSaid :=
  OpenClaim.holds_of_cond 7 Tryd.f7 rfl rfl rfl rfl rfl rfl rfl ⟨rfl, rfl, rfl, rfl, rfl⟩ rfl rfl rfl rfl rfl (by kernel_rfl) Tryd.func7 (by kernel_rfl)
    (of_decide_eq_true (by kernel_rfl)) (by unfold Func.isWrapper; first | (rw [if_pos (by decide +kernel)]; kernel_rfl) | (rw [if_neg (by decide +kernel)]; exact ⟨rfl, rfl⟩))
    (fun os started H enc _ F => by rw [OpenClaim.pre_eq_preRow]; exact lifted os started H enc F)

theorem plain (f : FuncId) (fn : Func) (hf : Tryd.pinned.checked.prog.funcNamed "nepenthe/nepenthelaw14.HeadBits" = some f) (hfn : Tryd.pinned.checked.prog.funcs[f]? = some fn) :
    false = Tryd.pinned.checked.prog.looks [] ∧ ∀ (j : Nat) t, fn.params[j]? = some t → Tryd.pinned.checked.prog.wantsStandIn t = false := by
  obtain rfl : f = 7 := Option.some.inj ((show Tryd.prog.funcNamed "nepenthe/nepenthelaw14.HeadBits" = some 7 by kernel_rfl).symm.trans hf) |>.symm
  obtain rfl : fn = Tryd.f7 := (Option.some.inj (Tryd.func7.symm.trans hfn)).symm
  refine ⟨by kernel_rfl, fun j t ht => ?_⟩
  rw [Tryd.params7] at ht
  have hm := Array.mem_of_getElem? ht
  simp at hm
  rcases hm with rfl | rfl | rfl
  · exact (show Tryd.prog.wantsStandIn 25 = false by kernel_rfl)
  · exact (show Tryd.prog.wantsStandIn 26 = false by kernel_rfl)
  · exact (show Tryd.prog.wantsStandIn 4 = false by kernel_rfl)
end Go.Proofs.YtjlnalfbaojedaaDoor.headBits

namespace Go.Proofs.YtjlnalfbaojedaaDoor
theorem headBits_card : Rows.HeadBitsCardSaid :=
  Claim7.holds_tied_plain_at .later [] _ _ _ _ headBits.said (fun _ h => by cases h) (by kernel_rfl) (fun _ h => by cases h) headBits_row_tie rfl ⟨rfl, rfl⟩ (by kernel_rfl) rfl headBits.plain (by kernel_rfl)
#print axioms headBits_card
end Go.Proofs.YtjlnalfbaojedaaDoor

