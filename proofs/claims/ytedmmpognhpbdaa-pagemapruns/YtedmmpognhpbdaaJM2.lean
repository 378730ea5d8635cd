/- A map's entry written; what the closure of pagemap's Move does. What pagemap's each does with Move's closure. No claim of its own. -/
import Derived.Test.YtedmmpognhpbdaaJDt
namespace Go.Proofs.Ytedmmpognhpbdaa.pm
open Go.RowKit Go.Proofs.Ytedmmpognhpbdaa.he Go.MapKept Go.WideElems
set_option maxRecDepth 20000

/-- 'm[p] = v' -/
theorem update_any {w : World} {b : Nat} {g : Int × Int → Int} (h : Mp w b g) (p : Int × Int) (v : Int) : ∃ w1, (Instr.mapUpdate 69 (.map (some b)) (pk p) (.int .i64 v)).run Try.prog w = .ok () w1 ∧ w.grownBy w1 (some b) ∧ Mp w1 b (ud g p v) := by
  obtain ⟨es, clock, h1, h2, h3, h4⟩ := h
  have hbl : b < w.heap.size := (Array.getElem?_eq_some_iff.1 h1).1
  rcases find_key p w es.toList h3 with ⟨f1, f2⟩ | ⟨j, e, f1, f2, f3⟩
  · refine ⟨setB w b (.map (es.push ⟨pk p, .int .i64 v, clock⟩) (clock + 1)), ?_, setB_grown, ⟨es.push ⟨pk p, .int .i64 v, clock⟩, clock + 1, by simp [setB, hbl], stamped_push h2 f2, ?_, ?_⟩⟩
    · simp [Instr.mapUpdate, run_underlying Try.underlying69, MapKept.run_getObj_map h1, check_key, f1, MapKept.run_setObj_map _ h1, Result.andThen, setB]
    · intro x hx
      simp only [Array.toList_push, List.mem_append, List.mem_singleton] at hx
      rcases hx with hx | rfl
      · exact h3 x hx
      · exact ⟨p, rfl⟩
    · intro q
      by_cases e : q = p
      · subst e
        exact .inl ⟨⟨pk q, .int .i64 v, clock⟩, by simp, rfl, by simp [ud]⟩
      · rcases h4 q with ⟨x, hx, hk, hv⟩ | ⟨hn, hg'⟩
        · exact .inl ⟨x, by simp [Array.mem_toList_iff.1 hx], hk, by simp [ud, e, hv]⟩
        · refine .inr ⟨fun x hx => ?_, by simp [ud, e, hg']⟩
          simp only [Array.toList_push, List.mem_append, List.mem_singleton] at hx
          rcases hx with hx | rfl
          · exact hn x hx
          · exact fun k => e (pk_inj k).symm
  · have hj : es[j]? = some e := by simpa using f2
    have hsame : es.modify j (fun e => { e with key := pk p, val := .int .i64 v }) = es.modify j (fun e => { e with val := .int .i64 v }) := by
      apply Array.ext'
      rw [Array.toList_modify, Array.toList_modify, Go.ChangeMaps.modify_eq_set _ _ _ _ f2, Go.ChangeMaps.modify_eq_set _ _ _ _ f2, ← f3]
    have hst : Stamped (es.modify j (fun e' => { e' with val := .int .i64 v })) clock := stamped_modify h2 j _ (fun _ _ => rfl) (fun _ _ _ => rfl)
    have hml : (es.modify j (fun e' => { e' with val := .int .i64 v })).toList = es.toList.set j { e with val := .int .i64 v } := by
      rw [Array.toList_modify, Go.ChangeMaps.modify_eq_set _ _ _ _ f2]
    refine ⟨setB w b (.map (es.modify j (fun e' => { e' with val := .int .i64 v })) clock), ?_, setB_grown, ⟨es.modify j (fun e' => { e' with val := .int .i64 v }), clock, by simp [setB, hbl], hst, ?_, ?_⟩⟩
    · simp [Instr.mapUpdate, run_underlying Try.underlying69, MapKept.run_getObj_map h1, check_key, f1, hj, f3, stays_key, hsame, MapKept.run_setObj_map _ h1, Result.andThen, setB]
    · rw [hml]
      intro x hx
      rcases List.mem_or_eq_of_mem_set hx with hx | rfl
      · exact h3 x hx
      · exact ⟨p, f3⟩
    · intro q
      rw [hml]
      by_cases eq : q = p
      · subst eq
        refine .inl ⟨_, List.mem_set (by exact (List.getElem?_eq_some_iff.1 f2).1) _, f3, by simp [ud]⟩
      · rcases h4 q with ⟨x, hx, hk, hv'⟩ | ⟨hn, hg'⟩
        · refine .inl ⟨x, ?_, hk, by simp [ud, eq, hv']⟩
          obtain ⟨i, hi, ei⟩ := List.getElem_of_mem hx
          have hij : i ≠ j := by
            intro e'
            subst e'
            have : e = x := by rw [List.getElem?_eq_getElem hi] at f2; cases f2; exact ei
            rw [this, hk] at f3
            exact eq (pk_inj f3)
          refine List.mem_iff_getElem?.2 ⟨i, ?_⟩
          rw [List.getElem?_set_ne (Ne.symm hij), List.getElem?_eq_getElem hi, ei]
        · refine .inr ⟨fun x hx => ?_, by simp [ud, eq, hg']⟩
          rcases List.mem_or_eq_of_mem_set hx with hx | rfl
          · exact hn x hx
          · show e.key ≠ pk q
            rw [f3]
            exact fun k => eq (pk_inj k).symm
theorem Wrt.wide {n m d q k : Nat} {w w' : World} (h : Wrt m d (q + k) w w') (hk : k + m ≤ n) : Wrt n d q w w' :=
  ⟨h.1, fun j hj => h.2 j (by omega)⟩
theorem At.sets' {d q : Nat} : ∀ (us : List Value) (w : World) (k : Nat) (cs : List Value), k + us.length ≤ cs.length → At w d q cs → At (w.setCells d (q + k) us) d q (Go.Proofs.Ytedmmpognhpbdaa.pm.sets cs k us)
  | [], _, _, _, _, h => h
  | u :: us, w, k, cs, hk, h => At.sets' us _ (k + 1) (cs.set k u) (by simp at hk ⊢; omega) (At.set h k (by simp at hk; omega) u)
section
variable {ops : Array Oper} {rest : List Oper} {o : Oper} {a : Act} {Q : Exit → Act → World → Prop} {K : Act → World → Prop} {E : Prop}
theorem step_update (w : World) (hg : o.guard = none) (d : Option Tmp) (hd : o.dst = d) (x y z : Operand) (hop : o.op = Op.mapUpdate 69 x y z) (b : Nat) (g : Int × Int → Int) (p : Int × Int) (v : Int) (hx : a.eval x = .map (some b)) (hy : a.eval y = pk p) (hz : a.eval z = .int .i64 v) (h : Mp w b g)
    (hK : ∀ w1, w.grownBy w1 (some b) → Mp w1 b (ud g p v) → K (a.put d undef) w1) : if Region.wanted o (yielded ops a.tmps) = true then Oper.wp Try.prog o a w K Q else E := by
  have hw : Region.wanted o (yielded ops a.tmps) = true := by simp [Region.wanted, hg]
  rw [if_pos hw]
  subst hd
  obtain ⟨w1, h1, h2, h3⟩ := update_any h p v
  unfold Oper.wp execOp
  simp only [hop, hx, hy, hz, Sem.run_bind, Sem.run_pure, Result.andThen_ok, h1]
  exact hK w1 h2 h3
theorem step_storeM (w : World) (hg : o.guard = none) (d : Option Tmp) (hd : o.dst = d) (x y : Operand) (t : TypeId) (hop : o.op = Op.store t x y) (D q k : Nat) (cs us : List Value) (hx : a.eval x = pq D (q + k)) (hy : a.eval y = .agg us.toArray) (hA : At w D q cs) (hl : k + us.length ≤ cs.length) (hs : (Try.prog.info? t).map (·.size) = some us.length) (h1 : ∀ v ∈ us, v.oneCell' = true)
    (hK : ∀ w', At w' D q (sets cs k us) → Wrt cs.length D q w w' → K (a.put d undef) w') : if Region.wanted o (yielded ops a.tmps) = true then Oper.wp Try.prog o a w K Q else E := by
  have hw : Region.wanted o (yielded ops a.tmps) = true := by simp [Region.wanted, hg]
  rw [if_pos hw]
  subst hd
  have ht : w.there D (q + k) us.length := fun j hj => by
    have := hA.2 (k + j) (by omega)
    rwa [← Nat.add_assoc] at this
  refine wp_store_mid t x y hop D (q + k) us.toArray hx hy (by simpa using ht) (by simpa using hs) (all_oneCell_toArray h1) ?_
  exact hK _ (At.sets' us w k cs hl hA) (Wrt.wide (wrt_cells w D (q + k) us.length us rfl) hl)
end
/-- a live spot that was at p is at q -/
def mvL (p q : PL) (o : Hd) (x : Sp) : Sp := if lv x = true then mvS p q o x else x
theorem Wrt.refl (n d q : Nat) (w : World) : Wrt n d q w w := ⟨⟨rfl, rfl, rfl, Nat.le_refl _, fun _ _ _ => rfl⟩, fun _ _ => ⟨rfl, rfl⟩⟩
theorem Wrt.trans {n d q : Nat} {a b c : World} (h : Wrt n d q a b) (h' : Wrt n d q b c) : Wrt n d q a c :=
  ⟨grown_trans h.1 h'.1, fun j hj => ⟨(h'.2 j hj).1.trans (h.2 j hj).1, (h'.2 j hj).2.trans (h.2 j hj).2⟩⟩
theorem Wrt.drewN {n d q k : Nat} {a b : World} (h : Wrt n d q a b) : Wrt n d q a (b.drewN k) := ⟨⟨h.1.os, h.1.tape, h.1.output, h.1.size, fun k hk hr => h.1.block k hk hr⟩, h.2⟩
theorem two_at {w : World} {b q : Nat} {x : PL} (h : w.rangeAt b q (pc x)) : w.cell? ⟨b, q, none⟩ = some (.int .i64 x.1) ∧ w.cell? ⟨b, q + 1, none⟩ = some (.int .i64 x.2) := ⟨h 0 _ rfl, h 1 _ rfl⟩
set_option maxHeartbeats 4000000 in
theorem mv1_any (D q : Nat) (x : Sp) (P R H : Nat) (p r : PL) (o : Hd) (w : World) (hA : At w D q x.cs) (hP : w.rangeAt P 0 (pc p)) (hR : w.rangeAt R 0 (pc r)) (hH : w.rangeAt H 0 o.cs) (hn : D ≠ P ∧ D ≠ R ∧ D ≠ H) : Calls Try.prog 49 #[pq D q, pt P, pt R, pt H] w fun e w' => e = .returned (.tuple #[]) ∧ At w' D q (mvS p r o x).cs ∧ Wrt 14 D q w w' := by
  have HA : Hid (At w D q x.cs) := hA
  have HR : Hid (w.rangeAt R 0 (pc r)) := hR
  have HH : Hid (w.rangeAt H 0 o.cs) := hH
  have HN : Hid (D ≠ P ∧ D ≠ R ∧ D ≠ H) := hn
  have nx := two_at (place_at hA.1)
  have ny := two0 hP
  have gd : Try.prog.eqGuardType Try.prog.depth 31 = false := by kernel_rfl
  clear hA hP hR hH hn
  by_cases hp : x.p = p
  · have eq : ∀ W : World, (Op.equalIn 10000 31 (.agg #[.int .i64 x.p.1, .int .i64 x.p.2]) (.agg #[.int .i64 p.1, .int .i64 p.2])).run Try.prog W = .ok true W := fun W => (run_equal x.p p W).trans (by rw [decide_eq_true hp])
    have MX : Hid (mvS p r o x = { x with p := r, o := o }) := by show _ = _; unfold mvS; rw [if_pos hp]
    clear hp
    go_enter Try.func49, Try.ntmps49
    go_wp2
    go_quiet (fail)
    clear eq nx ny
    obtain ⟨w0, hw0⟩ : ∃ z, z = w.drewN nq := ⟨_, rfl⟩
    have HA : Hid (At w0 D q x.cs) := by rw [hw0]; exact HA.out.heap rfl
    have HR : Hid (w0.rangeAt R 0 (pc r)) := by rw [hw0]; exact range_heap HR.out rfl
    have HH : Hid (w0.rangeAt H 0 o.cs) := by rw [hw0]; exact range_heap HH.out rfl
    have HW : Hid (Wrt 14 D q w w0) := by rw [hw0]; exact (Wrt.refl 14 D q w).drewN
    rw [← hw0]
    clear hw0
    go_wp2
    have HA : Hid (At w0.drew D q x.cs) := HA.out.heap rfl
    have HR : Hid (w0.drew.rangeAt R 0 (pc r)) := range_heap HR.out rfl
    have HH : Hid (w0.drew.rangeAt H 0 o.cs) := range_heap HH.out rfl
    have HW : Hid (Wrt 14 D q w w0.drew) := HW.out.drewN (k := 1)
    refine wp_region_held_drew (S := fun w' => w'.rangeAt R 0 (pc r) ∧ w'.rangeAt H 0 o.cs) (by kernel_rfl) ⟨HR.out, HH.out⟩ (fun hS => ?_)
    obtain ⟨z1, hx0⟩ : ∃ x, x = w0.drew := ⟨_, rfl⟩
    rw [← hx0] at hS HA HR HH HW ⊢
    clear hx0
    refine take_lawH 0 (some 11) (.pointer (some ⟨D, q, none⟩)) rfl rfl (by kernel_rfl) (by kernel_rfl) (by kernel_rfl) (fun _ _ _ h => h) (Or.inl ⟨by rfl, fun w' hw' => by rfl⟩) hS ?_
    simp only [Act.put, List.setIfInBounds_toArray, List.set_cons_zero, List.set_cons_succ]
    refine take_lawH 1 (some 12) (.pointer (some ⟨D, q, none⟩)) rfl rfl (by kernel_rfl) (by kernel_rfl) (by kernel_rfl) (fun _ _ _ h => h) (Or.inl ⟨by rfl, fun w' hw' => by rfl⟩) hS ?_
    simp only [Act.put, List.setIfInBounds_toArray, List.set_cons_zero, List.set_cons_succ]
    refine take_lawH 2 (some 13) (.agg (pc r).toArray) rfl rfl (by kernel_rfl) (by kernel_rfl) (by kernel_rfl) (fun _ _ _ h => h) (Or.inl ⟨by rfl, fun w' hw' => by exact exec_loadN 31 (.tmp 2) rfl _ rfl _ _ (load_cells rowy_place hw'.1)⟩) hS ?_
    simp only [Act.put, List.setIfInBounds_toArray, List.set_cons_zero, List.set_cons_succ]
    refine take_lawH 3 (some 14) (.agg o.cs.toArray) rfl rfl (by kernel_rfl) (by kernel_rfl) (by kernel_rfl) (fun _ _ _ h => h) (Or.inl ⟨by rfl, fun w' hw' => by exact exec_loadN 35 (.tmp 3) rfl _ rfl _ _ (load_cells rowy_hd hw'.2)⟩) hS ?_
    simp only [Act.put, List.setIfInBounds_toArray, List.set_cons_zero, List.set_cons_succ]
    refine take_lawH 4 (some 15) (.pointer (some ⟨D, q, none⟩)) rfl rfl (by kernel_rfl) (by kernel_rfl) (by kernel_rfl) (fun _ _ _ h => h) (Or.inl ⟨by rfl, fun w' hw' => by go_simp⟩) hS ?_
    simp only [Act.put, List.setIfInBounds_toArray, List.set_cons_zero, List.set_cons_succ]
    refine take_lawH 5 (some 16) (.pointer (some ⟨D, q, none⟩)) rfl rfl (by kernel_rfl) (by kernel_rfl) (by kernel_rfl) (fun _ _ _ h => h) (Or.inl ⟨by rfl, fun w' hw' => by go_simp⟩) hS ?_
    simp only [Act.put, List.setIfInBounds_toArray, List.set_cons_zero, List.set_cons_succ]
    refine wpAnyH_ready (rs := [6]) (by kernel_rfl) (by simp) ?_
    refine AllReadyH.cons rfl (fun K hK => ?_) AllReadyH.nil
    refine step_storeM z1 rfl none rfl (.tmp 16) (.tmp 13) 31 rfl D q 0 x.cs (pc r) rfl rfl HA.out (by show 0 + 2 ≤ 14; omega) size_place (pc_one r) ?_
    intro z2 X9 W9
    have HA : Hid (At z2 D q ({ x with p := r } : Sp).cs) := X9
    have HR : Hid (z2.rangeAt R 0 (pc r)) := range_heap HR.out (W9.1.block R (range_lt HR.out (Nat.succ_pos _)) (fun e => HN.out.2.1 (Option.some.inj e).symm))
    have HH : Hid (z2.rangeAt H 0 o.cs) := range_heap HH.out (W9.1.block H (range_lt HH.out (Nat.succ_pos _)) (fun e => HN.out.2.2 (Option.some.inj e).symm))
    have HW : Hid (Wrt 14 D q w z2) := HW.out.trans W9
    have hS : z2.rangeAt R 0 (pc r) ∧ z2.rangeAt H 0 o.cs := ⟨HR.out, HH.out⟩
    clear X9 W9
    refine hK.out _ _ hS (fun _ => ?_)
    simp only [Act.put]
    clear hK K
    refine take_lawH 7 (some 17) (.pointer (some ⟨D, q, none⟩)) rfl rfl (by kernel_rfl) (by kernel_rfl) (by kernel_rfl) (fun _ _ _ h => h) (Or.inl ⟨by rfl, fun w' hw' => by go_simp⟩) hS ?_
    simp only [Act.put, List.setIfInBounds_toArray, List.set_cons_zero, List.set_cons_succ]
    refine take_lawH 8 (some 18) (.pointer (some ⟨D, q + 8, none⟩)) rfl rfl (by kernel_rfl) (by kernel_rfl) (by kernel_rfl) (fun _ _ _ h => h) (Or.inl ⟨by rfl, fun w' hw' => by go_simp⟩) hS ?_
    simp only [Act.put, List.setIfInBounds_toArray, List.set_cons_zero, List.set_cons_succ]
    refine wpAnyH_ready (rs := [9]) (by kernel_rfl) (by simp) ?_
    refine AllReadyH.cons rfl (fun K hK => ?_) AllReadyH.nil
    refine step_storeM z2 rfl none rfl (.tmp 18) (.tmp 14) 35 rfl D q 8 ({ x with p := r } : Sp).cs (o.cs) rfl rfl HA.out (by show 8 + 6 ≤ 14; omega) size_hd o.one ?_
    intro z3 X9 W9
    have HA : Hid (At z3 D q ({ x with p := r, o := o } : Sp).cs) := X9
    have HR : Hid (z3.rangeAt R 0 (pc r)) := range_heap HR.out (W9.1.block R (range_lt HR.out (Nat.succ_pos _)) (fun e => HN.out.2.1 (Option.some.inj e).symm))
    have HH : Hid (z3.rangeAt H 0 o.cs) := range_heap HH.out (W9.1.block H (range_lt HH.out (Nat.succ_pos _)) (fun e => HN.out.2.2 (Option.some.inj e).symm))
    have HW : Hid (Wrt 14 D q w z3) := HW.out.trans W9
    have hS : z3.rangeAt R 0 (pc r) ∧ z3.rangeAt H 0 o.cs := ⟨HR.out, HH.out⟩
    clear X9 W9
    refine hK.out _ _ hS (fun _ => ?_)
    simp only [Act.put]
    clear hK K
    refine wpAnyH_done (by kernel_rfl) ?_ _
    go_wp2
    exact bodyPost_end (v := .tuple #[]) (results_none rfl _ _ _) rfl ⟨rfl, by rw [MX.out]; exact HA.out, HW.out⟩
  · have eq : ∀ W : World, (Op.equalIn 10000 31 (.agg #[.int .i64 x.p.1, .int .i64 x.p.2]) (.agg #[.int .i64 p.1, .int .i64 p.2])).run Try.prog W = .ok false W := fun W => (run_equal x.p p W).trans (by rw [decide_eq_false hp])
    have MX : Hid (mvS p r o x = x) := by show _ = _; unfold mvS; rw [if_neg hp]
    clear hp
    go_enter Try.func49, Try.ntmps49
    go_wp2
    go_quiet (fail)
    clear eq nx ny
    go_wp2
    exact bodyPost_end (v := .tuple #[]) (results_none rfl _ _ _) rfl ⟨rfl, by rw [MX.out]; exact HA.out.heap rfl, (Wrt.refl 14 D q w).drewN⟩
end Go.Proofs.Ytedmmpognhpbdaa.pm
namespace Go.Proofs.Ytedmmpognhpbdaa.pm
open Go.RowKit Go.Proofs.Ytedmmpognhpbdaa.he

/-- a row behind t of its sectors -/
def mvF (p r : PL) (o : Hd) (f : Nat → Sp) (t : Nat) : Nat → Sp := fun u => if u < t then mvL p r o (f u) else f u
theorem mvF_zero (p r : PL) (o : Hd) (f : Nat → Sp) : mvF p r o f 0 = f := by
  funext u
  unfold mvF
  rw [if_neg (Nat.not_lt_zero _)]
theorem mvF_at (p r : PL) (o : Hd) (f : Nat → Sp) (t : Nat) : mvF p r o f t t = f t := by
  unfold mvF
  rw [if_neg (Nat.lt_irrefl _)]
theorem mvF_succ (p r : PL) (o : Hd) (f : Nat → Sp) (t : Nat) : up (mvF p r o f t) t (mvL p r o (f t)) = mvF p r o f (t + 1) := by
  funext u
  unfold up
  by_cases e : u = t
  · subst e
    rw [if_pos rfl]
    unfold mvF
    rw [if_pos (Nat.lt_succ_self _)]
  · rw [if_neg e]
    unfold mvF
    by_cases h : u < t
    · rw [if_pos h, if_pos (by omega)]
    · rw [if_neg h, if_neg (by omega)]
/-- the namespaces ahead of j -/
def FF (p r : PL) (o : Hd) (f : Nat → Nat → Sp) (s : Nat → Nat) (j : Nat) : Nat → Nat → Sp := fun i => if i < j then mvF p r o (f i) (s i) else f i
theorem FF_at (p r : PL) (o : Hd) (f : Nat → Nat → Sp) (s : Nat → Nat) (j : Nat) : FF p r o f s j j = f j := by
  unfold FF
  rw [if_neg (Nat.lt_irrefl _)]
theorem FF_succ (p r : PL) (o : Hd) (f : Nat → Nat → Sp) (s : Nat → Nat) (j : Nat) : up (FF p r o f s j) j (mvF p r o (f j) (s j)) = FF p r o f s (j + 1) := by
  funext i
  unfold up
  by_cases e : i = j
  · subst e
    rw [if_pos rfl]
    unfold FF
    rw [if_pos (Nat.lt_succ_self _)]
  · rw [if_neg e]
    unfold FF
    by_cases h : i < j
    · rw [if_pos h, if_pos (by omega)]
    · rw [if_neg h, if_neg (by omega)]
theorem FF_zero (p r : PL) (o : Hd) (f : Nat → Nat → Sp) (s : Nat → Nat) : FF p r o f s 0 = f := by
  funext i
  unfold FF
  rw [if_neg (Nat.not_lt_zero _)]
def sp4 (d s : Nat → Nat) : List Value := [sv (d 0) (s 0), sv (d 1) (s 1), sv (d 2) (s 2), sv (d 3) (s 3)]
theorem rowy_spaces : Rowy 68 4 := ⟨⟨_, Try.underlying68, rfl⟩, by kernel_rfl⟩
theorem sp_at {w : World} {c : Nat} {d s : Nat → Nat} {rb : Option Nat} (h : Vr w c (mc d s rb)) : w.rangeAt c 0 (sp4 d s) := fun j u hu => by
  have hj : j < 4 := (List.getElem?_eq_some_iff.1 hu).1
  refine h.1 j u ?_
  rw [← hu]
  rcases four hj with rfl | rfl | rfl | rfl <;> rfl
theorem idx_sp (d s : Nat → Nat) (j : Nat) (hj : j < 4) (w : World) : (Instr.index 68 (.agg (sp4 d s).toArray) (.int .i64 (j : Int))).run Try.prog w = .ok (sv (d j) (s j)) w := by
  rcases four hj with rfl | rfl | rfl | rfl
  · unfold sp4; generalize sv (d 0) (s 0) = a0; kernel_rfl
  · unfold sp4; generalize sv (d 1) (s 1) = a0; kernel_rfl
  · unfold sp4; generalize sv (d 2) (s 2) = a0; kernel_rfl
  · unfold sp4; generalize sv (d 3) (s 3) = a0; kernel_rfl
theorem sv_form (D n : Nat) : ∃ ao, sv D n = .slice ao n n ∧ (0 < n → ao = some ⟨D, 0, none⟩) := by
  unfold sv
  by_cases e : n = 0
  · subst e; exact ⟨none, rfl, fun h => absurd h (Nat.lt_irrefl _)⟩
  · rw [if_neg e]; exact ⟨_, rfl, fun _ => rfl⟩
/-- where each stands -/
structure Ev (w wr : World) (c b P R H : Nat) (d s : Nat → Nat) (F : Nat → Nat → Sp) (g : PL → Int) (p r : PL) (o : Hd) : Prop where
  m : Pm wr c d s F (some b) g
  p : wr.rangeAt P 0 (pc p)
  r : wr.rangeAt R 0 (pc r)
  h : wr.rangeAt H 0 o.cs
  ch : Ch (fun k => ∃ j, j < 4 ∧ 0 < s j ∧ k = d j) w wr
  own : ∀ k, Own4 c d s (some b) k → k ≠ P ∧ k ≠ R ∧ k ≠ H
section
variable {w wr w' : World} {c b P R H j t : Nat} {d s : Nat → Nat} {F : Nat → Nat → Sp} {g : PL → Int} {p r : PL} {o : Hd}
theorem Ev.below (e : Ev w wr c b P R H d s F g p r o) (hb : Below wr.heap.size wr w') : Ev w w' c b P R H d s F g p r o :=
  ⟨e.m.below hb, range_heap e.p (hb.block P (range_lt e.p (Nat.succ_pos _))), range_heap e.r (hb.block R (range_lt e.r (Nat.succ_pos _))), range_heap e.h (hb.block H (range_lt e.h (Nat.succ_pos _))), e.ch.trans (Ch.of_below hb), e.own⟩
theorem Ev.row (e : Ev w wr c b P R H d s F g p r o) (hj : j < 4) (ht : t < s j) (z : Sp) (hx : At w' (d j) (t * 14) z.cs) (hw : Wrt 14 (d j) (t * 14) wr w') : Ev w w' c b P R H d s (up F j (up (F j) t z)) g p r o := by
  have ho := e.own (d j) (.inr (.inl ⟨j, hj, by omega, rfl⟩))
  exact ⟨e.m.row j t hj ht z hx hw, range_heap e.p (hw.1.block P (range_lt e.p (Nat.succ_pos _)) (fun q => ho.1 (Option.some.inj q).symm)), range_heap e.r (hw.1.block R (range_lt e.r (Nat.succ_pos _)) (fun q => ho.2.1 (Option.some.inj q).symm)), range_heap e.h (hw.1.block H (range_lt e.h (Nat.succ_pos _)) (fun q => ho.2.2 (Option.some.inj q).symm)), e.ch.trans (Ch.of_wrt hw ⟨j, hj, by omega, rfl⟩), e.own⟩
end
set_option maxHeartbeats 8000000 in
theorem each_any (c b P R H : Nat) (d s : Nat → Nat) (f : Nat → Nat → Sp) (g : PL → Int) (p r : PL) (o : Hd) (w : World) (hm : Pm w c d s f (some b) g) (hP : w.rangeAt P 0 (pc p)) (hR : w.rangeAt R 0 (pc r)) (hH : w.rangeAt H 0 o.cs) (hn : ∀ k, Own4 c d s (some b) k → k ≠ P ∧ k ≠ R ∧ k ≠ H) (hz : ∀ j, j < 4 → s j ≤ 65535) : Calls Try.prog 34 #[pt c, .func (.func 49) #[] #[pt P, pt R, pt H]] w fun e w' => e = .returned (.tuple #[]) ∧ Ev w w' c b P R H d s (FF p r o f s 4) g p r o := by
  have HE : Hid (Ev w w c b P R H d s (FF p r o f s 0) g p r o) := by rw [FF_zero]; exact ⟨hm, hP, hR, hH, Ch.refl _ _, hn⟩
  have HZ : Hid (∀ j, j < 4 → s j ≤ 65535) := hz
  have SP : Hid (w.rangeAt c 0 (sp4 d s)) := sp_at hm.v
  clear hm hP hR hH hn hz
  have t0 : (0 : Nat) = 0 := rfl
  go_enter Try.func34, Try.ntmps34
  go_wp2_with (have qq := t0; refine load_law _ (by rfl) 68 (.tmp 9) rfl c 0 (sp4 d s) rfl rowy_spaces SP.out ?_; clear t0)
  go_loopw [11] (fun jv wr => ∃ j : Nat, j ≤ 4 ∧ jv = .int .i64 j ∧ Hid (Ev w wr c b P R H d s (FF p r o f s j) g p r o)) (fun jv _ => 4 - (intOf jv).toNat)
  case atStart => exact ⟨0, by omega, rfl, HE⟩
  case round =>
    clear HE
    obtain ⟨j, hj, rfl, HE⟩ := hrel
    have j0 : (0 : Int) ≤ (j : Int) := by omega
    have jw : IntKind.i64.wrap ((j : Int) + 1) = ((j + 1 : Nat) : Int) := by rw [IntKind.wrap_i64]; omega
    by_cases hlt : j < 4
    · have j1 : (j : Int) < 4 := by omega
      have J4 : Hid (j < 4) := hlt
      obtain ⟨ao, hv, ha⟩ := sv_form (d j) (s j)
      have IX : Hid (∀ W, (Instr.index 68 (.agg (sp4 d s).toArray) (.int .i64 (j : Int))).run Try.prog W = .ok (.slice ao (s j) (s j)) W) := fun W => by rw [← hv]; exact idx_sp d s j hlt W
      have HA : Hid (0 < s j → ao = some ⟨d j, 0, none⟩) := ha
      obtain ⟨n, hN⟩ : ∃ n, n = s j := ⟨_, rfl⟩
      obtain ⟨D, hD⟩ : ∃ D, D = d j := ⟨_, rfl⟩
      have NN : Hid (n = s j) := hN
      have DD : Hid (D = d j) := hD
      rw [← hN] at IX HA
      rw [← hD] at HA
      have n9 : (n : Int) ≤ 65535 := by have := HZ.out j hlt; omega
      have HE : Hid (Ev w wr c b P R H d s (up (FF p r o f s j) j (mvF p r o (f j) 0)) g p r o) := by rw [mvF_zero, show f j = FF p r o f s j j from (FF_at p r o f s j).symm, up_self]; exact HE.out
      clear hv ha hN hD hlt hj
      have t0 : (0 : Nat) = 0 := rfl
      go_wp2_with (have qq := t0; refine idx_law _ rfl (.tmp 10) (.tmp 11) 68 rfl _ _ _ rfl rfl (IX.out _) ?_; clear t0)
      clear IX
      go_loopw [16] (fun tv wq => ∃ t : Nat, t ≤ n ∧ tv = .int .i64 t ∧ Hid (Ev w wq c b P R H d s (up (FF p r o f s j) j (mvF p r o (f j) t)) g p r o)) (fun tv _ => n - (intOf tv).toNat)
      case atStart => exact ⟨0, Nat.zero_le _, rfl, HE⟩
      case round =>
        clear HE
        obtain ⟨t, ht, rfl, HE⟩ := hrel
        have a0 : (0 : Int) ≤ (t : Int) := by omega
        have tw : IntKind.i64.wrap ((t : Int) + 1) = ((t + 1 : Nat) : Int) := by rw [IntKind.wrap_i64]; omega
        by_cases hl2 : t < n
        · have a1 : (t : Int) < (n : Int) := by omega
          have HT : Hid (t < n) := hl2
          obtain rfl := HA.out (by omega)
          obtain ⟨y, hy⟩ : ∃ y, y = f j t := ⟨_, rfl⟩
          have AY : Hid (At wr D (t * 14) y.cs) := by
            have z := HE.out.m.r j J4.out t (by have := NN.out; omega)
            rw [Nat.zero_add, up_eq, mvF_at, ← hy, ← DD.out] at z
            exact z
          have FS : Hid (up (up (FF p r o f s j) j (mvF p r o (f j) t)) j (up ((up (FF p r o f s j) j (mvF p r o (f j) t)) j) t (mvL p r o y)) = up (FF p r o f s j) j (mvF p r o (f j) (t + 1))) := by
            show _ = _
            rw [up_eq, up_up, hy, mvF_succ]
          clear hy hl2 ht
          have t0 : (0 : Nat) = 0 := rfl
          cases hv : lv y with
          | false =>
            have SI : Hid (∀ W, Calls Try.prog 45 #[.agg y.cs.toArray] W fun e w' => e = .returned (.bool false) ∧ Below W.heap.size W w') := fun W => by rw [← hv]; exact isspot_any y W
            have MM : Hid (mvL p r o y = y) := by show _ = _; unfold mvL; rw [hv]; rfl
            clear hv
            go_wp2_with (first
              | (have qq := t1; go_at_call 45; refine (SI.out _).mono ?_; rintro e w4 ⟨rfl, B9⟩; have AY : Hid (At w4 D (t * 14) y.cs) := AY.out.heap (B9.block D (AY.out.lt (Nat.succ_pos _))); have HE : Hid (Ev w w4 c b P R H d s (up (FF p r o f s j) j (mvF p r o (f j) t)) g p r o) := HE.out.below B9; clear B9 t1)
              | (have qq := t0; refine load_law _ (by rfl) 37 (.tmp 21) rfl D (t * 14) y.cs rfl rowy_spot AY.out.1 ?_; clear t0; have t1 : (0 : Nat) = 0 := rfl))
            go_roundw
            case rel =>
              refine ⟨t + 1, by have := HT.out; omega, by go_num, ?_⟩
              rw [← FS.out, MM.out]
              exact HE.out.row J4.out (by have := NN.out; have := HT.out; omega) y (by rw [← DD.out]; exact AY.out) (Wrt.refl _ _ _ _)
            case measure => simp [intOf]; have := HT.out; omega
          | true =>
            have SI : Hid (∀ W, Calls Try.prog 45 #[.agg y.cs.toArray] W fun e w' => e = .returned (.bool true) ∧ Below W.heap.size W w') := fun W => by rw [← hv]; exact isspot_any y W
            have MM : Hid (mvL p r o y = mvS p r o y) := by show _ = _; unfold mvL; rw [hv]; rfl
            clear hv
            go_wp2_with (first
              | (have qq := t2; go_at_call 49; refine (mv1_any D (t * 14) y P R H p r o _ AY.out HE.out.p HE.out.r HE.out.h (HE.out.own D (.inr (.inl ⟨j, J4.out, by have := NN.out; have := HT.out; omega, DD.out⟩)))).mono ?_; rintro e w5 ⟨rfl, X9, W9⟩; have HE : Hid (Ev w w5 c b P R H d s (up (FF p r o f s j) j (mvF p r o (f j) (t + 1))) g p r o) := (by rw [← FS.out, MM.out]; exact HE.out.row J4.out (by have := NN.out; have := HT.out; omega) _ (by rw [← DD.out]; exact X9) (by rw [← DD.out]; exact W9)); clear X9 W9 AY t2)
              | (have qq := t1; go_at_call 45; refine (SI.out _).mono ?_; rintro e w4 ⟨rfl, B9⟩; have AY : Hid (At w4 D (t * 14) y.cs) := AY.out.heap (B9.block D (AY.out.lt (Nat.succ_pos _))); have HE : Hid (Ev w w4 c b P R H d s (up (FF p r o f s j) j (mvF p r o (f j) t)) g p r o) := HE.out.below B9; clear B9 t1; have t2 : (0 : Nat) = 0 := rfl)
              | (have qq := t0; refine load_law _ (by rfl) 37 (.tmp 21) rfl D (t * 14) y.cs rfl rowy_spot AY.out.1 ?_; clear t0; have t1 : (0 : Nat) = 0 := rfl))
            go_roundw
            case rel => exact ⟨t + 1, by have := HT.out; omega, by go_num, HE⟩
            case measure => simp [intOf]; have := HT.out; omega
        · have a1 : ¬ (t : Int) < (n : Int) := by omega
          obtain rfl : t = n := by omega
          go_wp2
          go_roundw
          case rel => exact ⟨j + 1, by have := J4.out; omega, by go_num, by rw [← FF_succ, ← NN.out]; exact HE⟩
          case measure => simp [intOf]; have := J4.out; omega
    · have j1 : ¬ (j : Int) < 4 := by omega
      obtain rfl : j = 4 := by omega
      go_wp2
      exact bodyPost_end (v := .tuple #[]) (results_none rfl _ _ _) rfl ⟨rfl, HE.out⟩
end Go.Proofs.Ytedmmpognhpbdaa.pm
