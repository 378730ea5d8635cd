/- What pagemap's Add answers. No claim of its own. -/
import Derived.Test.YtedmmpognhpbdaaJGt2
import Derived.OwnWalk
namespace Go.Proofs.Ytedmmpognhpbdaa.pm
open Go.RowKit Go.Proofs.Ytedmmpognhpbdaa.he
set_option maxRecDepth 20000

theorem run_set1 {w : World} {c j : Nat} {t : TypeId} {cs : List Value} {v : Value} (hV : Vr w c cs) (hj : j < cs.length) (h1 : v.oneCell' = true) (hc : v.cells = #[v]) (hi : (Try.prog.info? t).map (·.size) = some 1) : (storeVar t ⟨c, j, none⟩ v).run Try.prog w = .ok () (w.setCell ⟨c, j, none⟩ v) := by
  have hcell := hV.cell j _ (List.getElem?_eq_getElem hj)
  have hf := hV.free j hj
  have e0 : ∀ i, i < [v].length → i = 0 := fun i hi => by simpa using hi
  have := run_storeCells_cells (P := Try.prog) c j [v] 0 w (fun i hi => by rw [e0 i hi]; simp [hcell]) (fun i hi => by rw [e0 i hi]; simpa using hf) (fun z hz => by simp at hz; subst hz; exact h1)
  cases hq : Try.prog.info? t with
  | none => simp [hq] at hi
  | some i =>
    have hs : i.size = 1 := by simpa [hq] using hi
    simp only [Nat.add_zero] at this
    simp [storeVar, sizeOf, typeInfo, hq, hc, hs]
    simpa [World.setCells] using this
theorem grown_one (w : World) (c j : Nat) (v : Value) : w.grownBy (w.setCell ⟨c, j, none⟩ v) (some c) := by
  have hb := (Below.refl 0 w).setCell (p := ⟨c, j, none⟩) (Nat.zero_le _) v
  exact ⟨hb.os, hb.tape, hb.output, hb.size, fun k _ hr => Below.heap_setCell w ⟨c, j, none⟩ v k (fun e => hr (by rw [e]))⟩
section
variable {ops : Array Oper} {rest : List Oper} {o : Oper} {a : Act} {Q : Exit → Act → World → Prop} {K : Act → World → Prop} {E : Prop}
theorem step_set1 (w : World) (hg : o.guard = none) (d : Option Tmp) (hd : o.dst = d) (x y : Operand) (t : TypeId) (hop : o.op = Op.store t x y) (cs : List Value) (c j : Nat) (v : Value) (hx : a.eval x = pq c j) (hy : a.eval y = v) (hV : Vr w c cs) (hj : j < cs.length) (h1 : v.oneCell' = true) (hc : v.cells = #[v]) (hi : (Try.prog.info? t).map (·.size) = some 1)
    (hK : ∀ w', Vr w' c (cs.set j v) → w.grownBy w' (some c) → K (a.put d undef) w') : if Region.wanted o (yielded ops a.tmps) = true then Oper.wp Try.prog o a w K Q else E := by
  have hw : Region.wanted o (yielded ops a.tmps) = true := by simp [Region.wanted, hg]
  rw [if_pos hw]
  subst hd
  unfold Oper.wp execOp
  simp only [hop, hx, hy, Instr.storeAt, Instr.sureAddr, Sem.run_bind, Sem.run_pure, Result.andThen_ok, run_set1 hV hj h1 hc hi]
  exact hK _ (hV.set j hj v) (grown_one w c j v)
theorem set_law1 (w : World) (hg : o.guard = none) (x y : Operand) (t : TypeId) (hop : o.op = Op.store t x y) (cs : List Value) (c j : Nat) (v : Value) (hx : a.eval x = pq c j) (hy : a.eval y = v) (hV : Vr w c cs) (hj : j < cs.length) (h1 : v.oneCell' = true) (hc : v.cells = #[v]) (hi : (Try.prog.info? t).map (·.size) = some 1)
    (hK : ∀ w', Vr w' c (cs.set j v) → w.grownBy w' (some c) → wpList Try.prog ops Q rest (a.put o.dst undef) w') : wpList Try.prog ops Q (o :: rest) a w := by
  refine wpList_plain hg fun K hK' => ?_
  unfold Oper.wp execOp
  simp only [hop, hx, hy, Instr.storeAt, Instr.sureAddr, Sem.run_bind, Sem.run_pure, Result.andThen_ok, run_set1 hV hj h1 hc hi]
  exact hK' _ _ (hK _ (hV.set j hj v) (grown_one w c j v))
/-- 'map[api.Place]int{}' -/
theorem make_lawM (w : World) (hg : o.guard = none) (hop : o.op = Op.makeMap 69 none)
    (hK : ∀ w', Mp w' w.heap.size (fun _ => 0) → Below w.heap.size w w' → wpList Try.prog ops Q rest (a.put o.dst (.map (some w.heap.size))) w') : wpList Try.prog ops Q (o :: rest) a w := by
  refine wpList_plain hg fun K hK' => ?_
  have hrun : (Instr.makeMap 69 none).run Try.prog w = .ok (.map (some w.heap.size)) (w.alloc (.map #[] 0)) := by
    first | exact run_makeMap Try.prog 69 w | kernel_rfl
  unfold Oper.wp execOp
  simp only [hop, Option.map_none, Sem.run_bind, Sem.run_pure, Result.andThen_ok, hrun]
  exact hK' _ _ (hK _ (Mp.new w) ((Below.refl _ _).alloc (Nat.le_refl _) _))
theorem info_spot : (Try.prog.info? 37).map (fun i => (i.zero, i.size, i.bytes)) = some (some (.agg sp0.cs.toArray), 14, 112) := by kernel_rfl
theorem made_rows {w : World} {g n : Nat} (hr : w.ownsRow g 37 14 (.slice (some ⟨g, 0, none⟩) n n) n (madeCells (Value.agg sp0.cs.toArray).cells (n * 14)).toList) : Rw 14 Sp.cs w g 0 n (fun _ => sp0) := by
  obtain ⟨h1, h2⟩ := hr
  rcases h2 with ⟨h2, _⟩ | ⟨g', cap', cur, e, hB, hb, hn, hm, hs, ht⟩
  · cases h2
  · cases e
    have hcell : ∀ i j, i < n → j < 14 → ∀ v, sp0.cs[j]? = some v → w.cell? ⟨g, 0 + i * 14 + j, none⟩ = some v ∧ w.frozen? ⟨g, 0 + i * 14 + j, none⟩ = false := fun i j hi hj v hv => by
      rw [Nat.zero_add]
      have hlt : i * 14 + j < n * 14 := by omega
      have hc : (madeCells (Value.agg sp0.cs.toArray).cells (n * 14)).toList[i * 14 + j]? = some v := by
        have hm' : (i * 14 + j) % 14 = j := by omega
        have hsz : (Value.agg sp0.cs.toArray).cells.size = 14 := rfl
        rw [Array.getElem?_toList]
        unfold madeCells
        rw [Array.getElem?_map, Array.getElem?_range, if_pos hlt]
        simp only [Option.map_some, hsz, hm']
        show some (sp0.cs.toArray[j]!) = some v
        rw [← hv]
        rcases (show j = 0 ∨ j = 1 ∨ j = 2 ∨ j = 3 ∨ j = 4 ∨ j = 5 ∨ j = 6 ∨ j = 7 ∨ j = 8 ∨ j = 9 ∨ j = 10 ∨ j = 11 ∨ j = 12 ∨ j = 13 by omega) with rfl | rfl | rfl | rfl | rfl | rfl | rfl | rfl | rfl | rfl | rfl | rfl | rfl | rfl <;> rfl
      rw [← ht, List.getElem?_take, if_pos hlt] at hc
      refine ⟨?_, ?_⟩
      · rw [cell_of_row w g (i * 14 + j) cur _ (0, 0) hb]
        simpa using hc
      · simp [World.frozen?, hb]
    intro i hi
    refine ⟨fun j v hv => (hcell i j hi (List.getElem?_eq_some_iff.1 hv).1 v hv).1, fun j hj => ?_⟩
    have := hcell i j hi hj _ (List.getElem?_eq_getElem hj)
    exact ⟨by rw [this.1]; rfl, this.2⟩
theorem step_makeS (w : World) (hg : o.guard = none) (d : Option Tmp) (hd : o.dst = d) (l c : Operand) (hop : o.op = Op.makeSlice 47 l c) (L : Int) (n : Nat) (hl : a.eval l = .int .i64 L) (hc : a.eval c = .int .i64 L) (hL : L = (n : Int)) (hn : n ≤ 65535)
    (hK : ∀ w', Rw 14 Sp.cs w' w.heap.size 0 n (fun _ => sp0) → Below w.heap.size w w' → w.heap.size < w'.heap.size → K (a.put d (.slice (some ⟨w.heap.size, 0, none⟩) n n)) w') : if Region.wanted o (yielded ops a.tmps) = true then Oper.wp Try.prog o a w K Q else E := by
  have hw : Region.wanted o (yielded ops a.tmps) = true := by simp [Region.wanted, hg]
  rw [if_pos hw]
  subst hd
  obtain ⟨i0, hi, hz0, hz1, hz2⟩ := info_parts info_spot
  obtain ⟨w', hrun, h1, h2⟩ := run_make_full (P := Try.prog) w w.heap.size 47 37 i0 _ 14 Try.underlying47 hi hz0 hz1 .i64 .i64 n (by rw [hz2]; omega) (by simp only [maxLen]; omega) (Nat.le_refl _)
  subst hL
  have hlt : w.heap.size < w'.heap.size := (h1.lt w.heap.size rfl).2
  unfold Oper.wp
  simp [execOp, hop, hl, hc, hrun, Result.andThen]
  exact hK w' (made_rows h1) ((Below.refl _ w).grown h2 (Nat.le_refl _) (fun k hk => by cases hk)) hlt
end
theorem add_no (v : Value) (d s : Nat → Nat) (f : Nat → Nat → Sp) (g : PL → Int) (n k : Int) (w : World) (hm : Pq w v s d f g) (h : v = .pointer none ∨ ¬ (0 ≤ n ∧ n < 4) ∨ k < 1 ∨ 65535 < k) : Calls Try.prog 19 #[v, .int .i64 n, .int .i64 k] w fun e w' => e = .returned (.int .i64 2) ∧ w' = w := by
  rcases hm with ⟨rfl, _⟩ | ⟨c, rb, rfl, _⟩
  · go_enter Try.func19, Try.ntmps19
    go_wp2
    go_ret
    exact ⟨rfl, rfl⟩
  · have SN : Hid (∀ W q, q = decide (0 ≤ n ∧ n < 4) → Calls Try.prog 43 #[.int .i64 n] W fun e w' => e = .returned (.bool q) ∧ w' = W) := fun W q hq => isns_any n W q hq
    by_cases hn : 0 ≤ n ∧ n < 4
    · have S1 : Hid (∀ W, Calls Try.prog 43 #[.int .i64 n] W fun e w' => e = .returned (.bool true) ∧ w' = W) := fun W => SN.out W true (decide_eq_true hn).symm
      by_cases h1 : k < 1
      · have e1 : decide (k < 1) = true := decide_eq_true h1
        clear hn h SN
        go_enter Try.func19, Try.ntmps19
        go_wp2_with (go_at_call 43; refine (S1.out _).mono ?_; rintro e w3 ⟨rfl, hw⟩; obtain rfl := hw.symm)
        go_ret
        exact ⟨rfl, rfl⟩
      · have e1 : decide (k < 1) = false := decide_eq_false h1
        have h2 : k > 65535 := by
          rcases h with h | h | h | h
          · cases h
          · exact absurd hn h
          · exact absurd h h1
          · exact h
        have e2 : decide (k > 65535) = true := decide_eq_true h2
        clear hn h SN
        go_enter Try.func19, Try.ntmps19
        go_wp2_with (go_at_call 43; refine (S1.out _).mono ?_; rintro e w3 ⟨rfl, hw⟩; obtain rfl := hw.symm)
        go_ret
        exact ⟨rfl, rfl⟩
    · have S1 : Hid (∀ W, Calls Try.prog 43 #[.int .i64 n] W fun e w' => e = .returned (.bool false) ∧ w' = W) := fun W => SN.out W false (decide_eq_false hn).symm
      clear hn h SN
      go_enter Try.func19, Try.ntmps19
      go_wp2_with (go_at_call 43; refine (S1.out _).mono ?_; rintro e w3 ⟨rfl, hw⟩; obtain rfl := hw.symm)
      go_ret
      exact ⟨rfl, rfl⟩
theorem add_there (c i n : Nat) (rb : Option Nat) (d s : Nat → Nat) (f : Nat → Nat → Sp) (g : PL → Int) (w : World) (hm : Pm w c d s f rb g) (hi : i < 4) (hn : 1 ≤ n) (hn2 : n ≤ 65535) (hs : 0 < s i) : Calls Try.prog 19 #[pt c, .int .i64 (i : Int), .int .i64 (n : Int)] w fun e w' => e = .returned (.int .i64 11) ∧ w' = w := by
  have SN : Hid (∀ W, Calls Try.prog 43 #[.int .i64 (i : Int)] W fun e w' => e = .returned (.bool true) ∧ w' = W) := fun W => isns_any _ W true (decide_eq_true (by omega)).symm
  have SZ : Hid (Calls Try.prog 23 #[pt c, .int .i64 (i : Int)] w fun e w' => e = .returned (.int .i64 (s i : Nat)) ∧ w' = w) := by
    have z := size_any (pt c) d s f g (i : Int) w (.inr ⟨c, rb, rfl, hm⟩)
    have e : szn s (i : Int) = s i := by unfold szn; rw [if_pos (by omega), Int.toNat_natCast]
    rwa [e] at z
  obtain ⟨z, hz⟩ : ∃ z, z = s i := ⟨_, rfl⟩
  rw [← hz] at SZ hs
  have e1 : decide ((n : Int) < 1) = false := decide_eq_false (by omega)
  have e2 : decide ((n : Int) > 65535) = false := decide_eq_false (by omega)
  have q1 : ¬ (n : Int) < 1 := by omega
  have q2 : ¬ (n : Int) > 65535 := by omega
  have q3 : (z : Int) > 0 := by omega
  clear hm hz hi hn hn2 hs
  go_enter Try.func19, Try.ntmps19
  go_wp2_with (first
    | (go_at_call 23; refine SZ.out.mono ?_; rintro e w3 ⟨rfl, hw⟩; obtain rfl := hw.symm)
    | (go_at_call 43; refine (SN.out _).mono ?_; rintro e w3 ⟨rfl, hw⟩; obtain rfl := hw.symm))
  go_ret
  exact ⟨rfl, rfl⟩
theorem sz_store : (Try.prog.info? 47).map (·.size) = some 1 := by kernel_rfl
theorem sz_refs : (Try.prog.info? 69).map (·.size) = some 1 := by kernel_rfl
theorem mc_set {d s : Nat → Nat} {rb : Option Nat} {i D n : Nat} (hi : i < 4) (hn : 0 < n) : (mc d s rb).set i (.slice (some ⟨D, 0, none⟩) n n) = mc (up d i D) (up s i n) rb := by
  have e : sv D n = .slice (some ⟨D, 0, none⟩) n n := by unfold sv; rw [if_neg (by omega)]
  rw [← e]
  rcases four hi with rfl | rfl | rfl | rfl <;> rfl
theorem cn1_dead (p : PL) : ∀ n, cn1 (fun _ => sp0) p n = 0
  | 0 => rfl
  | n + 1 => by unfold cn1; rw [cn1_dead p n]; rfl
/-- an empty namespace changes no count -/
theorem cnt_add (s : Nat → Nat) (f : Nat → Nat → Sp) {i n : Nat} (hi : i < 4) (hs : s i = 0) : cnt (up s i n) (up f i (fun _ => sp0)) = cnt s f := by
  funext p
  have e : cn1 (fun _ => sp0) p n = cn1 (f i) p (s i) := by rw [cn1_dead, hs]; rfl
  rcases four hi with rfl | rfl | rfl | rfl <;> (unfold cnt up; simp only [if_true, Nat.zero_ne_one, Nat.one_ne_zero, if_false, show (0 : Nat) ≠ 2 by omega, show (0 : Nat) ≠ 3 by omega, show (1 : Nat) ≠ 2 by omega, show (1 : Nat) ≠ 3 by omega, show (2 : Nat) ≠ 0 by omega, show (2 : Nat) ≠ 1 by omega, show (2 : Nat) ≠ 3 by omega, show (3 : Nat) ≠ 0 by omega, show (3 : Nat) ≠ 1 by omega, show (3 : Nat) ≠ 2 by omega, e])
theorem Pm.add {w w1 w' : World} {c b i n D : Nat} {d s : Nat → Nat} {f : Nat → Nat → Sp} {g : PL → Int} (h : Pm w c d s f (some b) g) (hi : i < 4) (hn : 0 < n) (hs : s i = 0) (hD : w.heap.size ≤ D) (hb : Below w.heap.size w w1) (hR : Rw 14 Sp.cs w1 D 0 n (fun _ => sp0)) (hD1 : D < w1.heap.size) (hg : w1.grownBy w' (some c)) (hV : Vr w' c ((mc d s (some b)).set i (.slice (some ⟨D, 0, none⟩) n n))) : Pm w' c (up d i D) (up s i n) (up f i (fun _ => sp0)) (some b) g where
  v := by rw [← mc_set hi hn]; exact hV
  r j hj := by
    have hDc : D ≠ c := by have := h.lt; omega
    by_cases e : j = i
    · subst e
      rw [up_eq, up_eq, up_eq]
      exact hR.heap (hg.block D hD1 (fun e => hDc (Option.some.inj e)))
    · rw [up_ne _ _ e, up_ne _ _ e, up_ne _ _ e]
      intro t ht
      have h1 := (h.r j hj t ht).heap (hb.block _ (h.dlt hj (by omega)))
      exact h1.heap (hg.block _ (h1.lt (Nat.succ_pos _)) (fun e => h.dc j hj (by omega) (Option.some.inj e)))
  m b' e := by
    cases e
    have h1 := (h.m b rfl).heap (hb.block _ (h.m b rfl).lt)
    exact h1.heap (hg.block _ h1.lt (fun e => h.rbc rfl (Option.some.inj e)))
  z e := by cases e
  dc j hj hsj := by
    by_cases e : j = i
    · subst e; rw [up_eq]; have := h.lt; omega
    · rw [up_ne _ _ e] at hsj ⊢; exact h.dc j hj hsj
  dd j k hj hk hjk h1 h2 := by
    by_cases e : j = i
    · subst e
      rw [up_eq, up_ne _ _ (Ne.symm hjk)]
      rw [up_ne _ _ (Ne.symm hjk)] at h2
      have := h.dlt hk h2
      omega
    · rw [up_ne _ _ e] at h1 ⊢
      by_cases e2 : k = i
      · subst e2
        rw [up_eq]
        have := h.dlt hj h1
        omega
      · rw [up_ne _ _ e2] at h2 ⊢
        exact h.dd j k hj hk hjk h1 h2
/-- the counts are made -/
theorem Pm.made {w w1 w' : World} {c b : Nat} {d s : Nat → Nat} {f : Nat → Nat → Sp} {g : PL → Int} (h : Pm w c d s f none g) (hB : w.heap.size ≤ b) (hM : Mp w1 b (fun _ => 0)) (hg : w1.grownBy w' (some c)) (hV : Vr w' c ((mc d s none).set 4 (.map (some b)))) : Pm w' c d s f (some b) g where
  v := hV
  r j hj := by
    intro t ht
    have := (h.z rfl).2 j hj
    omega
  m b' e := by
    cases e
    have : g = fun _ => 0 := funext (h.z rfl).1
    rw [this]
    exact hM.heap (hg.block _ hM.lt (fun e => by have := h.lt; have := Option.some.inj e; omega))
  z e := by cases e
  dc j hj hs := by have := (h.z rfl).2 j hj; omega
  dd j k hj hk _ h1 := by have := (h.z rfl).2 j hj; omega
set_option maxHeartbeats 4000000 in
theorem add_more (c i n b : Nat) (d s : Nat → Nat) (f : Nat → Nat → Sp) (g : PL → Int) (w : World) (hm : Pm w c d s f (some b) g) (hi : i < 4) (hn : 1 ≤ n) (hn2 : n ≤ 65535) (hs : s i = 0) : Calls Try.prog 19 #[pt c, .int .i64 (i : Int), .int .i64 (n : Int)] w fun e w' => ∃ D b', e = .returned (.int .i64 0) ∧ Pm w' c (up d i D) (up s i n) (up f i (fun _ => sp0)) (some b') g ∧ Ch (fun k => k = c) w w' ∧ w.heap.size ≤ D ∧ ((some b) = some b' ∨ w.heap.size ≤ b') := by
  have SN : Hid (∀ W, Calls Try.prog 43 #[.int .i64 (i : Int)] W fun e w' => e = .returned (.bool true) ∧ w' = W) := fun W => isns_any _ W true (decide_eq_true (by omega)).symm
  have SZ : Hid (Calls Try.prog 23 #[pt c, .int .i64 (i : Int)] w fun e w' => e = .returned (.int .i64 0) ∧ w' = w) := by
    have z := size_any (pt c) d s f g (i : Int) w (.inr ⟨c, some b, rfl, hm⟩)
    have e : szn s (i : Int) = 0 := by unfold szn; rw [if_pos (by omega), Int.toNat_natCast]; exact hs
    rwa [e] at z
  have e1 : decide ((n : Int) < 1) = false := decide_eq_false (by omega)
  have e2 : decide ((n : Int) > 65535) = false := decide_eq_false (by omega)
  have q1 : ¬ (n : Int) < 1 := by omega
  have q2 : ¬ (n : Int) > 65535 := by omega
  have i0 : (0 : Int) ≤ (i : Int) := by omega
  have i1 : (i : Int) < 4 := by omega
  have n0 : (0 : Int) ≤ (n : Int) := by omega
  have HN : Hid (1 ≤ n ∧ n ≤ 65535) := ⟨hn, hn2⟩
  have H4 : Hid (i < 4) := hi
  have HS : Hid (s i = 0) := hs
  have c4 := hm.v.cell 4 _ rfl
  have HP : Hid (Pm w c d s f (some b) g) := hm
  have HC : Hid (Ch (fun k => k = c) w w) := Ch.refl _ _
  have me : ∀ W, (binOp .eql 69 (.map (some b)) (.map none)).run Try.prog W = .ok (.bool false) W := fun W => by first | kernel_rfl | go_simp
  clear hm hi hn hn2 hs
  go_enter Try.func19, Try.ntmps19
  go_wp2_with (first
    | (go_at_call 23; refine SZ.out.mono ?_; rintro e w3 ⟨rfl, hw⟩; obtain rfl := hw.symm)
    | (go_at_call 43; refine (SN.out _).mono ?_; rintro e w3 ⟨rfl, hw⟩; obtain rfl := hw.symm))
  have HP : Hid (Pm w.drew c d s f (some b) g) := HP.out.below (below_dr (Below.refl _ _) 1)
  have HC : Hid (Ch (fun k => k = c) w w.drew) := HC.out.trans (Ch.of_below (below_dr (Below.refl _ _) 1))
  refine wp_region_held_drew (S := fun w' => Below w'.heap.size w' w') (by kernel_rfl) (Below.refl _ _) (fun hS => ?_)
  obtain ⟨y1, hx0⟩ : ∃ x, x = w.drew := ⟨_, rfl⟩
  rw [← hx0] at hS HP HC ⊢
  clear hx0
  refine take_lawH 0 (some 35) (.pointer (some ⟨c, 0, none⟩)) rfl rfl (by kernel_rfl) (by kernel_rfl) (by kernel_rfl) (fun _ _ _ h => h) (Or.inl ⟨by rfl, fun w' hw' => by rfl⟩) hS ?_
  simp only [Act.put, List.setIfInBounds_toArray, List.set_cons_zero, List.set_cons_succ]
  refine take_lawH 1 (some 36) (.int .i64 (i : Int)) rfl rfl (by kernel_rfl) (by kernel_rfl) (by kernel_rfl) (fun _ _ _ h => h) (Or.inl ⟨by rfl, fun w' hw' => by rfl⟩) hS ?_
  simp only [Act.put, List.setIfInBounds_toArray, List.set_cons_zero, List.set_cons_succ]
  refine take_lawH 2 (some 37) (.int .i64 (n : Int)) rfl rfl (by kernel_rfl) (by kernel_rfl) (by kernel_rfl) (fun _ _ _ h => h) (Or.inl ⟨by rfl, fun w' hw' => by rfl⟩) hS ?_
  simp only [Act.put, List.setIfInBounds_toArray, List.set_cons_zero, List.set_cons_succ]
  refine take_lawH 4 (some 39) (.pointer (some ⟨c, 0, none⟩)) rfl rfl (by kernel_rfl) (by kernel_rfl) (by kernel_rfl) (fun _ _ _ h => h) (Or.inl ⟨by rfl, fun w' hw' => by go_simp⟩) hS ?_
  simp only [Act.put, List.setIfInBounds_toArray, List.set_cons_zero, List.set_cons_succ]
  refine take_lawH 5 (some 40) (.pointer (some ⟨c, 0, none⟩)) rfl rfl (by kernel_rfl) (by kernel_rfl) (by kernel_rfl) (fun _ _ _ h => h) (Or.inl ⟨by rfl, fun w' hw' => by go_simp⟩) hS ?_
  simp only [Act.put, List.setIfInBounds_toArray, List.set_cons_zero, List.set_cons_succ]
  refine wpAnyH_ready (rs := [3]) (by kernel_rfl) (by simp) ?_
  refine AllReadyH.cons rfl (fun K hK => ?_) AllReadyH.nil
  refine step_makeS y1 rfl (some 38) rfl (.tmp 37) (.tmp 37) rfl n n rfl rfl rfl HN.out.2 ?_
  intro y2 R9 B9 l9
  have hS : Below y2.heap.size y2 y2 := Below.refl _ _
  have HR : Hid (Rw 14 Sp.cs y2 y1.heap.size 0 n (fun _ => sp0)) := R9
  have HB : Hid (Below y1.heap.size y1 y2) := B9
  have HL : Hid (y1.heap.size < y2.heap.size) := l9
  clear R9 B9 l9
  refine hK.out _ _ hS (fun _ => ?_)
  simp only [Act.put, List.setIfInBounds_toArray, List.set_cons_zero, List.set_cons_succ]
  clear hK K
  refine take_lawH 6 (some 41) (.pointer (some ⟨c, i, none⟩)) rfl rfl (by kernel_rfl) (by kernel_rfl) (by kernel_rfl) (fun _ _ _ h => h) (Or.inl ⟨by rfl, fun w' hw' => by go_simp⟩) hS ?_
  simp only [Act.put, List.setIfInBounds_toArray, List.set_cons_zero, List.set_cons_succ]
  refine wpAnyH_ready (rs := [7]) (by kernel_rfl) (by simp) ?_
  refine AllReadyH.cons rfl (fun K hK => ?_) AllReadyH.nil
  refine step_set1 y2 rfl none rfl (.tmp 41) (.tmp 38) 47 rfl (mc d s (some b)) c i (.slice (some ⟨y1.heap.size, 0, none⟩) n n) rfl rfl (HP.out.below HB.out).v (by show i < 5; have := H4.out; omega) rfl rfl sz_store ?_
  intro y3 V9 G9
  have hS : Below y3.heap.size y3 y3 := Below.refl _ _
  have HA : Hid (Pm y3 c (up d i y1.heap.size) (up s i n) (up f i (fun _ => sp0)) (some b) g) := HP.out.add H4.out (by have := HN.out; omega) HS.out (Nat.le_refl _) HB.out HR.out HL.out G9 V9
  have HCC : Hid (Ch (fun k => k = c) w y3) := (HC.out.trans (Ch.of_below HB.out)).trans (Ch.of_grown G9 rfl)
  clear V9 G9 HB HR HL
  refine hK.out _ _ hS (fun _ => ?_)
  simp only [Act.put]
  clear hK K
  refine wpAnyH_done (by kernel_rfl) ?_ _
  go_wp2
  go_ret
  exact ⟨_, b, rfl, HA.out, HCC.out, HC.out.size, .inl rfl⟩
set_option maxHeartbeats 4000000 in
theorem add_first (c i n : Nat) (d s : Nat → Nat) (f : Nat → Nat → Sp) (g : PL → Int) (w : World) (hm : Pm w c d s f none g) (hi : i < 4) (hn : 1 ≤ n) (hn2 : n ≤ 65535) (hs : s i = 0) : Calls Try.prog 19 #[pt c, .int .i64 (i : Int), .int .i64 (n : Int)] w fun e w' => ∃ D b', e = .returned (.int .i64 0) ∧ Pm w' c (up d i D) (up s i n) (up f i (fun _ => sp0)) (some b') g ∧ Ch (fun k => k = c) w w' ∧ w.heap.size ≤ D ∧ ((none : Option Nat) = some b' ∨ w.heap.size ≤ b') := by
  have SN : Hid (∀ W, Calls Try.prog 43 #[.int .i64 (i : Int)] W fun e w' => e = .returned (.bool true) ∧ w' = W) := fun W => isns_any _ W true (decide_eq_true (by omega)).symm
  have SZ : Hid (Calls Try.prog 23 #[pt c, .int .i64 (i : Int)] w fun e w' => e = .returned (.int .i64 0) ∧ w' = w) := by
    have z := size_any (pt c) d s f g (i : Int) w (.inr ⟨c, none, rfl, hm⟩)
    have e : szn s (i : Int) = 0 := by unfold szn; rw [if_pos (by omega), Int.toNat_natCast]; exact hs
    rwa [e] at z
  have e1 : decide ((n : Int) < 1) = false := decide_eq_false (by omega)
  have e2 : decide ((n : Int) > 65535) = false := decide_eq_false (by omega)
  have q1 : ¬ (n : Int) < 1 := by omega
  have q2 : ¬ (n : Int) > 65535 := by omega
  have i0 : (0 : Int) ≤ (i : Int) := by omega
  have i1 : (i : Int) < 4 := by omega
  have n0 : (0 : Int) ≤ (n : Int) := by omega
  have HN : Hid (1 ≤ n ∧ n ≤ 65535) := ⟨hn, hn2⟩
  have H4 : Hid (i < 4) := hi
  have HS : Hid (s i = 0) := hs
  have c4 := hm.v.cell 4 _ rfl
  have HP0 : Hid (Pm w c d s f none g) := hm
  have me : ∀ W, (binOp .eql 69 (.map none) (.map none)).run Try.prog W = .ok (.bool true) W := fun W => by first | kernel_rfl | go_simp
  obtain ⟨b, hb⟩ : ∃ b, b = w.heap.size := ⟨_, rfl⟩
  have HBB : Hid (w.heap.size ≤ b) := by show _ ≤ _; omega
  have BE : Hid (b = w.heap.size) := hb
  clear hm hi hn hn2 hs hb
  have t0 : (0 : Nat) = 0 := rfl
  go_enter Try.func19, Try.ntmps19
  go_wp2_with (first
    | (have qq := t1; (with_reducible refine at_store ?_); refine set_law1 _ rfl (.tmp 34) (.tmp 32) 69 rfl (mc d s none) c 4 (.map (some w.heap.size)) rfl rfl (HP0.out.below BB.out).v (by show 4 < 5; omega) rfl rfl sz_refs ?_; intro w5 V9 G9; have HP : Hid (Pm w5 c d s f (some b) g) := HP0.out.made (by have := BE.out; omega) (by rw [BE.out]; exact HM.out) G9 (by rw [BE.out]; exact V9); have HC : Hid (Ch (fun k => k = c) w w5) := (Ch.of_below BB.out).trans (Ch.of_grown G9 rfl); clear V9 G9 t1)
    | (have qq := t0; refine make_lawM _ rfl rfl ?_; intro w4 M9 B9; have HM : Hid (Mp w4 w.heap.size (fun _ => 0)) := M9; have BB : Hid (Below w.heap.size w w4) := B9; clear M9 B9 t0; have t1 : (0 : Nat) = 0 := rfl)
    | (go_at_call 23; refine SZ.out.mono ?_; rintro e w3 ⟨rfl, hw⟩; obtain rfl := hw.symm)
    | (go_at_call 43; refine (SN.out _).mono ?_; rintro e w3 ⟨rfl, hw⟩; obtain rfl := hw.symm))
  have HP : Hid (Pm w5.drew c d s f (some b) g) := HP.out.below (below_dr (Below.refl _ _) 1)
  have HC : Hid (Ch (fun k => k = c) w w5.drew) := HC.out.trans (Ch.of_below (below_dr (Below.refl _ _) 1))
  refine wp_region_held_drew (S := fun w' => Below w'.heap.size w' w') (by kernel_rfl) (Below.refl _ _) (fun hS => ?_)
  obtain ⟨y1, hx0⟩ : ∃ x, x = w5.drew := ⟨_, rfl⟩
  rw [← hx0] at hS HP HC ⊢
  clear hx0
  refine take_lawH 0 (some 35) (.pointer (some ⟨c, 0, none⟩)) rfl rfl (by kernel_rfl) (by kernel_rfl) (by kernel_rfl) (fun _ _ _ h => h) (Or.inl ⟨by rfl, fun w' hw' => by rfl⟩) hS ?_
  simp only [Act.put, List.setIfInBounds_toArray, List.set_cons_zero, List.set_cons_succ]
  refine take_lawH 1 (some 36) (.int .i64 (i : Int)) rfl rfl (by kernel_rfl) (by kernel_rfl) (by kernel_rfl) (fun _ _ _ h => h) (Or.inl ⟨by rfl, fun w' hw' => by rfl⟩) hS ?_
  simp only [Act.put, List.setIfInBounds_toArray, List.set_cons_zero, List.set_cons_succ]
  refine take_lawH 2 (some 37) (.int .i64 (n : Int)) rfl rfl (by kernel_rfl) (by kernel_rfl) (by kernel_rfl) (fun _ _ _ h => h) (Or.inl ⟨by rfl, fun w' hw' => by rfl⟩) hS ?_
  simp only [Act.put, List.setIfInBounds_toArray, List.set_cons_zero, List.set_cons_succ]
  refine take_lawH 4 (some 39) (.pointer (some ⟨c, 0, none⟩)) rfl rfl (by kernel_rfl) (by kernel_rfl) (by kernel_rfl) (fun _ _ _ h => h) (Or.inl ⟨by rfl, fun w' hw' => by go_simp⟩) hS ?_
  simp only [Act.put, List.setIfInBounds_toArray, List.set_cons_zero, List.set_cons_succ]
  refine take_lawH 5 (some 40) (.pointer (some ⟨c, 0, none⟩)) rfl rfl (by kernel_rfl) (by kernel_rfl) (by kernel_rfl) (fun _ _ _ h => h) (Or.inl ⟨by rfl, fun w' hw' => by go_simp⟩) hS ?_
  simp only [Act.put, List.setIfInBounds_toArray, List.set_cons_zero, List.set_cons_succ]
  refine wpAnyH_ready (rs := [3]) (by kernel_rfl) (by simp) ?_
  refine AllReadyH.cons rfl (fun K hK => ?_) AllReadyH.nil
  refine step_makeS y1 rfl (some 38) rfl (.tmp 37) (.tmp 37) rfl n n rfl rfl rfl HN.out.2 ?_
  intro y2 R9 B9 l9
  have hS : Below y2.heap.size y2 y2 := Below.refl _ _
  have HR : Hid (Rw 14 Sp.cs y2 y1.heap.size 0 n (fun _ => sp0)) := R9
  have HB : Hid (Below y1.heap.size y1 y2) := B9
  have HL : Hid (y1.heap.size < y2.heap.size) := l9
  clear R9 B9 l9
  refine hK.out _ _ hS (fun _ => ?_)
  simp only [Act.put, List.setIfInBounds_toArray, List.set_cons_zero, List.set_cons_succ]
  clear hK K
  refine take_lawH 6 (some 41) (.pointer (some ⟨c, i, none⟩)) rfl rfl (by kernel_rfl) (by kernel_rfl) (by kernel_rfl) (fun _ _ _ h => h) (Or.inl ⟨by rfl, fun w' hw' => by go_simp⟩) hS ?_
  simp only [Act.put, List.setIfInBounds_toArray, List.set_cons_zero, List.set_cons_succ]
  refine wpAnyH_ready (rs := [7]) (by kernel_rfl) (by simp) ?_
  refine AllReadyH.cons rfl (fun K hK => ?_) AllReadyH.nil
  refine step_set1 y2 rfl none rfl (.tmp 41) (.tmp 38) 47 rfl (mc d s (some b)) c i (.slice (some ⟨y1.heap.size, 0, none⟩) n n) rfl rfl (HP.out.below HB.out).v (by show i < 5; have := H4.out; omega) rfl rfl sz_store ?_
  intro y3 V9 G9
  have hS : Below y3.heap.size y3 y3 := Below.refl _ _
  have HA : Hid (Pm y3 c (up d i y1.heap.size) (up s i n) (up f i (fun _ => sp0)) (some b) g) := HP.out.add H4.out (by have := HN.out; omega) HS.out (Nat.le_refl _) HB.out HR.out HL.out G9 V9
  have HCC : Hid (Ch (fun k => k = c) w y3) := (HC.out.trans (Ch.of_below HB.out)).trans (Ch.of_grown G9 rfl)
  clear V9 G9 HB HR HL
  refine hK.out _ _ hS (fun _ => ?_)
  simp only [Act.put]
  clear hK K
  refine wpAnyH_done (by kernel_rfl) ?_ _
  go_wp2
  go_ret
  exact ⟨_, b, rfl, HA.out, HCC.out, HC.out.size, .inr HBB.out⟩
theorem add_yes (c i n : Nat) (rb : Option Nat) (d s : Nat → Nat) (f : Nat → Nat → Sp) (g : PL → Int) (w : World) (hm : Pm w c d s f rb g) (hi : i < 4) (hn : 1 ≤ n) (hn2 : n ≤ 65535) (hs : s i = 0) : Calls Try.prog 19 #[pt c, .int .i64 (i : Int), .int .i64 (n : Int)] w fun e w' => ∃ D b', e = .returned (.int .i64 0) ∧ Pm w' c (up d i D) (up s i n) (up f i (fun _ => sp0)) (some b') g ∧ Ch (fun k => k = c) w w' ∧ w.heap.size ≤ D ∧ (rb = some b' ∨ w.heap.size ≤ b') := by
  cases rb with
  | none => exact add_first c i n d s f g w hm hi hn hn2 hs
  | some b => exact add_more c i n b d s f g w hm hi hn hn2 hs
end Go.Proofs.Ytedmmpognhpbdaa.pm
