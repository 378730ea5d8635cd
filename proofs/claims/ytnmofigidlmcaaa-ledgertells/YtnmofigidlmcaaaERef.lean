/- The first one ahead of which none is, found from either end; the reference's row of blocks, its New. No claim of its own. -/
import Derived.Test.YtnmofigidlmcaaaENil
namespace Go.Proofs.Ytnmofigidlmcaaa.le
open Go.RowKit Go.Proofs.Ytnmofigidlmcaaa.he
set_option maxRecDepth 20000

/-- of those that are meant, from lo on below hi, the one of least key, the first of several -/
def Best (P : Nat → Bool) (key : Nat → Int) (lo hi : Nat) : Option Nat → Prop
  | none => ∀ j, lo ≤ j → j < hi → P j = false
  | some r => lo ≤ r ∧ r < hi ∧ P r = true ∧ ∀ j, lo ≤ j → j < hi → P j = true → key r ≤ key j ∧ (j < r → key r < key j)
theorem best_only {P : Nat → Bool} {key : Nat → Int} {lo hi : Nat} : ∀ {a b : Option Nat}, Best P key lo hi a → Best P key lo hi b → a = b
  | none, none, _, _ => rfl
  | none, some r, h, ⟨h1, h2, h3, _⟩ => by rw [h r h1 h2] at h3; cases h3
  | some r, none, ⟨h1, h2, h3, _⟩, h => by rw [h r h1 h2] at h3; cases h3
  | some r, some s, ⟨a1, a2, a3, a4⟩, ⟨b1, b2, b3, b4⟩ => by
    have p := a4 s b1 b2 b3
    have q := b4 r a1 a2 a3
    rcases Nat.lt_trichotomy r s with e | e | e
    · have := q.2 e; omega
    · rw [e]
    · have := p.2 e; omega
theorem best_skip {P : Nat → Bool} {key : Nat → Int} {j n : Nat} {a : Option Nat} (h : Best P key (j + 1) n a) (hp : P j = false) : Best P key j n a := by
  cases a with
  | none => exact fun i h1 h2 => if e : i = j then e ▸ hp else h i (by omega) h2
  | some r =>
    obtain ⟨h1, h2, h3, h4⟩ := h
    refine ⟨by omega, h2, h3, fun i hi hn hq => ?_⟩
    by_cases e : i = j
    · subst e; rw [hp] at hq; cases hq
    · exact h4 i (by omega) hn hq
theorem best_none {P : Nat → Bool} {key : Nat → Int} {j n : Nat} (h : Best P key (j + 1) n none) (hp : P j = true) (hj : j < n) : Best P key j n (some j) := by
  refine ⟨Nat.le_refl _, hj, hp, fun i hi hn hq => ?_⟩
  by_cases e : i = j
  · subst e; exact ⟨Int.le_refl _, fun h => absurd h (Nat.lt_irrefl _)⟩
  · have := h i (by omega) hn
    rw [this] at hq; cases hq
theorem best_take {P : Nat → Bool} {key : Nat → Int} {j n r : Nat} (h : Best P key (j + 1) n (some r)) (hp : P j = true) (hj : j < n) (hk : key j ≤ key r) : Best P key j n (some j) := by
  obtain ⟨h1, h2, h3, h4⟩ := h
  refine ⟨Nat.le_refl _, hj, hp, fun i hi hn hq => ?_⟩
  by_cases e : i = j
  · subst e; exact ⟨Int.le_refl _, fun h => absurd h (Nat.lt_irrefl _)⟩
  · have := (h4 i (by omega) hn hq).1
    exact ⟨by omega, fun h => by omega⟩
theorem best_keep {P : Nat → Bool} {key : Nat → Int} {j n r : Nat} (h : Best P key (j + 1) n (some r)) (hk : ¬ key j ≤ key r) : Best P key j n (some r) := by
  obtain ⟨h1, h2, h3, h4⟩ := h
  refine ⟨by omega, h2, h3, fun i hi hn hq => ?_⟩
  by_cases e : i = j
  · subst e; exact ⟨by omega, fun _ => by omega⟩
  · exact h4 i (by omega) hn hq
theorem fm_best (P : Nat → Bool) (A : Nat → Nat → Bool) (key : Nat → Int) (hA : ∀ i j, A i j = decide (key i < key j)) : ∀ n, Best P key 0 n (fm P A n)
  | 0 => fun j _ h => absurd h (Nat.not_lt_zero _)
  | n + 1 => by
    have ih := fm_best P A key hA n
    unfold fm
    generalize fm P A n = a at ih
    cases hp : P n with
    | false =>
      rw [Bool.false_and, if_neg (by simp)]
      cases a with
      | none => exact fun j h1 h2 => if e : j = n then e ▸ hp else ih j h1 (by omega)
      | some r =>
        obtain ⟨h1, h2, h3, h4⟩ := ih
        refine ⟨h1, by omega, h3, fun i hi hn hq => ?_⟩
        by_cases e : i = n
        · subst e; rw [hp] at hq; cases hq
        · exact h4 i hi (by omega) hq
    | true =>
      rw [Bool.true_and]
      cases a with
      | none =>
        show Best P key 0 (n + 1) (some n)
        refine ⟨Nat.zero_le _, by omega, hp, fun i hi hn hq => ?_⟩
        by_cases e : i = n
        · subst e; exact ⟨Int.le_refl _, fun h => absurd h (Nat.lt_irrefl _)⟩
        · have := ih i hi (by omega)
          rw [this] at hq; cases hq
      | some r =>
        obtain ⟨h1, h2, h3, h4⟩ := ih
        show Best P key 0 (n + 1) (if A n r = true then some n else some r)
        rw [hA]
        by_cases hk : key n < key r
        · rw [decide_eq_true hk, if_pos rfl]
          refine ⟨Nat.zero_le _, by omega, hp, fun i hi hn hq => ?_⟩
          by_cases e : i = n
          · subst e; exact ⟨Int.le_refl _, fun h => absurd h (Nat.lt_irrefl _)⟩
          · have := (h4 i hi (by omega) hq).1
            exact ⟨by omega, fun h => by omega⟩
        · rw [decide_eq_false hk, if_neg (by simp)]
          refine ⟨h1, by omega, h3, fun i hi hn hq => ?_⟩
          by_cases e : i = n
          · subst e; exact ⟨by omega, fun h => by omega⟩
          · exact h4 i hi (by omega) hq

/-- the reference's row of n blocks, in block r -/
def Rr (r : Nat) (w : World) (v : Value) (n : Nat) (f : Nat → Bk) : Prop := ∃ ao cap, v = .slice ao n cap ∧ n ≤ cap ∧ (0 < n → ao = some ⟨r, 0, none⟩ ∧ Rws w r n f)
theorem Rr.below {r : Nat} {w w' : World} {v : Value} {n : Nat} {f : Nat → Bk} (h : Rr r w v n f) (hb : Below w.heap.size w w') : Rr r w' v n f := by
  obtain ⟨ao, cap, h0, h1, h2⟩ := h
  exact ⟨ao, cap, h0, h1, fun hp => ⟨(h2 hp).1, (h2 hp).2.below hb⟩⟩
theorem Rr.kept {r d : Nat} {w w' : World} {v : Value} {n : Nat} {f : Nat → Bk} (h : Rr r w v n f) (hb : w.grownBy w' (some d)) (hd : r ≠ d) : Rr r w' v n f := by
  obtain ⟨ao, cap, h0, h1, h2⟩ := h
  exact ⟨ao, cap, h0, h1, fun hp => ⟨(h2 hp).1, (h2 hp).2.kept hb (by intro e; exact hd (Option.some.inj e))⟩⟩
theorem rowy_rblk : Rowy 37 9 := ⟨⟨_, Try.underlying37, rfl⟩, by kernel_rfl⟩
theorem zero_rblk : (Try.prog.info? 37).map (fun i => (i.zero, i.size)) = some (some (.agg b0.cs.toArray), b0.cs.length) := by kernel_rfl
theorem size_rblk : (Try.prog.info? 37).map (·.size) = some 9 := by kernel_rfl

/-- k blocks of a new ledger, flat -/
def fl (k : Nat) : List Value := (List.replicate k bn.cs).flatten
theorem fl_succ (k : Nat) : fl (k + 1) = fl k ++ bn.cs := by
  unfold fl
  rw [List.replicate_succ', List.flatten_append]
  simp
theorem fl_len : ∀ k, (fl k).length = k * 9
  | 0 => rfl
  | k + 1 => by rw [fl_succ, List.length_append, fl_len k]; show k * 9 + 9 = _; omega
theorem fl_get : ∀ k i j, i < k → j < 9 → (fl k)[i * 9 + j]? = bn.cs[j]?
  | k + 1, i, j, hi, hj => by
    have hl := fl_len k
    rw [fl_succ]
    by_cases e : i = k
    · subst e
      rw [List.getElem?_append_right (by omega), hl, Nat.add_sub_cancel_left]
    · rw [List.getElem?_append_left (by omega)]
      exact fl_get k i j (by omega) hj
/-- the row that the call itself makes -/
def Ow (B : Nat) (w : World) (v : Value) (k : Nat) : Prop := w.ownsRow B 37 9 v k (fl k)
theorem ow_rr {B : Nat} {w : World} {v : Value} {k : Nat} (h : Ow B w v k) : ∃ r, Rr r w v k (fun _ => bn) ∧ B ≤ r ∧ (0 < k → r < w.heap.size) := by
  rcases h.2 with ⟨rfl, hn⟩ | ⟨g, cap, cur, rfl, hg, hb, hc, hm, hs, ht⟩
  · exact ⟨B, ⟨none, 0, by rw [hn], by omega, fun hp => by omega⟩, Nat.le_refl _, fun hp => by omega⟩
  · refine ⟨g, ⟨some ⟨g, 0, none⟩, cap, rfl, hc, fun _ => ⟨rfl, fun i hi => ?_⟩⟩, hg, fun _ => (h.lt g rfl).2⟩
    have hcell : ∀ j v, j < 9 → bn.cs[j]? = some v → w.cell? ⟨g, i * 9 + j, none⟩ = some v := fun j v hj hv => by
      rw [h.cellAt (i * 9 + j) (by omega), fl_get k i j hi hj]; exact hv
    exact ⟨fun j v hv => hcell j v (List.getElem?_eq_some_iff.1 hv).1 hv, fun j hj => ⟨by rw [hcell j _ hj (List.getElem?_eq_getElem hj)]; rfl, h.frozenAt _⟩⟩
section
variable {ops : Array Oper} {rest : List Oper} {o : Oper} {a : Act} {Q : Exit → Act → World → Prop}
/-- '[]Block{}' -/
theorem nil_lawB (w : World) (hg : o.guard = none) (hop : o.op = Op.buildSlice 28 0 #[])
    (hK : ∀ w', Ow w.heap.size w' (.slice (some ⟨w.heap.size, 0, none⟩) 0 0) 0 → Below w.heap.size w w' → wpList Try.prog ops Q rest (a.put o.dst (.slice (some ⟨w.heap.size, 0, none⟩) 0 0)) w') : wpList Try.prog ops Q (o :: rest) a w := by
  refine wpList_plain hg fun K hK' => ?_
  have hrun : (Instr.buildSlice 28 0 #[]).run Try.prog w = .ok (.slice (some ⟨w.heap.size, 0, none⟩) 0 0) (w.alloc (.cells #[] 37)) := by kernel_rfl
  unfold Oper.wp execOp
  simp only [hop, List.map_toArray, List.map_nil, Sem.run_bind, Sem.run_pure, Result.andThen_ok, hrun]
  exact hK' _ _ (hK _ (World.ownsRow_made w #[] 0 (Nat.le_refl _) (by simp [maxLen]) (by simp)) ((Below.refl _ _).alloc (Nat.le_refl _) _))
/-- '[]Block{x}' -/
theorem one_lawB (w : World) (hg : o.guard = none) (x : Operand) (hop : o.op = Op.buildSlice 28 1 #[(0, x)]) (hx : a.eval x = .agg bn.cs.toArray)
    (hK : ∀ w', Vr w' w.heap.size bn.cs → Below w.heap.size w w' → w.heap.size < w'.heap.size → wpList Try.prog ops Q rest (a.put o.dst (.slice (some ⟨w.heap.size, 0, none⟩) 1 1)) w') : wpList Try.prog ops Q (o :: rest) a w := by
  refine wpList_plain hg fun K hK' => ?_
  have hrun : (Instr.buildSlice 28 1 #[(0, .agg bn.cs.toArray)]).run Try.prog w = .ok (.slice (some ⟨w.heap.size, 0, none⟩) 1 1) (w.alloc (.cells bn.cs.toArray 37)) := by kernel_rfl
  unfold Oper.wp execOp
  simp only [hop, List.map_toArray, List.map_cons, List.map_nil, hx, Sem.run_bind, Sem.run_pure, Result.andThen_ok, hrun]
  exact hK' _ _ (hK _ (Vr.new w 37 bn.cs) ((Below.refl _ _).alloc (Nat.le_refl _) _) (by simp))
theorem push_lawB (w : World) (hg : o.guard = none) (s x : Operand) (hop : o.op = .call { callee := .builtin .append, args := #[s, x], argTypes := #[28, 28] })
    (B : Nat) (hB : B ≤ w.heap.size) (v : Value) (k g : Nat) (hs : a.eval s = v) (hx : a.eval x = .slice (some ⟨g, 0, none⟩) 1 1) (hown : Ow B w v k) (hV : Vr w g bn.cs) (hn : k ≤ 1000)
    (hK : ∀ v' w', Ow B w' v' (k + 1) → Below B w w' → wpList Try.prog ops Q rest (a.put o.dst v') w') : wpList Try.prog ops Q (o :: rest) a w := by
  obtain ⟨i0, hi, hz0, hz1, hz2⟩ := info_parts (show (Try.prog.info? 37).map (fun i => (i.zero, i.size, i.bytes)) = some (some (.agg b0.cs.toArray), 9, 40) by kernel_rfl)
  refine wpList_append_own _ hg s x 28 hop B 37 i0 _ 9 40 Try.underlying28 hi hz0 hz1 hz2 rfl (by decide) v k (fl k) hs hown ⟨g, 0, none⟩ 1 1 bn.cs hx rfl (fun j u hj => ?_) bn.one (by simp only [maxLen]; omega) (by omega) hB fun v' w' O1 G1 _ => ?_
  · rw [Addr.add_lit]
    have := hV.cell j u hj
    simpa using this
  · refine hK v' w' ?_ ((Below.refl B w).grown G1 hB fun k hk => (World.ownsRow.lt hown k hk).1)
    show w'.ownsRow B 37 9 v' (k + 1) (fl (k + 1))
    rw [fl_succ]
    exact O1
end
set_option maxHeartbeats 2000000 in
theorem rnew_any (n : Nat) (w : World) (hn : n ≤ 64) : Calls Try.prog 8 #[.int .i64 n] w fun e w' => ∃ v r, e = .returned v ∧ Rr r w' v n (fun _ => bn) ∧ w.heap.size ≤ r ∧ (0 < n → r < w'.heap.size) ∧ Below w.heap.size w w' := by
  have t0 : (0 : Nat) = 0 := rfl
  go_enter Try.func8, Try.ntmps8
  go_wp2_with (have qq := t0; refine nil_lawB _ rfl rfl ?_; intro w1 O1 B1; have HO : Hid (Ow w.heap.size w1 (.slice (some ⟨w.heap.size, 0, none⟩) 0 0) 0) := O1; clear O1 t0)
  go_loopw [3, 4] (fun v i wr => ∃ k : Nat, k ≤ n ∧ i = .int .i64 k ∧ Hid (Ow w.heap.size wr v k) ∧ Below w.heap.size w wr) (fun _ i _ => n - (intOf i).toNat)
  case atStart => exact ⟨0, Nat.zero_le _, rfl, HO, B1⟩
  case round =>
    clear HO B1
    obtain ⟨k, hk, rfl, HW, hb⟩ := hrel
    have HB : Hid (Below w.heap.size w wr) := hb
    have k0 : (0 : Int) ≤ (k : Int) := by omega
    clear hb
    by_cases hlt : k < n
    · have k1 : (k : Int) < (n : Int) := by omega
      have t0 : (0 : Nat) = 0 := rfl
      go_wp2_with (have qq := t0; refine push_lawB _ rfl (.tmp 11) (.tmp 13) rfl w.heap.size (Nat.le_trans HB.out.size (by simp)) _ k wr.heap.size rfl rfl (World.ownsRow.alloc HW.out _) (Vr.new wr 37 bn.cs) (by omega) ?_; intro v3 w3 O3 B3; have HO3 : Hid (Ow w.heap.size w3 v3 (k + 1)) := O3; have BB : Hid (Below w.heap.size w w3) := (HB.out.alloc HB.out.size _).trans B3; clear O3 B3 t0)
      go_roundw
      case rel => exact ⟨k + 1, by omega, by go_num, HO3, BB.out⟩
      case measure => simp [intOf]; omega
    · have e : k = n := by omega
      subst e
      go_wp2
      go_ret
      obtain ⟨r, h1, h2, h3⟩ := ow_rr HW.out
      exact ⟨_, r, rfl, h1, h2, h3, HB.out⟩
end Go.Proofs.Ytnmofigidlmcaaa.le
