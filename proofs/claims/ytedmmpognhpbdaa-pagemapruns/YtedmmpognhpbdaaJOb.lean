/- Two maps and a row of spots of the call's own, side by side. No claim of its own. -/
import Derived.Test.YtedmmpognhpbdaaJMx
import Derived.Laws.AppendOwnNone
namespace Go.Proofs.Ytedmmpognhpbdaa.pm
open Go.RowKit Go.Proofs.Ytedmmpognhpbdaa.he
set_option maxRecDepth 20000

theorem At.set {w : World} {d q : Nat} {cs : List Value} (h : At w d q cs) (j : Nat) (hj : j < cs.length) (u : Value) : At (w.setCell ⟨d, q + j, none⟩ u) d q (cs.set j u) := by
  have hc := h.cell j _ (List.getElem?_eq_getElem hj)
  refine ⟨fun i v hv => ?_, fun i hi => ?_⟩
  · rw [List.getElem?_set] at hv
    by_cases e : j = i
    · subst e
      rw [if_pos rfl, if_pos hj] at hv
      cases hv
      exact World.cell?_setCell_same _ _ _ hc
    · rw [if_neg e] at hv
      rw [World.cell?_setCell_other _ _ _ _ (by intro q; injection q with _ q2; omega)]
      exact h.cell i v hv
  · rw [List.length_set] at hi
    refine ⟨?_, by rw [World.frozen?_setCell]; exact h.free i hi⟩
    by_cases e : j = i
    · subst e
      rw [World.cell?_setCell_same _ _ _ hc]; rfl
    · rw [World.cell?_setCell_other _ _ _ _ (by intro q; injection q with _ q2; omega), h.cell i _ (List.getElem?_eq_getElem hi)]; rfl
theorem Wrt.one (w : World) (n d q j : Nat) (hj : j < n) (u : Value) : Wrt n d q w (w.setCell ⟨d, q + j, none⟩ u) := by
  refine ⟨grown_one w d (q + j) u, fun i hi => ?_⟩
  rw [World.cell?_setCell_other _ _ _ _ (by intro e; injection e with _ e2; omega), World.frozen?_setCell]
  exact ⟨rfl, rfl⟩
theorem run_setA {w : World} {d q j : Nat} {t : TypeId} {cs : List Value} {v : Value} (hA : At w d q cs) (hj : j < cs.length) (h1 : v.oneCell' = true) (hc : v.cells = #[v]) (hi : (Try.prog.info? t).map (·.size) = some 1) : (storeVar t ⟨d, q + j, none⟩ v).run Try.prog w = .ok () (w.setCell ⟨d, q + j, none⟩ v) := by
  have hcell := hA.cell j _ (List.getElem?_eq_getElem hj)
  have hf := hA.free j hj
  have e0 : ∀ i, i < [v].length → i = 0 := fun i hi => by simpa using hi
  have := run_storeCells_cells (P := Try.prog) d (q + j) [v] 0 w (fun i hi => by rw [e0 i hi]; simp [hcell]) (fun i hi => by rw [e0 i hi]; simpa using hf) (fun z hz => by simp at hz; subst hz; exact h1)
  cases hq : Try.prog.info? t with
  | none => simp [hq] at hi
  | some i =>
    have hs : i.size = 1 := by simpa [hq] using hi
    simp only [Nat.add_zero] at this
    simp [storeVar, sizeOf, typeInfo, hq, hc, hs]
    simpa [World.setCells] using this
theorem sz_int : (Try.prog.info? 3).map (·.size) = some 1 := by kernel_rfl
section
variable {ops : Array Oper} {rest : List Oper} {o : Oper} {a : Act} {Q : Exit → Act → World → Prop}
theorem set_lawA (w : World) (hg : o.guard = none) (x y : Operand) (t : TypeId) (hop : o.op = Op.store t x y) (cs : List Value) (d q j : Nat) (v : Value) (hx : a.eval x = pq d (q + j)) (hy : a.eval y = v) (hA : At w d q cs) (hj : j < cs.length) (h1 : v.oneCell' = true) (hc : v.cells = #[v]) (hi : (Try.prog.info? t).map (·.size) = some 1)
    (hK : ∀ w', At w' d q (cs.set j v) → Wrt cs.length d q w w' → wpList Try.prog ops Q rest (a.put o.dst undef) w') : wpList Try.prog ops Q (o :: rest) a w := by
  refine wpList_plain hg fun K hK' => ?_
  unfold Oper.wp execOp
  simp only [hop, hx, hy, Instr.storeAt, Instr.sureAddr, Sem.run_bind, Sem.run_pure, Result.andThen_ok, run_setA hA hj h1 hc hi]
  exact hK' _ _ (hK _ (hA.set j hj v) (Wrt.one w _ d q j hj v))
/-- spots' cells, on1 behind the other -/
def fs (q : Nat → Sp) : Nat → List Value
  | 0 => []
  | t + 1 => fs q t ++ (q t).cs
theorem fs_len (q : Nat → Sp) : ∀ t, (fs q t).length = t * 14
  | 0 => rfl
  | t + 1 => by unfold fs; rw [List.length_append, fs_len q t]; show _ + 14 = _; omega
theorem fs_at (q : Nat → Sp) : ∀ t i j, i < t → j < 14 → (fs q t)[i * 14 + j]? = (q i).cs[j]?
  | t + 1, i, j, hi, hj => by
    unfold fs
    by_cases e : i = t
    · subst e
      rw [List.getElem?_append_right (by rw [fs_len]; omega), fs_len]
      congr 1
      omega
    · rw [List.getElem?_append_left (by rw [fs_len]; omega)]
      exact fs_at q t i j (by omega) hj
theorem row_of {B : Nat} {w : World} {g m cap : Nat} {q : Nat → Sp} (h : w.ownsRow B 37 14 (.slice (some ⟨g, 0, none⟩) m cap) m (fs q m)) : Rw 14 Sp.cs w g 0 m q ∧ B ≤ g ∧ g < w.heap.size := by
  obtain ⟨h1, h2⟩ := h
  rcases h2 with ⟨h2, _⟩ | ⟨g', cap', cur, e, hB, hb, hn, hm, hs, ht⟩
  · cases h2
  · cases e
    have hcell : ∀ t v, (fs q m)[t]? = some v → w.cell? ⟨g, t, none⟩ = some v ∧ w.frozen? ⟨g, t, none⟩ = false := fun t v hv => by
      have hlt : t < m * 14 := by have := (List.getElem?_eq_some_iff.1 hv).1; rwa [fs_len] at this
      rw [← ht, List.getElem?_take, if_pos hlt] at hv
      refine ⟨?_, ?_⟩
      · rw [cell_of_row w g t cur _ (0, 0) hb]
        simpa using hv
      · simp [World.frozen?, hb]
    refine ⟨fun i hi => ⟨fun j v hv => ?_, fun j hj => ?_⟩, hB, (Array.getElem?_eq_some_iff.1 hb).1⟩
    · have hj : j < 14 := (List.getElem?_eq_some_iff.1 hv).1
      rw [Nat.zero_add]
      exact (hcell _ v (by rw [fs_at q m i j hi hj, hv])).1
    · have hq := fs_at q m i j hi hj
      rw [List.getElem?_eq_getElem hj] at hq
      have := hcell _ _ hq
      rw [Nat.zero_add]
      exact ⟨by rw [this.1]; rfl, this.2⟩
/-- 'append([]pagemap.Spot{}, l...)' -/
theorem copy_lawS (w : World) (hg : o.guard = none) (s x : Operand) (hop : o.op = .call { callee := .builtin .append, args := #[s, x], argTypes := #[47, 47] })
    (g0 : Nat) (B : Nat) (hB : B ≤ w.heap.size) (vx : Value) (m : Nat) (q : Nat → Sp) (hs : a.eval s = .slice (some ⟨g0, 0, none⟩) 0 0) (hx : a.eval x = vx) (hown : w.ownsRow B 37 14 (.slice (some ⟨g0, 0, none⟩) 0 0) 0 []) (hq : Sls 14 Sp.cs Sw w vx m q) (hm : m ≤ 100000)
    (hK : ∀ g cap w', Rw 14 Sp.cs w' g 0 m q → B ≤ g → g < w'.heap.size → w.grownBy w' (some g0) → wpList Try.prog ops Q rest (a.put o.dst (.slice (some ⟨g, 0, none⟩) m cap)) w') : wpList Try.prog ops Q (o :: rest) a w := by
  obtain ⟨i0, hi, hz0, hz1, hz2⟩ := info_parts info_spot
  obtain ⟨ao, cap, rfl, h0, h1, _, h3⟩ := hq
  cases ao with
  | none =>
    have hc := h0 rfl
    subst hc
    have e0 : m = 0 := by
      rcases Nat.eq_zero_or_pos m with e | e
      · exact e
      · obtain ⟨b, off, e2, _⟩ := h3 e
        cases e2
    subst e0
    refine wpList_append_own_none hg s x 47 hop B 37 i0 14 Try.underlying47 hi _ 0 _ hs hown hx (hK g0 0 w (fun i hi => by omega) ?_ ?_ ⟨rfl, rfl, rfl, Nat.le_refl _, fun _ _ _ => rfl⟩)
    · exact (World.ownsRow.lt hown g0 rfl).1
    · exact (World.ownsRow.lt hown g0 rfl).2
  | some ad =>
    refine wpList_append_own _ hg s x 47 hop B 37 i0 _ 14 112 Try.underlying47 hi hz0 hz1 hz2 rfl (by decide) _ 0 [] hs hown ad m cap (fs q m) hx (fs_len q m) (fun j u hj => ?_) (fun u hu => ?_) (by simp only [maxLen]; omega) (by omega) hB fun v' w' O1 G1 N1 => ?_
    · have hjl : j < m * 14 := by have := (List.getElem?_eq_some_iff.1 hj).1; rwa [fs_len] at this
      obtain ⟨b, off, e, hc⟩ := h3 (by omega)
      cases e
      have h2 := hc (j / 14) (by omega) (j % 14) u (by
        rw [← fs_at q m (j / 14) (j % 14) (by omega) (by omega), show j / 14 * 14 + j % 14 = j by omega]
        exact hj)
      rw [Addr.add_mid]
      rwa [show off + j / 14 * 14 + j % 14 = off + j by omega] at h2
    · have : ∀ t, u ∈ fs q t → u.oneCell' = true := by
        intro t
        induction t with
        | zero => intro h; simp [fs] at h
        | succ t ih =>
          intro h
          unfold fs at h
          rcases List.mem_append.1 h with h | h
          · exact ih h
          · exact (q t).one u h
      exact this m hu
    · rw [Nat.zero_add, List.nil_append] at O1
      have O2 := O1
      obtain ⟨_, q2⟩ := O2
      rcases q2 with ⟨e, _⟩ | ⟨g', cap', cur, e, _⟩
      · have := (N1.1 e).1
        cases this
      · subst e
        have r := row_of O1
        exact hK g' cap' w' r.1 r.2.1 r.2.2 G1
end
theorem nil_rowS (w : World) : ∀ w', w' = w.alloc (.cells #[] 37) → w'.ownsRow w.heap.size 37 14 (.slice (some ⟨w.heap.size, 0, none⟩) 0 0) 0 [] := fun w' e => by
  rw [e]
  exact ⟨rfl, .inr ⟨w.heap.size, 0, #[], rfl, Nat.le_refl _, heap_alloc_last w _, Nat.le_refl _, by simp [maxLen], rfl, rfl⟩⟩
/-- '[]pagemap.Spot{}' -/
theorem nil_lawS {ops : Array Oper} {rest : List Oper} {o : Oper} {a : Act} {Q : Exit → Act → World → Prop} (w : World) (hg : o.guard = none) (hop : o.op = Op.buildSlice 47 0 #[])
    (hK : ∀ w', w'.ownsRow w.heap.size 37 14 (.slice (some ⟨w.heap.size, 0, none⟩) 0 0) 0 [] → Below w.heap.size w w' → wpList Try.prog ops Q rest (a.put o.dst (.slice (some ⟨w.heap.size, 0, none⟩) 0 0)) w') : wpList Try.prog ops Q (o :: rest) a w := by
  refine wpList_plain hg fun K hK' => ?_
  have hrun : (Instr.buildSlice 47 0 #[]).run Try.prog w = .ok (.slice (some ⟨w.heap.size, 0, none⟩) 0 0) (w.alloc (.cells #[] 37)) := by kernel_rfl
  unfold Oper.wp execOp
  simp only [hop, List.map_toArray, List.map_nil, Sem.run_bind, Sem.run_pure, Result.andThen_ok, hrun]
  exact hK' _ _ (hK _ (nil_rowS w _ rfl) ((Below.refl _ _).alloc (Nat.le_refl _) _))
/-- a spot of namespace 1 -/
def sn (x : Sp) : Sp := { x with h := { x.h with n := 1 } }
theorem sn_set (x : Sp) : x.cs.set 3 (.int .i64 1) = (sn x).cs := rfl
/-- the whole -/
structure Ob (w wr : World) (ca Da ba cb Db bb g n m : Nat) (q r : Nat → Sp) (S T : Nat → Prop) (f h : Nat → Nat → Sp) : Prop where
  A : Ab wr ca Da ba n m q S f
  B : Ab wr cb Db bb n m q T h
  R : Rw 14 Sp.cs wr g 0 m r
  bl : Below w.heap.size w wr
  la : ∀ k, Own4 ca (on1 Da) (on1 n) (some ba) k → w.heap.size ≤ k ∧ k ≠ g
  lb : ∀ k, Own4 cb (on1 Db) (on1 n) (some bb) k → w.heap.size ≤ k ∧ k ≠ g
  di : ∀ k, Own4 ca (on1 Da) (on1 n) (some ba) k → ¬ Own4 cb (on1 Db) (on1 n) (some bb) k
  lg : w.heap.size ≤ g
section
variable {w wr w' : World} {ca Da ba cb Db bb g n m : Nat} {q r : Nat → Sp} {S T S' : Nat → Prop} {f h f' : Nat → Nat → Sp}
theorem Ab.same {c D b : Nat} (a : Ab wr c D b n m q S f) (hb : ∀ k, Own4 c (on1 D) (on1 n) (some b) k → w'.heap[k]? = wr.heap[k]?) : Ab w' c D b n m q S f := ⟨a.p.same hb, a.k, a.z⟩
theorem Rw.same {s : Nat} {α : Type} {enc : α → List Value} {d z k : Nat} {u : Nat → α} (h : Rw s enc wr d z k u) (hb : wr.heap.size ≤ w'.heap.size → w'.heap[d]? = wr.heap[d]?) (hs : wr.heap.size ≤ w'.heap.size) : Rw s enc w' d z k u := h.heap (hb hs)
theorem Ob.glt (o : Ob w wr ca Da ba cb Db bb g n m q r S T f h) (hm : 0 < m) : g < wr.heap.size := (o.R 0 hm).lt (Nat.succ_pos _)
theorem Ob.row (o : Ob w wr ca Da ba cb Db bb g n m q r S T f h) (hb : 0 < m → w'.heap[g]? = wr.heap[g]?) : Rw 14 Sp.cs w' g 0 m r := fun i hi => (o.R i hi).heap (hb (by omega))
theorem Ob.below (o : Ob w wr ca Da ba cb Db bb g n m q r S T f h) (hb : Below wr.heap.size wr w') : Ob w w' ca Da ba cb Db bb g n m q r S T f h :=
  ⟨o.A.same fun k hk => hb.block k (o.A.p.olt hk), o.B.same fun k hk => hb.block k (o.B.p.olt hk), o.row fun hm => hb.block g (o.glt hm), o.bl.trans (hb.mono o.bl.size), o.la, o.lb, o.di, o.lg⟩
theorem Ob.putA (o : Ob w wr ca Da ba cb Db bb g n m q r S T f h) (hA : Ab w' ca Da ba n m q S' f') (hc : Ch (Own4 ca (on1 Da) (on1 n) (some ba)) wr w') : Ob w w' ca Da ba cb Db bb g n m q r S' T f' h :=
  ⟨hA, o.B.same fun k hk => hc.block k (o.B.p.olt hk) (fun z => o.di k z hk), o.row fun hm => hc.block g (o.glt hm) (fun z => (o.la g z).2 rfl), o.bl.trans (hc.below o.bl.size fun k hk => (o.la k hk).1), o.la, o.lb, o.di, o.lg⟩
theorem Ob.putB (o : Ob w wr ca Da ba cb Db bb g n m q r S T f h) (hB : Ab w' cb Db bb n m q S' f') (hc : Ch (Own4 cb (on1 Db) (on1 n) (some bb)) wr w') : Ob w w' ca Da ba cb Db bb g n m q r S S' f f' :=
  ⟨o.A.same fun k hk => hc.block k (o.A.p.olt hk) (fun z => o.di k hk z), hB, o.row fun hm => hc.block g (o.glt hm) (fun z => (o.lb g z).2 rfl), o.bl.trans (hc.below o.bl.size fun k hk => (o.lb k hk).1), o.la, o.lb, o.di, o.lg⟩
theorem Ob.own (o : Ob w wr ca Da ba cb Db bb g n m q r S T f h) (t : Nat) (x : Sp) (hA : At w' g (t * 14) x.cs) (hw : Wrt 14 g (t * 14) wr w') : Ob w w' ca Da ba cb Db bb g n m q (up r t x) S T f h :=
  ⟨o.A.same fun k hk => hw.1.block k (o.A.p.olt hk) (fun e => (o.la k hk).2 (Option.some.inj e)), o.B.same fun k hk => hw.1.block k (o.B.p.olt hk) (fun e => (o.lb k hk).2 (Option.some.inj e)),
    Rw.put (s := 14) (enc := Sp.cs) (fun _ => rfl) o.R t x (by rw [Nat.zero_add]; exact hA) (by rw [Nat.zero_add]; exact hw), o.bl.trans ((Ch.of_wrt (P := fun k => k = g) hw rfl).below o.bl.size fun k hk => by rw [hk]; exact o.lg), o.la, o.lb, o.di, o.lg⟩
end
theorem eql_spot (x : Sp) (w : World) : (Op.equalIn 10000 37 (.agg x.cs.toArray) (.agg x.cs.toArray)).run Try.prog w = .ok true w := by
  unfold Sp.cs
  go_simp
end Go.Proofs.Ytedmmpognhpbdaa.pm
