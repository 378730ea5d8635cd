/- What ChunkBack asks: a record's pages, the last one committed; rows of pages that are cut. No claim of its own. -/
import Derived.Test.YtahfcpdekjdceaaDoorXKAnd
import Derived.Test.YtahfcpdekjdceaaDoorPackL
namespace Go.Proofs.YtahfcpdekjdceaaDoor.ck
open Go.RowKit Go.Proofs.YtahfcpdekjdceaaDoor.fa Go.Proofs.YtahfcpdekjdceaaDoor.he Go.Proofs.YtahfcpdekjdceaaDoor.pa
set_option maxRecDepth 20000

theorem and_marks {C mk : List Int} (hC : AllB C) (h2 : mk.length = 8) : fa.andl (C ++ mk) (List.replicate C.length 255 ++ List.replicate 8 0) = C ++ List.replicate 8 0 := by
  refine ext_gb (by rw [fa.andl_len]; simp [h2]) fun t ht => ?_
  rw [fa.andl_len] at ht
  rw [fa.andl_gb _ _ t ht, gb_appL, gb_appL, gb_appL, List.length_replicate]
  simp only [List.length_append, h2] at ht
  by_cases q : t < C.length
  · have b := hC t
    rw [if_pos q, if_pos q, if_pos q, gb_repl _ _ _ q, show (255 : Int).toNat = 255 from rfl, and255 _ (by omega)]
    omega
  · rw [if_neg q, if_neg q, if_neg q, gb_repl _ _ _ (by omega), show (0 : Int).toNat = 0 from rfl, Nat.and_zero]; rfl
theorem pgk_and {S i : Nat} {xs : List Int} {gen : Int} (h1 : 32 ≤ S) (h2 : S ≤ 4096) (hl : xs.length = 624) (hi : i < nc S) (ha : AllB xs) : andl (P255 S xs gen i) (he.mark (S + 88)) = pgk S xs gen (List.replicate 8 0) i := by
  obtain ⟨C, hC⟩ : ∃ C, C = sec S xs i ++ (hb 4 (i : Int) 0 (nc S : Int) gen 0 ++ (inv (hb 4 (i : Int) 0 (nc S : Int) gen 0) ++ List.replicate 32 255)) := ⟨_, rfl⟩
  have e : ∀ mk, pgk S xs gen mk i = C ++ mk := fun mk => by rw [hC]; simp [pgk, kend, hend]
  have hlen : C.length = S + 80 := by
    have := pgk_len (gen := gen) (mk := List.replicate 8 0) h1 h2 hl hi (by simp)
    rw [e, List.length_append, List.length_replicate] at this
    omega
  have hall : AllB C := by
    have := pgk_all (gen := gen) (mk := List.replicate 8 0) h1 h2 hi ha (allB_replicate 0 _ (by omega))
    rw [e] at this
    have q := allB_take this C.length
    rwa [List.take_left] at q
  unfold P255
  rw [e, e]
  have z := and_marks (mk := List.replicate 8 255) hall (by simp)
  rw [hlen] at z
  unfold he.mark
  rw [show S + 88 - 8 = S + 80 by omega]
  exact z
/-- own pages in an own row, from block g on -/
def PgB (B : Nat) (w : World) (g cap N : Nat) (vs : List Value) (F : Nat → List Int) : Prop := OwnR B w (.slice (some ⟨g, 0, none⟩) N cap) vs ∧ vs.length = N ∧ ∀ i, i < N → Own B w (vs.getD i undef) (F i)
theorem PgB.below {B : Nat} {w w' : World} {g cap N : Nat} {vs : List Value} {F : Nat → List Int} (h : PgB B w g cap N vs F) (hb : Below w.heap.size w w') : PgB B w' g cap N vs F := ⟨h.1.below hb, h.2.1, fun i hi => own_low (h.2.2 i hi) hb⟩
theorem PgB.vr {B : Nat} {w : World} {g cap N : Nat} {vs : List Value} {F : Nat → List Int} (h : PgB B w g cap N vs F) (hn : 0 < N) : Vr w g vs ∧ B ≤ g := by
  obtain ⟨g', cap', e, h1, h2, -⟩ := ownr_vr h.1 (by rw [h.2.1]; exact hn)
  cases e
  exact ⟨h2, h1⟩
theorem PgB.pgs {B : Nat} {w : World} {g cap N : Nat} {vs : List Value} {F : Nat → List Int} (h : PgB B w g cap N vs F) (ha : ∀ i, i < N → AllB (F i)) : Pgs w (.slice (some ⟨g, 0, none⟩) N cap) (fl F N) :=
  Pgk.pgs (B := B) ⟨vs, h.1, h.2.1, h.2.2⟩ ha
/-- pages in a row in block g -/
def PgV (w : World) (g N : Nat) (cs : List Value) (F : Nat → List Int) : Prop := Vr w g cs ∧ cs.length = N ∧ ∀ i, i < N → Byt w (cs.getD i undef) (F i)
theorem PgV.below {w w' : World} {g N : Nat} {cs : List Value} {F : Nat → List Int} (h : PgV w g N cs F) (hn : 0 < N) (hb : Below w.heap.size w w') : PgV w' g N cs F :=
  ⟨h.1.below hb (range_lt h.1.1 (by rw [h.2.1]; exact hn)), h.2.1, fun i hi => (h.2.2 i hi).below hb⟩
theorem vals_vr {w : World} {g cap : Nat} {cs : List Value} (h : Vr w g cs) (l k : Nat) (hk : l + k ≤ cs.length) (hc : k ≤ cap) (hm : cap ≤ 9223372036854775807) : Vals w (.slice (some ⟨g, l, none⟩) k cap) ((cs.drop l).take k) := by
  have hl : ((cs.drop l).take k).length = k := by simp; omega
  refine ⟨some ⟨g, l, none⟩, cap, by rw [hl], by rw [hl]; exact hc, hm, (by intro e; cases e), fun _ => ⟨g, l, rfl, fun t ht => ?_⟩⟩
  rw [hl] at ht
  refine h.cell (l + t) _ ?_
  rw [List.getD_eq_getElem?_getD, List.getElem?_take, if_pos ht, List.getElem?_drop, List.getElem?_eq_getElem (by omega)]
  rfl
theorem PgV.pgs {w : World} {g N cap : Nat} {cs : List Value} {F : Nat → List Int} (h : PgV w g N cs F) (hc : N ≤ cap) (hm : cap ≤ 9223372036854775807) : Pgs w (.slice (some ⟨g, 0, none⟩) N cap) (fl F N) := by
  have z := vals_vr h.1 0 N (by rw [h.2.1]; omega) hc hm
  rw [List.drop_zero, List.take_of_length_le (by rw [h.2.1]; exact Nat.le_refl _)] at z
  refine ⟨cs, z, by rw [h.2.1, fl_len], fun i hi => ?_⟩
  rw [fl_len] at hi
  rw [fl_at F N i hi]
  exact h.2.2 i hi
/-- one page of the row is another -/
theorem pgb_set {B B' : Nat} {w : World} {g cap N M : Nat} {vs : List Value} {F : Nat → List Int} {av : Value} {C : List Int} (h : PgB B w g cap N vs F) (hn : 0 < N) (ha : ∀ i, i < N → AllB (F i)) (hM : M < N) (hv : Own B' w av C) (hC : AllB C) : PgV (w.setCell ⟨g, M, none⟩ av) g N (vs.set M av) (fun i => if i = M then C else F i) := by
  have hV := (h.vr hn).1
  refine ⟨hV.set M (by rw [h.2.1]; exact hM) av, by rw [List.length_set, h.2.1], fun i hi => ?_⟩
  show Byt _ _ (if i = M then C else F i)
  by_cases e : i = M
  · subst e
    rw [if_pos rfl, List.getD_eq_getElem?_getD, List.getElem?_set_self (by rw [h.2.1]; exact hM)]
    exact (own_row_set hv h.1 rfl).byt hC
  · rw [if_neg e, List.getD_eq_getElem?_getD, List.getElem?_set_ne (fun q => e q.symm), ← List.getD_eq_getElem?_getD]
    exact (own_row_set (h.2.2 i hi) h.1 rfl).byt (ha i hi)
theorem pgb_sle {B : Nat} {w : World} {g cap N M : Nat} {vs : List Value} {F : Nat → List Int} {av : Value} (h : PgB B w g cap N vs F) (hv : Sle av) : ∀ u ∈ vs.set M av, Sle u := fun u hu => by
  rcases List.mem_or_eq_of_mem_set hu with q | q
  · obtain ⟨i, hi, rfl⟩ := List.getElem_of_mem q
    have z := own_sle (h.2.2 i (by have := h.2.1; omega))
    rw [List.getD_eq_getElem?_getD, List.getElem?_eq_getElem hi] at z
    exact z
  · rw [q]; exact hv
section
variable {ev : Operand → Value} {o : Oper}
theorem exec_toR (s x : Operand) (hop : o.op = Op.slice 26 s none (some x) none) (b off n cap h : Nat) (hs : ev s = .slice (some ⟨b, off, none⟩) n cap) (hx : ev x = .int .i64 (h : Int)) (hh : h ≤ cap) (w : World) : (execOp ev o).run Tryd.prog w = .ok (.value (.slice (some ⟨b, off, none⟩) h cap)) w := by
  have hrun := run_rows_to w b off n cap h hh
  simp [execOp, hop, hs, hx, run_sliceAt_slice w 26 _ _ _ _ und_rows, hrun, Result.andThen]
/-- 'rows[l:]', as a value -/
def frm (b off n cap l : Nat) : Value := .slice (if cap = l then some ⟨b, off, none⟩ else some ⟨b, off + l, none⟩) (n - l) (cap - l)
theorem exec_fromR (s x : Operand) (hop : o.op = Op.slice 26 s (some x) none none) (b off n cap l : Nat) (hs : ev s = .slice (some ⟨b, off, none⟩) n cap) (hx : ev x = .int .i64 (l : Int)) (hl : l ≤ n) (w : World) : (execOp ev o).run Tryd.prog w = .ok (.value (frm b off n cap l)) w := by
  have hrun := run_slice_l (P := Tryd.prog) w 26 (some ⟨b, off, none⟩) n cap und_rows .i64 (l : Int) (by omega) (by omega)
  rw [elem_rows, run_size_rows] at hrun
  have e : sliced (some ⟨b, off, none⟩) l n cap 1 = frm b off n cap l := by
    unfold sliced frm
    rw [Nat.mul_one, show Option.map (fun x => Addr.add x l) (some (⟨b, off, none⟩ : Addr)) = some ⟨b, off + l, none⟩ by simp [Addr.add]]
  simp [execOp, hop, hs, hx, run_sliceAt_slice w 26 _ _ _ _ und_rows, hrun, Result.andThen, e]
end
section
variable {ev : Operand → Value} {o : Oper}
theorem exec_lenK (x : Operand) (hop : o.op = .call { callee := .builtin .len, args := #[x], argTypes := #[24] }) (ao : Option Addr) (n c : Nat) (hx : ev x = .slice ao n c) (w : World) : (execOp ev o).run Tryd.prog w = .ok (.value (.int .i64 (n : Int))) w := by
  simp [execOp, hop, resolve, invoke, builtin, hx, Result.andThen]
  rfl
theorem exec_neqK (x y : Operand) (hop : o.op = Op.binOp .neq 3 x y 3) (A B : Int) (hx : ev x = .int .i64 A) (hy : ev y = .int .i64 B) (b : Bool) (hb : (A != B) = b) (w : World) : (execOp ev o).run Tryd.prog w = .ok (.value (.bool b)) w := by
  subst hb
  unfold execOp
  simp only [hop, hx, hy]
  rfl
end
theorem step_loadK {ops : Array Oper} {o : Oper} {a : Act} {Q : Exit → Act → World → Prop} {K : Act → World → Prop} {E : Prop} (w : World) (hg : o.guard = none) (d : Option Tmp) (hd : o.dst = d) (t : TypeId) (ht : One t) (x : Operand) (hop : o.op = Op.load t x) (b p : Nat) (v : Value) (hx : a.eval x = .pointer (some ⟨b, p, none⟩)) (hc : w.cell? ⟨b, p, none⟩ = some v) (hK : K (a.put d v) w) : if Region.wanted o (yielded ops a.tmps) = true then Oper.wp Tryd.prog o a w K Q else E := by
  have hw : Region.wanted o (yielded ops a.tmps) = true := by simp [Region.wanted, hg]
  rw [if_pos hw]
  subst hd
  unfold Oper.wp
  rw [exec_loadN t x hop _ hx v w (load_one ht hc)]
  exact hK
theorem vals_frm {w : World} {g n cap l : Nat} {cs : List Value} (h : Vr w g cs) (hn : cs.length = n) (hl : l ≤ n) (hc : n ≤ cap) (hm : cap ≤ 9223372036854775807) : Vals w (frm g 0 n cap l) (cs.drop l) := by
  have hlen : (cs.drop l).length = n - l := by simp [hn]
  unfold frm
  by_cases e : cap = l
  · rw [if_pos e]
    have z : n - l = 0 := by omega
    exact ⟨_, _, by rw [hlen], by rw [hlen]; omega, by omega, (by intro q; cases q), fun hp => by rw [hlen] at hp; omega⟩
  · rw [if_neg e]
    have z := vals_vr (cap := cap - l) h l (n - l) (by omega) (by omega) (by omega)
    rw [List.take_of_length_le (by rw [hlen]; exact Nat.le_refl _)] at z
    rwa [Nat.zero_add]
theorem step_setR {ops : Array Oper} {o : Oper} {a : Act} {Q : Exit → Act → World → Prop} {K : Act → World → Prop} {E : Prop} (w : World) (hg : o.guard = none) (d : Option Tmp) (hd : o.dst = d) (x y : Operand) (t : TypeId) (hop : o.op = Op.store t x y) (cs : List Value) (c j : Nat) (v : Value) (hx : a.eval x = .pointer (some ⟨c, j, none⟩)) (hy : a.eval y = v) (hV : Vr w c cs) (hj : j < cs.length) (h1 : v.oneCell' = true) (hc : v.cells = #[v]) (hi : (Tryd.prog.info? t).map (·.size) = some 1)
    (hK : K (a.put d undef) (w.setCell ⟨c, j, none⟩ v)) : if Region.wanted o (yielded ops a.tmps) = true then Oper.wp Tryd.prog o a w K Q else E := by
  have hw : Region.wanted o (yielded ops a.tmps) = true := by simp [Region.wanted, hg]
  rw [if_pos hw]
  subst hd
  have hcell := hV.cell j _ (List.getElem?_eq_getElem hj)
  have hf := hV.free j hj
  have hr : (storeVar t ⟨c, j, none⟩ v).run Tryd.prog w = .ok () (w.setCell ⟨c, j, none⟩ v) := by
    have e0 : ∀ i, i < [v].length → i = 0 := fun i hi => by simpa using hi
    have := run_storeCells_cells (P := Tryd.prog) c j [v] 0 w (fun i hi => by rw [e0 i hi]; simp [hcell]) (fun i hi => by rw [e0 i hi]; simpa using hf) (fun z hz => by simp at hz; subst hz; exact h1)
    cases hq : Tryd.prog.info? t with
    | none => simp [hq] at hi
    | some i =>
      have hs : i.size = 1 := by simpa [hq] using hi
      simp only [Nat.add_zero] at this
      simp [storeVar, sizeOf, typeInfo, hq, hc, hs]
      simpa [World.setCells] using this
  unfold Oper.wp execOp
  simp only [hop, hx, hy, Instr.storeAt, Instr.sureAddr, Sem.run_bind, Sem.run_pure, Result.andThen_ok, hr]
  exact hK
end Go.Proofs.YtahfcpdekjdceaaDoor.ck
