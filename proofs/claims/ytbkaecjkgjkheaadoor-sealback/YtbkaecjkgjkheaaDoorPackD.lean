/- Texts put together (a claim holds few files). No claim of its own. -/
import Derived.Test.YtbkaecjkgjkheaaDoorPackC
import Derived.Deep.RegionHeld3
import Derived.Test.YtbkaecjkgjkheaaDoorPackB
import Derived.Test.YtbkaecjkgjkheaaDoorPackA
/- One law a kind of operation, in a region that draws its order: a call, a new array, a copy, a store; and, in a class of worlds, the address of an array's element, a slice of an array. No claim of its own. -/
namespace Go.Proofs.YtbkaecjkgjkheaaDoor
open Go.RowKit
set_option maxRecDepth 20000

theorem OwnN.arG {B : Nat} {w : World} {g n : Nat} {xs : List Int} (h : OwnN B w g n xs) : Ar w g 0 .u8 xs := Ar.mk fun i hi => by
  have hl := h.1
  rw [Nat.zero_add]
  exact ⟨h.cell (by omega), h.free i⟩
/-- bytes in a row, as a slice of just them -/
theorem Ar.bytG {w : World} {b p : Nat} {xs : List Int} (h : Ar w b p .u8 xs) (ha : AllB xs) (n c : Nat) (hn : xs.length = n) (hc : n ≤ c) (hm : c ≤ 9223372036854775807) : Byt w (.slice (some ⟨b, p, none⟩) n c) xs :=
  ⟨some ⟨b, p, none⟩, c, by rw [hn], by omega, hm, ha, (by intro h; cases h), fun _ => ⟨b, p, rfl, fun t ht => h.cell t ht⟩⟩
/-- a part of a row -/
theorem Ar.subG {w : World} {b o : Nat} {k : IntKind} {xs : List Int} (h : Ar w b o k xs) (s : Nat) (ys : List Int) (hl : s + ys.length ≤ xs.length) (hg : ∀ t, t < ys.length → gb ys t = gb xs (s + t)) : Ar w b (o + s) k ys := Ar.mk fun i hi => by
  rw [Nat.add_assoc, hg i hi]
  exact ⟨h.cell (s + i) (by omega), h.free (s + i) (by omega)⟩

theorem run_copyG (w : World) (b p dl dc : Nat) (ao : Option Addr) (ys : List Int) (cap : Nat) (ty : TypeId) (h5 : 0 < ys.length → ∃ b off, ao = some ⟨b, off, none⟩ ∧ ∀ t, t < ys.length → w.cell? ⟨b, off + t, none⟩ = some (.int .u8 (gb ys t))) (ht : w.there b p (min ys.length dl)) :
    (Builtin.copy_ #[22, 22] ty #[.slice (some ⟨b, p, none⟩) dl dc, .slice ao ys.length cap]).run Tryd.prog w = .ok (.int .i64 ((min ys.length dl : Nat) : Int)) (w.setCells b p ((ys.take dl).map (Value.int .u8))) := by
  obtain ⟨i0, hi, hz0, hz1, hz2⟩ := info_parts info_u8
  have hs : (Tryd.prog.info? 5).map (·.size) = some 1 := by rw [hi]; simp [hz1]
  by_cases hz : min ys.length dl = 0
  · have := run_copy_none (P := Tryd.prog) w 22 22 ty 5 (some ⟨b, p, none⟩) ao dl dc ys.length cap Tryd.underlying22 hs hz
    rw [this, hz]
    have : ys.take dl = [] := by
      rcases Nat.eq_zero_or_pos dl with h | h
      · subst h; simp
      · have : ys = [] := List.eq_nil_of_length_eq_zero (by omega)
        subst this; simp
    rw [this]; rfl
  · obtain ⟨b', off, rfl, hc⟩ := h5 (by omega)
    have hlen : ((ys.take dl).map (Value.int .u8)).length = min ys.length dl := by simp; omega
    have := run_copy_cells (P := Tryd.prog) w 22 22 ty 5 b p dl dc ⟨b', off, none⟩ ys.length cap ((ys.take dl).map (Value.int .u8)) Tryd.underlying22 hs hlen (fun j u hj => by
      have hj' : j < min ys.length dl := by rw [← hlen]; exact (List.getElem?_eq_some_iff.1 hj).1
      rw [Addr.add_mid, hc j (by omega), ← hj]
      simp [gb, List.getD, show j < dl by omega, show j < ys.length by omega]) (fun j hj => (ht j (by rw [← hlen]; exact hj)).1) (fun j hj => (ht j (by rw [← hlen]; exact hj)).2) (fun u hu => by
      simp only [List.mem_map] at hu
      obtain ⟨x, _, rfl⟩ := hu
      rfl)
    rw [this, hlen]; rfl

/-- as many cells are there -/
theorem thereG {w : World} {b : Nat} {k : IntKind} {xs : List Int} (h : Ar w b 0 k xs) (p n : Nat) (hl : p + n ≤ xs.length) : w.there b p n := fun j hj => by
  have := h.2 (p + j) (by omega)
  rwa [Nat.zero_add] at this
theorem Ar.layG {w : World} {b : Nat} {xs : List Int} (h : Ar w b 0 .u8 xs) (p : Nat) (ys : List Int) (hl : p + ys.length ≤ xs.length) : Ar (w.setCells b p (ys.map (Value.int .u8))) b 0 .u8 (laid xs p ys) := by
  have := h.lay p ys hl
  rwa [Nat.zero_add] at this

section
variable {ops : Array Oper} {o : Oper} {a : Act} {Q : Exit → Act → World → Prop} {K : Act → World → Prop} {E : Prop}

/-- 'copy(d, s)' of as many bytes as d has room for, into the middle of an array; the world gets a name -/
theorem step_copyG (w : World) (hg : o.guard = none) (d : Option Tmp) (hd : o.dst = d) (x y : Operand) (hop : o.op = .call { callee := .builtin .copy, args := #[x, y], argTypes := #[22, 22] })
    (b p n dc : Nat) (v : Value) (xs ys : List Int) (hx : a.eval x = .slice (some ⟨b, p, none⟩) n dc) (hy : a.eval y = v) (hb : Byt w v ys) (hA : Ar w b 0 .u8 xs) (hn : ys.length = n) (hl : p + n ≤ xs.length)
    (hK : ∀ w', Ar w' b 0 .u8 (laid xs p ys) → Below b w w' → K (a.put d (.int .i64 (n : Int))) w') :
    if Region.wanted o (yielded ops a.tmps) = true then Oper.wp Tryd.prog o a w K Q else E := by
  have hw : Region.wanted o (yielded ops a.tmps) = true := by simp [Region.wanted, hg]
  rw [if_pos hw]
  subst hd
  obtain ⟨ao, cap, rfl, h1, h2, h3, h4, h5⟩ := hb
  have e : min ys.length n = n := by omega
  have hrun := run_copyG w b p n dc ao ys cap o.type h5 (by rw [e]; exact thereG hA p n hl)
  rw [e, List.take_of_length_le (by omega)] at hrun
  unfold Oper.wp execOp
  simp only [hop, resolve, invoke, builtin, Sem.run_bind, Sem.run_pure, Result.andThen_ok, List.map_toArray, List.map_cons, List.map_nil, hx, hy, hrun]
  exact hK _ (hA.layG p ys (by omega)) (below_cells _ (Nat.le_refl _) _ _ (Below.refl _ _))

/-- a call -/
theorem step_callG (w : World) (hg : o.guard = none) (d : Option Tmp) (hd : o.dst = d) (f : FuncId) (args : Array Operand) (ats : Array TypeId) (hop : o.op = .call { callee := .value (.func f), args := args, argTypes := ats })
    (hcf : ∀ (q : Array Value) (w : World), (callFunc f q).run Tryd.prog w = .ok (.enter f q) w) (vs : Array Value) (hx : args.map a.eval = vs) (R : Value → World → Prop) (hc : Calls Tryd.prog f vs w fun e w' => ∃ v, e = .returned v ∧ R v w') (hK : ∀ v w', R v w' → K (a.put d v) w') : if Region.wanted o (yielded ops a.tmps) = true then Oper.wp Tryd.prog o a w K Q else E := by
  have hw : Region.wanted o (yielded ops a.tmps) = true := by simp [Region.wanted, hg]
  rw [if_pos hw]
  subst hd
  subst hx
  unfold Oper.wp
  simp only [execOp, hop]
  go_simp
  refine hc.mono ?_
  rintro e w' ⟨v, rfl, hr⟩
  exact hK v w' hr
/-- a call that hands back one value -/
theorem step_callD (w : World) (hg : o.guard = none) (d : Option Tmp) (hd : o.dst = d) (f : FuncId) (args : Array Operand) (ats : Array TypeId) (hop : o.op = .call { callee := .value (.func f), args := args, argTypes := ats })
    (hcf : ∀ (q : Array Value) (w : World), (callFunc f q).run Tryd.prog w = .ok (.enter f q) w) (vs : Array Value) (hx : args.map a.eval = vs) (v : Value) (R : World → Prop) (hc : Calls Tryd.prog f vs w fun e w' => e = .returned v ∧ R w') (hK : ∀ w', R w' → K (a.put d v) w') : if Region.wanted o (yielded ops a.tmps) = true then Oper.wp Tryd.prog o a w K Q else E := by
  have hw : Region.wanted o (yielded ops a.tmps) = true := by simp [Region.wanted, hg]
  rw [if_pos hw]
  subst hd
  subst hx
  unfold Oper.wp
  simp only [execOp, hop]
  go_simp
  refine hc.mono ?_
  rintro e w' ⟨rfl, hr⟩
  exact hK w' hr
/-- a new array of noughts -/
theorem step_newG (w : World) (hg : o.guard = none) (d : Option Tmp) (hd : o.dst = d) (t : TypeId) (hop : o.op = Op.alloc t) (k : IntKind) (xs : List Int) (hz : (Tryd.prog.info? t).map (fun i => (i.zero, i.size)) = some (some (.agg (ints k xs)), xs.length))
    (hK : ∀ w', Ar w' w.heap.size 0 k xs → Below w.heap.size w w' → w.heap.size < w'.heap.size → K (a.put d (.pointer (some ⟨w.heap.size, 0, none⟩))) w') :
    if Region.wanted o (yielded ops a.tmps) = true then Oper.wp Tryd.prog o a w K Q else E := by
  have hw : Region.wanted o (yielded ops a.tmps) = true := by simp [Region.wanted, hg]
  rw [if_pos hw]
  subst hd
  have hz' := (zero_of_info hz).1
  unfold Oper.wp
  simp [execOp, hop, Instr.alloc, hz', newVar, newRow, Value.cells, Result.andThen]
  exact hK _ (Ar.new w t k xs) ((Below.refl _ _).alloc (Nat.le_refl _) _) (by simp)
/-- a whole array is written -/
theorem step_storeG (w : World) (hg : o.guard = none) (d : Option Tmp) (hd : o.dst = d) (x y : Operand) (t : TypeId) (hop : o.op = Op.store t x y) (k : IntKind) (xs ys : List Int) (b : Nat) (hx : a.eval x = .pointer (some ⟨b, 0, none⟩)) (hy : a.eval y = .agg (ints k ys))
    (hA : Ar w b 0 k xs) (n : Nat) (hi : (Tryd.prog.info? t).map (·.size) = some n) (hl : xs.length = n) (hn : ys.length = n)
    (hK : ∀ w', Ar w' b 0 k ys → Below b w w' → K (a.put d undef) w') :
    if Region.wanted o (yielded ops a.tmps) = true then Oper.wp Tryd.prog o a w K Q else E := by
  have hw : Region.wanted o (yielded ops a.tmps) = true := by simp [Region.wanted, hg]
  rw [if_pos hw]
  subst hd
  have ht : w.there b 0 ys.length := by rw [hn, ← hl]; exact hA.2
  refine wp_store_mid t x y hop b 0 (ints k ys) hx hy (by rw [ints_size]; exact ht) (by rw [hi, ints_size, hn]) (ints_one k ys) ?_
  rw [ints_toList]
  exact hK _ (Ar.whole ht) (below_cells _ (Nat.le_refl _) _ _ (Below.refl _ _))
/-- a value is laid in a slot -/
theorem step_movG (w : World) (hg : o.guard = none) (d : Option Tmp) (hd : o.dst = d) (x : Operand) (hop : o.op = Op.assign x) (v : Value) (hx : a.eval x = v)
    (hK : K (a.put d v) w) : if Region.wanted o (yielded ops a.tmps) = true then Oper.wp Tryd.prog o a w K Q else E := by
  have hw : Region.wanted o (yielded ops a.tmps) = true := by simp [Region.wanted, hg]
  rw [if_pos hw]
  subst hd
  unfold Oper.wp execOp
  simp only [hop, hx, Sem.run_pure]
  exact hK
end

/-- an operation that is taken first, its slot written out -/
theorem take_lawG {ops : Array Oper} {Q : Exit → Act → World → Prop} (i : Nat) {oi : Oper} (d : Option Tmp) (v : Value) {fuel : Nat} {listed : Array Bool} {a : Act} {w : World} (hi : ops[i]? = some oi) (hd : oi.dst = d)
    (hs : Region.noSelect ops = true) (hf : Region.free .any ops listed i = true) (hr : (Region.ready .any ops listed).contains i = true)
    (hQ : ∀ c a w, Q (.panic c) (a.put d v) w → Q (.panic c) a w) (hy : Yields Tryd.prog ops oi v a)
    (h : wpAny Tryd.prog .any ops Q fuel (listed.setIfInBounds i true) (a.put d v) w) : wpAny Tryd.prog .any ops Q (fuel + 1) listed a w := by
  subst hd
  exact wpAny_take hi hs hf hr hQ hy h
/-- the same of one that reads, in a class of worlds -/
theorem take_lawH {ops : Array Oper} {Q : Exit → Act → World → Prop} {S : World → Prop} (i : Nat) {oi : Oper} (d : Option Tmp) (v : Value) {fuel : Nat} {listed : Array Bool} {a : Act} {w : World} (hi : ops[i]? = some oi) (hd : oi.dst = d)
    (hs : Region.noSelect ops = true) (hf : Region.free .any ops listed i = true) (hr : (Region.ready .any ops listed).contains i = true)
    (hQ : ∀ c a w, Q (.panic c) (a.put d v) w → Q (.panic c) a w) (hy : YieldsIf Tryd.prog ops S oi v a) (hS : S w)
    (h : wpAnyH Tryd.prog .any ops Q S fuel (listed.setIfInBounds i true) (a.put d v) w) : wpAnyH Tryd.prog .any ops Q S (fuel + 1) listed a w := by
  subst hd
  exact wpAnyH_take hi hs hf hr hQ hy hS h

section
variable {ops : Array Oper} {C : World → Prop} {K : Act → Prop} {o : Oper} {a : Act}
/-- the address of an array's element -/
theorem q_idxA (hw : Region.wanted o (yielded ops a.tmps) = true) (d : Option Tmp) (hd : o.dst = d) (x y : Operand) (t : TypeId) (hop : o.op = Op.indexAddr t x y) (b p q n s i : Nat) (hu : Tryd.prog.underlying t = some (.array (Tryd.prog.arrayLen t) (Tryd.prog.elem t))) (hn : Tryd.prog.arrayLen t = n) (hs : (Tryd.prog.info? (Tryd.prog.elem t)).map (·.size) = some s)
    (hx : a.eval x = .pointer (some ⟨b, p, none⟩)) (hy : a.eval y = .int .i64 (i : Int)) (hi : i < n) (hq : q = p + i * s)
    (hK : K (a.put d (.pointer (some ⟨b, q, none⟩)))) :
    if Region.wanted o (yielded ops a.tmps) = true then o.quiet Tryd.prog a C K else K (a.put o.dst undef) := by
  refine q_val hw d hd _ (fun w _ => ?_) hK
  subst hq
  have hsz : (sizeOf (Tryd.prog.elem t)).run Tryd.prog w = .ok s w := by
    cases hqq : Tryd.prog.info? (Tryd.prog.elem t) with
    | none => simp [hqq] at hs
    | some i0 =>
      have : i0.size = s := by simpa [hqq] using hs
      simp [sizeOf, typeInfo, hqq, this]
  have hr : (Instr.indexAt t (.pointer (some ⟨b, p, none⟩)) (.int .i64 (i : Int))).run Tryd.prog w = .ok (.pointer (some ⟨b, p + i * s, none⟩)) w := by
    rw [run_indexAt_array _ _ _ _ _ hu, if_pos (by omega), hsz]
    simp [Result.andThen, Addr.add]
  unfold execOp
  simp only [hop, hx, hy, Sem.run_bind, Sem.run_pure, Result.andThen_ok, hr]
/-- 'x[:]' of an array -/
theorem q_allA (hw : Region.wanted o (yielded ops a.tmps) = true) (d : Option Tmp) (hd : o.dst = d) (x : Operand) (t : TypeId) (hop : o.op = Op.slice t x none none none) (b p n : Nat) (hu : Tryd.prog.underlying t = some (.array (Tryd.prog.arrayLen t) (Tryd.prog.elem t))) (hn : Tryd.prog.arrayLen t = n) (hs : (Tryd.prog.info? (Tryd.prog.elem t)).map (·.size) = some 1)
    (hx : a.eval x = .pointer (some ⟨b, p, none⟩))
    (hK : K (a.put d (.slice (some ⟨b, p, none⟩) n n))) :
    if Region.wanted o (yielded ops a.tmps) = true then o.quiet Tryd.prog a C K else K (a.put o.dst undef) := by
  refine q_val hw d hd _ (fun w _ => ?_) hK
  have hsz : (sizeOf (Tryd.prog.elem t)).run Tryd.prog w = .ok 1 w := by
    cases hqq : Tryd.prog.info? (Tryd.prog.elem t) with
    | none => simp [hqq] at hs
    | some i0 =>
      have : i0.size = 1 := by simpa [hqq] using hs
      simp [sizeOf, typeInfo, hqq, this]
  have hrun := run_sliceAt_array_all (P := Tryd.prog) w t ⟨b, p, none⟩ hu
  rw [hsz, hn] at hrun
  have hv : slicedAt ⟨b, p, none⟩ 0 n n 1 = .slice (some ⟨b, p, none⟩) n n := by
    unfold slicedAt
    rw [Nat.zero_mul, Addr.add_mid]
    simp
  simp only [Result.andThen] at hrun
  rw [hv] at hrun
  unfold execOp
  simp only [hop, hx, Option.map, Sem.run_bind, Sem.run_pure, Result.andThen_ok, hrun]
/-- a whole array is read, in the middle of a block -/
theorem q_loadA (hw : Region.wanted o (yielded ops a.tmps) = true) (d : Option Tmp) (hd : o.dst = d) (x : Operand) (t : TypeId) (hop : o.op = Op.load t x) (k : IntKind) (xs : List Int) (b p : Nat) (hx : a.eval x = .pointer (some ⟨b, p, none⟩)) (h : ∀ w, C w → Ar w b p k xs)
    (m n : Nat) (e : TypeId) (hu : Tryd.prog.underlying t = some (.array m e)) (hi : (Tryd.prog.info? t).map (·.size) = some n) (hn : xs.length = n) (hK : K (a.put d (.agg (ints k xs)))) :
    if Region.wanted o (yielded ops a.tmps) = true then o.quiet Tryd.prog a C K else K (a.put o.dst undef) := by
  refine q_val hw d hd _ (fun w hC => ?_) hK
  have := run_loadVar_mid (P := Tryd.prog) w b p t _ _ (h w hC).1 hu rfl (by rw [hi]; simp [hn])
  unfold execOp
  simp only [hop, hx, Instr.loadAt, Instr.sureAddr, Sem.run_bind, Sem.run_pure, Result.andThen_ok, this]
  rfl
end

section
variable {ops : Array Oper} {rest : List Oper} {o : Oper} {a : Act} {Q : Exit → Act → World → Prop}
/-- a whole array is read, of whatever elements -/
theorem load_lawN (w : World) (hg : o.guard = none) (x : Operand) (t : TypeId) (hop : o.op = Op.load t x) (k : IntKind) (xs : List Int) (b p : Nat) (hx : a.eval x = .pointer (some ⟨b, p, none⟩)) (h : Ar w b p k xs)
    (m n : Nat) (e : TypeId) (hu : Tryd.prog.underlying t = some (.array m e)) (hi : (Tryd.prog.info? t).map (·.size) = some n) (hn : xs.length = n)
    (hK : wpList Tryd.prog ops Q rest (a.put o.dst (.agg (ints k xs))) w) :
    wpList Tryd.prog ops Q (o :: rest) a w :=
  wpList_load_mid hg t x hop b p hx _ _ h.1 hu rfl (by rw [hi]; simp [hn]) hK
end
theorem results_arN {fn : Func} {p : Tmp} {ty : TypeId} (h : fn.results = #[.cell p ty]) (tmps : Array Value) (w : World) (b o : Nat) (k : IntKind) (xs : List Int) (hp : tmps.getD p undef = .pointer (some ⟨b, o, none⟩)) (ha : Ar w b o k xs)
    (m n : Nat) (e : TypeId) (hu : Tryd.prog.underlying ty = some (.array m e)) (hi : (Tryd.prog.info? ty).map (·.size) = some n) (hn : xs.length = n) : (results fn tmps).run Tryd.prog w = .ok (.agg (ints k xs)) w := by
  have hp' : tmps[p]?.getD undef = .pointer (some ⟨b, o, none⟩) := by simpa using hp
  have hl := run_loadVar_mid (P := Tryd.prog) w b o ty _ _ ha.1 hu rfl (by rw [hi]; simp [hn])
  simp [results, h, hp', asAddr, hl, ints]
end Go.Proofs.YtbkaecjkgjkheaaDoor

/- What field's weigh, Mix and Unmix answer. No claim of its own. -/
namespace Go.Proofs.YtbkaecjkgjkheaaDoor
open Go.RowKit
set_option maxRecDepth 20000

theorem i_arr4 : (Tryd.prog.info? 81).map (·.size) = some 4 := by kernel_rfl
theorem z_arr4 : (Tryd.prog.info? 81).map (fun i => (i.zero, i.size)) = some (some (.agg (ints .u8 z4)), z4.length) := by kernel_rfl

/-- an array's element -/
theorem idx4 {ops : Array Oper} {rest : List Oper} {o : Oper} {a : Act} {Q : Exit → Act → World → Prop} (w : World) (hg : o.guard = none) (x y : Operand) (hop : o.op = Op.index 81 x y) (xs : List Int) (I : Int) (i : Nat) (hx : a.eval x = .agg (ints .u8 xs)) (hy : a.eval y = .int .i64 I) (hI : I = (i : Int)) (hl : xs.length = 4) (hi : i < 4)
    (q : Int) (hq : q = gb xs i) (hK : wpList Tryd.prog ops Q rest (a.put o.dst (.int .u8 q)) w) : wpList Tryd.prog ops Q (o :: rest) a w := by
  subst hq
  subst hI
  refine wpList_plain hg fun K hK' => ?_
  have e : (ints .u8 xs)[i]? = some (.int .u8 (gb xs i)) := by simp [ints, gb, List.getD, show i < xs.length by omega]
  have hu := Tryd.underlying81
  have hu2 := Tryd.underlying5
  have hsz : (ints .u8 xs).size = 4 := by simp [ints, hl]
  have hr : (Instr.index 81 (.agg (ints .u8 xs)) (.int .i64 i)).run Tryd.prog w = .ok (.int .u8 (gb xs i)) w := by
    simp [Instr.index, asIntOf, run_underlying hu, run_underlying hu2, Go.part, isAgg, e]
    intro h; omega
  unfold Oper.wp execOp
  simp only [hop, hx, hy, Sem.run_bind, Sem.run_pure, Result.andThen_ok, hr]
  exact hK' _ _ hK

set_option linter.unusedSimpArgs false in
set_option maxRecDepth 20000 in
set_option maxHeartbeats 4000000 in
theorem weigh_any (cs vs : List Nat) (w : World) (hc : Col cs) (hv : Col vs) :
    Calls Tryd.prog 91 #[.agg (ints .u8 (cI cs)), .agg (ints .u8 (cI vs))] w fun e w' => e = .returned (.agg (ints .u8 (cI (trn cs vs)))) ∧ Below w.heap.size w w' := by
  have HC : Hid (Col cs) := hc
  have HV : Hid (Col vs) := hv
  have LC : Hid ((cI cs).length = 4) := by show _ = _; rw [cI_len]; exact hc.1
  have LV : Hid ((cI vs).length = 4) := by show _ = _; rw [cI_len]; exact hv.1
  have GC : Hid (∀ i, gb (cI cs) i = (gn cs i : Int)) := gb_cI cs
  have GV : Hid (∀ i, gb (cI vs) i = (gn vs i : Int)) := gb_cI vs
  have HE : Hid (prt cs vs 4 0 = cI (trn cs vs) ∧ (cI (trn cs vs)).length = 4) := ⟨prt_end cs vs, rfl⟩
  have HZ : Hid (prt cs vs 0 0 = z4) := prt_zero cs vs
  obtain ⟨xs, hxs⟩ : ∃ xs, xs = cI cs := ⟨_, rfl⟩
  obtain ⟨ys, hys⟩ : ∃ ys, ys = cI vs := ⟨_, rfl⟩
  obtain ⟨zs, hzs⟩ : ∃ zs, zs = cI (trn cs vs) := ⟨_, rfl⟩
  rw [← hxs] at LC GC
  rw [← hys] at LV GV
  rw [← hzs] at HE
  rw [← hxs, ← hys, ← hzs]
  clear hxs hys hzs hc hv
  go_enter Tryd.func91, Tryd.ntmps91
  go_wp2_with (first
    | (refine box_lawF _ rfl (.tmp 0) 81 rfl .u8 xs rfl ?_; intro w1 A1 B1 s1; have HA1 : Hid (Ar w1 w.heap.size 0 .u8 xs) := A1; clear A1)
    | (refine box_lawF _ rfl (.tmp 1) 81 rfl .u8 ys rfl ?_; intro w2 A2 B2 s2; have HA2 : Hid (Ar w2 w1.heap.size 0 .u8 ys) := A2; clear A2)
    | (have q2 := s2; have q3 := s3; refine new_lawF _ rfl 81 rfl .u8 z4 z_arr4 ?_; intro w4 A4 B4 s4; have HA4 : Hid (Ar w4 w3.heap.size 0 .u8 z4) := A4; clear A4)
    | (have q2 := s2; refine new_lawF _ rfl 81 rfl .u8 z4 z_arr4 ?_; intro w3 A3 B3 s3; have HA3 : Hid (Ar w3 w2.heap.size 0 .u8 z4) := A3; clear A3))
  have D1 : Hid (Ar w3 w.heap.size 0 .u8 xs) := (HA1.out.below B2 s1).below B3 (by omega)
  have D2 : Hid (Ar w3 w1.heap.size 0 .u8 ys) := HA2.out.below B3 s2
  have BW : Below w.heap.size w w3 := (B1.trans (B2.mono (by omega))).trans (B3.mono (by omega))
  have o1 : w.heap.size < w3.heap.size := by omega
  have o2 : w1.heap.size < w3.heap.size := by omega
  have o3 : w2.heap.size < w3.heap.size := by omega
  generalize w2.heap.size = g2 at *
  generalize w1.heap.size = g1 at *
  generalize w3.heap.size = g3 at *
  go_loopw [9] (fun i wr => ∃ k : Nat, k ≤ 4 ∧ i = .int .i64 k ∧ Ar wr g3 0 .u8 (prt cs vs k 0) ∧ Below g3 w3 wr) (fun i _ => 4 - (intOf i).toNat)
  case atStart => exact ⟨0, Nat.zero_le _, rfl, by rw [HZ.out]; exact HA4.out, B4⟩
  case round =>
    obtain ⟨k, hk, rfl, hA, hB⟩ := hrel
    obtain ⟨wa, rfl⟩ : ∃ wx, wx = wr := ⟨_, rfl⟩
    have k0 : (0 : Int) ≤ (k : Int) := by omega
    have q1 : IntKind.i64.wrap (k : Int) = k := by rw [IntKind.wrap_i64]; omega
    have HB : Hid (Below g3 w3 wa) := hB
    have HA : Hid (Ar wa g3 0 .u8 (prt cs vs k 0)) := hA
    clear hA
    by_cases hlt : k < 4
    · have k1 : (k : Int) < 4 := by omega
      go_wp2_with (refine load_law _ rfl (.tmp 3) 81 rfl .u8 ys g1 0 rfl (D2.out.below HB.out o2) 4 5 Tryd.underlying81 i_arr4 LV.out ?_)
      go_loopw [13] (fun j wr => ∃ m : Nat, m ≤ 4 ∧ j = .int .i64 m ∧ Ar wr g3 0 .u8 (prt cs vs k m) ∧ Below g3 w3 wr) (fun j _ => 4 - (intOf j).toNat)
      case atStart => exact ⟨0, Nat.zero_le _, rfl, HA.out, HB.out⟩
      case round =>
        obtain ⟨m, hm, rfl, hA', hB'⟩ := hrel
        obtain ⟨wb, rfl⟩ : ∃ wx, wx = wr := ⟨_, rfl⟩
        clear HA HB hB
        have m0 : (0 : Int) ≤ (m : Int) := by omega
        have q2 : IntKind.i64.wrap (m : Int) = m := by rw [IntKind.wrap_i64]; omega
        by_cases hmt : m < 4
        · have m1 : (m : Int) < 4 := by omega
          obtain ⟨j, hj⟩ : ∃ j, j = (k + m) % 4 := ⟨_, rfl⟩
          have j0 : (0 : Int) ≤ (j : Int) := by omega
          have j1 : (j : Int) < 4 := by omega
          have q3 : IntKind.i64.wrap (j : Int) = j := by rw [IntKind.wrap_i64]; omega
          have q4 : IntKind.i64.wrap ((k : Int) + (m : Int)) = (k : Int) + (m : Int) := by rw [IntKind.wrap_i64]; omega
          have r1 : ((k : Int) + (m : Int)) % 4 = (j : Int) := by omega
          have r2 : ((k : Int) + (m : Int)).tmod 4 = (j : Int) := by rw [Int.tmod_eq_emod_of_nonneg (by omega)]; omega
          have c0 := hA'.cell0 k (by rw [prt_len]; omega)
          rw [prt_at cs vs k m hlt] at c0
          have c1 := (D1.out.below hB' o1).cell0 j (by rw [LC.out]; omega)
          rw [GC.out] at c1
          have HM : Hid (∀ w0, Calls Tryd.prog 104 #[.int .u8 (gn cs j), .int .u8 (gn vs m)] w0 fun e w' => e = .returned (.int .u8 (gm (gn vs m) (gn cs j))) ∧ w' = w0) := fun w0 => by rw [gm_comm (gn vs m) (gn cs j) (HV.out.2 m) (HC.out.2 j)]; exact mul_any _ _ w0 (HC.out.2 j) (HV.out.2 m)
          have hx := u8_xor_nat (acc cs vs k m) (gm (gn vs m) (gn cs j)) (acc_lt cs vs HV.out k m) (gm_lt _ _ (HV.out.2 m))
          have hy : acc cs vs k m ^^^ gm (gn vs m) (gn cs j) = acc cs vs k (m + 1) := by rw [hj]; rfl
          rw [hy] at hx
          have HS : Hid ((prt cs vs k m).set k ((acc cs vs k (m + 1) : Nat) : Int) = prt cs vs k (m + 1)) := prt_set cs vs k m
          have HGV : Hid (((gn vs m : Nat) : Int) = gb ys m) := (GV.out m).symm
          have HA' : Hid (Ar wb g3 0 .u8 (prt cs vs k m)) := hA'
          have HB' : Hid (Below g3 w3 wb) := hB'
          clear hA' hB' hy hj
          generalize acc cs vs k (m + 1) = y1 at *
          generalize acc cs vs k m = y0 at *
          generalize gm (gn vs m) (gn cs j) = p at *
          generalize gn cs j = c at *
          generalize gn vs m = v at *
          go_wp2_with (refine idx4 _ rfl (.tmp 12) (.tmp 13) rfl ys _ m rfl rfl rfl LV.out (by omega) (v : Int) HGV.out ?_)
          refine wp_region_any (by kernel_rfl) ?_
          change wpAny _ _ _ _ _ _ _ (World.drew _)
          refine wpAny_quiet_then (C := fun w' => ∃ n, w' = wb.drewN n) 0 13 1 _ (by kernel_rfl) rfl (by kernel_rfl) (by kernel_rfl) ⟨1, rfl⟩ ?_
          simp only [List.take_succ_cons, List.take_zero, List.drop_zero]
          repeat (quiet_step (with_reducible exact Calls.quiet_of_same (HM.out _)))
          refine wpQuiet_nil ?_
          rintro f _ ⟨nq, rfl⟩
          have A1 := HA'.out.drewN nq
          have A2 := A1.set0 k (by rw [prt_len]; omega) (y1 : Int)
          rw [HS.out] at A2
          have B2' : Below g3 w3 ((wb.drewN nq).setCell ⟨g3, k, none⟩ (.int .u8 (y1 : Int))) := (below_drewN HB'.out nq).setCell (Nat.le_refl _) _
          refine wpAny_ready (rs := [13]) (by kernel_rfl) (by simp) ?_
          refine AllReady.cons rfl (fun K hK => ?_) AllReady.nil
          refine step_set _ rfl none rfl (.tmp 29) (.tmp 28) 5 rfl .u8 (y1 : Int) g3 k rfl (by first | rfl | (rw [← hx]; rfl)) (by rw [A1.cell0 k (by rw [prt_len]; omega)]; rfl) (A1.free0 k (by rw [prt_len]; omega)) i_u8 (hK _ _ ?_)
          simp only [Act.put, List.setIfInBounds_toArray, List.set_cons_zero, List.set_cons_succ]
          have HA6 : Hid (Ar ((wb.drewN nq).setCell ⟨g3, k, none⟩ (.int .u8 (y1 : Int))) g3 0 .u8 (prt cs vs k (m + 1))) := A2
          have HB6 : Hid (Below g3 w3 ((wb.drewN nq).setCell ⟨g3, k, none⟩ (.int .u8 (y1 : Int)))) := B2'
          clear A1 A2 B2' c0 c1
          generalize (wb.drewN nq).setCell ⟨g3, k, none⟩ (.int .u8 (y1 : Int)) = w6 at *
          refine wpAny_done (by kernel_rfl) ?_ _
          go_wp2
          go_roundw
          case rel => exact ⟨m + 1, by omega, by go_num, HA6.out, HB6.out⟩
          case measure => simp [intOf]; omega
        · have hm4 : m = 4 := by omega
          subst hm4
          rw [prt_row cs vs k hlt] at hA'
          have HA6 : Hid (Ar wb g3 0 .u8 (prt cs vs (k + 1) 0)) := hA'
          have HB6 : Hid (Below g3 w3 wb) := hB'
          clear hA' hB'
          go_wp2
          go_roundw
          case rel => exact ⟨k + 1, by omega, by go_num, HA6.out, HB6.out⟩
          case measure => simp [intOf]; omega
    · have hk4 : k = 4 := by omega
      subst hk4
      rw [HE.out.1] at HA
      have D3 : Hid (Ar wa g2 0 .u8 z4) := HA3.out.below HB.out o3
      go_wp2_with (first
        | (refine load_law _ rfl (.tmp 5) 81 rfl .u8 zs g3 0 rfl HA.out 4 5 Tryd.underlying81 i_arr4 HE.out.2 ?_)
        | (refine store_lawF _ rfl (.tmp 4) (.tmp 32) 81 rfl .u8 z4 zs g2 rfl rfl D3.out 4 i_arr4 rfl HE.out.2 ?_; intro w7 A7 B7))
      refine bodyPost_ret (v := .agg (ints .u8 zs)) (results_ar rfl _ _ g2 0 .u8 zs rfl A7 4 5 Tryd.underlying81 i_arr4 HE.out.2) rfl ⟨rfl, ?_⟩
      exact (BW.trans (hB.mono (by omega))).trans (B7.mono (by omega))

set_option maxHeartbeats 2000000 in
theorem mix_any (cs : List Nat) (w : World) (hc : Col cs) :
    Calls Tryd.prog 70 #[.agg (ints .u8 (cI cs))] w fun e w' => e = .returned (.agg (ints .u8 (cI (trn cs mixW)))) ∧ Below w.heap.size w w' := by
  have HW : Hid (∀ w0, Calls Tryd.prog 91 #[.agg (ints .u8 (cI cs)), .agg (ints .u8 (cI mixW))] w0 fun e w' => e = .returned (.agg (ints .u8 (cI (trn cs mixW)))) ∧ Below w0.heap.size w0 w') := fun w0 => weigh_any cs mixW w0 hc mixW_col
  have LC : Hid ((cI cs).length = 4) := by show _ = _; rw [cI_len]; exact hc.1
  have LZ : Hid ((cI (trn cs mixW)).length = 4) := rfl
  obtain ⟨ys, hys⟩ : ∃ ys, ys = cI mixW := ⟨_, rfl⟩
  have HY : Hid (ys = cI mixW) := hys
  rw [← hys] at HW
  generalize cI (trn cs mixW) = zs at *
  generalize cI cs = xs at *
  clear hys hc
  go_enter Tryd.func70, Tryd.ntmps70
  go_wp2_with (first
    | (refine box_lawF _ rfl (.tmp 0) 81 rfl .u8 xs rfl ?_; intro w1 A1 B1 s1; have HA1 : Hid (Ar w1 w.heap.size 0 .u8 xs) := A1; clear A1)
    | (have q1 := s1; refine new_lawF _ rfl 81 rfl .u8 z4 z_arr4 ?_; intro w2 A2 B2 s2; have HA2 : Hid (Ar w2 w1.heap.size 0 .u8 z4) := A2; clear A2; have D1 : Hid (Ar w2 w.heap.size 0 .u8 xs) := HA1.out.below B2 s1)
    | (have q2 := s2; refine load_law _ rfl (.tmp 1) 81 rfl .u8 xs w.heap.size 0 rfl D1.out 4 5 Tryd.underlying81 i_arr4 LC.out ?_)
    | (have q2 := s2; refine build_law _ rfl 81 _ rfl (.agg (ints .u8 ys)) (by rw [HY.out]; kernel_rfl) ?_)
    | (go_at_call 91; refine (HW.out _).mono ?_; rintro e w3 ⟨rfl, B3⟩; have HA3 : Hid (Ar w3 w1.heap.size 0 .u8 z4) := HA2.out.below B3 s2)
    | (refine store_lawF _ rfl (.tmp 2) (.tmp 5) 81 rfl .u8 z4 zs w1.heap.size rfl rfl HA3.out 4 i_arr4 rfl LZ.out ?_; intro w4 A4 B4))
  refine bodyPost_ret (v := .agg (ints .u8 zs)) (results_ar rfl _ _ w1.heap.size 0 .u8 zs rfl A4 4 5 Tryd.underlying81 i_arr4 LZ.out) rfl ⟨rfl, ?_⟩
  exact ((B1.trans (B2.mono (by omega))).trans (B3.mono (by omega))).trans (B4.mono (by omega))

set_option maxHeartbeats 2000000 in
theorem unmix_any (cs : List Nat) (w : World) (hc : Col cs) :
    Calls Tryd.prog 73 #[.agg (ints .u8 (cI cs))] w fun e w' => e = .returned (.agg (ints .u8 (cI (trn cs unmW)))) ∧ Below w.heap.size w w' := by
  have HW : Hid (∀ w0, Calls Tryd.prog 91 #[.agg (ints .u8 (cI cs)), .agg (ints .u8 (cI unmW))] w0 fun e w' => e = .returned (.agg (ints .u8 (cI (trn cs unmW)))) ∧ Below w0.heap.size w0 w') := fun w0 => weigh_any cs unmW w0 hc unmW_col
  have LC : Hid ((cI cs).length = 4) := by show _ = _; rw [cI_len]; exact hc.1
  have LZ : Hid ((cI (trn cs unmW)).length = 4) := rfl
  obtain ⟨ys, hys⟩ : ∃ ys, ys = cI unmW := ⟨_, rfl⟩
  have HY : Hid (ys = cI unmW) := hys
  rw [← hys] at HW
  generalize cI (trn cs unmW) = zs at *
  generalize cI cs = xs at *
  clear hys hc
  go_enter Tryd.func73, Tryd.ntmps73
  go_wp2_with (first
    | (refine box_lawF _ rfl (.tmp 0) 81 rfl .u8 xs rfl ?_; intro w1 A1 B1 s1; have HA1 : Hid (Ar w1 w.heap.size 0 .u8 xs) := A1; clear A1)
    | (have q1 := s1; refine new_lawF _ rfl 81 rfl .u8 z4 z_arr4 ?_; intro w2 A2 B2 s2; have HA2 : Hid (Ar w2 w1.heap.size 0 .u8 z4) := A2; clear A2; have D1 : Hid (Ar w2 w.heap.size 0 .u8 xs) := HA1.out.below B2 s1)
    | (have q2 := s2; refine load_law _ rfl (.tmp 1) 81 rfl .u8 xs w.heap.size 0 rfl D1.out 4 5 Tryd.underlying81 i_arr4 LC.out ?_)
    | (have q2 := s2; refine build_law _ rfl 81 _ rfl (.agg (ints .u8 ys)) (by rw [HY.out]; kernel_rfl) ?_)
    | (go_at_call 91; refine (HW.out _).mono ?_; rintro e w3 ⟨rfl, B3⟩; have HA3 : Hid (Ar w3 w1.heap.size 0 .u8 z4) := HA2.out.below B3 s2)
    | (refine store_lawF _ rfl (.tmp 2) (.tmp 5) 81 rfl .u8 z4 zs w1.heap.size rfl rfl HA3.out 4 i_arr4 rfl LZ.out ?_; intro w4 A4 B4))
  refine bodyPost_ret (v := .agg (ints .u8 zs)) (results_ar rfl _ _ w1.heap.size 0 .u8 zs rfl A4 4 5 Tryd.underlying81 i_arr4 LZ.out) rfl ⟨rfl, ?_⟩
  exact ((B1.trans (B2.mono (by omega))).trans (B3.mono (by omega))).trans (B4.mono (by omega))
end Go.Proofs.YtbkaecjkgjkheaaDoor

/- What aes' cut, stateOf and list answer: a state is a row of sixteen bytes. No claim of its own. -/
namespace Go.Proofs.YtbkaecjkgjkheaaDoor
open Go.RowKit
set_option maxRecDepth 20000

def z16 : List Int := List.replicate 16 0
theorem z16_len : z16.length = 16 := List.length_replicate
theorem z_st : (Tryd.prog.info? 83).map (fun i => (i.zero, i.size)) = some (some (.agg (ints .u8 z16)), z16.length) := by kernel_rfl
theorem i_st : (Tryd.prog.info? 83).map (·.size) = some 16 := by kernel_rfl
theorem ua_st : Tryd.prog.underlying 83 = some (.array (Tryd.prog.arrayLen 83) (Tryd.prog.elem 83)) := by kernel_rfl
theorem la_st : Tryd.prog.arrayLen 83 = 4 := by kernel_rfl
theorem ia_st : (Tryd.prog.info? (Tryd.prog.elem 83)).map (·.size) = some 4 := by kernel_rfl
theorem ua_arr4 : Tryd.prog.underlying 81 = some (.array (Tryd.prog.arrayLen 81) (Tryd.prog.elem 81)) := by kernel_rfl
theorem la_arr4 : Tryd.prog.arrayLen 81 = 4 := by kernel_rfl
theorem ia_arr4 : (Tryd.prog.info? (Tryd.prog.elem 81)).map (·.size) = some 1 := by kernel_rfl

theorem cut4_len (xs : List Int) (i : Nat) (h : 4 * i + 4 ≤ xs.length) : (cut4 xs i).length = 4 := by simp [cut4]; omega
theorem cut4_all (xs : List Int) (i : Nat) (ha : AllB xs) : AllB (cut4 xs i) := allB_mem fun x hx => by
  obtain ⟨j, hj, rfl⟩ := mem_gb (List.mem_of_mem_take (List.mem_of_mem_drop hx))
  exact ha j
/-- an element of a state: a column -/
theorem idx_st {ops : Array Oper} {rest : List Oper} {o : Oper} {a : Act} {Q : Exit → Act → World → Prop} (w : World) (hg : o.guard = none) (x y : Operand) (hop : o.op = Op.index 83 x y) (xs : List Int) (I : Int) (i : Nat) (hx : a.eval x = .agg (ints .u8 xs)) (hy : a.eval y = .int .i64 I) (hI : I = (i : Int)) (hi : i < 4)
    (ys : List Int) (hq : ys = cut4 xs i) (hK : wpList Tryd.prog ops Q rest (a.put o.dst (.agg (ints .u8 ys))) w) : wpList Tryd.prog ops Q (o :: rest) a w := by
  subst hq
  subst hI
  refine wpList_plain hg fun K hK' => ?_
  have hu := Tryd.underlying83
  have hu2 := Tryd.underlying81
  have e : (ints .u8 xs).extract (i * 4) (i * 4 + 4) = ints .u8 (cut4 xs i) := by
    apply Array.ext'
    simp [ints, cut4, Nat.mul_comm 4 i, List.drop_take, List.map_take, List.map_drop]
  have hsz : (sizeOf 81).run Tryd.prog w = .ok 4 w := by
    cases hqq : Tryd.prog.info? 81 with
    | none => have := i_arr4; simp [hqq] at this
    | some i0 =>
      have : i0.size = 4 := by have := i_arr4; simpa [hqq] using this
      simp [sizeOf, typeInfo, hqq, this]
  have hr : (Instr.index 83 (.agg (ints .u8 xs)) (.int .i64 i)).run Tryd.prog w = .ok (.agg (ints .u8 (cut4 xs i))) w := by
    simp [Instr.index, asIntOf, run_underlying hu, run_underlying hu2, Go.part, isAgg, hsz, e]
    intro h; omega
  unfold Oper.wp execOp
  simp only [hop, hx, hy, Sem.run_bind, Sem.run_pure, Result.andThen_ok, hr]
  exact hK' _ _ hK

set_option maxHeartbeats 1000000 in
theorem cut_any (b off n cap i : Nat) (w : World) (hi : 4 * i + 4 ≤ n) (hn : n ≤ cap) (hs : i ≤ 1000) :
    Calls Tryd.prog 75 #[.slice (some ⟨b, off, none⟩) n cap, .int .i64 i] w fun e w' => e = .returned (.slice (some ⟨b, off + 4 * i, none⟩) 4 4) ∧ w' = w := by
  have k1 : IntKind.i64.wrap (4 * (i : Int)) = 4 * (i : Int) := by rw [IntKind.wrap_i64]; omega
  have k2 : IntKind.i64.wrap (4 * (i : Int) + 4) = 4 * (i : Int) + 4 := by rw [IntKind.wrap_i64]; omega
  have k3 : (0 : Int) ≤ 4 * (i : Int) := by omega
  have k4 : 4 * (i : Int) + 4 ≤ (cap : Int) := by omega
  have k5 : 4 * (i : Int) ≤ 4 * (i : Int) + 4 := by omega
  go_enter Tryd.func75, Tryd.ntmps75
  go_wp2
  go_ret
  refine ⟨?_, rfl⟩
  show Ending.returned (Value.slice (some ⟨b, off + 4 * i, none⟩) (4 * i + 4 - 4 * i) (4 * i + 4 - 4 * i)) = _
  rw [show 4 * i + 4 - 4 * i = 4 by omega]

theorem gb_filled (zs : List Int) (k t : Nat) (h : t < zs.length) : gb (filled zs k) t = if t < k then gb zs t else 0 := by
  unfold filled
  by_cases hk : t < k
  · rw [if_pos hk]
    simp only [gb, List.getD, List.getElem?_append, List.length_take, show t < min k zs.length by omega, if_true, List.getElem?_take, hk]
  · rw [if_neg hk]
    simp only [gb, List.getD, List.getElem?_append, List.length_take, show ¬ t < min k zs.length by omega, if_false, List.getElem?_replicate]
    split <;> rfl
theorem filled_len (zs : List Int) (k : Nat) : (filled zs k).length = zs.length := by simp [filled]; omega
/-- four more bytes -/
theorem filled_cut (xs : List Int) (k : Nat) (h : 4 * k + 4 ≤ xs.length) : laid (filled xs (4 * k)) (4 * k) (cut4 xs k) = filled xs (4 * (k + 1)) := by
  have hc := cut4_len xs k h
  refine ext_gb (by rw [laid_len _ _ _ (by rw [filled_len, hc]; exact h), filled_len, filled_len]) fun t ht => ?_
  rw [laid_len _ _ _ (by rw [filled_len, hc]; exact h), filled_len] at ht
  rw [gb_laid _ _ _ (by rw [filled_len, hc]; exact h), gb_filled _ _ _ ht, gb_filled _ _ _ ht, hc]
  by_cases h1 : t < 4 * k
  · rw [if_pos h1, if_pos h1, if_pos (by omega)]
  · rw [if_neg h1, if_neg h1]
    by_cases h2 : t < 4 * k + 4
    · rw [if_pos h2, if_pos (by omega), cut4_gb _ _ _ (by omega), show 4 * k + (t - 4 * k) = t by omega]
    · rw [if_neg h2, if_neg (by omega)]
theorem filled16 (xs : List Int) (h : xs.length = 16) : filled xs 0 = z16 ∧ filled xs 16 = xs := by
  refine ⟨by rw [filled_zero, h]; rfl, ?_⟩
  have := filled_end xs
  rwa [h] at this

set_option linter.unusedSimpArgs false in
set_option maxRecDepth 20000 in
set_option maxHeartbeats 2000000 in
theorem of_any (v : Value) (xs : List Int) (w : World) (hv : Byt w v xs) (hl : xs.length = 16) :
    Calls Tryd.prog 64 #[v] w fun e w' => e = .returned (.agg (ints .u8 xs)) ∧ Below w.heap.size w w' := by
  have HX : Hid (AllB xs) := hv.all
  obtain ⟨ao, ca, rfl, ha1, ha2, ha3, -, ha5⟩ := hv
  obtain ⟨bb, bo, rfl, hcell⟩ := ha5 (by omega)
  have HC : Hid (∀ t, t < xs.length → w.cell? ⟨bb, bo + t, none⟩ = some (.int .u8 (gb xs t))) := hcell
  have HL : Hid (xs.length = 16) := hl
  have HF : Hid (filled xs 0 = z16 ∧ filled xs 16 = xs) := filled16 xs hl
  have hbw : bb < w.heap.size := World.block_lt_of_cell? w _ (hcell 0 (by omega))
  rw [hl] at ha1 ⊢
  clear hcell ha5 hl ha3
  go_enter Tryd.func64, Tryd.ntmps64
  go_wp2_with (first
    | (have q1 := s1; refine new_lawF _ rfl 83 rfl .u8 z16 z_st ?_; intro w2 A2 B2 s2; have HA2 : Hid (Ar w2 w1.heap.size 0 .u8 z16) := A2; clear A2)
    | (refine new_lawF _ rfl 83 rfl .u8 z16 z_st ?_; intro w1 A1 B1 s1; have HA1 : Hid (Ar w1 w.heap.size 0 .u8 z16) := A1; clear A1))
  have o1 : w.heap.size < w1.heap.size := s1
  have BW : Below w.heap.size w w1 := B1
  generalize w1.heap.size = g3 at *
  go_loopw [5] (fun i wr => ∃ k : Nat, k ≤ 4 ∧ i = .int .i64 k ∧ Ar wr g3 0 .u8 (filled xs (4 * k)) ∧ Below g3 w1 wr) (fun i _ => 4 - (intOf i).toNat)
  case atStart => exact ⟨0, Nat.zero_le _, rfl, by rw [Nat.mul_zero, HF.out.1]; exact HA2.out, B2⟩
  case round =>
    obtain ⟨k, hk, rfl, hA, hB⟩ := hrel
    have k0 : (0 : Int) ≤ (k : Int) := by omega
    have q1 : IntKind.i64.wrap (k : Int) = k := by rw [IntKind.wrap_i64]; omega
    by_cases hlt : k < 4
    · have k1 : (k : Int) < 4 := by omega
      have HCut : Hid (∀ w0, Calls Tryd.prog 75 #[.slice (some ⟨bb, bo, none⟩) 16 ca, .int .i64 k] w0 fun e w' => e = .returned (.slice (some ⟨bb, bo + 4 * k, none⟩) 4 4) ∧ w' = w0) := fun w0 => cut_any bb bo 16 ca k w0 (by omega) ha1 (by omega)
      have HA : Hid (Ar wr g3 0 .u8 (filled xs (4 * k))) := hA
      have HB : Hid (Below g3 w1 wr) := hB
      have HY : Hid (∀ nq, Byt (wr.drewN nq) (.slice (some ⟨bb, bo + 4 * k, none⟩) 4 4) (cut4 xs k)) := fun nq => by
        have hln := cut4_len xs k (by rw [HL.out]; omega)
        refine ⟨some ⟨bb, bo + 4 * k, none⟩, 4, by rw [hln], by omega, by omega, cut4_all xs k HX.out, (by intro h; cases h), fun _ => ⟨bb, bo + 4 * k, rfl, fun t ht => ?_⟩⟩
        have c := HC.out (4 * k + t) (by rw [HL.out]; omega)
        rw [cut4_gb _ _ _ (by omega), Nat.add_assoc]
        show wr.cell? _ = _
        rw [((BW.trans (HB.out.mono (by omega))).cell hbw)]
        exact c
      clear hA hB
      go_wp2
      refine wp_region_any (by kernel_rfl) ?_
      change wpAny _ _ _ _ _ _ _ (World.drew _)
      refine wpAny_quiet_then (C := fun w' => ∃ n, w' = wr.drewN n) 0 6 1 _ (by kernel_rfl) rfl (by kernel_rfl) (by kernel_rfl) ⟨1, rfl⟩ ?_
      simp only [List.take_succ_cons, List.take_zero, List.drop_zero]
      repeat (quiet_step (with_reducible exact Calls.quiet_of_same (HCut.out _)))
      refine wpQuiet_nil ?_
      rintro f _ ⟨nq, rfl⟩
      refine wpAny_ready (rs := [6]) (by kernel_rfl) (by simp) ?_
      refine AllReady.cons rfl (fun K hK => ?_) AllReady.nil
      refine step_copyG _ rfl (some 14) rfl (.tmp 10) (.tmp 13) rfl g3 (4 * k) 4 4 _ _ _ (by rw [Nat.mul_comm]; rfl) rfl (HY.out nq) (HA.out.drewN nq) (cut4_len xs k (by rw [HL.out]; omega)) (by rw [filled_len, HL.out]; omega) fun w3 A3 B3 => hK _ _ ?_
      rw [filled_cut xs k (by rw [HL.out]; omega)] at A3
      have HA3 : Hid (Ar w3 g3 0 .u8 (filled xs (4 * (k + 1)))) := A3
      have HB3 : Hid (Below g3 w1 w3) := (below_drewN HB.out nq).trans B3
      clear A3 B3
      simp only [Act.put, List.setIfInBounds_toArray, List.set_cons_zero, List.set_cons_succ]
      refine wpAny_done (by kernel_rfl) ?_ _
      go_wp2
      go_roundw
      case rel => exact ⟨k + 1, by omega, by go_num, HA3.out, HB3.out⟩
      case measure => simp [intOf]; omega
    · have hk4 : k = 4 := by omega
      subst hk4
      rw [show 4 * 4 = 16 from rfl, HF.out.2] at hA
      have HA : Hid (Ar wr g3 0 .u8 xs) := hA
      have D1 : Hid (Ar wr w.heap.size 0 .u8 z16) := HA1.out.below hB o1
      clear hA
      go_wp2_with (first
        | (refine load_lawN _ rfl (.tmp 3) 83 rfl .u8 xs g3 0 rfl HA.out 4 16 81 Tryd.underlying83 i_st HL.out ?_)
        | (refine store_lawF _ rfl (.tmp 2) (.tmp 16) 83 rfl .u8 z16 xs w.heap.size rfl rfl D1.out 16 i_st z16_len HL.out ?_; intro w7 A7 B7))
      refine bodyPost_ret (v := .agg (ints .u8 xs)) (results_arN rfl _ _ w.heap.size 0 .u8 xs rfl A7 4 16 81 Tryd.underlying83 i_st HL.out) rfl ⟨rfl, ?_⟩
      exact (BW.trans (hB.mono (by omega))).trans B7
end Go.Proofs.YtbkaecjkgjkheaaDoor

/- What aes' Expand answers. No claim of its own. -/
namespace Go.Proofs.YtbkaecjkgjkheaaDoor
open Go.RowKit
set_option maxRecDepth 20000

theorem info_u32G : (Tryd.prog.info? 23).map (fun i => (i.zero, i.size, i.bytes)) = some (some (.int .u32 0), 1, 4) := by kernel_rfl
theorem i_u32 : (Tryd.prog.info? 23).map (·.size) = some 1 := by kernel_rfl
theorem und_words : Tryd.prog.underlying 78 = some (.slice (Tryd.prog.elem 78)) := by kernel_rfl
theorem elem_words : Tryd.prog.elem 78 = 23 := by kernel_rfl
theorem run_size_u32G (w : World) : (sizeOf 23).run Tryd.prog w = .ok 1 w := by
  obtain ⟨i0, hi, hz0, hz1, hz2⟩ := info_parts info_u32G
  simp [sizeOf, typeInfo, hi, hz1]

/-- 'make([]uint32, n)': n noughts in a block of their own -/
theorem make_lawW {ops : Array Oper} {rest : List Oper} {o : Oper} {a : Act} {Q : Exit → Act → World → Prop} (w : World) (hg : o.guard = none) (l c : Operand) (hop : o.op = Op.makeSlice 78 l c)
    (L : Int) (n : Nat) (hl : a.eval l = .int .i64 L) (hc : a.eval c = .int .i64 L) (hL : L = (n : Int)) (hn : n ≤ 1099511627776)
    (hK : ∀ w', Ar w' w.heap.size 0 .u32 (List.replicate n 0) → Below w.heap.size w w' → w.heap.size < w'.heap.size → wpList Tryd.prog ops Q rest (a.put o.dst (.slice (some ⟨w.heap.size, 0, none⟩) n n)) w') :
    wpList Tryd.prog ops Q (o :: rest) a w := by
  obtain ⟨i0, hi, hz0, hz1, hz2⟩ := info_parts info_u32G
  refine wpList_make_full w hg l c 78 hop w.heap.size 23 i0 (.int .u32 0) 1 Tryd.underlying78 hi hz0 hz1 .i64 .i64 L L n hl hc hL hL (by rw [hz2]; omega) (by simp only [maxLen]; omega) (Nat.le_refl _) fun w' h1 h2 => ?_
  have hlt : w.heap.size < w'.heap.size := (h1.lt w.heap.size rfl).2
  refine hK w' ?_ ((Below.refl _ w).grown h2 (Nat.le_refl _) (fun k hk => by cases hk)) hlt
  have e : (madeCells (Value.int .u32 0).cells (n * 1)).toList = (List.replicate n (0 : Int)).map (Value.int .u32) := by
    rw [Nat.mul_one]
    show (madeCells #[Value.int .u32 0] n).toList = _
    rw [toList_madeCells_one]; simp
  rw [e] at h1
  refine Ar.mk fun i hi => ?_
  rw [Nat.zero_add]
  have hi' : i < n := by simpa using hi
  refine ⟨?_, h1.frozenAt i⟩
  rw [h1.cellAt i (by omega)]
  simp [gb, List.getD, hi']

section
variable {ops : Array Oper} {C : World → Prop} {K : Act → Prop} {o : Oper} {a : Act}
/-- the address of a word of a slice -/
theorem q_idxW (hw : Region.wanted o (yielded ops a.tmps) = true) (d : Option Tmp) (hd : o.dst = d) (x y : Operand) (hop : o.op = Op.indexAddr 78 x y) (b off n cap i : Nat) (hx : a.eval x = .slice (some ⟨b, off, none⟩) n cap) (hy : a.eval y = .int .i64 i) (hi : i < n)
    (q : Nat) (hq : q = off + i) (hK : K (a.put d (.pointer (some ⟨b, q, none⟩)))) :
    if Region.wanted o (yielded ops a.tmps) = true then o.quiet Tryd.prog a C K else K (a.put o.dst undef) := by
  refine q_val hw d hd _ (fun w _ => ?_) hK
  subst hq
  have hr : (Instr.indexAt 78 (.slice (some ⟨b, off, none⟩) n cap) (.int .i64 (i : Int))).run Tryd.prog w = .ok (.pointer (some ⟨b, off + i, none⟩)) w := by
    rw [run_indexAt_slice _ _ _ _ _ _ _ und_words, if_pos (by omega), elem_words, run_size_u32G]
    simp [Result.andThen, Addr.add]
  unfold execOp
  simp only [hop, hx, hy, Sem.run_bind, Sem.run_pure, Result.andThen_ok, hr]
end

/-- the first k words -/
def prw (key : List Int) (k : Nat) : List Int := (List.range 60).map fun t => if t < k then (wn key t : Int) else 0
theorem prw_len (key : List Int) (k : Nat) : (prw key k).length = 60 := by simp [prw]
theorem gb_prw (key : List Int) (k t : Nat) (h : t < 60) : gb (prw key k) t = if t < k then (wn key t : Int) else 0 := range_gb _ _ _ h
theorem prw_zero (key : List Int) : prw key 0 = List.replicate 60 0 := rfl
theorem prw_set (key : List Int) (k : Nat) : (prw key k).set k (wn key k : Int) = prw key (k + 1) := ext_gb (by simp [prw]) fun t ht => by
  rw [List.length_set, prw_len] at ht
  rw [gb_set _ _ _ _ (by rw [prw_len]; exact ht), gb_prw _ _ _ ht, gb_prw _ _ _ ht]
  by_cases e : k = t
  · subst e; simp
  · rw [if_neg e]
    by_cases h : t < k
    · rw [if_pos h, if_pos (by omega)]
    · rw [if_neg h, if_neg (by omega)]

set_option linter.unusedSimpArgs false in
set_option maxRecDepth 20000 in
set_option maxHeartbeats 4000000 in
theorem exp_any (v : Value) (key : List Int) (w : World) (hv : Byt w v key) (hl : key.length = 32) :
    Calls Tryd.prog 48 #[v] w fun e w' => ∃ g, e = .returned (.tuple #[.slice (some ⟨g, 0, none⟩) 60 60, .int .i64 0]) ∧ Ar w' g 0 .u32 (prw key 60) ∧ w.heap.size ≤ g ∧ Below w.heap.size w w' := by
  have HX : Hid (AllB key) := hv.all
  obtain ⟨ao, ca, rfl, ha1, ha2, ha3, -, ha5⟩ := hv
  obtain ⟨bb, bo, rfl, hcell⟩ := ha5 (by omega)
  have HC : Hid (∀ t, t < key.length → w.cell? ⟨bb, bo + t, none⟩ = some (.int .u8 (gb key t))) := hcell
  have HL : Hid (key.length = 32) := hl
  have hbw : bb < w.heap.size := World.block_lt_of_cell? w _ (hcell 0 (by omega))
  have HWL : Hid (∀ i, wn key i < 4294967296) := wn_lt key hl ha3
  have HWE : Hid (∀ i, 8 ≤ i → wn key i = wn key (i - 8) ^^^ stn i (wn key (i - 1))) := fun i hi => wn_eq key hl ha3 i hi
  have HWF : Hid (∀ i, i < 8 → num (last8 (cut4 key i)) = (wn key i : Int)) := fun i hi => by
    rw [num4 _ (cut4_wd key i ha3 (by omega)), wn_first key i hi]
  rw [hl] at ha1 ⊢
  clear hcell ha5 hl ha3
  go_enter Tryd.func48, Tryd.ntmps48
  go_wp2_with (at_make; refine make_lawW _ rfl _ _ rfl 60 60 rfl rfl rfl (by omega) ?_; intro w1 A1 B1 s1; have HA1 : Hid (Ar w1 w.heap.size 0 .u32 (List.replicate 60 0)) := A1; clear A1)
  generalize hg0 : w.heap.size = g0 at *
  go_loopw [11] (fun i wr => ∃ k : Nat, k ≤ 8 ∧ i = .int .i64 k ∧ Ar wr g0 0 .u32 (prw key k) ∧ Below g0 w wr) (fun i _ => 8 - (intOf i).toNat)
  case atStart => exact ⟨0, Nat.zero_le _, rfl, by rw [prw_zero]; exact HA1.out, B1⟩
  case round =>
    obtain ⟨k, hk, rfl, hA, hB⟩ := hrel
    have k0 : (0 : Int) ≤ (k : Int) := by omega
    have q1 : IntKind.i64.wrap (k : Int) = k := by rw [IntKind.wrap_i64]; omega
    by_cases hlt : k < 8
    · have k1 : (k : Int) < 8 := by omega
      have k60 : (k : Int) < 60 := by omega
      have HCut : Hid (∀ w0, Calls Tryd.prog 75 #[.slice (some ⟨bb, bo, none⟩) 32 ca, .int .i64 k] w0 fun e w' => e = .returned (.slice (some ⟨bb, bo + 4 * k, none⟩) 4 4) ∧ w' = w0) := fun w0 => cut_any bb bo 32 ca k w0 (by omega) ha1 (by omega)
      have HY : Byt wr (.slice (some ⟨bb, bo + 4 * k, none⟩) 4 4) (cut4 key k) := by
        have hln := cut4_len key k (by rw [HL.out]; omega)
        refine ⟨some ⟨bb, bo + 4 * k, none⟩, 4, by rw [hln], by omega, by omega, cut4_all key k HX.out, (by intro h; cases h), fun _ => ⟨bb, bo + 4 * k, rfl, fun t ht => ?_⟩⟩
        have c := HC.out (4 * k + t) (by rw [HL.out]; omega)
        rw [cut4_gb _ _ _ (by omega), Nat.add_assoc, hB.cell hbw]
        exact c
      have HN : Hid (Calls Tryd.prog 74 #[.slice (some ⟨bb, bo + 4 * k, none⟩) 4 4] wr fun e w' => e = .returned (.int .u64 (wn key k)) ∧ w' = wr) := by
        have := num_any _ _ wr HY
        rw [HWF.out k hlt] at this
        exact this
      have u1 : IntKind.u32.wrap (wn key k : Int) = (wn key k : Int) := by have := HWL.out k; rw [IntKind.wrap_u32]; omega
      have c3 := hA.cell0 k (by rw [prw_len]; omega)
      have c4 := hA.free0 k (by rw [prw_len]; omega)
      have hA2 : Hid (Ar (wr.setCell ⟨g0, k, none⟩ (.int .u32 (wn key k : Int))) g0 0 .u32 (prw key (k + 1))) := by
        have h := hA.set0 k (by rw [prw_len]; omega) (wn key k : Int)
        rw [prw_set] at h
        exact h
      have hB2 : Hid (Below g0 w (wr.setCell ⟨g0, k, none⟩ (.int .u32 (wn key k : Int)))) := hB.setCell (Nat.le_refl _) _
      clear HY hA
      generalize wn key k = x at *
      go_wp2_with (first
        | (go_at_call 74; refine (HN.out).mono ?_; rintro e w2 ⟨rfl, hw⟩; obtain rfl := hw.symm)
        | (go_at_call 75; refine (HCut.out _).mono ?_; rintro e w2 ⟨rfl, hw⟩; obtain rfl := hw.symm))
      go_roundw
      case rel => exact ⟨k + 1, by omega, by go_num, hA2.out, hB2.out⟩
      case measure => simp [intOf]; omega
    · have hk8 : k = 8 := by omega
      subst hk8
      have HA8 : Hid (Ar wr g0 0 .u32 (prw key 8)) := hA
      clear hA
      go_wp2
      go_loopw [6] (fun i wr => ∃ k : Nat, 8 ≤ k ∧ k ≤ 60 ∧ i = .int .i64 k ∧ Ar wr g0 0 .u32 (prw key k) ∧ Below g0 w wr) (fun i _ => 60 - (intOf i).toNat)
      case atStart => exact ⟨8, Nat.le_refl _, by omega, rfl, HA8.out, hB⟩
      case round =>
        obtain ⟨k, hk8, hk, rfl, hA, hB⟩ := hrel
        have k0 : (0 : Int) ≤ (k : Int) := by omega
        have q1 : IntKind.i64.wrap (k : Int) = k := by rw [IntKind.wrap_i64]; omega
        by_cases hlt : k < 60
        · have hgw : g0 < wr.heap.size := hA.lt (by rw [prw_len]; omega)
          obtain ⟨j8, hj8⟩ : ∃ j, j = k - 8 := ⟨_, rfl⟩
          obtain ⟨j1, hj1⟩ : ∃ j, j = k - 1 := ⟨_, rfl⟩
          have l8 : j8 < 60 := by omega
          have l1 : j1 < 60 := by omega
          have t8 : (k : Int) - 8 = (j8 : Int) := by omega
          have t1 : (k : Int) - 1 = (j1 : Int) := by omega
          have w8 : IntKind.i64.wrap (j8 : Int) = j8 := by rw [IntKind.wrap_i64]; omega
          have w1' : IntKind.i64.wrap (j1 : Int) = j1 := by rw [IntKind.wrap_i64]; omega
          have C8 : Hid (∀ w', Below wr.heap.size wr w' → w'.cell? ⟨g0, j8, none⟩ = some (.int .u32 (wn key j8 : Int))) := fun w' h => by
            have c := (hA.below h hgw).cell0 j8 (by rw [prw_len]; omega)
            rw [gb_prw _ _ _ l8, if_pos (by omega)] at c
            exact c
          have C1 : Hid (∀ w', Below wr.heap.size wr w' → w'.cell? ⟨g0, j1, none⟩ = some (.int .u32 (wn key j1 : Int))) := fun w' h => by
            have c := (hA.below h hgw).cell0 j1 (by rw [prw_len]; omega)
            rw [gb_prw _ _ _ l1, if_pos (by omega)] at c
            exact c
          have HST : Hid (∀ w', Below wr.heap.size wr w' → Calls Tryd.prog 76 #[.int .u32 (wn key j1 : Int), .int .i64 (k : Int)] w' fun e w'' => e = .returned (.int .u32 (stn k (wn key j1) : Int)) ∧ Below wr.heap.size wr w'') := fun w' h =>
            (stir_any _ k w' (HWL.out j1) hk8 hlt).mono fun e w'' h' => ⟨h'.1, h.trans (h'.2.mono h.size)⟩
          have hz0 : wn key k = wn key j8 ^^^ stn k (wn key j1) := by have := HWE.out k hk8; rw [← hj8, ← hj1] at this; exact this
          have st32 : stn k (wn key j1) < 4294967296 := by
            have h1 := HWL.out j1
            have h2 := wsum_lt (rl8 (wn key j1)) 4
            have h3 := wsum_lt (wn key j1) 4
            have h4 := pw_lt 2 (k / 8 - 1)
            unfold stn
            split
            · exact Nat.xor_lt_two_pow (n := 32) (by omega) (by omega)
            · split <;> omega
          have HZ : Hid (bits .xor .u32 (wn key j8 : Int) (stn k (wn key j1) : Int) = (wn key k : Int)) := by
            show _ = _
            rw [u32_xor_nat _ _ (HWL.out j8) st32, hz0]
          have HA : Hid (Ar wr g0 0 .u32 (prw key k)) := hA
          have HSet : Hid ((prw key k).set k (wn key k : Int) = prw key (k + 1)) := prw_set key k
          have HB : Hid (Below g0 w wr) := hB
          clear hA hB hz0 st32 hj8 hj1
          generalize wn key k = z at *
          generalize stn k (wn key j1) = s1 at *
          generalize wn key j1 = x1 at *
          generalize wn key j8 = x8 at *
          have k60 : (k : Int) < 60 := by omega
          go_wp2
          refine wp_region_any (by kernel_rfl) ?_
          refine wpAny_quiet_then (C := fun w' => Below wr.heap.size wr w') 0 16 1 _ (by kernel_rfl) rfl (by kernel_rfl) (by kernel_rfl) (Below.refl _ _).drew ?_
          simp only [List.take_succ_cons, List.take_zero, List.drop_zero]
          refine wpQuiet_step (fun K hK => ?_)
          refine q_val (by rfl) (some 27) rfl (.slice (some ⟨g0, 0, none⟩) 60 60) (fun w' _ => by rfl) (hK _ ?_)
          simp only [Act.put, List.setIfInBounds_toArray, List.set_cons_zero, List.set_cons_succ]
          clear hK K
          refine wpQuiet_step (fun K hK => ?_)
          refine q_val (by rfl) (some 28) rfl (.int .i64 (k : Int)) (fun w' _ => by rfl) (hK _ ?_)
          simp only [Act.put, List.setIfInBounds_toArray, List.set_cons_zero, List.set_cons_succ]
          clear hK K
          refine wpQuiet_step (fun K hK => ?_)
          refine q_val (by rfl) (some 29) rfl (.slice (some ⟨g0, 0, none⟩) 60 60) (fun w' _ => by rfl) (hK _ ?_)
          simp only [Act.put, List.setIfInBounds_toArray, List.set_cons_zero, List.set_cons_succ]
          clear hK K
          refine wpQuiet_step (fun K hK => ?_)
          refine q_val (by rfl) (some 30) rfl (.int .i64 (k : Int)) (fun w' _ => by rfl) (hK _ ?_)
          simp only [Act.put, List.setIfInBounds_toArray, List.set_cons_zero, List.set_cons_succ]
          clear hK K
          refine wpQuiet_step (fun K hK => ?_)
          refine q_val (by rfl) (some 31) rfl (.int .i64 (j8 : Int)) (fun w' _ => by go_simp) (hK _ ?_)
          simp only [Act.put, List.setIfInBounds_toArray, List.set_cons_zero, List.set_cons_succ]
          clear hK K
          refine wpQuiet_step (fun K hK => ?_)
          refine q_idxW (by rfl) (some 32) rfl (.tmp 29) (.tmp 31) rfl g0 0 60 60 j8 rfl rfl l8 j8 (by omega) (hK _ ?_)
          simp only [Act.put, List.setIfInBounds_toArray, List.set_cons_zero, List.set_cons_succ]
          clear hK K
          refine wpQuiet_step (fun K hK => ?_)
          refine q_get (by rfl) (some 33) rfl (.tmp 32) 23 rfl .u32 (x8 : Int) g0 j8 rfl Tryd.underlying23 C8.out (hK _ ?_)
          simp only [Act.put, List.setIfInBounds_toArray, List.set_cons_zero, List.set_cons_succ]
          clear hK K
          refine wpQuiet_step (fun K hK => ?_)
          refine q_val (by rfl) (some 34) rfl (.slice (some ⟨g0, 0, none⟩) 60 60) (fun w' _ => by rfl) (hK _ ?_)
          simp only [Act.put, List.setIfInBounds_toArray, List.set_cons_zero, List.set_cons_succ]
          clear hK K
          refine wpQuiet_step (fun K hK => ?_)
          refine q_val (by rfl) (some 35) rfl (.int .i64 (k : Int)) (fun w' _ => by rfl) (hK _ ?_)
          simp only [Act.put, List.setIfInBounds_toArray, List.set_cons_zero, List.set_cons_succ]
          clear hK K
          refine wpQuiet_step (fun K hK => ?_)
          refine q_val (by rfl) (some 36) rfl (.int .i64 (j1 : Int)) (fun w' _ => by go_simp) (hK _ ?_)
          simp only [Act.put, List.setIfInBounds_toArray, List.set_cons_zero, List.set_cons_succ]
          clear hK K
          refine wpQuiet_step (fun K hK => ?_)
          refine q_idxW (by rfl) (some 37) rfl (.tmp 34) (.tmp 36) rfl g0 0 60 60 j1 rfl rfl l1 j1 (by omega) (hK _ ?_)
          simp only [Act.put, List.setIfInBounds_toArray, List.set_cons_zero, List.set_cons_succ]
          clear hK K
          refine wpQuiet_step (fun K hK => ?_)
          refine q_get (by rfl) (some 38) rfl (.tmp 37) 23 rfl .u32 (x1 : Int) g0 j1 rfl Tryd.underlying23 C1.out (hK _ ?_)
          simp only [Act.put, List.setIfInBounds_toArray, List.set_cons_zero, List.set_cons_succ]
          clear hK K
          refine wpQuiet_step (fun K hK => ?_)
          refine q_val (by rfl) (some 39) rfl (.int .i64 (k : Int)) (fun w' _ => by rfl) (hK _ ?_)
          simp only [Act.put, List.setIfInBounds_toArray, List.set_cons_zero, List.set_cons_succ]
          clear hK K
          refine wpQuiet_step (fun K hK => ?_)
          refine q_call (by rfl) (some 40) rfl 76 #[.tmp 38, .tmp 39] #[23, 3] rfl (fun q w' => by rfl) #[.int .u32 (x1 : Int), .int .i64 (k : Int)] (by simp only [List.map_toArray, List.map_cons, List.map_nil]; rfl) (.int .u32 (s1 : Int)) HST.out (hK _ ?_)
          simp only [Act.put, List.setIfInBounds_toArray, List.set_cons_zero, List.set_cons_succ]
          clear hK K
          refine wpQuiet_step (fun K hK => ?_)
          refine q_val (by rfl) (some 41) rfl (.int .u32 (z : Int)) (fun w' _ => by (have hz := HZ.out; go_simp)) (hK _ ?_)
          simp only [Act.put, List.setIfInBounds_toArray, List.set_cons_zero, List.set_cons_succ]
          clear hK K
          refine wpQuiet_step (fun K hK => ?_)
          refine q_idxW (by rfl) (some 42) rfl (.tmp 27) (.tmp 28) rfl g0 0 60 60 k rfl rfl hlt k (by omega) (hK _ ?_)
          simp only [Act.put, List.setIfInBounds_toArray, List.set_cons_zero, List.set_cons_succ]
          clear hK K
          refine wpQuiet_nil ?_
          intro f w3 B3
          have A1 := HA.out.below B3 hgw
          have A2 := A1.set0 k (by rw [prw_len]; omega) (z : Int)
          rw [HSet.out] at A2
          have B2' : Below g0 w (w3.setCell ⟨g0, k, none⟩ (.int .u32 (z : Int))) := (HB.out.trans (B3.mono (by omega))).setCell (Nat.le_refl _) _
          refine wpAny_ready (rs := [16]) (by kernel_rfl) (by simp) ?_
          refine AllReady.cons rfl (fun K hK => ?_) AllReady.nil
          refine step_set _ rfl none rfl (.tmp 42) (.tmp 41) 23 rfl .u32 (z : Int) g0 k rfl rfl (by rw [A1.cell0 _ (by rw [prw_len]; omega)]; rfl) (A1.free0 _ (by rw [prw_len]; omega)) i_u32 (hK _ _ ?_)
          simp only [Act.put, List.setIfInBounds_toArray, List.set_cons_zero, List.set_cons_succ]
          have HA6 : Hid (Ar (w3.setCell ⟨g0, k, none⟩ (.int .u32 (z : Int))) g0 0 .u32 (prw key (k + 1))) := A2
          have HB6 : Hid (Below g0 w (w3.setCell ⟨g0, k, none⟩ (.int .u32 (z : Int)))) := B2'
          clear A1 A2 B2' B3
          generalize w3.setCell ⟨g0, k, none⟩ (.int .u32 (z : Int)) = w6 at *
          refine wpAny_done (by kernel_rfl) ?_ _
          go_wp2
          go_roundw
          case rel => exact ⟨k + 1, by omega, by omega, by go_num, HA6.out, HB6.out⟩
          case measure => simp [intOf]; omega
        · have hk60 : k = 60 := by omega
          subst hk60
          go_wp2
          go_ret2
          exact ⟨g0, rfl, hA, by omega, by rw [hg0]; exact hB⟩
end Go.Proofs.YtbkaecjkgjkheaaDoor

