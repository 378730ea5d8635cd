/- Numbers that lie in a row of a block: how they are read, written, copied, and how they last. No claim of its own. -/
import Derived.Test.YtaplllonomdgeaaConsts
import Derived.Deep.MidRow
import Derived.Lib.SlBuf
namespace Go.Proofs.Ytaplllonomdgeaa
open Go.RowKit

/-- the numbers xs lie in block b from place o on, and may be written -/
def Ar (w : World) (b o : Nat) (k : IntKind) (xs : List Int) : Prop := w.rangeAt b o (xs.map (Value.int k)) ∧ w.there b o xs.length

theorem Ar.cell {w : World} {b o : Nat} {k : IntKind} {xs : List Int} (h : Ar w b o k xs) (i : Nat) (hi : i < xs.length) : w.cell? ⟨b, o + i, none⟩ = some (.int k (gb xs i)) :=
  h.1 i _ (by simp [gb, List.getD, hi])
theorem Ar.cell0 {w : World} {b : Nat} {k : IntKind} {xs : List Int} (h : Ar w b 0 k xs) (i : Nat) (hi : i < xs.length) : w.cell? ⟨b, i, none⟩ = some (.int k (gb xs i)) := by
  have := h.cell i hi
  rwa [Nat.zero_add] at this
theorem Ar.free {w : World} {b o : Nat} {k : IntKind} {xs : List Int} (h : Ar w b o k xs) (i : Nat) (hi : i < xs.length) : w.frozen? ⟨b, o + i, none⟩ = false := (h.2 i hi).2
theorem Ar.free0 {w : World} {b : Nat} {k : IntKind} {xs : List Int} (h : Ar w b 0 k xs) (i : Nat) (hi : i < xs.length) : w.frozen? ⟨b, i, none⟩ = false := by
  have := h.free i hi
  rwa [Nat.zero_add] at this
theorem Ar.mk {w : World} {b o : Nat} {k : IntKind} {xs : List Int} (h : ∀ i, i < xs.length → w.cell? ⟨b, o + i, none⟩ = some (.int k (gb xs i)) ∧ w.frozen? ⟨b, o + i, none⟩ = false) : Ar w b o k xs := by
  refine ⟨fun j v hv => ?_, fun j hj => ?_⟩
  · have hj : j < xs.length := by have := (List.getElem?_eq_some_iff.1 hv).1; simpa using this
    rw [(h j hj).1, ← hv]
    simp [gb, List.getD, hj]
  · exact ⟨by rw [(h j hj).1]; rfl, (h j hj).2⟩
theorem Ar.lt {w : World} {b o : Nat} {k : IntKind} {xs : List Int} (h : Ar w b o k xs) (hp : 0 < xs.length) : b < w.heap.size := World.block_lt_of_cell? w _ (h.cell 0 hp)
theorem Ar.heap {w w' : World} {b o : Nat} {k : IntKind} {xs : List Int} (h : Ar w b o k xs) (e : w'.heap[b]? = w.heap[b]?) : Ar w' b o k xs :=
  Ar.mk fun i hi => ⟨by rw [World.cell?_of_block (w := w) (w' := w') (a := ⟨b, o + i, none⟩) e]; exact h.cell i hi, by rw [World.frozen?_of_block (w := w) (w' := w') (a := ⟨b, o + i, none⟩) e]; exact h.free i hi⟩
theorem Ar.below {w w' : World} {b o B : Nat} {k : IntKind} {xs : List Int} (h : Ar w b o k xs) (hb : Below B w w') (hB : b < B) : Ar w' b o k xs := h.heap (hb.block b hB)
theorem Ar.alloc {w : World} {b o : Nat} {k : IntKind} {xs : List Int} (h : Ar w b o k xs) (ob : Obj) : Ar (w.alloc ob) b o k xs := ⟨World.rangeAt_alloc h.1 ob, World.there_alloc h.2 ob⟩
theorem Ar.drewN {w : World} {b o : Nat} {k : IntKind} {xs : List Int} (h : Ar w b o k xs) (n : Nat) : Ar (w.drewN n) b o k xs := h.heap rfl
theorem Ar.other {w : World} {b o : Nat} {k : IntKind} {xs : List Int} (h : Ar w b o k xs) {p : Addr} (hp : b ≠ p.block) (u : Value) : Ar (w.setCell p u) b o k xs := h.heap (Below.heap_setCell w p u b hp)
theorem Ar.new (w : World) (t : TypeId) (k : IntKind) (xs : List Int) : Ar (w.alloc (.cells (ints k xs) t)) w.heap.size 0 k xs :=
  Ar.mk fun i hi => by
    have e := cell_of_row (w.alloc (.cells (ints k xs) t)) w.heap.size (0 + i) _ t (0, 0) (heap_alloc_last w _)
    refine ⟨by rw [e]; simp [ints, gb, List.getD, hi], ?_⟩
    exact World.frozen?_alloc_at _ _ _ _ rfl
theorem Ar.set {w : World} {b o : Nat} {k : IntKind} {xs : List Int} (h : Ar w b o k xs) (i : Nat) (hi : i < xs.length) (x : Int) : Ar (w.setCell ⟨b, o + i, none⟩ (.int k x)) b o k (xs.set i x) :=
  Ar.mk fun j hj => by
    rw [List.length_set] at hj
    refine ⟨?_, by rw [World.frozen?_setCell]; exact h.free j hj⟩
    by_cases e : i = j
    · subst e
      rw [World.cell?_setCell_same _ _ _ (h.cell i hi)]
      simp [gb, List.getD, hi]
    · rw [World.cell?_setCell_other _ _ _ _ (by intro hh; injection hh with _ h2; omega), h.cell j hj]
      simp [gb, List.getD, e]
theorem Ar.set0 {w : World} {b : Nat} {k : IntKind} {xs : List Int} (h : Ar w b 0 k xs) (i : Nat) (hi : i < xs.length) (x : Int) : Ar (w.setCell ⟨b, i, none⟩ (.int k x)) b 0 k (xs.set i x) := by
  have := h.set i hi x
  rwa [Nat.zero_add] at this
/-- what lies apart in the same block -/
theorem Ar.apart {w : World} {b o : Nat} {k : IntKind} {xs : List Int} (h : Ar w b o k xs) (b' o' : Nat) (vs : List Value) (hap : b ≠ b' ∨ o + xs.length ≤ o' ∨ o' + vs.length ≤ o) : Ar (w.setCells b' o' vs) b o k xs :=
  ⟨World.rangeAt_setCells_apart h.1 b' o' vs (by simpa using hap), World.there_setCells h.2 b' o' vs⟩
/-- a part is written -/
def laid (xs : List Int) (s : Nat) (ys : List Int) : List Int := xs.take s ++ ys ++ xs.drop (s + ys.length)
theorem laid_len (xs : List Int) (s : Nat) (ys : List Int) (h : s + ys.length ≤ xs.length) : (laid xs s ys).length = xs.length := by simp [laid]; omega
theorem gb_laid (xs : List Int) (s : Nat) (ys : List Int) (hs : s + ys.length ≤ xs.length) (j : Nat) : gb (laid xs s ys) j = if j < s then gb xs j else if j < s + ys.length then gb ys (j - s) else gb xs j := by
  have hm : (xs.take s).length = s := by simp; omega
  unfold gb laid
  by_cases h1 : j < s
  · rw [if_pos h1, List.append_assoc, List.getD_eq_getElem?_getD, List.getElem?_append_left (by omega), List.getElem?_take, if_pos h1]; rfl
  · rw [if_neg h1, List.append_assoc, List.getD_eq_getElem?_getD, List.getElem?_append_right (by omega), hm]
    by_cases h2 : j < s + ys.length
    · rw [if_pos h2, List.getElem?_append_left (by omega)]; rfl
    · rw [if_neg h2, List.getElem?_append_right (by omega), List.getElem?_drop, show s + ys.length + (j - s - ys.length) = j by omega]; rfl
theorem Ar.lay {w : World} {b o : Nat} {k : IntKind} {xs : List Int} (h : Ar w b o k xs) (s : Nat) (ys : List Int) (hs : s + ys.length ≤ xs.length) : Ar (w.setCells b (o + s) (ys.map (Value.int k))) b o k (laid xs s ys) :=
  Ar.mk fun j hj => by
    rw [laid_len xs s ys hs] at hj
    refine ⟨?_, by rw [World.frozen?_setCells]; exact h.free j hj⟩
    by_cases h1 : j < s
    · rw [World.cell?_setCells_out _ _ _ _ _ (fun _ _ => by left; show o + j < o + s; omega), h.cell j hj, gb_laid xs s ys hs, if_pos h1]
    · by_cases h2 : j < s + ys.length
      · have e := World.cell?_setCells_in b (ys.map (Value.int k)) (o + s) w (fun i hi => by
          simp only [List.length_map] at hi
          rw [show o + s + i = o + (s + i) by omega, h.cell (s + i) (by omega)]; rfl) (j - s) (by simp; omega)
        rw [show o + s + (j - s) = o + j by omega] at e
        rw [e, gb_laid xs s ys hs, if_neg h1, if_pos h2]
        simp [gb, List.getD, show j - s < ys.length by omega]
      · rw [World.cell?_setCells_out _ _ _ _ _ (fun _ _ => by right; simp; omega), h.cell j hj, gb_laid xs s ys hs, if_neg h1, if_neg h2]
/-- all of it is written -/
theorem Ar.whole {w : World} {b o : Nat} {k : IntKind} {xs : List Int} (ht : w.there b o xs.length) : Ar (w.setCells b o (xs.map (Value.int k))) b o k xs :=
  ⟨World.rangeAt_setCells_same w b o _ (by simpa using ht), World.there_setCells ht b o _⟩
theorem results_ar {fn : Func} {p : Tmp} {ty : TypeId} (h : fn.results = #[.cell p ty]) (tmps : Array Value) (w : World) (b o : Nat) (k : IntKind) (xs : List Int) (hp : tmps.getD p undef = .pointer (some ⟨b, o, none⟩)) (ha : Ar w b o k xs)
    (n : Nat) (e : TypeId) (hu : Try.prog.underlying ty = some (.array n e)) (hi : (Try.prog.info? ty).map (·.size) = some n) (hn : xs.length = n) : (results fn tmps).run Try.prog w = .ok (.agg (ints k xs)) w := by
  have hp' : tmps[p]?.getD undef = .pointer (some ⟨b, o, none⟩) := by simpa using hp
  have hl := run_loadVar_mid (P := Try.prog) w b o ty _ _ ha.1 hu rfl (by rw [hi]; simp [hn])
  simp [results, h, hp', asAddr, hl, ints]
/-- noughts -/
def z64 : List Int := List.replicate 64 0
def z8 : List Int := List.replicate 8 0

section
variable {ops : Array Oper} {rest : List Oper} {o : Oper} {a : Act} {Q : Exit → Act → World → Prop}
/-- a parameter that is an array gets a place -/
theorem box_law (w : World) (hg : o.guard = none) (x : Operand) (t : TypeId) (hop : o.op = Op.box t x) (k : IntKind) (xs : List Int) (hx : a.eval x = .agg (ints k xs))
    (hK : wpList Try.prog ops Q rest (a.put o.dst (.pointer (some ⟨w.heap.size, 0, none⟩))) (w.alloc (.cells (ints k xs) t))) :
    wpList Try.prog ops Q (o :: rest) a w := by
  refine wpList_plain hg fun K hK' => ?_
  unfold Oper.wp
  simp [execOp, hop, hx, Instr.box, newVar, newRow, Value.cells, Result.andThen]
  exact hK' _ _ hK
/-- a variable that is an array gets a place: noughts -/
theorem new_law (w : World) (hg : o.guard = none) (t : TypeId) (hop : o.op = Op.alloc t) (k : IntKind) (xs : List Int) (hz : (Try.prog.info? t).map (fun i => (i.zero, i.size)) = some (some (.agg (ints k xs)), xs.length))
    (hK : wpList Try.prog ops Q rest (a.put o.dst (.pointer (some ⟨w.heap.size, 0, none⟩))) (w.alloc (.cells (ints k xs) t))) :
    wpList Try.prog ops Q (o :: rest) a w := by
  refine wpList_plain hg fun K hK' => ?_
  have hz' := (zero_of_info hz).1
  unfold Oper.wp
  simp [execOp, hop, Instr.alloc, hz', newVar, newRow, Value.cells, Result.andThen]
  exact hK' _ _ hK
/-- a whole array is read -/
theorem load_law (w : World) (hg : o.guard = none) (x : Operand) (t : TypeId) (hop : o.op = Op.load t x) (k : IntKind) (xs : List Int) (b p : Nat) (hx : a.eval x = .pointer (some ⟨b, p, none⟩)) (h : Ar w b p k xs)
    (n : Nat) (e : TypeId) (hu : Try.prog.underlying t = some (.array n e)) (hi : (Try.prog.info? t).map (·.size) = some n) (hn : xs.length = n)
    (hK : wpList Try.prog ops Q rest (a.put o.dst (.agg (ints k xs))) w) :
    wpList Try.prog ops Q (o :: rest) a w :=
  wpList_load_mid hg t x hop b p hx _ _ h.1 hu rfl (by rw [hi]; simp [hn]) hK
/-- a whole array is written -/
theorem store_law (w : World) (hg : o.guard = none) (x y : Operand) (t : TypeId) (hop : o.op = Op.store t x y) (k : IntKind) (ys : List Int) (b p : Nat) (hx : a.eval x = .pointer (some ⟨b, p, none⟩)) (hy : a.eval y = .agg (ints k ys))
    (ht : w.there b p ys.length) (n : Nat) (hi : (Try.prog.info? t).map (·.size) = some n) (hn : ys.length = n)
    (hK : wpList Try.prog ops Q rest (a.put o.dst undef) (w.setCells b p (ys.map (Value.int k)))) :
    wpList Try.prog ops Q (o :: rest) a w :=
  wpList_store_mid hg t x y hop b p (ints k ys) hx hy (by rw [ints_size]; exact ht) (by rw [hi, ints_size, hn]) (ints_one k ys) (by rw [ints_toList]; exact hK)
/-- 'copy(d, s)' of bytes: as many as fit -/
theorem copy_law (w : World) (hg : o.guard = none) (x y : Operand) (hop : o.op = .call { callee := .builtin .copy, args := #[x, y], argTypes := #[22, 22] })
    (b p dl dc : Nat) (v : Value) (ys : List Int) (hx : a.eval x = .slice (some ⟨b, p, none⟩) dl dc) (hy : a.eval y = v) (hb : Byt w v ys) (ht : w.there b p (min ys.length dl))
    (hK : wpList Try.prog ops Q rest (a.put o.dst (.int .i64 ((min ys.length dl : Nat) : Int))) (w.setCells b p ((ys.take dl).map (Value.int .u8)))) :
    wpList Try.prog ops Q (o :: rest) a w := by
  refine wpList_plain hg fun K hK' => ?_
  obtain ⟨i0, hi, hz0, hz1, hz2⟩ := info_parts info_u8
  obtain ⟨ao, cap, rfl, h1, h2, h3, h4, h5⟩ := hb
  have hs : (Try.prog.info? 5).map (·.size) = some 1 := by rw [hi]; simp [hz1]
  have hrun : (Builtin.copy_ #[22, 22] o.type #[.slice (some ⟨b, p, none⟩) dl dc, .slice ao ys.length cap]).run Try.prog w = .ok (.int .i64 ((min ys.length dl : Nat) : Int)) (w.setCells b p ((ys.take dl).map (Value.int .u8))) := by
    by_cases hz : min ys.length dl = 0
    · have := run_copy_none (P := Try.prog) w 22 22 o.type 5 (some ⟨b, p, none⟩) ao dl dc ys.length cap Try.underlying22 hs hz
      rw [this, hz]
      have : ys.take dl = [] := by
        rcases Nat.eq_zero_or_pos dl with h | h
        · subst h; simp
        · have : ys = [] := List.eq_nil_of_length_eq_zero (by omega)
          subst this; simp
      rw [this]; rfl
    · obtain ⟨b', off, rfl, hc⟩ := h5 (by omega)
      have hlen : ((ys.take dl).map (Value.int .u8)).length = min ys.length dl := by simp; omega
      have := run_copy_cells (P := Try.prog) w 22 22 o.type 5 b p dl dc ⟨b', off, none⟩ ys.length cap ((ys.take dl).map (Value.int .u8)) Try.underlying22 hs hlen (fun j u hj => by
        have hj' : j < min ys.length dl := by rw [← hlen]; exact (List.getElem?_eq_some_iff.1 hj).1
        rw [Addr.add_mid, hc j (by omega), ← hj]
        simp [gb, List.getD, show j < dl by omega, show j < ys.length by omega]) (fun j hj => (ht j (by rw [← hlen]; exact hj)).1) (fun j hj => (ht j (by rw [← hlen]; exact hj)).2) (fun u hu => by
        simp only [List.mem_map] at hu
        obtain ⟨x, _, rfl⟩ := hu
        rfl)
      rw [this, hlen]; rfl
  unfold Oper.wp execOp
  simp only [hop, resolve, invoke, builtin, Sem.run_bind, Sem.run_pure, Result.andThen_ok, List.map_toArray, List.map_cons, List.map_nil, hx, hy, hrun]
  exact hK' _ _ hK
/-- an array's literal -/
theorem build_law (w : World) (hg : o.guard = none) (t : TypeId) (parts : Array (Nat × Operand)) (hop : o.op = Op.build t parts) (v : Value) (hrun : (Instr.build t (parts.map fun (i, x) => (i, a.eval x))).run Try.prog w = .ok v w)
    (hK : wpList Try.prog ops Q rest (a.put o.dst v) w) : wpList Try.prog ops Q (o :: rest) a w := by
  refine wpList_plain hg fun K hK' => ?_
  unfold Oper.wp execOp
  simp only [hop, Sem.run_bind, Sem.run_pure, Result.andThen_ok, hrun]
  exact hK' _ _ hK
end

theorem z_arr64w : (Try.prog.info? 69).map (fun i => (i.zero, i.size)) = some (some (.agg (ints .u32 z64)), z64.length) := by kernel_rfl
theorem z_arr64b : (Try.prog.info? 42).map (fun i => (i.zero, i.size)) = some (some (.agg (ints .u8 z64)), z64.length) := by kernel_rfl
theorem z_arr8 : (Try.prog.info? 60).map (fun i => (i.zero, i.size)) = some (some (.agg (ints .u32 z8)), z8.length) := by kernel_rfl
theorem i_arr64w : (Try.prog.info? 69).map (·.size) = some 64 := by kernel_rfl
theorem i_arr64b : (Try.prog.info? 42).map (·.size) = some 64 := by kernel_rfl
theorem i_arr8 : (Try.prog.info? 60).map (·.size) = some 8 := by kernel_rfl

set_option maxRecDepth 100000 in
set_option maxHeartbeats 2000000 in
theorem constants_any (w : World) :
    Calls Try.prog 48 #[] w fun e w' => e = .returned (.agg (ints .u32 kc)) ∧ Below w.heap.size w w' := by
  have HT : Hid ((w.alloc (.cells (ints .u32 z64) 69)).there w.heap.size 0 kc.length) := (Ar.new w 69 .u32 z64).2
  go_enter Try.func48, Try.ntmps48
  go_wp2_with (first
    | (refine new_law _ rfl 69 rfl .u32 z64 z_arr64w ?_)
    | (refine build_law _ rfl 69 _ rfl (.agg (ints .u32 kc)) (by kernel_rfl) ?_)
    | (refine store_law _ rfl (.tmp 0) (.tmp 1) 69 rfl .u32 kc _ _ rfl rfl HT.out 64 i_arr64w rfl ?_))
  refine bodyPost_ret (v := .agg (ints .u32 kc)) (results_ar rfl _ _ w.heap.size 0 .u32 kc rfl (Ar.whole HT.out) 64 59 Try.underlying69 i_arr64w rfl) rfl ⟨rfl, ?_⟩
  exact Lib.below_setCells _ (Nat.le_refl _) _ _ ((Below.refl _ _).alloc (Nat.le_refl _) _)
end Go.Proofs.Ytaplllonomdgeaa
