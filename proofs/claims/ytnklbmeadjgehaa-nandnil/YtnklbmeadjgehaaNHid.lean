/- A world of which some blocks are hidden: what is known of the rest lasts while the hidden ones are written. No claim of its own. -/
import Derived.Test.YtnklbmeadjgehaaNRow
import Derived.Test.YtnklbmeadjgehaaUCopy
namespace Go.Proofs.Ytnklbmeadjgehaa.na
open Go.RowKit Go.Proofs.Ytnklbmeadjgehaa.fa
set_option maxRecDepth 20000

/-- the world w, the blocks of M emptied -/
def hid (M : Nat → Bool) (w : World) : World := { w with heap := w.heap.mapIdx fun b o => if M b then Obj.cells #[] 0 else o }
theorem hid_size (M : Nat → Bool) (w : World) : (hid M w).heap.size = w.heap.size := by simp [hid]
theorem hid_heap (M : Nat → Bool) (w : World) (b : Nat) : (hid M w).heap[b]? = (w.heap[b]?).map fun o => if M b then Obj.cells #[] 0 else o := by simp [hid]
theorem hid_at {M : Nat → Bool} {w : World} {b : Nat} (h : M b = false) : (hid M w).heap[b]? = w.heap[b]? := by
  rw [hid_heap]
  simp [h]
theorem hid_cell {M : Nat → Bool} {w : World} {a : Addr} {v : Value} (h : (hid M w).cell? a = some v) : w.cell? a = some v ∧ M a.block = false := by
  cases hM : M a.block with
  | false => exact ⟨by rw [← World.cell?_of_block (w := w) (w' := hid M w) (a := a) (hid_at hM)]; exact h, rfl⟩
  | true =>
    exfalso
    unfold World.cell? at h
    rw [hid_heap] at h
    cases hb : w.heap[a.block]? with
    | none => simp [hb] at h
    | some o => simp [hb, hM] at h
theorem cell_hid {M : Nat → Bool} {w : World} {a : Addr} {v : Value} (h : w.cell? a = some v) (hM : M a.block = false) : (hid M w).cell? a = some v := by
  rw [World.cell?_of_block (w := w) (w' := hid M w) (a := a) (hid_at hM)]; exact h
theorem hid_range {M : Nat → Bool} {w : World} {b p : Nat} {cs : List Value} (h : (hid M w).rangeAt b p cs) : w.rangeAt b p cs := fun j v hv => (hid_cell (h j v hv)).1
theorem range_hid {M : Nat → Bool} {w : World} {b p : Nat} {cs : List Value} (h : w.rangeAt b p cs) (hM : M b = false) : (hid M w).rangeAt b p cs := fun j v hv => cell_hid (h j v hv) hM
theorem hid_byt {M : Nat → Bool} {w : World} {v : Value} {xs : List Int} (h : Byt (hid M w) v xs) : Byt w v xs := by
  obtain ⟨ao, cap, rfl, h1, h2, h3, h4, h5⟩ := h
  refine ⟨ao, cap, rfl, h1, h2, h3, h4, fun hp => ?_⟩
  obtain ⟨b, off, rfl, hc⟩ := h5 hp
  exact ⟨b, off, rfl, fun t ht => (hid_cell (hc t ht)).1⟩
theorem hid_rws {M : Nat → Bool} {w : World} {v : Value} {k : Nat} {ess : List (List Value)} (h : Rws (hid M w) v k ess) : Rws w v k ess := by
  obtain ⟨ao, cap, rfl, h1, h2, h3, h4, h5⟩ := h
  refine ⟨ao, cap, rfl, h1, h2, h3, h4, fun hp => ?_⟩
  obtain ⟨b, off, rfl, hc⟩ := h5 hp
  exact ⟨b, off, rfl, fun t ht => hid_range (hc t ht)⟩
theorem hid_fls {M : Nat → Bool} {w : World} {v : Value} {fs : List (Int × Bool × Value)} (h : Fls (hid M w) v fs) : Fls w v fs := by
  obtain ⟨ao, cap, rfl, h1, h2, h3, h5⟩ := h
  refine ⟨ao, cap, rfl, h1, h2, h3, fun hp => ?_⟩
  obtain ⟨b, off, rfl, hc⟩ := h5 hp
  exact ⟨b, off, rfl, fun t ht => FlA.of (hid_range (hc t ht).range)⟩
theorem hid_mks {M : Nat → Bool} {w : World} {fs : List (Int × Bool × Value)} {ms : Nat → List Int} (h : Mks (hid M w) fs ms) : Mks w fs ms := fun t ht => ⟨hid_byt (h t ht).1, (h t ht).2⟩
/-- bytes from block B on are not hidden, where all that is hidden lies ahead -/
theorem bow_hid {M : Nat → Bool} {B : Nat} {w : World} {v : Value} {xs : List Int} (h : Bow B w v xs) (hM : ∀ b, M b = true → b < B) : Byt (hid M w) v xs := by
  obtain ⟨⟨ao, cap, rfl, h1, h2, h3, h4, h5⟩, ho⟩ := h
  refine ⟨ao, cap, rfl, h1, h2, h3, h4, fun hp => ?_⟩
  obtain ⟨b, off, rfl, hc⟩ := h5 hp
  obtain ⟨b', off', cap', e, hB, _⟩ := ho hp
  cases e
  refine ⟨b, off, rfl, fun t ht => cell_hid (hc t ht) ?_⟩
  cases q : M b with
  | false => rfl
  | true => have := hM b q; omega
theorem not_hid {M : Nat → Bool} {B b : Nat} (hM : ∀ b, M b = true → b < B) (h : B ≤ b) : M b = false := by
  cases q : M b with
  | false => rfl
  | true => have := hM b q; omega
theorem own_hid {M : Nat → Bool} {B : Nat} {w : World} {v : Value} {xs : List Int} (h : Own B w v xs) (ha : AllB xs) (hM : ∀ b, M b = true → b < B) : Byt (hid M w) v xs := bow_hid (bow_own h ha) hM
theorem owr_hid {M : Nat → Bool} {B : Nat} {w : World} {v : Value} {e : TypeId} {k : Nat} {ess : List (List Value)} (h : OwR B w v e k ess) (hM : ∀ b, M b = true → b < B) : Rws (hid M w) v k ess := by
  obtain ⟨ao, cap, rfl, h1, h2, h3, h4, h5⟩ := h.rws
  refine ⟨ao, cap, rfl, h1, h2, h3, h4, fun hp => ?_⟩
  obtain ⟨g, cap', e, hg, hr⟩ := h.row hp
  cases e
  exact ⟨g, 0, rfl, fun t ht => by rw [Nat.zero_add]; exact range_hid (hr t ht).1 (not_hid hM hg)⟩

/-- what is not of M stays -/
def Frm (M : Nat → Bool) (w w' : World) : Prop := w'.os = w.os ∧ w'.tape = w.tape ∧ w'.output = w.output ∧ w.heap.size ≤ w'.heap.size ∧ ∀ k, k < w.heap.size → M k = false → w'.heap[k]? = w.heap[k]?
theorem Frm.refl (M : Nat → Bool) (w : World) : Frm M w w := ⟨rfl, rfl, rfl, Nat.le_refl _, fun _ _ _ => rfl⟩
theorem Frm.size {M : Nat → Bool} {w w' : World} (h : Frm M w w') : w.heap.size ≤ w'.heap.size := h.2.2.2.1
theorem Frm.of_below {M : Nat → Bool} {w w' : World} (h : Below w.heap.size w w') : Frm M w w' := ⟨h.os, h.tape, h.output, h.size, fun k hk _ => h.block k hk⟩
theorem Frm.trans {M M' : Nat → Bool} {a b c : World} (h : Frm M a b) (h' : Frm M' b c) (hM : ∀ k, k < a.heap.size → M k = false → M' k = false) : Frm M a c :=
  ⟨h'.1.trans h.1, h'.2.1.trans h.2.1, h'.2.2.1.trans h.2.2.1, Nat.le_trans h.size h'.size, fun k hk q => (h'.2.2.2.2 k (Nat.lt_of_lt_of_le hk h.size) (hM k hk q)).trans (h.2.2.2.2 k hk q)⟩
theorem Frm.tr {M : Nat → Bool} {a b c : World} (h : Frm M a b) (h' : Frm M b c) : Frm M a c := h.trans h' fun _ _ q => q
theorem Frm.cells {M : Nat → Bool} {w : World} {b : Nat} (hb : M b = true) (o : Nat) (vs : List Value) : Frm M w (w.setCells b o vs) := by
  have h := below_cells b (Nat.le_refl _) vs o (Below.refl b w)
  refine ⟨h.os, h.tape, h.output, h.size, fun k hk q => ?_⟩
  have hne : k ≠ b := by intro e; rw [e, hb] at q; cases q
  clear h hk
  induction vs generalizing o w with
  | nil => rfl
  | cons v r ih => exact (ih (w := w.setCell ⟨b, o, none⟩ v) (o + 1) ).trans (Below.heap_setCell w ⟨b, o, none⟩ v k hne)
theorem Frm.set {M : Nat → Bool} {w : World} {b : Nat} (hb : M b = true) (o : Nat) (v : Value) : Frm M w (w.setCell ⟨b, o, none⟩ v) := Frm.cells hb o [v]
theorem Frm.grown {M : Nat → Bool} {w w' : World} {row : Option Nat} (h : w.grownBy w' row) (hr : ∀ k, row = some k → M k = true) : Frm M w w' :=
  ⟨h.os, h.tape, h.output, h.size, fun k hk q => h.block k hk fun e => by rw [hr k e.symm] at q; cases q⟩
theorem Frm.drewN {M : Nat → Bool} {w w' : World} (h : Frm M w w') (n : Nat) : Frm M w (w'.drewN n) := h
theorem Frm.below {M : Nat → Bool} {w w' : World} {B : Nat} (h : Frm M w w') (hB : B ≤ w.heap.size) (hM : ∀ k, M k = true → B ≤ k) : Below B w w' :=
  ⟨h.1, h.2.1, h.2.2.1, h.size, fun k hk => h.2.2.2.2 k (by omega) (by
    cases q : M k with
    | false => rfl
    | true => have := hM k q; omega)⟩
/-- what lies off M lasts -/
theorem Frm.hid {M M' : Nat → Bool} {w w' : World} (h : Frm M w w') (hM : ∀ k, k < w.heap.size → M' k = M k) : Below (na.hid M w).heap.size (na.hid M w) (na.hid M' w') := by
  rw [hid_size]
  refine ⟨h.1, h.2.1, h.2.2.1, by rw [hid_size, hid_size]; exact h.size, fun k hk => ?_⟩
  have e := hM k hk
  cases q : M k with
  | false => rw [hid_at q, hid_at (e.trans q)]; exact h.2.2.2.2 k hk q
  | true =>
    have hk' := Nat.lt_of_lt_of_le hk h.size
    rw [hid_heap, hid_heap, e, q, Array.getElem?_eq_getElem hk, Array.getElem?_eq_getElem hk']
    rfl
theorem Frm.hid0 {M : Nat → Bool} {w w' : World} (h : Frm M w w') : Below (na.hid M w).heap.size (na.hid M w) (na.hid M w') := h.hid fun _ _ => rfl
theorem below_hid {M : Nat → Bool} {w w' : World} (h : Below w.heap.size w w') : Below (na.hid M w).heap.size (na.hid M w) (na.hid M w') := (Frm.of_below h).hid0
theorem Frm.block {M : Nat → Bool} {w w' : World} (h : Frm M w w') {k : Nat} (hk : k < w.heap.size) (q : M k = false) : w'.heap[k]? = w.heap[k]? := h.2.2.2.2 k hk q

section
variable {ops : Array Oper} {rest : List Oper} {a : Act} {Q : Exit → Act → World → Prop}
/-- one cell is written; the world gets a name -/
theorem store_law1 {d : Option Tmp} {x y : Operand} {t ty : TypeId} {pos : String} {af : Array Edge} (w : World) (b j : Nat) (v : Value) (hx : a.eval x = .pointer (some ⟨b, j, none⟩)) (hy : a.eval y = v) (hc : (w.cell? ⟨b, j, none⟩).isSome = true) (hf : w.frozen? ⟨b, j, none⟩ = false) (hi : (Try.prog.info? t).map (·.size) = some 1) (h1 : v.oneCell' = true) (hcv : v.cells = #[v])
    (hK : ∀ w', Hid (w' = w.setCell ⟨b, j, none⟩ v) → wpList Try.prog ops Q rest (a.put d undef) w') :
    wpList Try.prog ops Q (⟨d, Op.store t x y, ty, pos, af, none⟩ :: rest) a w := by
  refine wpList_plain rfl fun K hK' => ?_
  have hr : (storeVar t ⟨b, j, none⟩ v).run Try.prog w = .ok () (w.setCell ⟨b, j, none⟩ v) := by
    have e0 : ∀ i, i < [v].length → i = 0 := fun i hi => by simpa using hi
    have := run_storeCells_cells (P := Try.prog) b j [v] 0 w (fun i hi => by rw [e0 i hi]; simpa using hc) (fun i hi => by rw [e0 i hi]; simpa using hf) (fun u hu => by simp at hu; subst hu; exact h1)
    cases hq : Try.prog.info? t with
    | none => simp [hq] at hi
    | some i =>
      have hs : i.size = 1 := by simpa [hq] using hi
      simp only [Nat.add_zero] at this
      simp [storeVar, sizeOf, typeInfo, hq, hcv, hs]
      simpa [World.setCells] using this
  unfold Oper.wp execOp
  simp only [hx, hy, Instr.storeAt, Instr.sureAddr, Sem.run_bind, Sem.run_pure, Result.andThen_ok, hr]
  exact hK' _ _ (hK _ rfl)
end
theorem Vr.there1 {w : World} {c : Nat} {cs : List Value} (h : Vr w c cs) (j : Nat) (hj : j < cs.length) : (w.cell? ⟨c, j, none⟩).isSome = true := by
  rw [h.cell j _ (List.getElem?_eq_getElem hj)]; rfl
end Go.Proofs.Ytnklbmeadjgehaa.na
