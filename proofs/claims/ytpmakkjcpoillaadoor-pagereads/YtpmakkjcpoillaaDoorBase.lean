/- What it means that a slice value holds a list of bytes, and how that lasts: no claim of its own. -/
import Derived.Test.YtpmakkjcpoillaaDoorRows
import Derived.WalkKit
import Derived.WalkSmall
import Derived.ProofKit
import Derived.OpenShut
import Derived.BigQuiet
import Derived.Deep.QuietTactic
namespace Go.Proofs.YtpmakkjcpoillaaDoor
open Go.RowKit
set_option maxRecDepth 20000

/-- the byte at place j: a name of its own, so that the walk leaves it as it is -/
def gb (xs : List Int) (j : Nat) : Int := xs.getD j 0
theorem gb_def (xs : List Int) (j : Nat) : gb xs j = xs.getD j 0 := rfl

/-- the numbers of xs are bytes -/
def AllB (xs : List Int) : Prop := ∀ j : Nat, 0 ≤ gb xs j ∧ gb xs j ≤ 255

/-- the slice value v holds the bytes xs in w -/
def Byt (w : World) (v : Value) (xs : List Int) : Prop :=
  ∃ ao cap, v = .slice ao xs.length cap ∧ xs.length ≤ cap ∧ cap ≤ 9223372036854775807 ∧ AllB xs ∧ (ao = none → cap = 0) ∧
    (0 < xs.length → ∃ b off, ao = some ⟨b, off, none⟩ ∧ ∀ t, t < xs.length → w.cell? ⟨b, off + t, none⟩ = some (.int .u8 (gb xs t)))

theorem Byt.below {w w' : World} {v : Value} {xs : List Int} (h : Byt w v xs) (hb : Below w.heap.size w w') : Byt w' v xs := by
  obtain ⟨ao, cap, rfl, h1, h2, h3, h4, h5⟩ := h
  refine ⟨ao, cap, rfl, h1, h2, h3, h4, fun hp => ?_⟩
  obtain ⟨b, off, rfl, hc⟩ := h5 hp
  refine ⟨b, off, rfl, fun t ht => ?_⟩
  have := hc t ht
  rw [hb.cell (World.block_lt_of_cell? w _ this)]
  exact this

theorem Byt.nil (w : World) : Byt w (.slice none 0 0) [] :=
  ⟨none, 0, rfl, by simp, by simp, fun j => by simp [gb], fun _ => rfl, fun h => by simp at h⟩

theorem Byt.all {w : World} {v : Value} {xs : List Int} (h : Byt w v xs) : AllB xs := by
  obtain ⟨ao, cap, rfl, h1, h2, h3, h4, h5⟩ := h
  exact h3

theorem Byt.len {w : World} {v : Value} {xs : List Int} (h : Byt w v xs) : xs.length ≤ 9223372036854775807 := by
  obtain ⟨ao, cap, rfl, h1, h2, h3, h4, h5⟩ := h
  omega

/-- a row of the call's own, as bytes -/
theorem Byt.own {w : World} {base : Nat} {v : Value} {n : Nat} {xs : List Int} (h : w.ownsRow base 5 1 v n (xs.map (Value.int .u8))) (ha : AllB xs) : Byt w v xs := by
  have hl : xs.length = n := by have := h.1; simpa using this
  rcases h.2 with ⟨rfl, hn⟩ | ⟨g, cap, cur, rfl, hg, hb, hc, hm, hs, ht⟩
  · have : xs = [] := List.eq_nil_of_length_eq_zero (by omega)
    subst this
    exact Byt.nil w
  · subst hl
    refine ⟨some ⟨g, 0, none⟩, cap, rfl, hc, by simpa [maxLen] using hm, ha, (by intro h; cases h), fun hp => ⟨g, 0, rfl, fun t ht' => ?_⟩⟩
    have := h.cells (g := g) rfl t (.int .u8 (gb xs t)) (by simp [gb, List.getD, ht'])
    rw [Addr.add_lit] at this
    simpa using this

theorem ext_gb {xs ys : List Int} (h : xs.length = ys.length) (h' : ∀ t, t < xs.length → gb xs t = gb ys t) : xs = ys := by
  refine List.ext_getElem h fun t h1 h2 => ?_
  have := h' t h1
  simpa [gb, List.getD, h1, h2] using this

theorem allB_mem {xs : List Int} (h : ∀ x ∈ xs, 0 ≤ x ∧ x ≤ 255) : AllB xs := by
  intro j
  by_cases hj : j < xs.length
  · have := h (xs[j]) (List.getElem_mem hj)
    simpa [gb, List.getD, hj] using this
  · simp [gb, List.getD, Nat.le_of_not_lt hj]

theorem ret_bool {a b : Bool} (h : a = b) : Ending.returned (.bool a) = .returned (.bool b) := by rw [h]
theorem ret_int {k : IntKind} {a b : Int} (h : a = b) : Ending.returned (.int k a) = .returned (.int k b) := by rw [h]
theorem info_u8 : (Tryd.prog.info? 5).map (fun i => (i.zero, i.size, i.bytes)) = some (some (.int .u8 0), 1, 1) := by kernel_rfl
theorem own : ownKnob Tryd.prog.godebug = none := by kernel_rfl
theorem cells_u8 : Tryd.prog.cellsOf 5 = 1 := by kernel_rfl

/-! ### bytes that the call itself has made -/
/-- v owns the bytes xs, in a block from B on -/
def Own (B : Nat) (w : World) (v : Value) (xs : List Int) : Prop := w.ownsRow B 5 1 v xs.length (xs.map (Value.int .u8))
/-- the whole row g owns n bytes -/
def OwnN (B : Nat) (w : World) (g n : Nat) (xs : List Int) : Prop := xs.length = n ∧ B ≤ g ∧ w.ownsRow B 5 1 (.slice (some ⟨g, 0, none⟩) n n) n (xs.map (Value.int .u8))

theorem Own.byt {B : Nat} {w : World} {v : Value} {xs : List Int} (h : Own B w v xs) (ha : AllB xs) : Byt w v xs := Byt.own h ha
theorem OwnN.byt {B : Nat} {w : World} {g n : Nat} {xs : List Int} (h : OwnN B w g n xs) (ha : AllB xs) : Byt w (.slice (some ⟨g, 0, none⟩) n n) xs := Byt.own h.2.2 ha
theorem Own.empty (w : World) {B : Nat} (hB : B ≤ w.heap.size) : Own B (w.alloc (.cells #[] 5)) (.slice (some ⟨w.heap.size, 0, none⟩) 0 0) [] :=
  World.ownsRow_made w #[] 0 hB (by simp [maxLen]) (by simp)

theorem OwnN.cell {B : Nat} {w : World} {g n : Nat} {xs : List Int} (h : OwnN B w g n xs) {k : Nat} (hk : k < n) : w.cell? ⟨g, k, none⟩ = some (.int .u8 (gb xs k)) := by
  rw [h.2.2.cellAt k (by omega)]
  have := h.1
  simp [gb, List.getD, show k < xs.length by omega]
theorem OwnN.free {B : Nat} {w : World} {g n : Nat} {xs : List Int} (h : OwnN B w g n xs) (k : Nat) : w.frozen? ⟨g, k, none⟩ = false := h.2.2.frozenAt k
theorem OwnN.set {B : Nat} {w : World} {g n : Nat} {xs : List Int} (h : OwnN B w g n xs) (k : Nat) (x : Int) : OwnN B (w.setCell ⟨g, k, none⟩ (.int .u8 x)) g n (xs.set k x) :=
  ⟨by simpa using h.1, h.2.1, by have := (h.2.2.stored k (.int .u8 x)).1; rwa [← List.map_set] at this⟩
theorem OwnN.drew {B : Nat} {w : World} {g n : Nat} {xs : List Int} (h : OwnN B w g n xs) (m : Nat) : OwnN B (w.drewN m) g n xs := h
theorem Own.drew {B : Nat} {w : World} {v : Value} {xs : List Int} (h : Own B w v xs) (m : Nat) : Own B (w.drewN m) v xs := h

section
variable {ops : Array Oper} {rest : List Oper} {o : Oper} {a : Act} {Q : Exit → Act → World → Prop}

/-- 'make([]byte, n)': n noughts of the call's own -/
theorem make_law (w : World) (hg : o.guard = none) (l c : Operand) (hop : o.op = Op.makeSlice 28 l c) (B : Nat) (hB : B ≤ w.heap.size)
    (L : Int) (n : Nat) (hl : a.eval l = .int .i64 L) (hc : a.eval c = .int .i64 L) (hL : L = (n : Int)) (hn : n ≤ 1099511627776)
    (hK : ∀ w', OwnN B w' w.heap.size n (List.replicate n 0) → Below B w w' → w.heap.size < w'.heap.size → wpList Tryd.prog ops Q rest (a.put o.dst (.slice (some ⟨w.heap.size, 0, none⟩) n n)) w') :
    wpList Tryd.prog ops Q (o :: rest) a w := by
  obtain ⟨i0, hi, hz0, hz1, hz2⟩ := info_parts info_u8
  refine wpList_make_full w hg l c 28 hop B 5 i0 (.int .u8 0) 1 Tryd.underlying28 hi hz0 hz1 .i64 .i64 L L n hl hc hL hL (by rw [hz2]; omega) (by simp only [maxLen]; omega) hB fun w' h1 h2 => ?_
  have hlt : w.heap.size < w'.heap.size := (h1.lt w.heap.size rfl).2
  refine hK w' ⟨by simp, hB, ?_⟩ ((Below.refl B w).grown h2 hB (fun k hk => by cases hk)) hlt
  have e : (madeCells (Value.int .u8 0).cells (n * 1)).toList = (List.replicate n (0 : Int)).map (Value.int .u8) := by
    rw [Nat.mul_one]
    show (madeCells #[Value.int .u8 0] n).toList = _
    rw [toList_madeCells_one]; simp
  rw [e] at h1
  exact h1

/-- 'out = append(out, c)', out of the call's own -/
theorem push_law (w0 : World) (hg : o.guard = none) (s x : Operand) (hop : o.op = .call { callee := .builtin .append, args := #[s, x], argTypes := #[28, 28] })
    (B : Nat) (hB : B ≤ w0.heap.size) (v : Value) (xs : List Int) (c : Int) (hs : a.eval s = v) (hx : a.eval x = .slice (some ⟨w0.heap.size, 0, none⟩) 1 1) (hown : Own B w0 v xs) (hn : xs.length ≤ 1099511627776)
    (hK : ∀ v' w', Own B w' v' (xs ++ [c]) → Below B w0 w' → wpList Tryd.prog ops Q rest (a.put o.dst v') w') :
    wpList Tryd.prog ops Q (o :: rest) a (w0.alloc (.cells #[.int .u8 c] 5)) := by
  obtain ⟨i0, hi, hz0, hz1, hz2⟩ := info_parts info_u8
  refine wpList_append_own _ hg s x 28 hop B 5 i0 (.int .u8 0) 1 1 Tryd.underlying28 hi hz0 hz1 hz2 rfl (by decide) v xs.length _ hs (World.ownsRow.alloc hown _) ⟨w0.heap.size, 0, none⟩ 1 1 [.int .u8 c] hx rfl ?_ ?_ (by simp only [maxLen]; omega) (by omega) (by simp; omega) fun v' w' h1 h2 _ => ?_
  · intro j u hj
    match j, hj with
    | 0, hj => simp at hj; subst hj; simp [Addr.add]
  · intro u hu; simp at hu; subst hu; rfl
  · refine hK v' w' ?_ ?_
    · show w'.ownsRow B 5 1 v' (xs ++ [c]).length ((xs ++ [c]).map (Value.int .u8))
      simpa using h1
    · refine ((Below.refl B w0).alloc hB _).grown h2 (by simp; omega) fun k hk => ?_
      exact (World.ownsRow.lt hown k hk).1

/-- 'out = append(out, c)', out of the call's own, in a region that draws its order -/
theorem step_push1 {K : Act → World → Prop} {E : Prop} (w0 : World) (hg : o.guard = none) (s x : Operand) (hop : o.op = .call { callee := .builtin .append, args := #[s, x], argTypes := #[28, 28] })
    (B : Nat) (hB : B ≤ w0.heap.size) (v : Value) (xs : List Int) (c : Int) (hs : a.eval s = v) (hx : a.eval x = .slice (some ⟨w0.heap.size, 0, none⟩) 1 1) (hown : Own B w0 v xs) (hn : xs.length ≤ 1099511627776)
    (hK : ∀ v' w', Own B w' v' (xs ++ [c]) → Below B w0 w' → K (a.put o.dst v') w') :
    if Region.wanted o (yielded ops a.tmps) = true then Oper.wp Tryd.prog o a (w0.alloc (.cells #[.int .u8 c] 5)) K Q else E := by
  have hw : Region.wanted o (yielded ops a.tmps) = true := by simp [Region.wanted, hg]
  rw [if_pos hw]
  obtain ⟨i0, hi, hz0, hz1, hz2⟩ := info_parts info_u8
  refine wp_append_own _ s x 28 hop B 5 i0 (.int .u8 0) 1 1 Tryd.underlying28 hi hz0 hz1 hz2 rfl (by decide) v xs.length _ hs (World.ownsRow.alloc hown _) ⟨w0.heap.size, 0, none⟩ 1 1 [.int .u8 c] hx rfl ?_ ?_ (by simp only [maxLen]; omega) (by omega) (by simp; omega) fun v' w' h1 h2 _ => ?_
  · intro j u hj
    match j, hj with
    | 0, hj => simp at hj; subst hj; simp [Addr.add]
  · intro u hu; simp at hu; subst hu; rfl
  · refine hK v' w' ?_ ?_
    · show w'.ownsRow B 5 1 v' (xs ++ [c]).length ((xs ++ [c]).map (Value.int .u8))
      simpa using h1
    · refine ((Below.refl B w0).alloc hB _).grown h2 (by simp; omega) fun k hk => ?_
      exact (World.ownsRow.lt hown k hk).1

theorem gb_cut (xs : List Int) (l h t : Nat) (ht : t < h - l) : gb ((xs.take h).drop l) t = gb xs (l + t) := by
  simp [gb, List.getD, show l + t < h by omega]

/-- 'b[l:h]' -/
theorem byt_cut {w : World} {v : Value} {xs : List Int} (hb : Byt w v xs) (l h : Nat) (hl : l ≤ h) (hh : h ≤ xs.length) :
    ∃ ao cap, v = .slice ao xs.length cap ∧ h ≤ cap ∧ Byt w (sliced ao l h cap 1) ((xs.take h).drop l) := by
  obtain ⟨ao, cap, rfl, h1, h2, h3, h4, h5⟩ := hb
  refine ⟨ao, cap, rfl, by omega, ?_⟩
  have hlen : ((xs.take h).drop l).length = h - l := by simp; omega
  refine ⟨if cap = l then ao else ao.map (·.add (l * 1)), cap - l, by rw [hlen]; rfl, by omega, by omega, ?_, ?_, ?_⟩
  · intro t
    by_cases ht : t < h - l
    · rw [gb_cut xs l h t ht]; exact h3 _
    · have : gb ((xs.take h).drop l) t = 0 := by
        simp only [gb, List.getD, List.getElem?_eq_none (show ((xs.take h).drop l).length ≤ t by omega)]; rfl
      omega
  · split
    · intro _; omega
    · intro hn
      have := h4 (by simpa using hn)
      omega
  · intro hp
    obtain ⟨b, off, rfl, hc⟩ := h5 (by omega)
    rw [if_neg (by omega)]
    refine ⟨b, off + l, by simp [Addr.add_lit], fun t ht => ?_⟩
    rw [gb_cut xs l h t (by omega), Nat.add_assoc]
    exact hc (l + t) (by omega)

/-- 'b[:m]', the value as the walk spells it -/
theorem Byt.take {w : World} {ao : Option Addr} {n cap : Nat} {xs : List Int} (hb : Byt w (.slice ao n cap) xs) (m : Nat) (hm : m ≤ xs.length) : Byt w (.slice ao m cap) (xs.take m) := by
  obtain ⟨ao', cap', e, h1, h2, h3, h4, h5⟩ := hb
  cases e
  have hlen : (xs.take m).length = m := by simp; omega
  refine ⟨ao, cap, by rw [hlen], by omega, h2, ?_, h4, ?_⟩
  · intro t
    by_cases ht : t < m
    · have := gb_cut xs 0 m t (by omega)
      rw [List.drop_zero, Nat.zero_add] at this
      rw [this]; exact h3 t
    · have : gb (xs.take m) t = 0 := by
        simp only [gb, List.getD, List.getElem?_eq_none (show (xs.take m).length ≤ t by omega)]; rfl
      omega
  · intro hp
    obtain ⟨b, off, rfl, hc⟩ := h5 (by omega)
    refine ⟨b, off, rfl, fun t ht => ?_⟩
    have e := gb_cut xs 0 m t (by omega)
    rw [List.drop_zero, Nat.zero_add] at e
    rw [e]; exact hc t (by omega)

theorem run_size_u8 (w : World) : (sizeOf 5).run Tryd.prog w = .ok 1 w := by
  obtain ⟨i0, hi, hz0, hz1, hz2⟩ := info_parts info_u8
  simp [sizeOf, typeInfo, hi, hz1]

theorem elem_bytes : Tryd.prog.elem 28 = 5 := by kernel_rfl
theorem und_bytes : Tryd.prog.underlying 28 = some (.slice (Tryd.prog.elem 28)) := by kernel_rfl

/-- 'b[l:]' -/
theorem cut_from (w : World) (hg : o.guard = none) (s x : Operand) (hop : o.op = Op.slice 28 s (some x) none none) (v : Value) (xs : List Int) (L : Int) (l : Nat)
    (hs : a.eval s = v) (hx : a.eval x = .int .i64 L) (hL : L = (l : Int)) (hl : l ≤ xs.length) (hb : Byt w v xs)
    (hK : ∀ v', Byt w v' (xs.drop l) → wpList Tryd.prog ops Q rest (a.put o.dst v') w) :
    wpList Tryd.prog ops Q (o :: rest) a w := by
  refine wpList_plain hg fun K hK' => ?_
  obtain ⟨ao, cap, rfl, hc, hb'⟩ := byt_cut hb l xs.length hl (Nat.le_refl _)
  have hrun := run_slice_l (P := Tryd.prog) w 28 ao xs.length cap und_bytes .i64 L (by omega) (by omega)
  rw [elem_bytes, run_size_u8] at hrun
  subst hL
  rw [List.take_length] at hb'
  unfold Oper.wp
  simp [execOp, hop, hs, hx, run_sliceAt_slice w 28 _ _ _ _ und_bytes, hrun, Result.andThen]
  exact hK' _ _ (hK _ hb')

/-- 'b[:h]' -/
theorem cut_to (w : World) (hg : o.guard = none) (s x : Operand) (hop : o.op = Op.slice 28 s none (some x) none) (v : Value) (xs : List Int) (L : Int) (h : Nat)
    (hs : a.eval s = v) (hx : a.eval x = .int .i64 L) (hL : L = (h : Int)) (hh : h ≤ xs.length) (hb : Byt w v xs)
    (hK : ∀ v', Byt w v' (xs.take h) → wpList Tryd.prog ops Q rest (a.put o.dst v') w) :
    wpList Tryd.prog ops Q (o :: rest) a w := by
  refine wpList_plain hg fun K hK' => ?_
  obtain ⟨ao, cap, rfl, hc, hb'⟩ := byt_cut hb 0 h (Nat.zero_le _) hh
  have hrun := run_slice_h (P := Tryd.prog) w 28 ao xs.length cap und_bytes .i64 L (by omega) (by omega)
  rw [elem_bytes, run_size_u8] at hrun
  subst hL
  rw [List.drop_zero] at hb'
  unfold Oper.wp
  simp [execOp, hop, hs, hx, run_sliceAt_slice w 28 _ _ _ _ und_bytes, hrun, Result.andThen]
  exact hK' _ _ (hK _ hb')

/-- 'b[l:h]' -/
theorem cut_part (w : World) (hg : o.guard = none) (s x y : Operand) (hop : o.op = Op.slice 28 s (some x) (some y) none) (v : Value) (xs : List Int) (L H : Int) (l h : Nat)
    (hs : a.eval s = v) (hx : a.eval x = .int .i64 L) (hy : a.eval y = .int .i64 H) (hL : L = (l : Int)) (hH : H = (h : Int)) (hl : l ≤ h) (hh : h ≤ xs.length) (hb : Byt w v xs)
    (hK : ∀ v', Byt w v' ((xs.take h).drop l) → wpList Tryd.prog ops Q rest (a.put o.dst v') w) :
    wpList Tryd.prog ops Q (o :: rest) a w := by
  refine wpList_plain hg fun K hK' => ?_
  obtain ⟨ao, cap, rfl, hc, hb'⟩ := byt_cut hb l h hl hh
  have hrun := run_slice_lh (P := Tryd.prog) w 28 ao xs.length cap und_bytes .i64 .i64 L H (by omega) (by omega) (by omega)
  rw [elem_bytes, run_size_u8] at hrun
  subst hL
  subst hH
  unfold Oper.wp
  simp [execOp, hop, hs, hx, hy, run_sliceAt_slice w 28 _ _ _ _ und_bytes, hrun, Result.andThen]
  exact hK' _ _ (hK _ hb')

end
end Go.Proofs.YtpmakkjcpoillaaDoor
