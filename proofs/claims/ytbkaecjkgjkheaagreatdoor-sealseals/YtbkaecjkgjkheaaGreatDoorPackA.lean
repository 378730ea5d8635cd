/- Texts put together (a claim holds few files). No claim of its own. -/
import Derived.Test.YtbkaecjkgjkheaaGreatDoorRows
import Derived.WalkKit
import Derived.WalkSmall
import Derived.ProofKit
import Derived.OpenShut
import Derived.BigQuiet
import Derived.Deep.QuietTactic
import Derived.Laws.BitsAllLaws
import Derived.Deep.RegionWith
import Derived.Deep.WholeRow
import Derived.Deep.MidRow
import Derived.Laws.StructEq
/- What it means that a slice value holds a list of bytes, and how that lasts: no claim of its own. -/
namespace Go.Proofs.YtbkaecjkgjkheaaGreatDoor
open Go.RowKit
set_option maxRecDepth 20000

/-- the byte at place j: a name of its own, so that the walk leaves it as it is -/
def gb (xs : List Int) (j : Nat) : Int := xs.getD j 0
theorem gb_def (xs : List Int) (j : Nat) : gb xs j = xs.getD j 0 := rfl

/-- the numbers of xs are bytes -/
def AllB (xs : List Int) : Prop := ∀ j : Nat, 0 ≤ gb xs j ∧ gb xs j ≤ 255

/-- the slice value v holds the bytes xs in w -/
def Byt (w : World) (v : Value) (xs : List Int) : Prop :=
  ∃ ao cap, v = .slice ao xs.length cap ∧ xs.length ≤ cap ∧ cap ≤ 9223372036854775807 ∧ AllB xs ∧ (ao = none → cap = 0) ∧
    (0 < xs.length → ∃ b off, ao = some ⟨b, off, none⟩ ∧ ∀ t, t < xs.length → w.cell? ⟨b, off + t, none⟩ = some (.int .u8 (gb xs t)))

theorem Byt.below {w w' : World} {v : Value} {xs : List Int} (h : Byt w v xs) (hb : Below w.heap.size w w') : Byt w' v xs := by
  obtain ⟨ao, cap, rfl, h1, h2, h3, h4, h5⟩ := h
  refine ⟨ao, cap, rfl, h1, h2, h3, h4, fun hp => ?_⟩
  obtain ⟨b, off, rfl, hc⟩ := h5 hp
  refine ⟨b, off, rfl, fun t ht => ?_⟩
  have := hc t ht
  rw [hb.cell (World.block_lt_of_cell? w _ this)]
  exact this

theorem Byt.nil (w : World) : Byt w (.slice none 0 0) [] :=
  ⟨none, 0, rfl, by simp, by simp, fun j => by simp [gb], fun _ => rfl, fun h => by simp at h⟩

theorem Byt.all {w : World} {v : Value} {xs : List Int} (h : Byt w v xs) : AllB xs := by
  obtain ⟨ao, cap, rfl, h1, h2, h3, h4, h5⟩ := h
  exact h3

theorem Byt.len {w : World} {v : Value} {xs : List Int} (h : Byt w v xs) : xs.length ≤ 9223372036854775807 := by
  obtain ⟨ao, cap, rfl, h1, h2, h3, h4, h5⟩ := h
  omega

/-- a row of the call's own, as bytes -/
theorem Byt.own {w : World} {base : Nat} {v : Value} {n : Nat} {xs : List Int} (h : w.ownsRow base 5 1 v n (xs.map (Value.int .u8))) (ha : AllB xs) : Byt w v xs := by
  have hl : xs.length = n := by have := h.1; simpa using this
  rcases h.2 with ⟨rfl, hn⟩ | ⟨g, cap, cur, rfl, hg, hb, hc, hm, hs, ht⟩
  · have : xs = [] := List.eq_nil_of_length_eq_zero (by omega)
    subst this
    exact Byt.nil w
  · subst hl
    refine ⟨some ⟨g, 0, none⟩, cap, rfl, hc, by simpa [maxLen] using hm, ha, (by intro h; cases h), fun hp => ⟨g, 0, rfl, fun t ht' => ?_⟩⟩
    have := h.cells (g := g) rfl t (.int .u8 (gb xs t)) (by simp [gb, List.getD, ht'])
    rw [Addr.add_lit] at this
    simpa using this

theorem ext_gb {xs ys : List Int} (h : xs.length = ys.length) (h' : ∀ t, t < xs.length → gb xs t = gb ys t) : xs = ys := by
  refine List.ext_getElem h fun t h1 h2 => ?_
  have := h' t h1
  simpa [gb, List.getD, h1, h2] using this

theorem allB_mem {xs : List Int} (h : ∀ x ∈ xs, 0 ≤ x ∧ x ≤ 255) : AllB xs := by
  intro j
  by_cases hj : j < xs.length
  · have := h (xs[j]) (List.getElem_mem hj)
    simpa [gb, List.getD, hj] using this
  · simp [gb, List.getD, Nat.le_of_not_lt hj]

theorem ret_bool {a b : Bool} (h : a = b) : Ending.returned (.bool a) = .returned (.bool b) := by rw [h]
theorem ret_int {k : IntKind} {a b : Int} (h : a = b) : Ending.returned (.int k a) = .returned (.int k b) := by rw [h]
theorem info_u8 : (Tryz.prog.info? 5).map (fun i => (i.zero, i.size, i.bytes)) = some (some (.int .u8 0), 1, 1) := by kernel_rfl
theorem own : ownKnob Tryz.prog.godebug = none := by kernel_rfl
theorem cells_u8 : Tryz.prog.cellsOf 5 = 1 := by kernel_rfl

/-! ### bytes that the call itself has made -/
/-- v owns the bytes xs, in a block from B on -/
def Own (B : Nat) (w : World) (v : Value) (xs : List Int) : Prop := w.ownsRow B 5 1 v xs.length (xs.map (Value.int .u8))
/-- the whole row g owns n bytes -/
def OwnN (B : Nat) (w : World) (g n : Nat) (xs : List Int) : Prop := xs.length = n ∧ B ≤ g ∧ w.ownsRow B 5 1 (.slice (some ⟨g, 0, none⟩) n n) n (xs.map (Value.int .u8))

theorem Own.byt {B : Nat} {w : World} {v : Value} {xs : List Int} (h : Own B w v xs) (ha : AllB xs) : Byt w v xs := Byt.own h ha
theorem OwnN.byt {B : Nat} {w : World} {g n : Nat} {xs : List Int} (h : OwnN B w g n xs) (ha : AllB xs) : Byt w (.slice (some ⟨g, 0, none⟩) n n) xs := Byt.own h.2.2 ha
theorem Own.empty (w : World) {B : Nat} (hB : B ≤ w.heap.size) : Own B (w.alloc (.cells #[] 5)) (.slice (some ⟨w.heap.size, 0, none⟩) 0 0) [] :=
  World.ownsRow_made w #[] 0 hB (by simp [maxLen]) (by simp)

theorem OwnN.cell {B : Nat} {w : World} {g n : Nat} {xs : List Int} (h : OwnN B w g n xs) {k : Nat} (hk : k < n) : w.cell? ⟨g, k, none⟩ = some (.int .u8 (gb xs k)) := by
  rw [h.2.2.cellAt k (by omega)]
  have := h.1
  simp [gb, List.getD, show k < xs.length by omega]
theorem OwnN.free {B : Nat} {w : World} {g n : Nat} {xs : List Int} (h : OwnN B w g n xs) (k : Nat) : w.frozen? ⟨g, k, none⟩ = false := h.2.2.frozenAt k
theorem OwnN.set {B : Nat} {w : World} {g n : Nat} {xs : List Int} (h : OwnN B w g n xs) (k : Nat) (x : Int) : OwnN B (w.setCell ⟨g, k, none⟩ (.int .u8 x)) g n (xs.set k x) :=
  ⟨by simpa using h.1, h.2.1, by have := (h.2.2.stored k (.int .u8 x)).1; rwa [← List.map_set] at this⟩
theorem OwnN.drew {B : Nat} {w : World} {g n : Nat} {xs : List Int} (h : OwnN B w g n xs) (m : Nat) : OwnN B (w.drewN m) g n xs := h
theorem Own.drew {B : Nat} {w : World} {v : Value} {xs : List Int} (h : Own B w v xs) (m : Nat) : Own B (w.drewN m) v xs := h

section
variable {ops : Array Oper} {rest : List Oper} {o : Oper} {a : Act} {Q : Exit → Act → World → Prop}

/-- 'make([]byte, n)': n noughts of the call's own -/
theorem make_law (w : World) (hg : o.guard = none) (l c : Operand) (hop : o.op = Op.makeSlice 22 l c) (B : Nat) (hB : B ≤ w.heap.size)
    (L : Int) (n : Nat) (hl : a.eval l = .int .i64 L) (hc : a.eval c = .int .i64 L) (hL : L = (n : Int)) (hn : n ≤ 1099511627776)
    (hK : ∀ w', OwnN B w' w.heap.size n (List.replicate n 0) → Below B w w' → w.heap.size < w'.heap.size → wpList Tryz.prog ops Q rest (a.put o.dst (.slice (some ⟨w.heap.size, 0, none⟩) n n)) w') :
    wpList Tryz.prog ops Q (o :: rest) a w := by
  obtain ⟨i0, hi, hz0, hz1, hz2⟩ := info_parts info_u8
  refine wpList_make_full w hg l c 22 hop B 5 i0 (.int .u8 0) 1 Tryz.underlying22 hi hz0 hz1 .i64 .i64 L L n hl hc hL hL (by rw [hz2]; omega) (by simp only [maxLen]; omega) hB fun w' h1 h2 => ?_
  have hlt : w.heap.size < w'.heap.size := (h1.lt w.heap.size rfl).2
  refine hK w' ⟨by simp, hB, ?_⟩ ((Below.refl B w).grown h2 hB (fun k hk => by cases hk)) hlt
  have e : (madeCells (Value.int .u8 0).cells (n * 1)).toList = (List.replicate n (0 : Int)).map (Value.int .u8) := by
    rw [Nat.mul_one]
    show (madeCells #[Value.int .u8 0] n).toList = _
    rw [toList_madeCells_one]; simp
  rw [e] at h1
  exact h1

/-- 'out = append(out, c)', out of the call's own -/
theorem push_law (w0 : World) (hg : o.guard = none) (s x : Operand) (hop : o.op = .call { callee := .builtin .append, args := #[s, x], argTypes := #[22, 22] })
    (B : Nat) (hB : B ≤ w0.heap.size) (v : Value) (xs : List Int) (c : Int) (hs : a.eval s = v) (hx : a.eval x = .slice (some ⟨w0.heap.size, 0, none⟩) 1 1) (hown : Own B w0 v xs) (hn : xs.length ≤ 1099511627776)
    (hK : ∀ v' w', Own B w' v' (xs ++ [c]) → Below B w0 w' → wpList Tryz.prog ops Q rest (a.put o.dst v') w') :
    wpList Tryz.prog ops Q (o :: rest) a (w0.alloc (.cells #[.int .u8 c] 5)) := by
  obtain ⟨i0, hi, hz0, hz1, hz2⟩ := info_parts info_u8
  refine wpList_append_own _ hg s x 22 hop B 5 i0 (.int .u8 0) 1 1 Tryz.underlying22 hi hz0 hz1 hz2 rfl (by decide) v xs.length _ hs (World.ownsRow.alloc hown _) ⟨w0.heap.size, 0, none⟩ 1 1 [.int .u8 c] hx rfl ?_ ?_ (by simp only [maxLen]; omega) (by omega) (by simp; omega) fun v' w' h1 h2 _ => ?_
  · intro j u hj
    match j, hj with
    | 0, hj => simp at hj; subst hj; simp [Addr.add]
  · intro u hu; simp at hu; subst hu; rfl
  · refine hK v' w' ?_ ?_
    · show w'.ownsRow B 5 1 v' (xs ++ [c]).length ((xs ++ [c]).map (Value.int .u8))
      simpa using h1
    · refine ((Below.refl B w0).alloc hB _).grown h2 (by simp; omega) fun k hk => ?_
      exact (World.ownsRow.lt hown k hk).1

/-- 'out = append(out, c)', out of the call's own, in a region that draws its order -/
theorem step_push1 {K : Act → World → Prop} {E : Prop} (w0 : World) (hg : o.guard = none) (s x : Operand) (hop : o.op = .call { callee := .builtin .append, args := #[s, x], argTypes := #[22, 22] })
    (B : Nat) (hB : B ≤ w0.heap.size) (v : Value) (xs : List Int) (c : Int) (hs : a.eval s = v) (hx : a.eval x = .slice (some ⟨w0.heap.size, 0, none⟩) 1 1) (hown : Own B w0 v xs) (hn : xs.length ≤ 1099511627776)
    (hK : ∀ v' w', Own B w' v' (xs ++ [c]) → Below B w0 w' → K (a.put o.dst v') w') :
    if Region.wanted o (yielded ops a.tmps) = true then Oper.wp Tryz.prog o a (w0.alloc (.cells #[.int .u8 c] 5)) K Q else E := by
  have hw : Region.wanted o (yielded ops a.tmps) = true := by simp [Region.wanted, hg]
  rw [if_pos hw]
  obtain ⟨i0, hi, hz0, hz1, hz2⟩ := info_parts info_u8
  refine wp_append_own _ s x 22 hop B 5 i0 (.int .u8 0) 1 1 Tryz.underlying22 hi hz0 hz1 hz2 rfl (by decide) v xs.length _ hs (World.ownsRow.alloc hown _) ⟨w0.heap.size, 0, none⟩ 1 1 [.int .u8 c] hx rfl ?_ ?_ (by simp only [maxLen]; omega) (by omega) (by simp; omega) fun v' w' h1 h2 _ => ?_
  · intro j u hj
    match j, hj with
    | 0, hj => simp at hj; subst hj; simp [Addr.add]
  · intro u hu; simp at hu; subst hu; rfl
  · refine hK v' w' ?_ ?_
    · show w'.ownsRow B 5 1 v' (xs ++ [c]).length ((xs ++ [c]).map (Value.int .u8))
      simpa using h1
    · refine ((Below.refl B w0).alloc hB _).grown h2 (by simp; omega) fun k hk => ?_
      exact (World.ownsRow.lt hown k hk).1

theorem gb_cut (xs : List Int) (l h t : Nat) (ht : t < h - l) : gb ((xs.take h).drop l) t = gb xs (l + t) := by
  simp [gb, List.getD, show l + t < h by omega]

/-- 'b[l:h]' -/
theorem byt_cut {w : World} {v : Value} {xs : List Int} (hb : Byt w v xs) (l h : Nat) (hl : l ≤ h) (hh : h ≤ xs.length) :
    ∃ ao cap, v = .slice ao xs.length cap ∧ h ≤ cap ∧ Byt w (sliced ao l h cap 1) ((xs.take h).drop l) := by
  obtain ⟨ao, cap, rfl, h1, h2, h3, h4, h5⟩ := hb
  refine ⟨ao, cap, rfl, by omega, ?_⟩
  have hlen : ((xs.take h).drop l).length = h - l := by simp; omega
  refine ⟨if cap = l then ao else ao.map (·.add (l * 1)), cap - l, by rw [hlen]; rfl, by omega, by omega, ?_, ?_, ?_⟩
  · intro t
    by_cases ht : t < h - l
    · rw [gb_cut xs l h t ht]; exact h3 _
    · have : gb ((xs.take h).drop l) t = 0 := by
        simp only [gb, List.getD, List.getElem?_eq_none (show ((xs.take h).drop l).length ≤ t by omega)]; rfl
      omega
  · split
    · intro _; omega
    · intro hn
      have := h4 (by simpa using hn)
      omega
  · intro hp
    obtain ⟨b, off, rfl, hc⟩ := h5 (by omega)
    rw [if_neg (by omega)]
    refine ⟨b, off + l, by simp [Addr.add_lit], fun t ht => ?_⟩
    rw [gb_cut xs l h t (by omega), Nat.add_assoc]
    exact hc (l + t) (by omega)

/-- 'b[:m]', the value as the walk spells it -/
theorem Byt.take {w : World} {ao : Option Addr} {n cap : Nat} {xs : List Int} (hb : Byt w (.slice ao n cap) xs) (m : Nat) (hm : m ≤ xs.length) : Byt w (.slice ao m cap) (xs.take m) := by
  obtain ⟨ao', cap', e, h1, h2, h3, h4, h5⟩ := hb
  cases e
  have hlen : (xs.take m).length = m := by simp; omega
  refine ⟨ao, cap, by rw [hlen], by omega, h2, ?_, h4, ?_⟩
  · intro t
    by_cases ht : t < m
    · have := gb_cut xs 0 m t (by omega)
      rw [List.drop_zero, Nat.zero_add] at this
      rw [this]; exact h3 t
    · have : gb (xs.take m) t = 0 := by
        simp only [gb, List.getD, List.getElem?_eq_none (show (xs.take m).length ≤ t by omega)]; rfl
      omega
  · intro hp
    obtain ⟨b, off, rfl, hc⟩ := h5 (by omega)
    refine ⟨b, off, rfl, fun t ht => ?_⟩
    have e := gb_cut xs 0 m t (by omega)
    rw [List.drop_zero, Nat.zero_add] at e
    rw [e]; exact hc t (by omega)

theorem run_size_u8 (w : World) : (sizeOf 5).run Tryz.prog w = .ok 1 w := by
  obtain ⟨i0, hi, hz0, hz1, hz2⟩ := info_parts info_u8
  simp [sizeOf, typeInfo, hi, hz1]

theorem elem_bytes : Tryz.prog.elem 22 = 5 := by kernel_rfl
theorem und_bytes : Tryz.prog.underlying 22 = some (.slice (Tryz.prog.elem 22)) := by kernel_rfl

/-- 'b[l:]' -/
theorem cut_from (w : World) (hg : o.guard = none) (s x : Operand) (hop : o.op = Op.slice 22 s (some x) none none) (v : Value) (xs : List Int) (L : Int) (l : Nat)
    (hs : a.eval s = v) (hx : a.eval x = .int .i64 L) (hL : L = (l : Int)) (hl : l ≤ xs.length) (hb : Byt w v xs)
    (hK : ∀ v', Byt w v' (xs.drop l) → wpList Tryz.prog ops Q rest (a.put o.dst v') w) :
    wpList Tryz.prog ops Q (o :: rest) a w := by
  refine wpList_plain hg fun K hK' => ?_
  obtain ⟨ao, cap, rfl, hc, hb'⟩ := byt_cut hb l xs.length hl (Nat.le_refl _)
  have hrun := run_slice_l (P := Tryz.prog) w 22 ao xs.length cap und_bytes .i64 L (by omega) (by omega)
  rw [elem_bytes, run_size_u8] at hrun
  subst hL
  rw [List.take_length] at hb'
  unfold Oper.wp
  simp [execOp, hop, hs, hx, run_sliceAt_slice w 22 _ _ _ _ und_bytes, hrun, Result.andThen]
  exact hK' _ _ (hK _ hb')

/-- 'b[:h]' -/
theorem cut_to (w : World) (hg : o.guard = none) (s x : Operand) (hop : o.op = Op.slice 22 s none (some x) none) (v : Value) (xs : List Int) (L : Int) (h : Nat)
    (hs : a.eval s = v) (hx : a.eval x = .int .i64 L) (hL : L = (h : Int)) (hh : h ≤ xs.length) (hb : Byt w v xs)
    (hK : ∀ v', Byt w v' (xs.take h) → wpList Tryz.prog ops Q rest (a.put o.dst v') w) :
    wpList Tryz.prog ops Q (o :: rest) a w := by
  refine wpList_plain hg fun K hK' => ?_
  obtain ⟨ao, cap, rfl, hc, hb'⟩ := byt_cut hb 0 h (Nat.zero_le _) hh
  have hrun := run_slice_h (P := Tryz.prog) w 22 ao xs.length cap und_bytes .i64 L (by omega) (by omega)
  rw [elem_bytes, run_size_u8] at hrun
  subst hL
  rw [List.drop_zero] at hb'
  unfold Oper.wp
  simp [execOp, hop, hs, hx, run_sliceAt_slice w 22 _ _ _ _ und_bytes, hrun, Result.andThen]
  exact hK' _ _ (hK _ hb')

/-- 'b[l:h]' -/
theorem cut_part (w : World) (hg : o.guard = none) (s x y : Operand) (hop : o.op = Op.slice 22 s (some x) (some y) none) (v : Value) (xs : List Int) (L H : Int) (l h : Nat)
    (hs : a.eval s = v) (hx : a.eval x = .int .i64 L) (hy : a.eval y = .int .i64 H) (hL : L = (l : Int)) (hH : H = (h : Int)) (hl : l ≤ h) (hh : h ≤ xs.length) (hb : Byt w v xs)
    (hK : ∀ v', Byt w v' ((xs.take h).drop l) → wpList Tryz.prog ops Q rest (a.put o.dst v') w) :
    wpList Tryz.prog ops Q (o :: rest) a w := by
  refine wpList_plain hg fun K hK' => ?_
  obtain ⟨ao, cap, rfl, hc, hb'⟩ := byt_cut hb l h hl hh
  have hrun := run_slice_lh (P := Tryz.prog) w 22 ao xs.length cap und_bytes .i64 .i64 L H (by omega) (by omega) (by omega)
  rw [elem_bytes, run_size_u8] at hrun
  subst hL
  subst hH
  unfold Oper.wp
  simp [execOp, hop, hs, hx, hy, run_sliceAt_slice w 22 _ _ _ _ und_bytes, hrun, Result.andThen]
  exact hK' _ _ (hK _ hb')

end
end Go.Proofs.YtbkaecjkgjkheaaGreatDoor

/- The field of 256 elements, as numbers: products, powers, inverses. No claim of its own. -/
namespace Go.Proofs.YtbkaecjkgjkheaaGreatDoor
open Go.RowKit
set_option maxRecDepth 20000

/-- a, if c -/
def sel (c : Bool) (a : Nat) : Nat := bif c then a else 0
theorem sel_xor (c : Bool) (a b : Nat) : sel c (a ^^^ b) = sel c a ^^^ sel c b := by cases c <;> simp [sel]
theorem sel_xor' (c d : Bool) (a : Nat) : sel (c ^^ d) a = sel c a ^^^ sel d a := by cases c <;> cases d <;> simp [sel]
theorem sel_lt (c : Bool) (a n : Nat) (h : a < n) : sel c a < n := by cases c <;> simp [sel] <;> omega

/-- a times x -/
def tm (a : Nat) : Nat := (2 * a % 256) ^^^ sel (a.testBit 7) 27
theorem xor_lt (a b : Nat) (ha : a < 256) (hb : b < 256) : a ^^^ b < 256 := Nat.xor_lt_two_pow (n := 8) ha hb
theorem tm_lt (a : Nat) : tm a < 256 := xor_lt _ _ (Nat.mod_lt _ (by omega)) (sel_lt _ _ _ (by omega))
theorem tm_zero : tm 0 = 0 := by decide
theorem xor_four (a b c d : Nat) : (a ^^^ b) ^^^ (c ^^^ d) = (a ^^^ c) ^^^ (b ^^^ d) := by
  rw [Nat.xor_assoc, Nat.xor_assoc, ← Nat.xor_assoc b c d, Nat.xor_comm b c, Nat.xor_assoc c b d]
theorem two_bit (x i : Nat) : (2 * x).testBit (i + 1) = x.testBit i := by rw [Nat.testBit_succ, show 2 * x / 2 = x by omega]
theorem tm_xor (a b : Nat) : tm (a ^^^ b) = tm a ^^^ tm b := by
  have h : 2 * (a ^^^ b) % 256 = (2 * a % 256) ^^^ (2 * b % 256) := by
    apply Nat.eq_of_testBit_eq
    intro i
    rw [show 256 = 2 ^ 8 from rfl, Nat.testBit_xor, Nat.testBit_mod_two_pow, Nat.testBit_mod_two_pow, Nat.testBit_mod_two_pow]
    cases i with
    | zero => simp
    | succ i =>
      rw [two_bit, two_bit, two_bit]
      rw [Nat.testBit_xor]
      by_cases h : i + 1 < 8 <;> simp [h]
  unfold tm
  rw [h, Nat.testBit_xor, sel_xor', xor_four]
theorem tm_sel (c : Bool) (a : Nat) : tm (sel c a) = sel c (tm a) := by cases c <;> simp [sel, tm_zero]

/-- the product, n bits of the second factor told -/
def gmf : Nat → Nat → Nat → Nat
  | 0, _, _ => 0
  | n + 1, a, b => sel (b.testBit 0) a ^^^ gmf n (tm a) (b / 2)
def gm (a b : Nat) : Nat := gmf 8 a b
theorem gmf_lt (n a b : Nat) (ha : a < 256) : gmf n a b < 256 := by
  induction n generalizing a b with
  | zero => simp [gmf]
  | succ n ih => exact xor_lt _ _ (sel_lt _ _ _ ha) (ih _ _ (tm_lt a))
theorem gm_lt (a b : Nat) (ha : a < 256) : gm a b < 256 := gmf_lt 8 a b ha
theorem gmf_zero (n a : Nat) : gmf n a 0 = 0 := by
  induction n generalizing a with
  | zero => rfl
  | succ n ih => simp [gmf, ih, sel]
theorem gmf_left (n b : Nat) : gmf n 0 b = 0 := by
  induction n generalizing b with
  | zero => rfl
  | succ n ih => simp [gmf, tm_zero, ih, sel]
theorem gmf_more (n a b : Nat) (h : b < 2 ^ n) : gmf (n + 1) a b = gmf n a b := by
  induction n generalizing a b with
  | zero =>
    have : b = 0 := by omega
    subst this; simp [gmf, sel]
  | succ n ih =>
    rw [gmf, ih (tm a) (b / 2) (by rw [Nat.pow_succ] at h; omega)]
    rfl
theorem gmf_xor (n a a' b : Nat) : gmf n (a ^^^ a') b = gmf n a b ^^^ gmf n a' b := by
  induction n generalizing a a' b with
  | zero => simp [gmf]
  | succ n ih => rw [gmf, gmf, gmf, tm_xor, ih, sel_xor, xor_four]
theorem gmf_tm (n a b : Nat) : gmf n (tm a) b = tm (gmf n a b) := by
  induction n generalizing a b with
  | zero => simp [gmf, tm_zero]
  | succ n ih => rw [gmf, gmf, tm_xor, tm_sel, ih]
theorem half_xor (b b' : Nat) : (b ^^^ b') / 2 = b / 2 ^^^ b' / 2 := by
  have := Nat.shiftRight_xor_distrib (a := b) (b := b') (i := 1)
  simpa [Nat.shiftRight_eq_div_pow] using this
theorem gmf_xor' (n a b b' : Nat) : gmf n a (b ^^^ b') = gmf n a b ^^^ gmf n a b' := by
  induction n generalizing a b b' with
  | zero => simp [gmf]
  | succ n ih => rw [gmf, gmf, gmf, half_xor, ih, Nat.testBit_xor, sel_xor', xor_four]
theorem gmf_sel (n : Nat) (c : Bool) (a b : Nat) : gmf n (sel c a) b = sel c (gmf n a b) := by cases c <;> simp [sel, gmf_left]
theorem gm_swap (n a u b : Nat) : gm (gmf n u b) a = gmf n (gm u a) b := by
  induction n generalizing u b with
  | zero => exact gmf_left 8 a
  | succ n ih =>
    have h1 : gm (tm u) a = tm (gm u a) := gmf_tm 8 u a
    have h2 := ih (tm u) (b / 2)
    rw [h1] at h2
    rw [gmf, gmf, ← h2]
    unfold gm
    rw [gmf_xor, gmf_sel]
theorem one_gm : ∀ b, b < 256 → gm 1 b = b := by decide +kernel
theorem gm_comm (a b : Nat) (ha : a < 256) (hb : b < 256) : gm a b = gm b a := by
  have := gm_swap 8 b 1 a
  change gm (gm 1 a) b = gm (gm 1 b) a at this
  rwa [one_gm a ha, one_gm b hb] at this
theorem gm_assoc (a b c : Nat) (ha : a < 256) (hb : b < 256) : gm (gm a b) c = gm a (gm b c) := by
  have := gm_swap 8 c b a
  change gm (gm b a) c = gm (gm b c) a at this
  rw [gm_comm a b ha hb, this, gm_comm _ _ (gm_lt b c hb) ha]
theorem gm_one (a : Nat) (ha : a < 256) : gm a 1 = a := by rw [gm_comm a 1 ha (by omega), one_gm a ha]
theorem gm_zero (a : Nat) : gm a 0 = 0 := gmf_zero 8 a
theorem zero_gm (a : Nat) : gm 0 a = 0 := gmf_left 8 a
theorem gm_dist (a b c : Nat) : gm a (b ^^^ c) = gm a b ^^^ gm a c := gmf_xor' 8 a b c
theorem gm_two (a : Nat) : gm a 2 = tm a := by
  have : gm a 2 = gm (tm a) 1 := by
    show gmf 8 a 2 = gmf 8 (tm a) 1
    rw [gmf, gmf_more 7 (tm a) 1 (by omega)]
    simp [sel]
  rw [this, gm_one _ (tm_lt a)]

/-- a power -/
def pw (a : Nat) : Nat → Nat
  | 0 => 1
  | n + 1 => gm (pw a n) a
theorem pw_lt (a n : Nat) : pw a n < 256 := by
  induction n with
  | zero => simp [pw]
  | succ n ih => exact gm_lt _ _ ih
theorem pw_add (a n m : Nat) : pw a (n + m) = gm (pw a n) (pw a m) := by
  induction m with
  | zero => rw [Nat.add_zero, pw, gm_one _ (pw_lt a n)]
  | succ m ih => rw [← Nat.add_assoc, pw, ih, pw, gm_assoc _ _ _ (pw_lt a n) (pw_lt a m)]
theorem pw_sq (a n : Nat) (ha : a < 256) : pw (gm a a) n = pw a (2 * n) := by
  induction n with
  | zero => rfl
  | succ n ih =>
    rw [pw, ih, show 2 * (n + 1) = 2 * n + 1 + 1 by omega, pw, pw, gm_assoc _ _ _ (pw_lt a _) ha]
/-- a round of squaring -/
theorem pw_round (p a n : Nat) (hp : p < 256) (ha : a < 256) : gm (if n % 2 = 1 then gm p a else p) (pw (gm a a) (n / 2)) = gm p (pw a n) := by
  rw [pw_sq a _ ha]
  by_cases h : n % 2 = 1
  · rw [if_pos h, gm_assoc _ _ _ hp ha]
    have h1 := pw_add a 1 (2 * (n / 2))
    rw [show 1 + 2 * (n / 2) = n by omega] at h1
    rw [h1, show pw a 1 = a from one_gm a ha]
  · rw [if_neg h, show 2 * (n / 2) = n by omega]
def sq (a : Nat) : Nat := gm a a
/-- the 255th power, by squares -/
def p255 (a : Nat) : Nat :=
  let a2 := sq a; let a4 := sq a2; let a8 := sq a4; let x := gm (gm (gm a a2) a4) a8
  gm x (sq (sq (sq (sq x))))
theorem pw_sq' (a n : Nat) : sq (pw a n) = pw a (2 * n) := by rw [sq, ← pw_add a n n, show n + n = 2 * n by omega]
theorem p255_eq (a : Nat) (ha : a < 256) : p255 a = pw a 255 := by
  have e1 : a = pw a 1 := (one_gm a ha).symm
  have h2 : sq a = pw a 2 := by have := pw_sq' a 1; rw [← e1] at this; exact this
  have h4 : sq (sq a) = pw a 4 := by rw [h2, pw_sq' a 2]
  have h8 : sq (sq (sq a)) = pw a 8 := by rw [h4, pw_sq' a 4]
  have hx : gm (gm (gm a (sq a)) (sq (sq a))) (sq (sq (sq a))) = pw a 15 := by
    have h3 : gm a (pw a 2) = pw a 3 := by have := pw_add a 1 2; rw [← e1] at this; exact this.symm
    rw [h8, h4, h2, h3, ← pw_add a 3 4, ← pw_add a 7 8]
  show gm (gm (gm (gm a (sq a)) (sq (sq a))) (sq (sq (sq a)))) (sq (sq (sq (sq (gm (gm (gm a (sq a)) (sq (sq a))) (sq (sq (sq a)))))))) = _
  rw [hx, pw_sq' a _, pw_sq' a _, pw_sq' a _, pw_sq' a _, ← pw_add a _ _]
theorem p255_one : ∀ a, a < 256 → a ≠ 0 → p255 a = 1 := by decide +kernel
theorem pw_255 (a : Nat) (ha : a < 256) (h : a ≠ 0) : pw a 255 = 1 := by rw [← p255_eq a ha, p255_one a ha h]
theorem pw_many (a n m : Nat) (ha : a < 256) (h : a ≠ 0) : pw a (255 * n + m) = pw a m := by
  induction n with
  | zero => simp
  | succ n ih =>
    rw [show 255 * (n + 1) + m = 255 + (255 * n + m) by omega, pw_add a _ _, ih, pw_255 a ha h, one_gm _ (pw_lt a m)]
theorem pw_mod (a n : Nat) (ha : a < 256) (h : a ≠ 0) : pw a (n % 255) = pw a n := by
  have := pw_many a (n / 255) (n % 255) ha h
  rw [← this]; congr 1; omega
theorem pw_nought (n : Nat) : pw 0 (n + 1) = 0 := gm_zero _

/-- the inverse -/
def iv (a : Nat) : Nat := pw a 254
theorem iv_lt (a : Nat) : iv a < 256 := pw_lt a 254
theorem iv_zero : iv 0 = 0 := pw_nought 253
theorem gm_iv (a : Nat) (ha : a < 256) (h : a ≠ 0) : gm a (iv a) = 1 := by
  rw [gm_comm a _ ha (iv_lt a)]; exact pw_255 a ha h
theorem iv_only (a b : Nat) (ha : a < 256) (hb : b < 256) (h : gm a b = 1) : b = iv a := by
  have h0 : a ≠ 0 := by rintro rfl; rw [zero_gm] at h; omega
  have h1 := gm_assoc b a (iv a) hb ha
  rw [gm_iv a ha h0, gm_one b hb, gm_comm b a hb ha, h, one_gm _ (iv_lt a)] at h1
  exact h1.symm

/-- the whole product of polynomials, k bits of the second factor told -/
def pr (a b : Nat) : Nat → Nat
  | 0 => 0
  | k + 1 => pr a b k ^^^ sel (b.testBit k) (a * 2 ^ k)
/-- what is left of it, k places told -/
def rd (p : Nat) : Nat → Nat
  | 0 => p
  | k + 1 => rd p k ^^^ sel ((rd p k).testBit (14 - k)) (283 * 2 ^ (6 - k))
theorem rd_xor (p q k : Nat) : rd (p ^^^ q) k = rd p k ^^^ rd q k := by
  induction k with
  | zero => rfl
  | succ k ih => rw [rd, rd, rd, ih, Nat.testBit_xor, sel_xor', xor_four]
def tmn (a : Nat) : Nat → Nat
  | 0 => a
  | k + 1 => tm (tmn a k)
theorem rd_shift : ∀ a, a < 256 → ∀ k, k < 8 → rd (a * 2 ^ k) 7 = tmn a k := by decide +kernel
theorem rd_zero : rd 0 7 = 0 := by decide
theorem tmn_tm (a k : Nat) : tmn (tm a) k = tmn a (k + 1) := by
  induction k with
  | zero => rfl
  | succ k ih => rw [tmn, ih]; rfl
/-- the product, its bits from below -/
def up (a b : Nat) : Nat → Nat
  | 0 => 0
  | k + 1 => up a b k ^^^ sel (b.testBit k) (tmn a k)
theorem up_first (a b k : Nat) : up a b (k + 1) = sel (b.testBit 0) a ^^^ up (tm a) (b / 2) k := by
  induction k with
  | zero => simp [up, tmn]
  | succ k ih => rw [up, ih, up, Nat.xor_assoc, tmn_tm, Nat.testBit_succ]
theorem up_gmf (a b k : Nat) : up a b k = gmf k a b := by
  induction k generalizing a b with
  | zero => rfl
  | succ k ih => rw [up_first, ih, gmf]
theorem rd_pr (a b : Nat) (ha : a < 256) : rd (pr a b 8) 7 = gm a b := by
  have h : ∀ k, k ≤ 8 → rd (pr a b k) 7 = up a b k := by
    intro k hk
    induction k with
    | zero => exact rd_zero
    | succ k ih =>
      rw [pr, rd_xor, ih (by omega), up]
      congr 1
      cases hc : b.testBit k with
      | false => simp [sel, rd_zero]
      | true => simpa [sel] using rd_shift a ha k (by omega)
  rw [h 8 (by omega), up_gmf]; rfl
theorem pr_lt (a b k : Nat) (ha : a < 256) (hk : k ≤ 8) : pr a b k < 65536 := by
  induction k with
  | zero => simp [pr]
  | succ k ih =>
    refine Nat.xor_lt_two_pow (n := 16) (ih (by omega)) (sel_lt _ _ _ ?_)
    have : 2 ^ k ≤ 2 ^ 7 := Nat.pow_le_pow_right (by omega) (by omega)
    calc a * 2 ^ k ≤ 255 * 2 ^ 7 := Nat.mul_le_mul (by omega) this
      _ < 2 ^ 16 := by omega
theorem rd_lt (p k : Nat) (hp : p < 65536) (hk : k ≤ 7) : rd p k < 65536 := by
  induction k with
  | zero => exact hp
  | succ k ih =>
    refine Nat.xor_lt_two_pow (n := 16) (ih (by omega)) (sel_lt _ _ _ ?_)
    have : 2 ^ (6 - k) ≤ 2 ^ 6 := Nat.pow_le_pow_right (by omega) (by omega)
    calc 283 * 2 ^ (6 - k) ≤ 283 * 2 ^ 6 := Nat.mul_le_mul (by omega) this
      _ < 2 ^ 16 := by omega
end Go.Proofs.YtbkaecjkgjkheaaGreatDoor

/- What field's Times, Mul, Pow and Inv answer. No claim of its own. -/
namespace Go.Proofs.YtbkaecjkgjkheaaGreatDoor
open Go.RowKit
set_option maxRecDepth 20000

theorem and128 : ∀ a : Nat, a < 256 → bits .and .u8 (a : Int) 128 = if a.testBit 7 then 128 else 0 := by decide +kernel
theorem tm_hi : ∀ a : Nat, a < 256 → a.testBit 7 = true → bits .xor .u8 ((a : Int) * 2 % 256) 27 = (tm a : Int) := by decide +kernel
theorem tm_lo : ∀ a : Nat, a < 256 → a.testBit 7 = false → (a : Int) * 2 % 256 = (tm a : Int) := by decide +kernel
theorem and1 : ∀ a : Nat, a < 256 → bits .and .u8 (a : Int) 1 = if a.testBit 0 then 1 else 0 := by decide +kernel

set_option maxHeartbeats 1000000 in
theorem times_any (a : Nat) (w : World) (ha : a < 256) :
    Calls Tryz.prog 128 #[.int .u8 a] w fun e w' => e = .returned (.int .u8 (tm a)) ∧ w' = w := by
  have HA : Hid (a < 256) := ha
  have h1 := and128 a ha
  have hb : 0 ≤ (a : Int) ∧ (a : Int) ≤ 255 := by omega
  cases hc : a.testBit 7 with
  | true =>
    rw [hc, if_pos rfl] at h1
    have HC : Hid (a.testBit 7 = true) := hc
    clear hc
    go_enter Tryz.func128, Tryz.ntmps128
    go_wp2
    go_ret
    exact ⟨ret_int (tm_hi a HA.out HC.out), rfl⟩
  | false =>
    rw [hc, if_neg (by decide)] at h1
    have HC : Hid (a.testBit 7 = false) := hc
    clear hc
    go_enter Tryz.func128, Tryz.ntmps128
    go_wp2
    go_ret
    exact ⟨ret_int (tm_lo a HA.out HC.out), rfl⟩

set_option maxHeartbeats 1000000 in
theorem mul_any (a b : Nat) (w : World) (ha : a < 256) (hb : b < 256) :
    Calls Tryz.prog 122 #[.int .u8 a, .int .u8 b] w fun e w' => e = .returned (.int .u8 (gm a b)) ∧ w' = w := by
  have HA : Hid (a < 256) := ha
  have HB : Hid (b < 256) := hb
  clear ha hb
  go_enter Tryz.func122, Tryz.ntmps122
  go_wp2
  go_loop [0, 1, 5] (fun x y s => ∃ n x' y' s' : Nat, n ≤ 8 ∧ x = .int .u8 x' ∧ y = .int .u8 y' ∧ s = .int .u8 s' ∧ Hid (x' < 256 ∧ y' < 2 ^ n ∧ s' < 256 ∧ s' ^^^ gmf n x' y' = gm a b)) (fun _ y _ => (intOf y).toNat)
  case atStart => exact ⟨8, a, b, 0, by omega, rfl, rfl, rfl, ⟨HA.out, HB.out, by omega, by simp [gm]⟩⟩
  case round =>
    obtain ⟨n, x, y, s, hn, rfl, rfl, rfl, H⟩ := hrel
    have hy8 : y < 256 := Nat.lt_of_lt_of_le H.out.2.1 (show 2 ^ n ≤ 2 ^ 8 from Nat.pow_le_pow_right (by omega) hn)
    have hx8 := H.out.1
    have hs8 := H.out.2.2.1
    by_cases hy : y = 0
    · subst hy
      go_wp2
      go_ret
      refine ⟨ret_int ?_, rfl⟩
      have := H.out.2.2.2
      rw [gmf_zero, Nat.xor_zero] at this
      rw [this]
    · obtain ⟨m, rfl⟩ : ∃ m, n = m + 1 := by
        cases n with
        | zero => have := H.out.2.1; omega
        | succ m => exact ⟨m, rfl⟩
      have h1 := and1 y hy8
      have h2 := u8_xor_nat s x hs8 hx8
      have h3 : y / 2 < 2 ^ m := by have := H.out.2.1; rw [Nat.pow_succ] at this; omega
      have h4 := H.out.2.2.2
      rw [gmf, ← Nat.xor_assoc] at h4
      have HS : Hid (x < 256 ∧ s < 256 ∧ y / 2 < 2 ^ m ∧ (s ^^^ sel (y.testBit 0) x) ^^^ gmf m (tm x) (y / 2) = gm a b) := ⟨hx8, hs8, h3, h4⟩
      clear H h3 h4 hs8
      cases hc : y.testBit 0 with
      | true =>
        rw [hc, if_pos rfl] at h1
        rw [hc] at HS
        clear hc
        go_wp2_with (go_at_call 128; refine (times_any x _ HS.out.1).mono ?_; rintro e w' ⟨rfl, hw⟩; obtain rfl := hw.symm)
        go_round
        case rel => exact ⟨m, tm x, y / 2, s ^^^ x, by omega, rfl, by simp, rfl, ⟨tm_lt x, HS.out.2.2.1, xor_lt _ _ HS.out.2.1 HS.out.1, HS.out.2.2.2⟩⟩
        case measure => simp [intOf]; omega
      | false =>
        rw [hc, if_neg (by decide)] at h1
        rw [hc] at HS
        clear hc h2
        go_wp2_with (go_at_call 128; refine (times_any x _ HS.out.1).mono ?_; rintro e w' ⟨rfl, hw⟩; obtain rfl := hw.symm)
        go_round
        case rel => exact ⟨m, tm x, y / 2, s, by omega, rfl, by simp, rfl, ⟨tm_lt x, HS.out.2.2.1, HS.out.2.1, by have := HS.out.2.2.2; simpa [sel] using this⟩⟩
        case measure => simp [intOf]; omega

theorem i64_and1 (n : Int) : bits .and .i64 n 1 = n % 2 := by
  have h1 : (BitVec.ofInt 64 1).toNat = 2 ^ 1 - 1 := by decide
  have key : (BitVec.ofInt 64 n &&& BitVec.ofInt 64 1).toNat = (n % ((2 ^ 64 : Nat) : Int)).toNat % 2 ^ 1 := by
    rw [BitVec.toNat_and, BitVec.toNat_ofInt, h1, Nat.and_two_pow_sub_one_eq_mod]
  show IntKind.i64.wrap ((BitVec.ofInt 64 n &&& BitVec.ofInt 64 1).toNat : Nat) = n % 2
  rw [key, IntKind.wrap_i64]
  omega

set_option maxHeartbeats 1000000 in
theorem pow_any (a : Nat) (n : Int) (w : World) (ha : a < 256) (hn : n ≤ 9223372036854775807) :
    Calls Tryz.prog 116 #[.int .u8 a, .int .i64 n] w fun e w' => e = .returned (.int .u8 (pw a n.toNat)) ∧ w' = w := by
  have HA : Hid (a < 256) := ha
  clear ha
  go_enter Tryz.func116, Tryz.ntmps116
  go_wp2
  go_loop [0, 1, 5] (fun x y s => ∃ x' s' : Nat, ∃ y' : Int, x = .int .u8 x' ∧ y = .int .i64 y' ∧ s = .int .u8 s' ∧ y' ≤ 9223372036854775807 ∧ Hid (x' < 256 ∧ s' < 256 ∧ gm s' (pw x' y'.toNat) = pw a n.toNat)) (fun _ y _ => (intOf y).toNat)
  case atStart => exact ⟨a, 1, n, rfl, rfl, rfl, hn, ⟨HA.out, by omega, one_gm _ (pw_lt _ _)⟩⟩
  case round =>
    obtain ⟨x, s, y, rfl, rfl, rfl, hy, H⟩ := hrel
    by_cases h0 : 0 < y
    · have h1 := i64_and1 y
      have HR := pw_round s x y.toNat H.out.2.1 H.out.1
      rw [H.out.2.2, show y.toNat / 2 = (y / 2).toNat by omega] at HR
      have HS : Hid (x < 256 ∧ s < 256 ∧ gm (if y.toNat % 2 = 1 then gm s x else s) (pw (gm x x) (y / 2).toNat) = pw a n.toNat) := ⟨H.out.1, H.out.2.1, HR⟩
      clear H HR
      by_cases hc : y % 2 = 1
      · rw [if_pos (by omega)] at HS
        rw [hc] at h1
        go_wp2_with (first
          | (go_at_call_of 122 (Value.int IntKind.u8 (s : Int)); refine (mul_any s x _ HS.out.2.1 HS.out.1).mono ?_; rintro e w' ⟨rfl, hw⟩; obtain rfl := hw.symm)
          | (go_at_call_of 122 (Value.int IntKind.u8 (x : Int)); refine (mul_any x x _ HS.out.1 HS.out.1).mono ?_; rintro e w' ⟨rfl, hw⟩; obtain rfl := hw.symm))
        go_round
        case rel => exact ⟨gm x x, gm s x, y / 2, rfl, by go_num, rfl, by omega, ⟨gm_lt _ _ HS.out.1, gm_lt _ _ HS.out.2.1, HS.out.2.2⟩⟩
        case measure => simp [intOf]; omega
      · rw [if_neg (by omega)] at HS
        have hc : y % 2 = 0 := by omega
        rw [hc] at h1
        go_wp2_with (go_at_call 122; refine (mul_any x x _ HS.out.1 HS.out.1).mono ?_; rintro e w' ⟨rfl, hw⟩; obtain rfl := hw.symm)
        go_round
        case rel => exact ⟨gm x x, s, y / 2, rfl, by go_num, rfl, by omega, ⟨gm_lt _ _ HS.out.1, HS.out.2.1, HS.out.2.2⟩⟩
        case measure => simp [intOf]; omega
    · have h1 : y.toNat = 0 := by omega
      have HE : Hid (s = pw a n.toNat) := by
        have := H.out.2.2
        rw [h1, pw, gm_one _ H.out.2.1] at this
        exact this
      clear H
      go_wp2
      go_ret
      exact ⟨ret_int (by rw [HE.out]), rfl⟩
end Go.Proofs.YtbkaecjkgjkheaaGreatDoor

/- What the reference's bit, power, Mul, Pow and Inv answer. No claim of its own. -/
namespace Go.Proofs.YtbkaecjkgjkheaaGreatDoor
open Go.RowKit
set_option maxRecDepth 20000

/-- a bit, as a number -/
def bt (n i : Nat) : Nat := n / 2 ^ i % 2
theorem bt_of (n i : Nat) : bt n i = if n.testBit i then 1 else 0 := by
  rw [Nat.testBit_eq_decide_div_mod_eq, bt]
  by_cases h : n / 2 ^ i % 2 = 1
  · simp [h]
  · simp [h]; omega
def hv (n k : Nat) : Nat := n / 2 ^ k
theorem hv_succ (n k : Nat) : hv n k / 2 = hv n (k + 1) := by rw [hv, hv, Nat.div_div_eq_div_mul, ← Nat.pow_succ]
theorem hv_le (n k : Nat) : hv n k ≤ n := Nat.div_le_self _ _

set_option maxHeartbeats 1000000 in
theorem rbit_any (n i : Nat) (w : World) (hn : n < 65536) (hi : i < 15) :
    Calls Tryz.prog 110 #[.int .i64 n, .int .i64 i] w fun e w' => e = .returned (.int .i64 (bt n i)) ∧ w' = w := by
  go_enter Tryz.func110, Tryz.ntmps110
  go_wp2
  go_loop [0, 5] (fun x j => ∃ k : Nat, k ≤ i ∧ j = .int .i64 k ∧ x = .int .i64 (hv n k)) (fun _ j => i - (intOf j).toNat)
  case atStart => exact ⟨0, Nat.zero_le _, rfl, by simp [hv]⟩
  case round =>
    obtain ⟨k, hk, rfl, rfl⟩ := hrel
    have h1 := hv_le n k
    have h2 := hv_succ n k
    by_cases hlt : k < i
    · have H2 : Hid (hv n k / 2 = hv n (k + 1)) := h2
      clear h2
      go_wp2
      go_round
      case rel => exact ⟨k + 1, by omega, by go_num, by rw [← H2.out]; simp⟩
      case measure => simp [intOf]; omega
    · have hks : k = i := by omega
      subst hks
      clear h2
      go_wp2
      go_ret
      exact ⟨ret_int (by simp [bt, hv]), rfl⟩

set_option maxHeartbeats 1000000 in
theorem rpower_any (n : Nat) (w : World) (hn : n ≤ 31) :
    Calls Tryz.prog 111 #[.int .i64 n] w fun e w' => e = .returned (.int .i64 ((2 ^ n : Nat) : Int)) ∧ w' = w := by
  go_enter Tryz.func111, Tryz.ntmps111
  go_wp2
  go_loop [3, 4] (fun p i => ∃ k q : Nat, k ≤ n ∧ i = .int .i64 k ∧ p = .int .i64 q ∧ q = 2 ^ k) (fun _ i => n - (intOf i).toNat)
  case atStart => exact ⟨0, 1, Nat.zero_le _, rfl, rfl, rfl⟩
  case round =>
    obtain ⟨k, q, hk, rfl, rfl, hq⟩ := hrel
    have hq2 : q ≤ 2147483648 := by rw [hq]; exact (show 2 ^ k ≤ 2 ^ 31 from Nat.pow_le_pow_right (by omega) (by omega))
    have HQ : Hid (q = 2 ^ k) := hq
    clear hq
    by_cases hlt : k < n
    · go_wp2
      go_round
      case rel => exact ⟨k + 1, q * 2, by omega, by go_num, by go_num, by rw [HQ.out, Nat.pow_succ]⟩
      case measure => simp [intOf]; omega
    · have hks : k = n := by omega
      subst hks
      go_wp2
      go_ret
      exact ⟨ret_int (by have h := HQ.out; subst h; simp), rfl⟩

theorem i64_xor_nat (a b : Nat) (ha : a < 65536) (hb : b < 65536) : bits .xor .i64 (a : Int) (b : Int) = ((a ^^^ b : Nat) : Int) := by
  have hx : a ^^^ b < 2 ^ 16 := Nat.xor_lt_two_pow (by omega) (by omega)
  show IntKind.i64.wrap ((BitVec.ofInt 64 (a : Int) ^^^ BitVec.ofInt 64 (b : Int)).toNat : Int) = _
  rw [BitVec.toNat_xor, BitVec.ofInt_natCast, BitVec.ofInt_natCast, BitVec.toNat_ofNat, BitVec.toNat_ofNat, Nat.mod_eq_of_lt (by omega), Nat.mod_eq_of_lt (by omega), IntKind.wrap_i64]
  omega

set_option maxHeartbeats 2000000 in
theorem rmul_any (a b : Nat) (w : World) (ha : a < 256) (hb : b < 256) :
    Calls Tryz.prog 86 #[.int .u8 a, .int .u8 b] w fun e w' => e = .returned (.int .u8 (gm a b)) ∧ w' = w := by
  go_enter Tryz.func86, Tryz.ntmps86
  go_wp2
  go_loop [5, 6] (fun p i => ∃ k : Nat, k ≤ 8 ∧ i = .int .i64 k ∧ p = .int .i64 (pr a b k)) (fun _ i => 8 - (intOf i).toNat)
  case atStart => exact ⟨0, Nat.zero_le _, rfl, rfl⟩
  case round =>
    obtain ⟨k, hk, rfl, rfl⟩ := hrel
    have hp := pr_lt a b k ha hk
    by_cases hlt : k < 8
    · have H : Hid (pr a b (k + 1) = pr a b k ^^^ sel (b.testBit k) (a * 2 ^ k)) := rfl
      have HB : Hid (∀ w, Calls Tryz.prog 110 #[.int .i64 b, .int .i64 k] w fun e w' => e = .returned (.int .i64 (bt b k)) ∧ w' = w) := fun w => rbit_any b k w (by omega) (by omega)
      have HP : Hid (∀ w, Calls Tryz.prog 111 #[.int .i64 k] w fun e w' => e = .returned (.int .i64 ((2 ^ k : Nat) : Int)) ∧ w' = w) := fun w => rpower_any k w (by omega)
      have hb1 := bt_of b k
      have hq1 : a * 2 ^ k < 65536 := by
        have : 2 ^ k ≤ 2 ^ 7 := Nat.pow_le_pow_right (by omega) (by omega)
        have := Nat.mul_le_mul (show a ≤ 255 by omega) this
        omega
      have hq2 := i64_xor_nat (pr a b k) (a * 2 ^ k) hp hq1
      generalize bt b k = B at HB hb1
      generalize 2 ^ k = P at HP hq1 hq2 H
      generalize pr a b k = y at hp hq2 H
      have hq3 : 0 ≤ (a : Int) * (P : Int) ∧ (a : Int) * (P : Int) < 65536 := by rw [← Int.natCast_mul]; omega
      rw [Int.natCast_mul] at hq2
      clear hq1
      cases hc : b.testBit k with
      | true =>
        rw [hc, if_pos rfl] at hb1
        rw [hc] at H
        subst hb1
        clear hc
        go_wp2_with (first
          | (go_at_call 110; refine (HB.out _).mono ?_; rintro e w' ⟨rfl, hw⟩; obtain rfl := hw.symm)
          | (go_at_call 111; refine (HP.out _).mono ?_; rintro e w' ⟨rfl, hw⟩; obtain rfl := hw.symm))
        go_round
        case rel => exact ⟨k + 1, by omega, by go_num, by rw [H.out]; rfl⟩
        case measure => simp [intOf]; omega
      | false =>
        rw [hc, if_neg (by decide)] at hb1
        rw [hc] at H
        subst hb1
        clear hc
        go_wp2_with (first
          | (go_at_call 110; refine (HB.out _).mono ?_; rintro e w' ⟨rfl, hw⟩; obtain rfl := hw.symm))
        go_round
        case rel => exact ⟨k + 1, by omega, by go_num, by rw [H.out]; simp [sel]⟩
        case measure => simp [intOf]; omega
    · have hk8 : k = 8 := by omega
      subst hk8
      have hq := pr_lt a b 8 ha (by omega)
      have HE : Hid (rd (pr a b 8) 7 = gm a b) := rd_pr a b ha
      have HG : Hid (gm a b < 256) := gm_lt a b ha
      have HD : Hid (∀ k, k ≤ 7 → rd (pr a b 8) k < 65536) := fun k hk => rd_lt _ k hq hk
      generalize pr a b 8 = q at HE HD
      clear hq hk hlt
      go_wp2
      go_loop [5, 7] (fun p i => ∃ k : Nat, k ≤ 7 ∧ i = .int .i64 (14 - (k : Int)) ∧ p = .int .i64 (rd q k)) (fun _ i => (intOf i).toNat)
      case atStart => exact ⟨0, Nat.zero_le _, rfl, rfl⟩
      case round =>
        obtain ⟨k, hk, rfl, rfl⟩ := hrel
        have hp := HD.out k hk
        by_cases hlt : k < 7
        · have H : Hid (rd q (k + 1) = rd q k ^^^ sel ((rd q k).testBit (14 - k)) (283 * 2 ^ (6 - k))) := rfl
          have HB : Hid (∀ w, Calls Tryz.prog 110 #[.int .i64 (rd q k), .int .i64 (14 - (k : Int))] w fun e w' => e = .returned (.int .i64 (bt (rd q k) (14 - k))) ∧ w' = w) := by
            intro w
            have := rbit_any (rd q k) (14 - k) w hp (by omega)
            rwa [show ((14 - k : Nat) : Int) = 14 - (k : Int) by omega] at this
          have HP : Hid (∀ w, Calls Tryz.prog 111 #[.int .i64 (6 - (k : Int))] w fun e w' => e = .returned (.int .i64 ((2 ^ (6 - k) : Nat) : Int)) ∧ w' = w) := by
            intro w
            have := rpower_any (6 - k) w (by omega)
            rwa [show ((6 - k : Nat) : Int) = 6 - (k : Int) by omega] at this
          have hb1 := bt_of (rd q k) (14 - k)
          have hq1 : 2 ^ (6 - k) ≤ 64 := show 2 ^ (6 - k) ≤ 2 ^ 6 from Nat.pow_le_pow_right (by omega) (by omega)
          have hq2 := i64_xor_nat (rd q k) (283 * 2 ^ (6 - k)) hp (by omega)
          have h6 : (14 : Int) - (k : Int) - 8 = 6 - (k : Int) := by omega
          generalize bt (rd q k) (14 - k) = B at HB hb1
          generalize 2 ^ (6 - k) = P at HP hq1 hq2 H
          generalize rd q k = y at hp hq2 H HB hb1
          rw [Int.natCast_mul] at hq2
          change bits .xor .i64 (y : Int) (283 * (P : Int)) = _ at hq2
          cases hc : y.testBit (14 - k) with
          | true =>
            rw [hc, if_pos rfl] at hb1
            rw [hc] at H
            subst hb1
            clear hc
            go_wp2_with (first
              | (go_at_call 110; refine (HB.out _).mono ?_; rintro e w' ⟨rfl, hw⟩; obtain rfl := hw.symm)
              | (go_at_call 111; refine (HP.out _).mono ?_; rintro e w' ⟨rfl, hw⟩; obtain rfl := hw.symm))
            go_round
            case rel => exact ⟨k + 1, by omega, by go_num, by rw [H.out]; rfl⟩
            case measure => simp [intOf]; omega
          | false =>
            rw [hc, if_neg (by decide)] at hb1
            rw [hc] at H
            subst hb1
            clear hc
            go_wp2_with (first
              | (go_at_call 110; refine (HB.out _).mono ?_; rintro e w' ⟨rfl, hw⟩; obtain rfl := hw.symm))
            go_round
            case rel => exact ⟨k + 1, by omega, by go_num, by rw [H.out]; simp [sel]⟩
            case measure => simp [intOf]; omega
        · have hk7 : k = 7 := by omega
          subst hk7
          rw [HE.out]
          have hg := HG.out
          clear HD hp hk hlt
          go_wp2
          go_ret
          exact ⟨ret_int (by omega), rfl⟩

set_option maxHeartbeats 1000000 in
theorem rpow_any (a n : Nat) (w : World) (ha : a < 256) (hn : n ≤ 255) :
    Calls Tryz.prog 108 #[.int .u8 a, .int .i64 n] w fun e w' => e = .returned (.int .u8 (pw a n)) ∧ w' = w := by
  have HA : Hid (a < 256) := ha
  clear ha
  go_enter Tryz.func108, Tryz.ntmps108
  go_wp2
  go_loop [5, 6] (fun p i => ∃ k : Nat, k ≤ n ∧ i = .int .i64 k ∧ p = .int .u8 (pw a k)) (fun _ i => n - (intOf i).toNat)
  case atStart => exact ⟨0, Nat.zero_le _, rfl, rfl⟩
  case round =>
    obtain ⟨k, hk, rfl, rfl⟩ := hrel
    by_cases hlt : k < n
    · go_wp2_with (go_at_call 86; refine (rmul_any (pw a k) a _ (pw_lt a k) HA.out).mono ?_; rintro e w' ⟨rfl, hw⟩; obtain rfl := hw.symm)
      go_round
      case rel => exact ⟨k + 1, by omega, by go_num, rfl⟩
      case measure => simp [intOf]; omega
    · have hks : k = n := by omega
      subst hks
      go_wp2
      go_ret
      exact ⟨rfl, rfl⟩

set_option maxRecDepth 20000 in
set_option maxHeartbeats 1000000 in
theorem rinv_any (a : Nat) (w : World) (ha : a < 256) :
    Calls Tryz.prog 45 #[.int .u8 a] w fun e w' => e = .returned (.int .u8 (iv a)) ∧ w' = w := by
  have HA : Hid (a < 256) := ha
  clear ha
  go_enter Tryz.func45, Tryz.ntmps45
  go_wp2
  go_loop [3] (fun i => ∃ k : Nat, 1 ≤ k ∧ k ≤ 256 ∧ i = .int .i64 k ∧ Hid (∀ j, 1 ≤ j → j < k → gm a j ≠ 1)) (fun i => 256 - (intOf i).toNat)
  case atStart => exact ⟨1, by omega, by omega, rfl, fun j h1 h2 => by omega⟩
  case round =>
    obtain ⟨k, hk1, hk, rfl, HN⟩ := hrel
    by_cases hlt : k < 256
    · have HK : Hid (k < 256) := hlt
      have h8 : IntKind.u8.wrap (k : Int) = (k : Int) := by rw [IntKind.wrap_u8']; omega
      have HC : Hid (∀ w, Calls Tryz.prog 86 #[.int .u8 a, .int .u8 k] w fun e w' => e = .returned (.int .u8 (gm a k)) ∧ w' = w) := fun w => rmul_any a k w HA.out hlt
      by_cases hg : gm a k = 1
      · have HI : Hid (k = iv a) := iv_only a k HA.out hlt hg
        rw [hg] at HC
        clear hg
        go_wp2_with (go_at_call 86; refine (HC.out _).mono ?_; rintro e w' ⟨rfl, hw⟩; obtain rfl := hw.symm)
        go_ret
        exact ⟨ret_int (by rw [← HI.out]; try omega), rfl⟩
      · have HM : Hid (∀ j, 1 ≤ j → j < k + 1 → gm a j ≠ 1) := fun j h1 h2 => by
          by_cases hj : j = k
          · subst hj; exact hg
          · exact HN.out j h1 (by omega)
        generalize gm a k = g at HC hg
        have hg' : ¬ ((g : Int) = 1) := by omega
        clear hg HN
        go_wp2_with (go_at_call 86; refine (HC.out _).mono ?_; rintro e w' ⟨rfl, hw⟩; obtain rfl := hw.symm)
        go_round
        case rel => exact ⟨k + 1, by omega, by omega, by go_num, HM⟩
        case measure => simp [intOf]; omega
    · have hks : k = 256 := by omega
      subst hks
      have HZ : Hid (iv a = 0) := by
        by_cases h0 : a = 0
        · subst h0; exact iv_zero
        · exfalso
          have h1 := gm_iv a HA.out h0
          refine HN.out (iv a) ?_ (iv_lt a) h1
          rcases Nat.eq_zero_or_pos (iv a) with h | h
          · rw [h, gm_zero] at h1; omega
          · exact h
      clear HN
      go_wp2
      go_ret
      exact ⟨ret_int (by rw [HZ.out]; rfl), rfl⟩
end Go.Proofs.YtbkaecjkgjkheaaGreatDoor

/- Numbers that lie in a row of a block: how they are read, written, and how they last; a region that draws its order and only reads, in a class of worlds. No claim of its own. -/
namespace Go.Proofs.YtbkaecjkgjkheaaGreatDoor
open Go.RowKit
set_option maxRecDepth 20000

theorem i_u8 : (Tryz.prog.info? 5).map (·.size) = some 1 := by kernel_rfl

/-- what lies below stays where cells of a later block are written -/
theorem below_cells {B : Nat} {a : World} (b : Nat) (hb : B ≤ b) : ∀ (vs : List Value) (o : Nat) {w : World}, Below B a w → Below B a (w.setCells b o vs)
  | [], _, _, h => h
  | v :: r, o, _, h => below_cells b hb r (o + 1) (h.setCell (p := ⟨b, o, none⟩) hb v)

/-- numbers as values -/
def ints (k : IntKind) (xs : List Int) : Array Value := (xs.map (Value.int k)).toArray

theorem ints_size (k : IntKind) (xs : List Int) : (ints k xs).size = xs.length := by simp [ints]
theorem ints_toList (k : IntKind) (xs : List Int) : (ints k xs).toList = xs.map (Value.int k) := by simp [ints]
theorem ints_one (k : IntKind) (xs : List Int) : (ints k xs).all (·.oneCell') = true := by
  rw [Array.all_eq_true_iff_forall_mem]
  intro v hv
  simp only [ints, List.mem_toArray, List.mem_map] at hv
  obtain ⟨x, _, rfl⟩ := hv
  rfl

/-- the numbers xs lie in block b from place o on, and may be written -/
def Ar (w : World) (b o : Nat) (k : IntKind) (xs : List Int) : Prop := w.rangeAt b o (xs.map (Value.int k)) ∧ w.there b o xs.length

theorem Ar.cell {w : World} {b o : Nat} {k : IntKind} {xs : List Int} (h : Ar w b o k xs) (i : Nat) (hi : i < xs.length) : w.cell? ⟨b, o + i, none⟩ = some (.int k (gb xs i)) :=
  h.1 i _ (by simp [gb, List.getD, hi])
theorem Ar.cell0 {w : World} {b : Nat} {k : IntKind} {xs : List Int} (h : Ar w b 0 k xs) (i : Nat) (hi : i < xs.length) : w.cell? ⟨b, i, none⟩ = some (.int k (gb xs i)) := by
  have := h.cell i hi
  rwa [Nat.zero_add] at this
theorem Ar.free {w : World} {b o : Nat} {k : IntKind} {xs : List Int} (h : Ar w b o k xs) (i : Nat) (hi : i < xs.length) : w.frozen? ⟨b, o + i, none⟩ = false := (h.2 i hi).2
theorem Ar.free0 {w : World} {b : Nat} {k : IntKind} {xs : List Int} (h : Ar w b 0 k xs) (i : Nat) (hi : i < xs.length) : w.frozen? ⟨b, i, none⟩ = false := by
  have := h.free i hi
  rwa [Nat.zero_add] at this
theorem Ar.mk {w : World} {b o : Nat} {k : IntKind} {xs : List Int} (h : ∀ i, i < xs.length → w.cell? ⟨b, o + i, none⟩ = some (.int k (gb xs i)) ∧ w.frozen? ⟨b, o + i, none⟩ = false) : Ar w b o k xs := by
  refine ⟨fun j v hv => ?_, fun j hj => ?_⟩
  · have hj : j < xs.length := by have := (List.getElem?_eq_some_iff.1 hv).1; simpa using this
    rw [(h j hj).1, ← hv]
    simp [gb, List.getD, hj]
  · exact ⟨by rw [(h j hj).1]; rfl, (h j hj).2⟩
theorem Ar.lt {w : World} {b o : Nat} {k : IntKind} {xs : List Int} (h : Ar w b o k xs) (hp : 0 < xs.length) : b < w.heap.size := World.block_lt_of_cell? w _ (h.cell 0 hp)
theorem Ar.heap {w w' : World} {b o : Nat} {k : IntKind} {xs : List Int} (h : Ar w b o k xs) (e : w'.heap[b]? = w.heap[b]?) : Ar w' b o k xs :=
  Ar.mk fun i hi => ⟨by rw [World.cell?_of_block (w := w) (w' := w') (a := ⟨b, o + i, none⟩) e]; exact h.cell i hi, by rw [World.frozen?_of_block (w := w) (w' := w') (a := ⟨b, o + i, none⟩) e]; exact h.free i hi⟩
theorem Ar.below {w w' : World} {b o B : Nat} {k : IntKind} {xs : List Int} (h : Ar w b o k xs) (hb : Below B w w') (hB : b < B) : Ar w' b o k xs := h.heap (hb.block b hB)
theorem Ar.alloc {w : World} {b o : Nat} {k : IntKind} {xs : List Int} (h : Ar w b o k xs) (ob : Obj) : Ar (w.alloc ob) b o k xs := ⟨World.rangeAt_alloc h.1 ob, World.there_alloc h.2 ob⟩
theorem Ar.drewN {w : World} {b o : Nat} {k : IntKind} {xs : List Int} (h : Ar w b o k xs) (n : Nat) : Ar (w.drewN n) b o k xs := h.heap rfl
theorem Ar.other {w : World} {b o : Nat} {k : IntKind} {xs : List Int} (h : Ar w b o k xs) {p : Addr} (hp : b ≠ p.block) (u : Value) : Ar (w.setCell p u) b o k xs := h.heap (Below.heap_setCell w p u b hp)
theorem Ar.new (w : World) (t : TypeId) (k : IntKind) (xs : List Int) : Ar (w.alloc (.cells (ints k xs) t)) w.heap.size 0 k xs :=
  Ar.mk fun i hi => by
    have e := cell_of_row (w.alloc (.cells (ints k xs) t)) w.heap.size (0 + i) _ t (0, 0) (heap_alloc_last w _)
    refine ⟨by rw [e]; simp [ints, gb, List.getD, hi], ?_⟩
    exact World.frozen?_alloc_at _ _ _ _ rfl
theorem Ar.set {w : World} {b o : Nat} {k : IntKind} {xs : List Int} (h : Ar w b o k xs) (i : Nat) (hi : i < xs.length) (x : Int) : Ar (w.setCell ⟨b, o + i, none⟩ (.int k x)) b o k (xs.set i x) :=
  Ar.mk fun j hj => by
    rw [List.length_set] at hj
    refine ⟨?_, by rw [World.frozen?_setCell]; exact h.free j hj⟩
    by_cases e : i = j
    · subst e
      rw [World.cell?_setCell_same _ _ _ (h.cell i hi)]
      simp [gb, List.getD, hi]
    · rw [World.cell?_setCell_other _ _ _ _ (by intro hh; injection hh with _ h2; omega), h.cell j hj]
      simp [gb, List.getD, e]
theorem Ar.set0 {w : World} {b : Nat} {k : IntKind} {xs : List Int} (h : Ar w b 0 k xs) (i : Nat) (hi : i < xs.length) (x : Int) : Ar (w.setCell ⟨b, i, none⟩ (.int k x)) b 0 k (xs.set i x) := by
  have := h.set i hi x
  rwa [Nat.zero_add] at this
/-- what lies apart in the same block -/
theorem Ar.apart {w : World} {b o : Nat} {k : IntKind} {xs : List Int} (h : Ar w b o k xs) (b' o' : Nat) (vs : List Value) (hap : b ≠ b' ∨ o + xs.length ≤ o' ∨ o' + vs.length ≤ o) : Ar (w.setCells b' o' vs) b o k xs :=
  ⟨World.rangeAt_setCells_apart h.1 b' o' vs (by simpa using hap), World.there_setCells h.2 b' o' vs⟩
/-- a part is written -/
def laid (xs : List Int) (s : Nat) (ys : List Int) : List Int := xs.take s ++ ys ++ xs.drop (s + ys.length)
theorem laid_len (xs : List Int) (s : Nat) (ys : List Int) (h : s + ys.length ≤ xs.length) : (laid xs s ys).length = xs.length := by simp [laid]; omega
theorem gb_laid (xs : List Int) (s : Nat) (ys : List Int) (hs : s + ys.length ≤ xs.length) (j : Nat) : gb (laid xs s ys) j = if j < s then gb xs j else if j < s + ys.length then gb ys (j - s) else gb xs j := by
  have hm : (xs.take s).length = s := by simp; omega
  unfold gb laid
  by_cases h1 : j < s
  · rw [if_pos h1, List.append_assoc, List.getD_eq_getElem?_getD, List.getElem?_append_left (by omega), List.getElem?_take, if_pos h1]; rfl
  · rw [if_neg h1, List.append_assoc, List.getD_eq_getElem?_getD, List.getElem?_append_right (by omega), hm]
    by_cases h2 : j < s + ys.length
    · rw [if_pos h2, List.getElem?_append_left (by omega)]; rfl
    · rw [if_neg h2, List.getElem?_append_right (by omega), List.getElem?_drop, show s + ys.length + (j - s - ys.length) = j by omega]; rfl
theorem Ar.lay {w : World} {b o : Nat} {k : IntKind} {xs : List Int} (h : Ar w b o k xs) (s : Nat) (ys : List Int) (hs : s + ys.length ≤ xs.length) : Ar (w.setCells b (o + s) (ys.map (Value.int k))) b o k (laid xs s ys) :=
  Ar.mk fun j hj => by
    rw [laid_len xs s ys hs] at hj
    refine ⟨?_, by rw [World.frozen?_setCells]; exact h.free j hj⟩
    by_cases h1 : j < s
    · rw [World.cell?_setCells_out _ _ _ _ _ (fun _ _ => by left; show o + j < o + s; omega), h.cell j hj, gb_laid xs s ys hs, if_pos h1]
    · by_cases h2 : j < s + ys.length
      · have e := World.cell?_setCells_in b (ys.map (Value.int k)) (o + s) w (fun i hi => by
          simp only [List.length_map] at hi
          rw [show o + s + i = o + (s + i) by omega, h.cell (s + i) (by omega)]; rfl) (j - s) (by simp; omega)
        rw [show o + s + (j - s) = o + j by omega] at e
        rw [e, gb_laid xs s ys hs, if_neg h1, if_pos h2]
        simp [gb, List.getD, show j - s < ys.length by omega]
      · rw [World.cell?_setCells_out _ _ _ _ _ (fun _ _ => by right; simp; omega), h.cell j hj, gb_laid xs s ys hs, if_neg h1, if_neg h2]
/-- all of it is written -/
theorem Ar.whole {w : World} {b o : Nat} {k : IntKind} {xs : List Int} (ht : w.there b o xs.length) : Ar (w.setCells b o (xs.map (Value.int k))) b o k xs :=
  ⟨World.rangeAt_setCells_same w b o _ (by simpa using ht), World.there_setCells ht b o _⟩
theorem results_ar {fn : Func} {p : Tmp} {ty : TypeId} (h : fn.results = #[.cell p ty]) (tmps : Array Value) (w : World) (b o : Nat) (k : IntKind) (xs : List Int) (hp : tmps.getD p undef = .pointer (some ⟨b, o, none⟩)) (ha : Ar w b o k xs)
    (n : Nat) (e : TypeId) (hu : Tryz.prog.underlying ty = some (.array n e)) (hi : (Tryz.prog.info? ty).map (·.size) = some n) (hn : xs.length = n) : (results fn tmps).run Tryz.prog w = .ok (.agg (ints k xs)) w := by
  have hp' : tmps[p]?.getD undef = .pointer (some ⟨b, o, none⟩) := by simpa using hp
  have hl := run_loadVar_mid (P := Tryz.prog) w b o ty _ _ ha.1 hu rfl (by rw [hi]; simp [hn])
  simp [results, h, hp', asAddr, hl, ints]

section
variable {ops : Array Oper} {rest : List Oper} {o : Oper} {a : Act} {Q : Exit → Act → World → Prop}
/-- a parameter that is an array gets a place -/
theorem box_law (w : World) (hg : o.guard = none) (x : Operand) (t : TypeId) (hop : o.op = Op.box t x) (k : IntKind) (xs : List Int) (hx : a.eval x = .agg (ints k xs))
    (hK : wpList Tryz.prog ops Q rest (a.put o.dst (.pointer (some ⟨w.heap.size, 0, none⟩))) (w.alloc (.cells (ints k xs) t))) :
    wpList Tryz.prog ops Q (o :: rest) a w := by
  refine wpList_plain hg fun K hK' => ?_
  unfold Oper.wp
  simp [execOp, hop, hx, Instr.box, newVar, newRow, Value.cells, Result.andThen]
  exact hK' _ _ hK
/-- a variable that is an array gets a place: noughts -/
theorem new_law (w : World) (hg : o.guard = none) (t : TypeId) (hop : o.op = Op.alloc t) (k : IntKind) (xs : List Int) (hz : (Tryz.prog.info? t).map (fun i => (i.zero, i.size)) = some (some (.agg (ints k xs)), xs.length))
    (hK : wpList Tryz.prog ops Q rest (a.put o.dst (.pointer (some ⟨w.heap.size, 0, none⟩))) (w.alloc (.cells (ints k xs) t))) :
    wpList Tryz.prog ops Q (o :: rest) a w := by
  refine wpList_plain hg fun K hK' => ?_
  have hz' := (zero_of_info hz).1
  unfold Oper.wp
  simp [execOp, hop, Instr.alloc, hz', newVar, newRow, Value.cells, Result.andThen]
  exact hK' _ _ hK
/-- a whole array is read -/
theorem load_law (w : World) (hg : o.guard = none) (x : Operand) (t : TypeId) (hop : o.op = Op.load t x) (k : IntKind) (xs : List Int) (b p : Nat) (hx : a.eval x = .pointer (some ⟨b, p, none⟩)) (h : Ar w b p k xs)
    (n : Nat) (e : TypeId) (hu : Tryz.prog.underlying t = some (.array n e)) (hi : (Tryz.prog.info? t).map (·.size) = some n) (hn : xs.length = n)
    (hK : wpList Tryz.prog ops Q rest (a.put o.dst (.agg (ints k xs))) w) :
    wpList Tryz.prog ops Q (o :: rest) a w :=
  wpList_load_mid hg t x hop b p hx _ _ h.1 hu rfl (by rw [hi]; simp [hn]) hK
/-- a whole array is written -/
theorem store_law (w : World) (hg : o.guard = none) (x y : Operand) (t : TypeId) (hop : o.op = Op.store t x y) (k : IntKind) (ys : List Int) (b p : Nat) (hx : a.eval x = .pointer (some ⟨b, p, none⟩)) (hy : a.eval y = .agg (ints k ys))
    (ht : w.there b p ys.length) (n : Nat) (hi : (Tryz.prog.info? t).map (·.size) = some n) (hn : ys.length = n)
    (hK : wpList Tryz.prog ops Q rest (a.put o.dst undef) (w.setCells b p (ys.map (Value.int k)))) :
    wpList Tryz.prog ops Q (o :: rest) a w :=
  wpList_store_mid hg t x y hop b p (ints k ys) hx hy (by rw [ints_size]; exact ht) (by rw [hi, ints_size, hn]) (ints_one k ys) (by rw [ints_toList]; exact hK)
/-- an array's literal -/
theorem build_law (w : World) (hg : o.guard = none) (t : TypeId) (parts : Array (Nat × Operand)) (hop : o.op = Op.build t parts) (v : Value) (hrun : (Instr.build t (parts.map fun (i, x) => (i, a.eval x))).run Tryz.prog w = .ok v w)
    (hK : wpList Tryz.prog ops Q rest (a.put o.dst v) w) : wpList Tryz.prog ops Q (o :: rest) a w := by
  refine wpList_plain hg fun K hK' => ?_
  unfold Oper.wp execOp
  simp only [hop, Sem.run_bind, Sem.run_pure, Result.andThen_ok, hrun]
  exact hK' _ _ hK
/-- a variable that is an array gets a place; the world gets a name -/
theorem new_lawF (w : World) (hg : o.guard = none) (t : TypeId) (hop : o.op = Op.alloc t) (k : IntKind) (xs : List Int) (hz : (Tryz.prog.info? t).map (fun i => (i.zero, i.size)) = some (some (.agg (ints k xs)), xs.length))
    (hK : ∀ w', Ar w' w.heap.size 0 k xs → Below w.heap.size w w' → w.heap.size < w'.heap.size → wpList Tryz.prog ops Q rest (a.put o.dst (.pointer (some ⟨w.heap.size, 0, none⟩))) w') :
    wpList Tryz.prog ops Q (o :: rest) a w :=
  new_law w hg t hop k xs hz (hK _ (Ar.new w t k xs) ((Below.refl _ _).alloc (Nat.le_refl _) _) (by simp))
/-- a whole array is written; the world gets a name -/
theorem store_lawF (w : World) (hg : o.guard = none) (x y : Operand) (t : TypeId) (hop : o.op = Op.store t x y) (k : IntKind) (xs ys : List Int) (b : Nat) (hx : a.eval x = .pointer (some ⟨b, 0, none⟩)) (hy : a.eval y = .agg (ints k ys))
    (hA : Ar w b 0 k xs) (n : Nat) (hi : (Tryz.prog.info? t).map (·.size) = some n) (hl : xs.length = n) (hn : ys.length = n)
    (hK : ∀ w', Ar w' b 0 k ys → Below b w w' → wpList Tryz.prog ops Q rest (a.put o.dst undef) w') :
    wpList Tryz.prog ops Q (o :: rest) a w := by
  have ht : w.there b 0 ys.length := by rw [hn, ← hl]; exact hA.2
  exact store_law w hg x y t hop k ys b 0 hx hy ht n hi hn (hK _ (Ar.whole ht) (below_cells _ (Nat.le_refl _) _ _ (Below.refl _ _)))
/-- a value gets a place; the world gets a name -/
theorem box_lawF (w : World) (hg : o.guard = none) (x : Operand) (t : TypeId) (hop : o.op = Op.box t x) (k : IntKind) (xs : List Int) (hx : a.eval x = .agg (ints k xs))
    (hK : ∀ w', Ar w' w.heap.size 0 k xs → Below w.heap.size w w' → w.heap.size < w'.heap.size → wpList Tryz.prog ops Q rest (a.put o.dst (.pointer (some ⟨w.heap.size, 0, none⟩))) w') :
    wpList Tryz.prog ops Q (o :: rest) a w :=
  box_law w hg x t hop k xs hx (hK _ (Ar.new w t k xs) ((Below.refl _ _).alloc (Nat.le_refl _) _) (by simp))
end

section
variable {ops : Array Oper} {o : Oper} {a : Act} {Q : Exit → Act → World → Prop} {K : Act → World → Prop} {E : Prop}
/-- one number of an array is written, in a region that draws its order -/
theorem step_set (w : World) (hg : o.guard = none) (d : Option Tmp) (hd : o.dst = d) (x y : Operand) (t : TypeId) (hop : o.op = Op.store t x y) (k : IntKind) (n : Int) (b p : Nat) (hx : a.eval x = .pointer (some ⟨b, p, none⟩)) (hy : a.eval y = .int k n)
    (hc : (w.cell? ⟨b, p, none⟩).isSome = true) (hf : w.frozen? ⟨b, p, none⟩ = false) (hi : (Tryz.prog.info? t).map (·.size) = some 1)
    (hK : K (a.put d undef) (w.setCell ⟨b, p, none⟩ (.int k n))) :
    if Region.wanted o (yielded ops a.tmps) = true then Oper.wp Tryz.prog o a w K Q else E := by
  have hw : Region.wanted o (yielded ops a.tmps) = true := by simp [Region.wanted, hg]
  rw [if_pos hw]
  subst hd
  have hr : (storeVar t ⟨b, p, none⟩ (.int k n)).run Tryz.prog w = .ok () (w.setCell ⟨b, p, none⟩ (.int k n)) := by
    have e0 : ∀ j, j < [Value.int k n].length → j = 0 := fun j hj => by simpa using hj
    have := run_storeCells_cells (P := Tryz.prog) b p [.int k n] 0 w (fun j hj => by rw [e0 j hj]; simpa using hc) (fun j hj => by rw [e0 j hj]; simpa using hf) (fun v hv => by simp at hv; subst hv; rfl)
    cases hq : Tryz.prog.info? t with
    | none => simp [hq] at hi
    | some i =>
      have hs : i.size = 1 := by simpa [hq] using hi
      simp only [Nat.add_zero] at this
      simp [storeVar, sizeOf, typeInfo, hq, Value.cells, hs]
      simpa [World.setCells] using this
  unfold Oper.wp execOp
  simp only [hop, hx, hy, Instr.storeAt, Instr.sureAddr, Sem.run_bind, Sem.run_pure, Result.andThen_ok, hr]
  exact hK
end

section
variable {ops : Array Oper} {C : World → Prop} {K : Act → Prop} {o : Oper} {a : Act}
/-- an operation that yields a value, in every world of the class -/
theorem q_val (hw : Region.wanted o (yielded ops a.tmps) = true) (d : Option Tmp) (hd : o.dst = d) (v : Value) (hr : ∀ w, C w → (execOp a.eval o).run Tryz.prog w = .ok (.value v) w) (hK : K (a.put d v)) :
    if Region.wanted o (yielded ops a.tmps) = true then o.quiet Tryz.prog a C K else K (a.put o.dst undef) := by
  rw [if_pos hw]
  subst hd
  refine ⟨v, fun w hC => ?_, hK⟩
  unfold Oper.quietAt
  rw [hr w hC]
  exact ⟨rfl, rfl⟩
/-- a whole array is read -/
theorem q_load (hw : Region.wanted o (yielded ops a.tmps) = true) (d : Option Tmp) (hd : o.dst = d) (x : Operand) (t : TypeId) (hop : o.op = Op.load t x) (k : IntKind) (xs : List Int) (b : Nat) (hx : a.eval x = .pointer (some ⟨b, 0, none⟩)) (h : ∀ w, C w → Ar w b 0 k xs)
    (n : Nat) (e : TypeId) (hu : Tryz.prog.underlying t = some (.array n e)) (hi : (Tryz.prog.info? t).map (·.size) = some n) (hn : xs.length = n) (hK : K (a.put d (.agg (ints k xs)))) :
    if Region.wanted o (yielded ops a.tmps) = true then o.quiet Tryz.prog a C K else K (a.put o.dst undef) := by
  refine q_val hw d hd _ (fun w hC => ?_) hK
  have := run_loadVar_mid (P := Tryz.prog) w b 0 t _ _ (h w hC).1 hu rfl (by rw [hi]; simp [hn])
  unfold execOp
  simp only [hop, hx, Instr.loadAt, Instr.sureAddr, Sem.run_bind, Sem.run_pure, Result.andThen_ok, this]
  rfl
/-- two arrays that are the same -/
theorem q_eql (hw : Region.wanted o (yielded ops a.tmps) = true) (d : Option Tmp) (hd : o.dst = d) (x y : Operand) (t e t' : TypeId) (n : Nat) (hop : o.op = Op.binOp .eql t x y t') (k : IntKind) (xs : List Int) (hx : a.eval x = .agg (ints k xs)) (hy : a.eval y = .agg (ints k xs)) (hl : xs.length = n)
    (hu : Tryz.prog.underlying t = some (.array n e)) (he : Tryz.prog.underlying e = some (.int k)) (hsz : ∀ w, (sizeOf e).run Tryz.prog w = .ok 1 w) (hm : Tryz.prog.eqGuardType Tryz.prog.depth t = false) (hK : K (a.put d (.bool true))) :
    if Region.wanted o (yielded ops a.tmps) = true then o.quiet Tryz.prog a C K else K (a.put o.dst undef) := by
  refine q_val hw d hd _ (fun w _ => ?_) hK
  have hr : (Op.equalIn 10000 t (.agg (ints k xs)) (.agg (ints k xs))).run Tryz.prog w = .ok true w := by
    rw [show (10000 : Nat) = 9998 + 1 + 1 from rfl, Op.equalIn]
    simp only [Sem.run_bind, run_underlying hu, Result.andThen_ok, hsz, Std.Legacy.Range.forIn_eq_forIn_range', Std.Legacy.Range.size, Nat.sub_zero, Nat.add_sub_cancel, Nat.div_one]
    have hl' : ∀ i ∈ List.range' 0 n 1, i < n := fun i hi => by simpa using (List.mem_range'_1.1 hi).2
    generalize List.range' 0 n 1 = l at hl' ⊢
    induction l with
    | nil => simp
    | cons i l ih =>
      have hi : i < n := hl' i (by simp)
      have px : (Go.part e (ints k xs) (i * 1)).run Tryz.prog w = .ok (.int k (gb xs i)) w := by
        simp [Go.part, isAgg, run_underlying he, ints, gb, List.getD, List.getElem?_eq_getElem (show i < xs.length by omega)]
      have pe : (Op.equalIn (9998 + 1) e (.int k (gb xs i)) (.int k (gb xs i))).run Tryz.prog w = .ok true w := by
        rw [run_equalIn_int w 9998 e k k _ _ he]; simp
      simp only [List.forIn_cons, Sem.run_bind, px, pe, Result.andThen_ok, Bool.not_true, Bool.false_eq_true, if_false, Sem.run_pure]
      exact ih fun j hj => hl' j (by simp [hj])
  unfold execOp
  simp only [hop, hx, hy, Sem.run_bind, run_eqGuard_agg w .eql t x y _ _ hm, Result.andThen_ok, run_eql_struct, hr]
  rfl
/-- a call that hands back the same in every world of the class -/
theorem q_call (hw : Region.wanted o (yielded ops a.tmps) = true) (d : Option Tmp) (hd : o.dst = d) (f : FuncId) (xs : Array Operand) (ats : Array TypeId) (hop : o.op = .call { callee := .value (.func f), args := xs, argTypes := ats })
    (hcf : ∀ (q : Array Value) (w : World), (callFunc f q).run Tryz.prog w = .ok (.enter f q) w) (vs : Array Value) (hx : xs.map a.eval = vs) (v : Value) (hc : ∀ w, C w → Calls Tryz.prog f vs w fun e w' => e = .returned v ∧ C w') (hK : K (a.put d v)) :
    if Region.wanted o (yielded ops a.tmps) = true then o.quiet Tryz.prog a C K else K (a.put o.dst undef) := by
  rw [if_pos hw]
  subst hd
  refine ⟨v, fun w hC => ?_, hK⟩
  unfold Oper.quietAt
  simp only [execOp, hop]
  go_simp
  exact hc w hC
end
end Go.Proofs.YtbkaecjkgjkheaaGreatDoor

