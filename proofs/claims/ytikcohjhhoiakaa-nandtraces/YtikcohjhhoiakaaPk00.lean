/- Texts put together. -/
import Derived.Test.YtikcohjhhoiakaaRows
import Derived.WalkKit
import Derived.WalkSmall
import Derived.ProofKit
import Derived.OpenShut
import Derived.BigQuiet
import Derived.Deep.QuietTactic
import Derived.Deep.WholeRow
import Derived.Deep.MidRow
import Derived.Laws.StructEq
set_option maxHeartbeats 8000000
namespace Go.Proofs.Ytikcohjhhoiakaa
open Go.RowKit
set_option maxRecDepth 20000
def gb (xs : List Int) (j : Nat) : Int := xs.getD j 0
def AllB (xs : List Int) : Prop := ∀ j : Nat, 0 ≤ gb xs j ∧ gb xs j ≤ 255
def Byt (w : World) (v : Value) (xs : List Int) : Prop :=
 ∃ ao cap, v = .slice ao xs.length cap ∧ xs.length ≤ cap ∧ cap ≤ 9223372036854775807 ∧ AllB xs ∧ (ao = none → cap = 0) ∧
  (0 < xs.length → ∃ b off, ao = some ⟨b, off, none⟩ ∧ ∀ t, t < xs.length → w.cell? ⟨b, off + t, none⟩ = some (.int .u8 (gb xs t)))
theorem Byt.below {w w' : World} {v : Value} {xs : List Int} (h : Byt w v xs) (hb : Below w.heap.size w w') : Byt w' v xs := by
 obtain ⟨ao, cap, rfl, h1, h2, h3, h4, h5⟩ := h
 refine ⟨ao, cap, rfl, h1, h2, h3, h4, fun hp => ?_⟩
 obtain ⟨b, off, rfl, hc⟩ := h5 hp
 refine ⟨b, off, rfl, fun t ht => ?_⟩
 have := hc t ht
 rw [hb.cell (World.block_lt_of_cell? w _ this)]
 exact this
theorem Byt.nil (w : World) : Byt w (.slice none 0 0) [] :=
 ⟨none, 0, rfl, by simp, by simp, fun j => by simp [gb], fun _ => rfl, fun h => by simp at h⟩
theorem Byt.all {w : World} {v : Value} {xs : List Int} (h : Byt w v xs) : AllB xs := by
 obtain ⟨ao, cap, rfl, h1, h2, h3, h4, h5⟩ := h
 exact h3
theorem Byt.len {w : World} {v : Value} {xs : List Int} (h : Byt w v xs) : xs.length ≤ 9223372036854775807 := by
 obtain ⟨ao, cap, rfl, h1, h2, h3, h4, h5⟩ := h
 omega
theorem Byt.own {w : World} {base : Nat} {v : Value} {n : Nat} {xs : List Int} (h : w.ownsRow base 5 1 v n (xs.map (Value.int .u8))) (ha : AllB xs) : Byt w v xs := by
 have hl : xs.length = n := by have := h.1; simpa using this
 rcases h.2 with ⟨rfl, hn⟩ | ⟨g, cap, cur, rfl, hg, hb, hc, hm, hs, ht⟩
 ·have : xs = [] := List.eq_nil_of_length_eq_zero (by omega)
  subst this
  exact Byt.nil w
 ·subst hl
  refine ⟨some ⟨g, 0, none⟩, cap, rfl, hc, by simpa [maxLen] using hm, ha, (by intro h; cases h), fun hp => ⟨g, 0, rfl, fun t ht' => ?_⟩⟩
  have := h.cells (g := g) rfl t (.int .u8 (gb xs t)) (by simp [gb, List.getD, ht'])
  rw [Addr.add_lit] at this
  simpa using this
theorem ext_gb {xs ys : List Int} (h : xs.length = ys.length) (h' : ∀ t, t < xs.length → gb xs t = gb ys t) : xs = ys := by
 refine List.ext_getElem h fun t h1 h2 => ?_
 have := h' t h1
 simpa [gb, List.getD, h1, h2] using this
theorem allB_mem {xs : List Int} (h : ∀ x ∈ xs, 0 ≤ x ∧ x ≤ 255) : AllB xs := by
 intro j
 by_cases hj : j < xs.length
 ·have := h (xs[j]) (List.getElem_mem hj)
  simpa [gb, List.getD, hj] using this
 ·simp [gb, List.getD, Nat.le_of_not_lt hj]
theorem ret_bool {a b : Bool} (h : a = b) : Ending.returned (.bool a) = .returned (.bool b) := by rw [h]
theorem ret_int {k : IntKind} {a b : Int} (h : a = b) : Ending.returned (.int k a) = .returned (.int k b) := by rw [h]
theorem info_u8 : (Try.prog.info? 5).map (fun i => (i.zero, i.size, i.bytes)) = some (some (.int .u8 0), 1, 1) := by kernel_rfl
theorem own : ownKnob Try.prog.godebug = none := by kernel_rfl
theorem cells_u8 : Try.prog.cellsOf 5 = 1 := by kernel_rfl
def Own (B : Nat) (w : World) (v : Value) (xs : List Int) : Prop := w.ownsRow B 5 1 v xs.length (xs.map (Value.int .u8))
def OwnN (B : Nat) (w : World) (g n : Nat) (xs : List Int) : Prop := xs.length = n ∧ B ≤ g ∧ w.ownsRow B 5 1 (.slice (some ⟨g, 0, none⟩) n n) n (xs.map (Value.int .u8))
theorem Own.byt {B : Nat} {w : World} {v : Value} {xs : List Int} (h : Own B w v xs) (ha : AllB xs) : Byt w v xs := Byt.own h ha
theorem OwnN.byt {B : Nat} {w : World} {g n : Nat} {xs : List Int} (h : OwnN B w g n xs) (ha : AllB xs) : Byt w (.slice (some ⟨g, 0, none⟩) n n) xs := Byt.own h.2.2 ha
theorem Own.empty (w : World) {B : Nat} (hB : B ≤ w.heap.size) : Own B (w.alloc (.cells #[] 5)) (.slice (some ⟨w.heap.size, 0, none⟩) 0 0) [] :=
 World.ownsRow_made w #[] 0 hB (by simp [maxLen]) (by simp)
theorem OwnN.cell {B : Nat} {w : World} {g n : Nat} {xs : List Int} (h : OwnN B w g n xs) {k : Nat} (hk : k < n) : w.cell? ⟨g, k, none⟩ = some (.int .u8 (gb xs k)) := by
 rw [h.2.2.cellAt k (by omega)]
 have := h.1
 simp [gb, List.getD, show k < xs.length by omega]
theorem OwnN.free {B : Nat} {w : World} {g n : Nat} {xs : List Int} (h : OwnN B w g n xs) (k : Nat) : w.frozen? ⟨g, k, none⟩ = false := h.2.2.frozenAt k
theorem OwnN.set {B : Nat} {w : World} {g n : Nat} {xs : List Int} (h : OwnN B w g n xs) (k : Nat) (x : Int) : OwnN B (w.setCell ⟨g, k, none⟩ (.int .u8 x)) g n (xs.set k x) :=
 ⟨by simpa using h.1, h.2.1, by have := (h.2.2.stored k (.int .u8 x)).1; rwa [← List.map_set] at this⟩
theorem OwnN.drew {B : Nat} {w : World} {g n : Nat} {xs : List Int} (h : OwnN B w g n xs) (m : Nat) : OwnN B (w.drewN m) g n xs := h
section
variable {ops : Array Oper} {rest : List Oper} {o : Oper} {a : Act} {Q : Exit → Act → World → Prop}
theorem make_law (w : World) (hg : o.guard = none) (l c : Operand) (hop : o.op = Op.makeSlice 53 l c) (B : Nat) (hB : B ≤ w.heap.size)
  (L : Int) (n : Nat) (hl : a.eval l = .int .i64 L) (hc : a.eval c = .int .i64 L) (hL : L = (n : Int)) (hn : n ≤ 1099511627776)
  (hK : ∀ w', OwnN B w' w.heap.size n (List.replicate n 0) → Below B w w' → w.heap.size < w'.heap.size → wpList Try.prog ops Q rest (a.put o.dst (.slice (some ⟨w.heap.size, 0, none⟩) n n)) w') :
  wpList Try.prog ops Q (o :: rest) a w := by
 obtain ⟨i0, hi, hz0, hz1, hz2⟩ := info_parts info_u8
 refine wpList_make_full w hg l c 53 hop B 5 i0 (.int .u8 0) 1 Try.underlying53 hi hz0 hz1 .i64 .i64 L L n hl hc hL hL (by rw [hz2]; omega) (by simp only [maxLen]; omega) hB fun w' h1 h2 => ?_
 have hlt : w.heap.size < w'.heap.size := (h1.lt w.heap.size rfl).2
 refine hK w' ⟨by simp, hB, ?_⟩ ((Below.refl B w).grown h2 hB (fun k hk => by cases hk)) hlt
 have e : (madeCells (Value.int .u8 0).cells (n * 1)).toList = (List.replicate n (0 : Int)).map (Value.int .u8) := by
  rw [Nat.mul_one]
  show (madeCells #[Value.int .u8 0] n).toList = _
  rw [toList_madeCells_one]; simp
 rw [e] at h1
 exact h1
theorem push_law (w0 : World) (hg : o.guard = none) (s x : Operand) (hop : o.op = .call { callee := .builtin .append, args := #[s, x], argTypes := #[53, 53] })
  (B : Nat) (hB : B ≤ w0.heap.size) (v : Value) (xs : List Int) (c : Int) (hs : a.eval s = v) (hx : a.eval x = .slice (some ⟨w0.heap.size, 0, none⟩) 1 1) (hown : Own B w0 v xs) (hn : xs.length ≤ 1099511627776)
  (hK : ∀ v' w', Own B w' v' (xs ++ [c]) → Below B w0 w' → wpList Try.prog ops Q rest (a.put o.dst v') w') :
  wpList Try.prog ops Q (o :: rest) a (w0.alloc (.cells #[.int .u8 c] 5)) := by
 obtain ⟨i0, hi, hz0, hz1, hz2⟩ := info_parts info_u8
 refine wpList_append_own _ hg s x 53 hop B 5 i0 (.int .u8 0) 1 1 Try.underlying53 hi hz0 hz1 hz2 rfl (by decide) v xs.length _ hs (World.ownsRow.alloc hown _) ⟨w0.heap.size, 0, none⟩ 1 1 [.int .u8 c] hx rfl ?_ ?_ (by simp only [maxLen]; omega) (by omega) (by simp; omega) fun v' w' h1 h2 _ => ?_
 ·intro j u hj
  match j, hj with
  | 0, hj => simp at hj; subst hj; simp [Addr.add]
 ·intro u hu; simp at hu; subst hu; rfl
 ·refine hK v' w' ?_ ?_
  ·show w'.ownsRow B 5 1 v' (xs ++ [c]).length ((xs ++ [c]).map (Value.int .u8))
   simpa using h1
  ·refine ((Below.refl B w0).alloc hB _).grown h2 (by simp; omega) fun k hk => ?_
   exact (World.ownsRow.lt hown k hk).1
theorem step_push1 {K : Act → World → Prop} {E : Prop} (w0 : World) (hg : o.guard = none) (s x : Operand) (hop : o.op = .call { callee := .builtin .append, args := #[s, x], argTypes := #[53, 53] })
  (B : Nat) (hB : B ≤ w0.heap.size) (v : Value) (xs : List Int) (c : Int) (hs : a.eval s = v) (hx : a.eval x = .slice (some ⟨w0.heap.size, 0, none⟩) 1 1) (hown : Own B w0 v xs) (hn : xs.length ≤ 1099511627776)
  (hK : ∀ v' w', Own B w' v' (xs ++ [c]) → Below B w0 w' → K (a.put o.dst v') w') :
  if Region.wanted o (yielded ops a.tmps) = true then Oper.wp Try.prog o a (w0.alloc (.cells #[.int .u8 c] 5)) K Q else E := by
 have hw : Region.wanted o (yielded ops a.tmps) = true := by simp [Region.wanted, hg]
 rw [if_pos hw]
 obtain ⟨i0, hi, hz0, hz1, hz2⟩ := info_parts info_u8
 refine wp_append_own _ s x 53 hop B 5 i0 (.int .u8 0) 1 1 Try.underlying53 hi hz0 hz1 hz2 rfl (by decide) v xs.length _ hs (World.ownsRow.alloc hown _) ⟨w0.heap.size, 0, none⟩ 1 1 [.int .u8 c] hx rfl ?_ ?_ (by simp only [maxLen]; omega) (by omega) (by simp; omega) fun v' w' h1 h2 _ => ?_
 ·intro j u hj
  match j, hj with
  | 0, hj => simp at hj; subst hj; simp [Addr.add]
 ·intro u hu; simp at hu; subst hu; rfl
 ·refine hK v' w' ?_ ?_
  ·show w'.ownsRow B 5 1 v' (xs ++ [c]).length ((xs ++ [c]).map (Value.int .u8))
   simpa using h1
  ·refine ((Below.refl B w0).alloc hB _).grown h2 (by simp; omega) fun k hk => ?_
   exact (World.ownsRow.lt hown k hk).1
theorem gb_cut (xs : List Int) (l h t : Nat) (ht : t < h - l) : gb ((xs.take h).drop l) t = gb xs (l + t) := by
 simp [gb, List.getD, show l + t < h by omega]
theorem byt_cut {w : World} {v : Value} {xs : List Int} (hb : Byt w v xs) (l h : Nat) (hl : l ≤ h) (hh : h ≤ xs.length) :
  ∃ ao cap, v = .slice ao xs.length cap ∧ h ≤ cap ∧ Byt w (sliced ao l h cap 1) ((xs.take h).drop l) := by
 obtain ⟨ao, cap, rfl, h1, h2, h3, h4, h5⟩ := hb
 refine ⟨ao, cap, rfl, by omega, ?_⟩
 have hlen : ((xs.take h).drop l).length = h - l := by simp; omega
 refine ⟨if cap = l then ao else ao.map (·.add (l * 1)), cap - l, by rw [hlen]; rfl, by omega, by omega, ?_, ?_, ?_⟩
 ·intro t
  by_cases ht : t < h - l
  ·rw [gb_cut xs l h t ht]; exact h3 _
  ·have : gb ((xs.take h).drop l) t = 0 := by
    simp only [gb, List.getD, List.getElem?_eq_none (show ((xs.take h).drop l).length ≤ t by omega)]; rfl
   omega
 ·split
  ·intro _; omega
  ·intro hn
   have := h4 (by simpa using hn)
   omega
 ·intro hp
  obtain ⟨b, off, rfl, hc⟩ := h5 (by omega)
  rw [if_neg (by omega)]
  refine ⟨b, off + l, by simp [Addr.add_lit], fun t ht => ?_⟩
  rw [gb_cut xs l h t (by omega), Nat.add_assoc]
  exact hc (l + t) (by omega)
theorem run_size_u8 (w : World) : (sizeOf 5).run Try.prog w = .ok 1 w := by
 obtain ⟨i0, hi, hz0, hz1, hz2⟩ := info_parts info_u8
 simp [sizeOf, typeInfo, hi, hz1]
theorem elem_bytes : Try.prog.elem 53 = 5 := by kernel_rfl
theorem und_bytes : Try.prog.underlying 53 = some (.slice (Try.prog.elem 53)) := by kernel_rfl
end
end Go.Proofs.Ytikcohjhhoiakaa
namespace Go.Proofs.Ytikcohjhhoiakaa.fa
open Go.RowKit
set_option maxRecDepth 20000
def bn (b : Bool) : Nat := if b then 1 else 0
def wt (c : Nat → Bool) (j : Nat) : Nat := bn (c (8 * j)) + 2 * bn (c (8 * j + 1)) + 4 * bn (c (8 * j + 2)) + 8 * bn (c (8 * j + 3)) + 16 * bn (c (8 * j + 4)) + 32 * bn (c (8 * j + 5)) + 64 * bn (c (8 * j + 6)) + 128 * bn (c (8 * j + 7))
theorem bn_le (b : Bool) : bn b ≤ 1 := by cases b <;> simp [bn]
theorem wt_lt (c : Nat → Bool) (j : Nat) : wt c j < 256 := by
 unfold wt
 have := bn_le (c (8 * j)); have := bn_le (c (8 * j + 1)); have := bn_le (c (8 * j + 2)); have := bn_le (c (8 * j + 3))
 have := bn_le (c (8 * j + 4)); have := bn_le (c (8 * j + 5)); have := bn_le (c (8 * j + 6)); have := bn_le (c (8 * j + 7))
 omega
theorem wt_congr {c d : Nat → Bool} {j : Nat} (h : ∀ t, t < 8 → c (8 * j + t) = d (8 * j + t)) : wt c j = wt d j := by
 unfold wt
 have h0 := h 0 (by omega); have h1 := h 1 (by omega); have h2 := h 2 (by omega); have h3 := h 3 (by omega)
 have h4 := h 4 (by omega); have h5 := h 5 (by omega); have h6 := h 6 (by omega); have h7 := h 7 (by omega)
 rw [Nat.add_zero] at h0
 rw [h0, h1, h2, h3, h4, h5, h6, h7]
def bit (b t : Nat) : Bool := decide (b / 2 ^ t % 2 = 1)
theorem bn_bit (b t : Nat) : bn (bit b t) = b / 2 ^ t % 2 := by
 unfold bit bn
 by_cases h : b / 2 ^ t % 2 = 1
 ·simp [h]
 ·simp [h]; omega
theorem bits_sum : ∀ b, b < 256 → b / 2 ^ 0 % 2 + 2 * (b / 2 ^ 1 % 2) + 4 * (b / 2 ^ 2 % 2) + 8 * (b / 2 ^ 3 % 2) + 16 * (b / 2 ^ 4 % 2) + 32 * (b / 2 ^ 5 % 2) + 64 * (b / 2 ^ 6 % 2) + 128 * (b / 2 ^ 7 % 2) = b := by decide +kernel
theorem byte_bits (b : Nat) (h : b < 256) (c : Nat → Bool) (j : Nat) (hc : ∀ t, t < 8 → c (8 * j + t) = bit b t) : wt c j = b := by
 have e : ∀ t, t < 8 → bn (c (8 * j + t)) = b / 2 ^ t % 2 := fun t ht => by rw [hc t ht, bn_bit]
 have h0 := e 0 (by omega); have h1 := e 1 (by omega); have h2 := e 2 (by omega); have h3 := e 3 (by omega)
 have h4 := e 4 (by omega); have h5 := e 5 (by omega); have h6 := e 6 (by omega); have h7 := e 7 (by omega)
 rw [Nat.add_zero] at h0
 unfold wt
 rw [h0, h1, h2, h3, h4, h5, h6, h7]
 exact bits_sum b h
def ofb (n : Nat) (c : Nat → Bool) : List Int := (List.range n).map fun j => ((wt c j : Nat) : Int)
theorem ofb_len (n : Nat) (c : Nat → Bool) : (ofb n c).length = n := by simp [ofb]
theorem ofb_gb (n : Nat) (c : Nat → Bool) (j : Nat) (h : j < n) : gb (ofb n c) j = ((wt c j : Nat) : Int) := by simp [gb, List.getD, ofb, h]
theorem ofb_all (n : Nat) (c : Nat → Bool) : AllB (ofb n c) := allB_mem fun x hx => by
 obtain ⟨j, _, rfl⟩ := List.mem_map.1 hx
 have := wt_lt c j
 omega
def hs (xs : List Int) (i : Nat) : Bool := bit (gb xs (i / 8)).toNat (i % 8)
theorem hs_at (xs : List Int) (j t : Nat) (ht : t < 8) : hs xs (8 * j + t) = bit (gb xs j).toNat t := by
 unfold hs
 rw [show (8 * j + t) / 8 = j by omega, show (8 * j + t) % 8 = t by omega]
theorem ofb_hs (xs : List Int) (h : AllB xs) (c : Nat → Bool) (hc : ∀ i, i < 8 * xs.length → c i = hs xs i) : ofb xs.length c = xs := by
 refine ext_gb (ofb_len _ _) fun j hj => ?_
 rw [ofb_len] at hj
 have hb := h j
 rw [ofb_gb _ _ j hj, byte_bits (gb xs j).toNat (by omega) c j fun t ht => by rw [hc _ (by omega), hs_at xs j t ht]]
 omega
theorem ofb_congr (n : Nat) {c d : Nat → Bool} (h : ∀ i, i < 8 * n → c i = d i) : ofb n c = ofb n d := by
 refine ext_gb (by rw [ofb_len, ofb_len]) fun j hj => ?_
 rw [ofb_len] at hj
 rw [ofb_gb n c j hj, ofb_gb n d j hj, wt_congr fun t ht => h _ (by omega)]
theorem bn_up {c d : Nat → Bool} {i k : Nat} (hk : c k = false) (hd : d k = true) (h : ∀ i, i ≠ k → d i = c i) : bn (d i) = bn (c i) + if i = k then 1 else 0 := by
 by_cases e : i = k
 ·subst e; rw [hk, hd, if_pos rfl]; rfl
 ·rw [h i e, if_neg e]; rfl
theorem wt_up {c d : Nat → Bool} {k : Nat} (hk : c k = false) (hd : d k = true) (h : ∀ i, i ≠ k → d i = c i) (j : Nat) : wt d j = wt c j + if j = k / 8 then 2 ^ (k % 8) else 0 := by
 unfold wt
 rw [bn_up (i := 8 * j) hk hd h, bn_up (i := 8 * j + 1) hk hd h, bn_up (i := 8 * j + 2) hk hd h, bn_up (i := 8 * j + 3) hk hd h, bn_up (i := 8 * j + 4) hk hd h, bn_up (i := 8 * j + 5) hk hd h, bn_up (i := 8 * j + 6) hk hd h, bn_up (i := 8 * j + 7) hk hd h]
 by_cases e : j = k / 8
 ·rw [if_pos e]
  have : k % 8 = 0 ∨ k % 8 = 1 ∨ k % 8 = 2 ∨ k % 8 = 3 ∨ k % 8 = 4 ∨ k % 8 = 5 ∨ k % 8 = 6 ∨ k % 8 = 7 := by omega
  rcases this with q | q | q | q | q | q | q | q <;> rw [q] <;> simp only [Nat.reducePow]
  ·rw [if_pos (by omega), if_neg (by omega), if_neg (by omega), if_neg (by omega), if_neg (by omega), if_neg (by omega), if_neg (by omega), if_neg (by omega)]; omega
  ·rw [if_neg (by omega), if_pos (by omega), if_neg (by omega), if_neg (by omega), if_neg (by omega), if_neg (by omega), if_neg (by omega), if_neg (by omega)]; omega
  ·rw [if_neg (by omega), if_neg (by omega), if_pos (by omega), if_neg (by omega), if_neg (by omega), if_neg (by omega), if_neg (by omega), if_neg (by omega)]; omega
  ·rw [if_neg (by omega), if_neg (by omega), if_neg (by omega), if_pos (by omega), if_neg (by omega), if_neg (by omega), if_neg (by omega), if_neg (by omega)]; omega
  ·rw [if_neg (by omega), if_neg (by omega), if_neg (by omega), if_neg (by omega), if_pos (by omega), if_neg (by omega), if_neg (by omega), if_neg (by omega)]; omega
  ·rw [if_neg (by omega), if_neg (by omega), if_neg (by omega), if_neg (by omega), if_neg (by omega), if_pos (by omega), if_neg (by omega), if_neg (by omega)]; omega
  ·rw [if_neg (by omega), if_neg (by omega), if_neg (by omega), if_neg (by omega), if_neg (by omega), if_neg (by omega), if_pos (by omega), if_neg (by omega)]; omega
  ·rw [if_neg (by omega), if_neg (by omega), if_neg (by omega), if_neg (by omega), if_neg (by omega), if_neg (by omega), if_neg (by omega), if_pos (by omega)]; omega
 ·rw [if_neg e, if_neg (by omega), if_neg (by omega), if_neg (by omega), if_neg (by omega), if_neg (by omega), if_neg (by omega), if_neg (by omega), if_neg (by omega)]
  omega
theorem ofb_up (n : Nat) {c d : Nat → Bool} {k : Nat} (hk : c k = false) (hd : d k = true) (h : ∀ i, i ≠ k → d i = c i) : (ofb n c).set (k / 8) (gb (ofb n c) (k / 8) + ((2 ^ (k % 8) : Nat) : Int)) = ofb n d := by
 refine ext_gb (by rw [List.length_set, ofb_len, ofb_len]) fun j hj => ?_
 rw [List.length_set, ofb_len] at hj
 rw [ofb_gb n d j hj, wt_up hk hd h j]
 by_cases e : j = k / 8
 ·subst e
  rw [if_pos rfl, ofb_gb n c _ hj]
  simp [gb, List.getD, ofb_len, hj]
 ·rw [if_neg e, Nat.add_zero, ← ofb_gb n c j hj]
  simp [gb, List.getD, Ne.symm e]
theorem ofb_down (n : Nat) {c d : Nat → Bool} {k : Nat} (hn : k < 8 * n) (hk : c k = false) (hd : d k = true) (h : ∀ i, i ≠ k → d i = c i) : (ofb n d).set (k / 8) (gb (ofb n d) (k / 8) - ((2 ^ (k % 8) : Nat) : Int)) = ofb n c ∧ ((2 ^ (k % 8) : Nat) : Int) ≤ gb (ofb n d) (k / 8) := by
 have W := wt_up hk hd h
 generalize 2 ^ (k % 8) = q at *
 refine ⟨?_, ?_⟩
 ·refine ext_gb (by rw [List.length_set, ofb_len, ofb_len]) fun j hj => ?_
  rw [List.length_set, ofb_len] at hj
  rw [ofb_gb n c j hj]
  have w := W j
  by_cases e : j = k / 8
  ·subst e
   rw [if_pos rfl] at w
   rw [ofb_gb n d _ hj]
   simp [gb, List.getD, ofb_len, hj]
   omega
  ·rw [if_neg e, Nat.add_zero] at w
   rw [← w, ← ofb_gb n d j hj]
   simp [gb, List.getD, Ne.symm e]
 ·rw [ofb_gb n d _ (by omega)]
  have w := W (k / 8)
  rw [if_pos rfl] at w
  omega
theorem bit_test (b t : Nat) : bit b t = b.testBit t := by rw [Nat.testBit_eq_decide_div_mod_eq]; rfl
theorem and_wt (a b : Nat) (ha : a < 256) (c : Nat → Bool) (j : Nat) (hc : ∀ t, t < 8 → c (8 * j + t) = (bit a t && bit b t)) : a &&& b = wt c j := by
 refine (byte_bits (a &&& b) (Nat.lt_of_le_of_lt Nat.and_le_left ha) c j fun t ht => ?_).symm
 rw [hc t ht, bit_test, bit_test, bit_test, Nat.testBit_and]
theorem ands_ofb (xs ys : List Int) (hx : AllB xs) (j : Nat) : (((gb xs j).toNat &&& (gb ys j).toNat : Nat) : Int) = ((wt (fun i => hs xs i && hs ys i) j : Nat) : Int) := by
 have hb := hx j
 rw [and_wt (gb xs j).toNat (gb ys j).toNat (by omega) (fun i => hs xs i && hs ys i) j fun t ht => by rw [hs_at xs j t ht, hs_at ys j t ht]]
def mk (m : List Int) (i : Nat) : Bool := m.length == 0 || bit (gb m (i / 8 % m.length)).toNat (i % 8)
def due (was to : List Int) (i : Nat) : Bool := hs was i && !hs to i
def torn (was to m : List Int) (i : Nat) : Bool := hs was i && !(due was to i && mk m i)
def lst (was to : List Int) : Nat → Nat
 | 0 => 0
 | n + 1 => if due was to n then n + 1 else lst was to n
theorem lst_le (was to : List Int) (n : Nat) : lst was to n ≤ n := by
 induction n with
 | zero => exact Nat.le_refl _
 | succ n ih =>
  unfold lst
  split <;> omega
def failed (was to m : List Int) (n i : Nat) : Bool := hs was i && !(due was to i && mk m i && !(i + 1 == lst was to n))
def erased (was m : List Int) (i : Nat) : Bool := hs was i || mk m i
end Go.Proofs.Ytikcohjhhoiakaa.fa
namespace Go.Proofs.Ytikcohjhhoiakaa
open Go.RowKit
set_option maxRecDepth 20000
def clamp (n m : Int) : Nat := (min (max n 0) m).toNat
theorem clamp_le (n m : Int) (h : 0 ≤ m) : ((clamp n m : Nat) : Int) ≤ m := by unfold clamp; omega
theorem within_any (n m : Int) (w : World) (hm : 0 ≤ m) :
  Calls Try.prog 98 #[.int .i64 n, .int .i64 m] w fun e w' => e = .returned (.int .i64 (clamp n m)) ∧ w' = w := by
 have hc : ((clamp n m : Nat) : Int) = min (max n 0) m := by unfold clamp; omega
 have HC : Hid (((clamp n m : Nat) : Int) = min (max n 0) m) := hc
 clear hc
 go_enter Try.func98, Try.ntmps98
 go_wp2
 all_goals
  go_ret
  exact ⟨ret_int (by rw [HC.out]; omega), rfl⟩
def fillAt (x : Int) (s k : Nat) : List Int := List.replicate k x ++ List.replicate (s - k) 0
theorem fillAt_set (x : Int) (s k : Nat) (h : k < s) : (fillAt x s k).set k x = fillAt x s (k + 1) := by
 unfold fillAt
 obtain ⟨d, hd⟩ : ∃ d, s - k = d + 1 := ⟨s - k - 1, by omega⟩
 have e : s - (k + 1) = d := by omega
 rw [hd, e, List.set_append_right _ _ (by simp)]
 simp only [List.length_replicate, Nat.sub_self, List.replicate_succ, List.set_cons_zero]
 rw [← List.replicate_succ, List.replicate_succ', List.append_assoc]; rfl
theorem fillAt_end (x : Int) (s : Nat) : fillAt x s s = List.replicate s x := by simp [fillAt]
theorem allB_replicate (x : Int) (n : Nat) (h : 0 ≤ x ∧ x ≤ 255) : AllB (List.replicate n x) := allB_mem fun y hy => by
 rw [(List.mem_replicate.1 hy).2]; exact h
theorem fill_any (x n : Int) (w : World) (hx : 0 ≤ x ∧ x ≤ 255) :
  Calls Try.prog 94 #[.int .u8 x, .int .i64 n] w fun e w' => ∃ v, e = .returned v ∧ Byt w' v (List.replicate (clamp n 65536) x) ∧ Below w.heap.size w w' := by
 have hs := clamp_le n 65536 (by omega)
 generalize hsd : clamp n 65536 = s at hs
 have HS : Hid (clamp n 65536 = s) := hsd
 clear hsd
 go_enter Try.func94, Try.ntmps94
 go_wp2_with (first
  | (go_at_call 98; refine (within_any _ _ _ (by omega)).mono ?_; rintro e w' ⟨rfl, hw⟩; obtain rfl := hw.symm; rw [HS.out])
  | (at_make; refine make_law _ rfl _ _ rfl w.heap.size (Nat.le_refl _) _ s rfl rfl rfl (by omega) ?_; intro w1 hown hbel hlt))
 go_loopw [13] (fun i wr => ∃ k : Nat, k ≤ s ∧ i = .int .i64 k ∧ OwnN w.heap.size wr w.heap.size s (fillAt x s k) ∧ Below w.heap.size w wr) (fun i _ => s - (intOf i).toNat)
 case atStart => exact ⟨0, Nat.zero_le _, rfl, hown, hbel⟩
 case round =>
  clear hown hbel
  obtain ⟨k, hk, rfl, hown, hbel⟩ := hrel
  by_cases hlt' : k < s
  ·have c1 := hown.cell hlt'
   have c2 := hown.free k
   have hown' := hown.set k x
   rw [fillAt_set x s k hlt'] at hown'
   go_wp2
   go_roundw
   case rel => exact ⟨k + 1, by omega, by go_num, hown', hbel.setCell (Nat.le_refl _) _⟩
   case measure => simp [intOf]; omega
  ·have : k = s := by omega
   subst this
   rw [fillAt_end] at hown
   go_wp2
   go_ret
   exact ⟨_, rfl, hown.byt (allB_replicate _ _ hx), hbel⟩
theorem i_u8 : (Try.prog.info? 5).map (·.size) = some 1 := by kernel_rfl
theorem below_cells {B : Nat} {a : World} (b : Nat) (hb : B ≤ b) : ∀ (vs : List Value) (o : Nat) {w : World}, Below B a w → Below B a (w.setCells b o vs)
 | [], _, _, h => h
 | v :: r, o, _, h => below_cells b hb r (o + 1) (h.setCell (p := ⟨b, o, none⟩) hb v)
def ints (k : IntKind) (xs : List Int) : Array Value := (xs.map (Value.int k)).toArray
theorem ints_size (k : IntKind) (xs : List Int) : (ints k xs).size = xs.length := by simp [ints]
theorem ints_toList (k : IntKind) (xs : List Int) : (ints k xs).toList = xs.map (Value.int k) := by simp [ints]
theorem ints_one (k : IntKind) (xs : List Int) : (ints k xs).all (·.oneCell') = true := by
 rw [Array.all_eq_true_iff_forall_mem]
 intro v hv
 simp only [ints, List.mem_toArray, List.mem_map] at hv
 obtain ⟨x, _, rfl⟩ := hv
 rfl
def Ar (w : World) (b o : Nat) (k : IntKind) (xs : List Int) : Prop := w.rangeAt b o (xs.map (Value.int k)) ∧ w.there b o xs.length
theorem Ar.cell {w : World} {b o : Nat} {k : IntKind} {xs : List Int} (h : Ar w b o k xs) (i : Nat) (hi : i < xs.length) : w.cell? ⟨b, o + i, none⟩ = some (.int k (gb xs i)) :=
 h.1 i _ (by simp [gb, List.getD, hi])
theorem Ar.cell0 {w : World} {b : Nat} {k : IntKind} {xs : List Int} (h : Ar w b 0 k xs) (i : Nat) (hi : i < xs.length) : w.cell? ⟨b, i, none⟩ = some (.int k (gb xs i)) := by
 have := h.cell i hi
 rwa [Nat.zero_add] at this
theorem Ar.free {w : World} {b o : Nat} {k : IntKind} {xs : List Int} (h : Ar w b o k xs) (i : Nat) (hi : i < xs.length) : w.frozen? ⟨b, o + i, none⟩ = false := (h.2 i hi).2
theorem Ar.free0 {w : World} {b : Nat} {k : IntKind} {xs : List Int} (h : Ar w b 0 k xs) (i : Nat) (hi : i < xs.length) : w.frozen? ⟨b, i, none⟩ = false := by
 have := h.free i hi
 rwa [Nat.zero_add] at this
theorem Ar.mk {w : World} {b o : Nat} {k : IntKind} {xs : List Int} (h : ∀ i, i < xs.length → w.cell? ⟨b, o + i, none⟩ = some (.int k (gb xs i)) ∧ w.frozen? ⟨b, o + i, none⟩ = false) : Ar w b o k xs := by
 refine ⟨fun j v hv => ?_, fun j hj => ?_⟩
 ·have hj : j < xs.length := by have := (List.getElem?_eq_some_iff.1 hv).1; simpa using this
  rw [(h j hj).1, ← hv]
  simp [gb, List.getD, hj]
 ·exact ⟨by rw [(h j hj).1]; rfl, (h j hj).2⟩
theorem Ar.lt {w : World} {b o : Nat} {k : IntKind} {xs : List Int} (h : Ar w b o k xs) (hp : 0 < xs.length) : b < w.heap.size := World.block_lt_of_cell? w _ (h.cell 0 hp)
theorem Ar.heap {w w' : World} {b o : Nat} {k : IntKind} {xs : List Int} (h : Ar w b o k xs) (e : w'.heap[b]? = w.heap[b]?) : Ar w' b o k xs :=
 Ar.mk fun i hi => ⟨by rw [World.cell?_of_block (w := w) (w' := w') (a := ⟨b, o + i, none⟩) e]; exact h.cell i hi, by rw [World.frozen?_of_block (w := w) (w' := w') (a := ⟨b, o + i, none⟩) e]; exact h.free i hi⟩
theorem Ar.below {w w' : World} {b o B : Nat} {k : IntKind} {xs : List Int} (h : Ar w b o k xs) (hb : Below B w w') (hB : b < B) : Ar w' b o k xs := h.heap (hb.block b hB)
theorem Ar.drewN {w : World} {b o : Nat} {k : IntKind} {xs : List Int} (h : Ar w b o k xs) (n : Nat) : Ar (w.drewN n) b o k xs := h.heap rfl
theorem Ar.new (w : World) (t : TypeId) (k : IntKind) (xs : List Int) : Ar (w.alloc (.cells (ints k xs) t)) w.heap.size 0 k xs :=
 Ar.mk fun i hi => by
  have e := cell_of_row (w.alloc (.cells (ints k xs) t)) w.heap.size (0 + i) _ t (0, 0) (heap_alloc_last w _)
  refine ⟨by rw [e]; simp [ints, gb, List.getD, hi], ?_⟩
  exact World.frozen?_alloc_at _ _ _ _ rfl
theorem Ar.set {w : World} {b o : Nat} {k : IntKind} {xs : List Int} (h : Ar w b o k xs) (i : Nat) (hi : i < xs.length) (x : Int) : Ar (w.setCell ⟨b, o + i, none⟩ (.int k x)) b o k (xs.set i x) :=
 Ar.mk fun j hj => by
  rw [List.length_set] at hj
  refine ⟨?_, by rw [World.frozen?_setCell]; exact h.free j hj⟩
  by_cases e : i = j
  ·subst e
   rw [World.cell?_setCell_same _ _ _ (h.cell i hi)]
   simp [gb, List.getD, hi]
  ·rw [World.cell?_setCell_other _ _ _ _ (by intro hh; injection hh with _ h2; omega), h.cell j hj]
   simp [gb, List.getD, e]
theorem Ar.set0 {w : World} {b : Nat} {k : IntKind} {xs : List Int} (h : Ar w b 0 k xs) (i : Nat) (hi : i < xs.length) (x : Int) : Ar (w.setCell ⟨b, i, none⟩ (.int k x)) b 0 k (xs.set i x) := by
 have := h.set i hi x
 rwa [Nat.zero_add] at this
def laid (xs : List Int) (s : Nat) (ys : List Int) : List Int := xs.take s ++ ys ++ xs.drop (s + ys.length)
theorem laid_len (xs : List Int) (s : Nat) (ys : List Int) (h : s + ys.length ≤ xs.length) : (laid xs s ys).length = xs.length := by simp [laid]; omega
theorem gb_laid (xs : List Int) (s : Nat) (ys : List Int) (hs : s + ys.length ≤ xs.length) (j : Nat) : gb (laid xs s ys) j = if j < s then gb xs j else if j < s + ys.length then gb ys (j - s) else gb xs j := by
 have hm : (xs.take s).length = s := by simp; omega
 unfold gb laid
 by_cases h1 : j < s
 ·rw [if_pos h1, List.append_assoc, List.getD_eq_getElem?_getD, List.getElem?_append_left (by omega), List.getElem?_take, if_pos h1]; rfl
 ·rw [if_neg h1, List.append_assoc, List.getD_eq_getElem?_getD, List.getElem?_append_right (by omega), hm]
  by_cases h2 : j < s + ys.length
  ·rw [if_pos h2, List.getElem?_append_left (by omega)]; rfl
  ·rw [if_neg h2, List.getElem?_append_right (by omega), List.getElem?_drop, show s + ys.length + (j - s - ys.length) = j by omega]; rfl
theorem Ar.lay {w : World} {b o : Nat} {k : IntKind} {xs : List Int} (h : Ar w b o k xs) (s : Nat) (ys : List Int) (hs : s + ys.length ≤ xs.length) : Ar (w.setCells b (o + s) (ys.map (Value.int k))) b o k (laid xs s ys) :=
 Ar.mk fun j hj => by
  rw [laid_len xs s ys hs] at hj
  refine ⟨?_, by rw [World.frozen?_setCells]; exact h.free j hj⟩
  by_cases h1 : j < s
  ·rw [World.cell?_setCells_out _ _ _ _ _ (fun _ _ => by left; show o + j < o + s; omega), h.cell j hj, gb_laid xs s ys hs, if_pos h1]
  ·by_cases h2 : j < s + ys.length
   ·have e := World.cell?_setCells_in b (ys.map (Value.int k)) (o + s) w (fun i hi => by
     simp only [List.length_map] at hi
     rw [show o + s + i = o + (s + i) by omega, h.cell (s + i) (by omega)]; rfl) (j - s) (by simp; omega)
    rw [show o + s + (j - s) = o + j by omega] at e
    rw [e, gb_laid xs s ys hs, if_neg h1, if_pos h2]
    simp [gb, List.getD, show j - s < ys.length by omega]
   ·rw [World.cell?_setCells_out _ _ _ _ _ (fun _ _ => by right; simp; omega), h.cell j hj, gb_laid xs s ys hs, if_neg h1, if_neg h2]
theorem Ar.whole {w : World} {b o : Nat} {k : IntKind} {xs : List Int} (ht : w.there b o xs.length) : Ar (w.setCells b o (xs.map (Value.int k))) b o k xs :=
 ⟨World.rangeAt_setCells_same w b o _ (by simpa using ht), World.there_setCells ht b o _⟩
section
variable {ops : Array Oper} {rest : List Oper} {o : Oper} {a : Act} {Q : Exit → Act → World → Prop}
theorem box_law (w : World) (hg : o.guard = none) (x : Operand) (t : TypeId) (hop : o.op = Op.box t x) (k : IntKind) (xs : List Int) (hx : a.eval x = .agg (ints k xs))
  (hK : wpList Try.prog ops Q rest (a.put o.dst (.pointer (some ⟨w.heap.size, 0, none⟩))) (w.alloc (.cells (ints k xs) t))) :
  wpList Try.prog ops Q (o :: rest) a w := by
 refine wpList_plain hg fun K hK' => ?_
 unfold Oper.wp
 simp [execOp, hop, hx, Instr.box, newVar, newRow, Value.cells, Result.andThen]
 exact hK' _ _ hK
theorem new_law (w : World) (hg : o.guard = none) (t : TypeId) (hop : o.op = Op.alloc t) (k : IntKind) (xs : List Int) (hz : (Try.prog.info? t).map (fun i => (i.zero, i.size)) = some (some (.agg (ints k xs)), xs.length))
  (hK : wpList Try.prog ops Q rest (a.put o.dst (.pointer (some ⟨w.heap.size, 0, none⟩))) (w.alloc (.cells (ints k xs) t))) :
  wpList Try.prog ops Q (o :: rest) a w := by
 refine wpList_plain hg fun K hK' => ?_
 have hz' := (zero_of_info hz).1
 unfold Oper.wp
 simp [execOp, hop, Instr.alloc, hz', newVar, newRow, Value.cells, Result.andThen]
 exact hK' _ _ hK
theorem store_law (w : World) (hg : o.guard = none) (x y : Operand) (t : TypeId) (hop : o.op = Op.store t x y) (k : IntKind) (ys : List Int) (b p : Nat) (hx : a.eval x = .pointer (some ⟨b, p, none⟩)) (hy : a.eval y = .agg (ints k ys))
  (ht : w.there b p ys.length) (n : Nat) (hi : (Try.prog.info? t).map (·.size) = some n) (hn : ys.length = n)
  (hK : wpList Try.prog ops Q rest (a.put o.dst undef) (w.setCells b p (ys.map (Value.int k)))) :
  wpList Try.prog ops Q (o :: rest) a w :=
 wpList_store_mid hg t x y hop b p (ints k ys) hx hy (by rw [ints_size]; exact ht) (by rw [hi, ints_size, hn]) (ints_one k ys) (by rw [ints_toList]; exact hK)
theorem new_lawF (w : World) (hg : o.guard = none) (t : TypeId) (hop : o.op = Op.alloc t) (k : IntKind) (xs : List Int) (hz : (Try.prog.info? t).map (fun i => (i.zero, i.size)) = some (some (.agg (ints k xs)), xs.length))
  (hK : ∀ w', Ar w' w.heap.size 0 k xs → Below w.heap.size w w' → w.heap.size < w'.heap.size → wpList Try.prog ops Q rest (a.put o.dst (.pointer (some ⟨w.heap.size, 0, none⟩))) w') :
  wpList Try.prog ops Q (o :: rest) a w :=
 new_law w hg t hop k xs hz (hK _ (Ar.new w t k xs) ((Below.refl _ _).alloc (Nat.le_refl _) _) (by simp))
theorem store_lawF (w : World) (hg : o.guard = none) (x y : Operand) (t : TypeId) (hop : o.op = Op.store t x y) (k : IntKind) (xs ys : List Int) (b : Nat) (hx : a.eval x = .pointer (some ⟨b, 0, none⟩)) (hy : a.eval y = .agg (ints k ys))
  (hA : Ar w b 0 k xs) (n : Nat) (hi : (Try.prog.info? t).map (·.size) = some n) (hl : xs.length = n) (hn : ys.length = n)
  (hK : ∀ w', Ar w' b 0 k ys → Below b w w' → wpList Try.prog ops Q rest (a.put o.dst undef) w') :
  wpList Try.prog ops Q (o :: rest) a w := by
 have ht : w.there b 0 ys.length := by rw [hn, ← hl]; exact hA.2
 exact store_law w hg x y t hop k ys b 0 hx hy ht n hi hn (hK _ (Ar.whole ht) (below_cells _ (Nat.le_refl _) _ _ (Below.refl _ _)))
theorem box_lawF (w : World) (hg : o.guard = none) (x : Operand) (t : TypeId) (hop : o.op = Op.box t x) (k : IntKind) (xs : List Int) (hx : a.eval x = .agg (ints k xs))
  (hK : ∀ w', Ar w' w.heap.size 0 k xs → Below w.heap.size w w' → w.heap.size < w'.heap.size → wpList Try.prog ops Q rest (a.put o.dst (.pointer (some ⟨w.heap.size, 0, none⟩))) w') :
  wpList Try.prog ops Q (o :: rest) a w :=
 box_law w hg x t hop k xs hx (hK _ (Ar.new w t k xs) ((Below.refl _ _).alloc (Nat.le_refl _) _) (by simp))
end
section
variable {ops : Array Oper} {o : Oper} {a : Act} {Q : Exit → Act → World → Prop} {K : Act → World → Prop} {E : Prop}
theorem step_set (w : World) (hg : o.guard = none) (d : Option Tmp) (hd : o.dst = d) (x y : Operand) (t : TypeId) (hop : o.op = Op.store t x y) (k : IntKind) (n : Int) (b p : Nat) (hx : a.eval x = .pointer (some ⟨b, p, none⟩)) (hy : a.eval y = .int k n)
  (hc : (w.cell? ⟨b, p, none⟩).isSome = true) (hf : w.frozen? ⟨b, p, none⟩ = false) (hi : (Try.prog.info? t).map (·.size) = some 1)
  (hK : K (a.put d undef) (w.setCell ⟨b, p, none⟩ (.int k n))) :
  if Region.wanted o (yielded ops a.tmps) = true then Oper.wp Try.prog o a w K Q else E := by
 have hw : Region.wanted o (yielded ops a.tmps) = true := by simp [Region.wanted, hg]
 rw [if_pos hw]
 subst hd
 have hr : (storeVar t ⟨b, p, none⟩ (.int k n)).run Try.prog w = .ok () (w.setCell ⟨b, p, none⟩ (.int k n)) := by
  have e0 : ∀ j, j < [Value.int k n].length → j = 0 := fun j hj => by simpa using hj
  have := run_storeCells_cells (P := Try.prog) b p [.int k n] 0 w (fun j hj => by rw [e0 j hj]; simpa using hc) (fun j hj => by rw [e0 j hj]; simpa using hf) (fun v hv => by simp at hv; subst hv; rfl)
  cases hq : Try.prog.info? t with
  | none => simp [hq] at hi
  | some i =>
   have hs : i.size = 1 := by simpa [hq] using hi
   simp only [Nat.add_zero] at this
   simp [storeVar, sizeOf, typeInfo, hq, Value.cells, hs]
   simpa [World.setCells] using this
 unfold Oper.wp execOp
 simp only [hop, hx, hy, Instr.storeAt, Instr.sureAddr, Sem.run_bind, Sem.run_pure, Result.andThen_ok, hr]
 exact hK
end
section
variable {ops : Array Oper} {C : World → Prop} {K : Act → Prop} {o : Oper} {a : Act}
theorem q_val (hw : Region.wanted o (yielded ops a.tmps) = true) (d : Option Tmp) (hd : o.dst = d) (v : Value) (hr : ∀ w, C w → (execOp a.eval o).run Try.prog w = .ok (.value v) w) (hK : K (a.put d v)) :
  if Region.wanted o (yielded ops a.tmps) = true then o.quiet Try.prog a C K else K (a.put o.dst undef) := by
 rw [if_pos hw]
 subst hd
 refine ⟨v, fun w hC => ?_, hK⟩
 unfold Oper.quietAt
 rw [hr w hC]
 exact ⟨rfl, rfl⟩
theorem q_call (hw : Region.wanted o (yielded ops a.tmps) = true) (d : Option Tmp) (hd : o.dst = d) (f : FuncId) (xs : Array Operand) (ats : Array TypeId) (hop : o.op = .call { callee := .value (.func f), args := xs, argTypes := ats })
  (hcf : ∀ (q : Array Value) (w : World), (callFunc f q).run Try.prog w = .ok (.enter f q) w) (vs : Array Value) (hx : xs.map a.eval = vs) (v : Value) (hc : ∀ w, C w → Calls Try.prog f vs w fun e w' => e = .returned v ∧ C w') (hK : K (a.put d v)) :
  if Region.wanted o (yielded ops a.tmps) = true then o.quiet Try.prog a C K else K (a.put o.dst undef) := by
 rw [if_pos hw]
 subst hd
 refine ⟨v, fun w hC => ?_, hK⟩
 unfold Oper.quietAt
 simp only [execOp, hop]
 go_simp
 exact hc w hC
end
theorem region_quietC {C : World → Prop} {id : Nat} {Q : Exit → Act → World → Prop} {a : Act} {w : World} {l : List Oper} (hm : Try.prog.follows .mixedOrders = true) (hB : Region.lexB .any l.toArray = true) (hC : C { w with drawn := w.drawn + 1 })
  (h : wpQuiet Try.prog l.toArray C (fun a' => ∀ w', C w' → Q .normal a' w') l a) : (Code.region id l.toArray true).wp Try.prog Q a w :=
 wp_region_quiet hm hB hC (by simpa using h)
theorem run_load1 (w : World) (b p : Nat) (t : TypeId) (k : IntKind) (n : Int) (hu : Try.prog.underlying t = some (.int k)) (h : w.cell? ⟨b, p, none⟩ = some (.int k n)) : (loadVar t ⟨b, p, none⟩).run Try.prog w = .ok (.int k n) w := by
 simp [loadVar, isAgg, run_underlying hu, h]
section
variable {ops : Array Oper} {C : World → Prop} {K : Act → Prop} {o : Oper} {a : Act}
theorem q_get (hw : Region.wanted o (yielded ops a.tmps) = true) (d : Option Tmp) (hd : o.dst = d) (x : Operand) (t : TypeId) (hop : o.op = Op.load t x) (k : IntKind) (n : Int) (b p : Nat) (hx : a.eval x = .pointer (some ⟨b, p, none⟩)) (hu : Try.prog.underlying t = some (.int k)) (h : ∀ w, C w → w.cell? ⟨b, p, none⟩ = some (.int k n))
  (hK : K (a.put d (.int k n))) :
  if Region.wanted o (yielded ops a.tmps) = true then o.quiet Try.prog a C K else K (a.put o.dst undef) := by
 refine q_val hw d hd _ (fun w hC => ?_) hK
 unfold execOp
 simp only [hop, hx, Instr.loadAt, Instr.sureAddr, Sem.run_bind, Sem.run_pure, Result.andThen_ok, run_load1 w b p t k n hu (h w hC)]
end
end Go.Proofs.Ytikcohjhhoiakaa
