/- What derive's blocks are, as lists; a copy of a slice; a slice of two slices. No claim of its own. -/
import Derived.Test.YtaplllonomdgeaaMacCalls
import Derived.Lib.SliceRun
namespace Go.Proofs.Ytaplllonomdgeaa
open Go.RowKit

/-- the k-th tag behind t -/
def tg (bl t : List Int) : Nat → List Int
  | 0 => t
  | k + 1 => tagB bl (tg bl t k)
/-- the first k + 1 of them, xored -/
def sm (bl t : List Int) : Nat → List Int
  | 0 => t
  | k + 1 => xorl (sm bl t k) (tg bl t (k + 1))
theorem tg_len (bl t : List Int) (h : t.length = 32) (k : Nat) : (tg bl t k).length = 32 := by
  cases k with
  | zero => exact h
  | succ k => exact tagB_len _ _
theorem tg_all (bl t : List Int) (h : AllB t) (k : Nat) : AllB (tg bl t k) := by
  cases k with
  | zero => exact h
  | succ k => exact tagB_all _ _
theorem sm_len (bl t : List Int) (h : t.length = 32) (k : Nat) : (sm bl t k).length = 32 := by
  induction k with
  | zero => exact h
  | succ k ih => exact (xorl_len _ _ (by rw [ih, tg_len bl t h])).trans ih
theorem sm_all (bl t : List Int) (h : t.length = 32) (ha : AllB t) (k : Nat) : AllB (sm bl t k) := by
  induction k with
  | zero => exact ha
  | succ k ih => exact xorl_all _ _ (by rw [sm_len bl t h, tg_len bl t h]) ih (tg_all bl t ha _)
/-- the first tag of block i -/
def u1 (bl ss : List Int) (i : Nat) : List Int := tagB bl (ss ++ be4 (i : Int))
theorem u1_len (bl ss : List Int) (i : Nat) : (u1 bl ss i).length = 32 := tagB_len _ _
theorem u1_all (bl ss : List Int) (i : Nat) : AllB (u1 bl ss i) := tagB_all _ _
/-- block i, with c rounds -/
def dblk (bl ss : List Int) (c i : Nat) : List Int := sm bl (u1 bl ss i) (c - 1)
theorem dblk_len (bl ss : List Int) (c i : Nat) : (dblk bl ss c i).length = 32 := sm_len _ _ (tagB_len _ _) _
theorem dblk_all (bl ss : List Int) (c i : Nat) : AllB (dblk bl ss c i) := sm_all _ _ (tagB_len _ _) (tagB_all _ _) _
/-- the first k blocks, one behind the other -/
def cat (f : Nat → List Int) : Nat → List Int
  | 0 => []
  | k + 1 => cat f k ++ f (k + 1)
theorem cat_len (f : Nat → List Int) (h : ∀ i, (f i).length = 32) (k : Nat) : (cat f k).length = 32 * k := by
  induction k with
  | zero => rfl
  | succ k ih => simp [cat, ih, h]; omega
theorem cat_all (f : Nat → List Int) (h : ∀ i, AllB (f i)) (k : Nat) : AllB (cat f k) := by
  induction k with
  | zero => exact allB_mem (by simp [cat])
  | succ k ih => exact allB_append ih (h _)
/-- n noughts, of which the first k blocks are laid -/
def oat (f : Nat → List Int) (n k : Nat) : List Int := (cat f k).take n ++ List.replicate (n - 32 * k) 0
theorem oat_zero (f : Nat → List Int) (n : Nat) : oat f n 0 = List.replicate n 0 := by simp [oat, cat]
theorem oat_len (f : Nat → List Int) (h : ∀ i, (f i).length = 32) (n k : Nat) : (oat f n k).length = n := by
  simp [oat, cat_len f h]; omega
theorem oat_end (f : Nat → List Int) (n k : Nat) (hk : n ≤ 32 * k) : oat f n k = (cat f k).take n := by
  simp [oat, show n - 32 * k = 0 by omega]
theorem oat_lay (f : Nat → List Int) (h : ∀ i, (f i).length = 32) (n k : Nat) (hk : 32 * k < n) : laid (oat f n k) (32 * k) ((f (k + 1)).take (n - 32 * k)) = oat f n (k + 1) := by
  have hc := cat_len f h k
  unfold laid oat
  rw [List.take_of_length_le (by omega : (cat f k).length ≤ n)]
  have e1 : (cat f k ++ List.replicate (n - 32 * k) (0 : Int)).take (32 * k) = cat f k := by
    rw [List.take_append_of_le_length (by omega), List.take_of_length_le (by omega)]
  have e2 : (cat f k ++ List.replicate (n - 32 * k) (0 : Int)).drop (32 * k + ((f (k + 1)).take (n - 32 * k)).length) = List.replicate (n - 32 * (k + 1)) 0 := by
    rw [List.drop_append, List.drop_of_length_le (by rw [hc]; omega), List.nil_append, List.drop_replicate, hc, List.length_take, h]
    congr 1
    omega
  have e3 : (cat f (k + 1)).take n = cat f k ++ (f (k + 1)).take (n - 32 * k) := by
    show (cat f k ++ f (k + 1)).take n = _
    rw [List.take_append, List.take_of_length_le (by omega), hc]
  rw [e1, e2, e3]

theorem Own.ar {B : Nat} {w : World} {v : Value} {xs : List Int} (h : Own B w v xs) (hp : 0 < xs.length) : ∃ g cap, v = .slice (some ⟨g, 0, none⟩) xs.length cap ∧ B ≤ g ∧ xs.length ≤ cap ∧ cap ≤ 9223372036854775807 ∧ Ar w g 0 .u8 xs := by
  have hh := h
  rcases h.2 with ⟨rfl, hn⟩ | ⟨g, cap, cur, rfl, hg, hb, hc, hm, hs, ht⟩
  · omega
  · refine ⟨g, cap, rfl, hg, hc, by simpa [maxLen] using hm, Ar.mk fun i hi => ?_⟩
    have hcell := World.ownsRow.cells hh (g := g) rfl i (.int .u8 (gb xs i)) (by simp [gb, List.getD, hi])
    rw [Addr.add_lit] at hcell
    refine ⟨by simpa using hcell, ?_⟩
    have := World.ownsRow.frozenAt hh i
    rw [Nat.zero_add]
    exact this

set_option maxHeartbeats 1000000 in
theorem clone_any (w : World) (ad : Addr) (n cap : Nat) (xs : List Int) (h : Byt w (.slice (some ad) n cap) xs) (hl : xs.length ≤ 1000000) :
    Calls Try.prog 25 #[.slice (some ad) n cap] w fun e w' => ∃ v', e = .returned v' ∧ Own w.heap.size w' v' xs ∧ Below w.heap.size w w' := by
  have HV : Hid (Byt (w.alloc (.cells #[] 5)) (.slice (some ad) n cap) xs) := h.below ((Below.refl _ _).alloc (Nat.le_refl _) _)
  have HO : Hid (Own w.heap.size (w.alloc (.cells #[] 5)) (.slice (some ⟨w.heap.size, 0, none⟩) 0 0) []) := Own.empty w (Nat.le_refl _)
  have B0 : Below w.heap.size w (w.alloc (.cells #[] 5)) := (Below.refl _ _).alloc (Nat.le_refl _) _
  have z0 := B0.size
  have qn : ∀ w : World, (binOp .eql 22 (.slice (some ad) n cap) (.slice none 0 0)).run Try.prog w = .ok (.bool false) w := fun w => Lib.run_eql_slice_nil w _ _ (some ad) n cap 0 0 Try.underlying22
  clear h
  go_enter Try.func25, Try.ntmps25
  go_wp2_with (refine pushs_law _ rfl (.tmp 5) (.tmp 6) rfl w.heap.size z0 _ _ [] xs rfl rfl HO.out HV.out (by simp) (by omega) ?_; intro v1 w1 O1 b1; rw [List.nil_append] at O1; have HO1 : Hid (Own w.heap.size w1 v1 xs) := O1; clear O1; have c1 : Below w.heap.size w w1 := B0.trans b1)
  go_ret
  exact ⟨_, rfl, HO1.out, c1⟩

theorem cell_new2 (w : World) (x y : Value) (t : TypeId) : (w.alloc (.cells #[x, y] t)).cell? ⟨w.heap.size, 0, none⟩ = some x ∧ (w.alloc (.cells #[x, y] t)).cell? ⟨w.heap.size, 1, none⟩ = some y := by
  constructor
  · rw [cell_of_row (w.alloc (.cells #[x, y] t)) w.heap.size 0 _ t (0, 0) (heap_alloc_last w _)]; rfl
  · rw [cell_of_row (w.alloc (.cells #[x, y] t)) w.heap.size 1 _ t (0, 0) (heap_alloc_last w _)]; rfl
/-- a slice of two slices of bytes -/
theorem bts_two {w : World} {u v : Value} {ts ss : List Int} (h : Byt w u ts) (hv : Byt w v ss) (hl : ts.length ≤ 1000000) (hl2 : ss.length ≤ 1000000) : Bts (w.alloc (.cells #[u, v] 22)) (.slice (some ⟨w.heap.size, 0, none⟩) 2 2) [ts, ss] := by
  have hb : Below w.heap.size w (w.alloc (.cells #[u, v] 22)) := (Below.refl _ _).alloc (Nat.le_refl _) _
  refine ⟨_, _, rfl, by simp, by simp, fun _ => ⟨w.heap.size, 0, rfl, fun r hr => ?_⟩, fun r => ?_⟩
  · match r, hr with
    | 0, _ => exact ⟨u, (cell_new2 w u v 22).1, h.below hb⟩
    | 1, _ => exact ⟨v, (cell_new2 w u v 22).2, hv.below hb⟩
    | r + 2, hr => simp at hr; omega
  · match r with
    | 0 => simp [List.getD]; omega
    | 1 => simp [List.getD]; omega
    | r + 2 => simp [List.getD]

section
variable {ops : Array Oper} {rest : List Oper} {o : Oper} {a : Act} {Q : Exit → Act → World → Prop}
/-- '[][]byte{u, v}', the world gets a name -/
theorem two_law (w : World) (hg : o.guard = none) (x y : Operand) (hop : o.op = Op.buildSlice 48 2 #[(0, x), (1, y)]) (uo vo : Option Addr) (n uc m vc : Nat) (ts ss : List Int) (hx : a.eval x = .slice uo n uc) (hy : a.eval y = .slice vo m vc) (h : Byt w (.slice uo n uc) ts) (hv : Byt w (.slice vo m vc) ss) (hl : ts.length ≤ 1000000) (hl2 : ss.length ≤ 1000000)
    (hK : ∀ w', Bts w' (.slice (some ⟨w.heap.size, 0, none⟩) 2 2) [ts, ss] → Below w.heap.size w w' → wpList Try.prog ops Q rest (a.put o.dst (.slice (some ⟨w.heap.size, 0, none⟩) 2 2)) w') : wpList Try.prog ops Q (o :: rest) a w := by
  refine wpList_plain hg fun K hK' => ?_
  have hrun : (Instr.buildSlice 48 2 #[(0, .slice uo n uc), (1, .slice vo m vc)]).run Try.prog w = .ok (.slice (some ⟨w.heap.size, 0, none⟩) 2 2) (w.alloc (.cells #[.slice uo n uc, .slice vo m vc] 22)) := by kernel_rfl
  unfold Oper.wp execOp
  simp only [hop, List.map_toArray, List.map_cons, List.map_nil, hx, hy, Sem.run_bind, Sem.run_pure, Result.andThen_ok, hrun]
  exact hK' _ _ (hK _ (bts_two h hv hl hl2) ((Below.refl _ _).alloc (Nat.le_refl _) _))
end
end Go.Proofs.Ytaplllonomdgeaa
