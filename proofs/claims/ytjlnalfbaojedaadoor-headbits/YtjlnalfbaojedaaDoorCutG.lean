/- 'b[l:h]' of bytes where the operation is guarded ('x && f(b[:h])'). No claim of its own. -/
import Derived.Test.YtjlnalfbaojedaaDoorBase
namespace Go.Proofs.YtjlnalfbaojedaaDoor
open Go.RowKit
set_option maxRecDepth 20000

section
variable {ops : Array Oper} {rest : List Oper} {o : Oper} {a : Act} {Q : Exit → Act → World → Prop}
theorem wpList_want {w : World} (hw : Region.wanted o (yielded ops a.tmps) = true) (h : ∀ K : Act → World → Prop, (∀ a w, wpList Tryd.prog ops Q rest a w → K a w) → o.wp Tryd.prog a w K Q) : wpList Tryd.prog ops Q (o :: rest) a w :=
  wpList_step fun K hK => by rw [if_pos hw]; exact h K hK
/-- 'b[l:]' -/
theorem cut_fromG (w : World) (hw : Region.wanted o (yielded ops a.tmps) = true) (s x : Operand) (hop : o.op = Op.slice 26 s (some x) none none) (v : Value) (xs : List Int) (L : Int) (l : Nat)
    (hs : a.eval s = v) (hx : a.eval x = .int .i64 L) (hL : L = (l : Int)) (hl : l ≤ xs.length) (hb : Byt w v xs)
    (hK : ∀ v', Byt w v' (xs.drop l) → wpList Tryd.prog ops Q rest (a.put o.dst v') w) :
    wpList Tryd.prog ops Q (o :: rest) a w := by
  refine wpList_want hw fun K hK' => ?_
  obtain ⟨ao, cap, rfl, hc, hb'⟩ := byt_cut hb l xs.length hl (Nat.le_refl _)
  have hrun := run_slice_l (P := Tryd.prog) w 26 ao xs.length cap und_bytes .i64 L (by omega) (by omega)
  rw [elem_bytes, run_size_u8] at hrun
  subst hL
  rw [List.take_length] at hb'
  unfold Oper.wp
  simp [execOp, hop, hs, hx, run_sliceAt_slice w 26 _ _ _ _ und_bytes, hrun, Result.andThen]
  exact hK' _ _ (hK _ hb')
/-- 'b[:h]' -/
theorem cut_toG (w : World) (hw : Region.wanted o (yielded ops a.tmps) = true) (s x : Operand) (hop : o.op = Op.slice 26 s none (some x) none) (v : Value) (xs : List Int) (L : Int) (h : Nat)
    (hs : a.eval s = v) (hx : a.eval x = .int .i64 L) (hL : L = (h : Int)) (hh : h ≤ xs.length) (hb : Byt w v xs)
    (hK : ∀ v', Byt w v' (xs.take h) → wpList Tryd.prog ops Q rest (a.put o.dst v') w) :
    wpList Tryd.prog ops Q (o :: rest) a w := by
  refine wpList_want hw fun K hK' => ?_
  obtain ⟨ao, cap, rfl, hc, hb'⟩ := byt_cut hb 0 h (Nat.zero_le _) hh
  have hrun := run_slice_h (P := Tryd.prog) w 26 ao xs.length cap und_bytes .i64 L (by omega) (by omega)
  rw [elem_bytes, run_size_u8] at hrun
  subst hL
  rw [List.drop_zero] at hb'
  unfold Oper.wp
  simp [execOp, hop, hs, hx, run_sliceAt_slice w 26 _ _ _ _ und_bytes, hrun, Result.andThen]
  exact hK' _ _ (hK _ hb')
/-- 'b[l:h]' -/
theorem cut_partG (w : World) (hw : Region.wanted o (yielded ops a.tmps) = true) (s x y : Operand) (hop : o.op = Op.slice 26 s (some x) (some y) none) (v : Value) (xs : List Int) (L H : Int) (l h : Nat)
    (hs : a.eval s = v) (hx : a.eval x = .int .i64 L) (hy : a.eval y = .int .i64 H) (hL : L = (l : Int)) (hH : H = (h : Int)) (hl : l ≤ h) (hh : h ≤ xs.length) (hb : Byt w v xs)
    (hK : ∀ v', Byt w v' ((xs.take h).drop l) → wpList Tryd.prog ops Q rest (a.put o.dst v') w) :
    wpList Tryd.prog ops Q (o :: rest) a w := by
  refine wpList_want hw fun K hK' => ?_
  obtain ⟨ao, cap, rfl, hc, hb'⟩ := byt_cut hb l h hl hh
  have hrun := run_slice_lh (P := Tryd.prog) w 26 ao xs.length cap und_bytes .i64 .i64 L H (by omega) (by omega) (by omega)
  rw [elem_bytes, run_size_u8] at hrun
  subst hL
  subst hH
  unfold Oper.wp
  simp [execOp, hop, hs, hx, hy, run_sliceAt_slice w 26 _ _ _ _ und_bytes, hrun, Result.andThen]
  exact hK' _ _ (hK _ hb')
end
end Go.Proofs.YtjlnalfbaojedaaDoor
