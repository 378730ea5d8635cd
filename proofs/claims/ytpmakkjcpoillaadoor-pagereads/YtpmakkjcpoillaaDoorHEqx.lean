/- Two heads that are the same; what an end that was made tells. No claim of its own. -/
import Derived.Test.YtpmakkjcpoillaaDoorHOpn
import Derived.Laws.StructEq
namespace Go.Proofs.YtpmakkjcpoillaaDoor.he
open Go.RowKit Go.Proofs.YtpmakkjcpoillaaDoor.fa
set_option maxRecDepth 20000

theorem eql_head (k n c l e t : Int) (w : World) : (binOp .eql 27 (.agg #[.int .i64 k, .int .i64 n, .int .i64 c, .int .u32 l, .int .u64 e, .int .u64 t]) (.agg #[.int .i64 k, .int .i64 n, .int .i64 c, .int .u32 l, .int .u64 e, .int .u64 t])).run Tryd.prog w = .ok (.bool true) w := by
  go_simp
theorem same_yes (w : World) (va vb : Value) (xs : List Int) (ha : Byt w va xs) (hb : Byt w vb xs) : Calls Tryd.prog 11 #[va, vb] w fun e w' => e = .returned (.bool true) ∧ Below w.heap.size w w' := by
  refine (same_any w va vb xs xs ha hb).mono ?_
  rintro e w' ⟨rfl, n, rfl⟩
  exact ⟨by simp, below_drawn (Below.refl _ _) n⟩
/-- what an end tells, committed or not -/
theorem read_end {k n c l e t : Int} (h : Rh k n c) (hf : Hb l e t) {tag mk : List Int} (h1 : tag.length = 32) (h2 : mk.length = 8) (w : World) (u : Value) (hb' : Byt w u (hend (hb k n c l e t) tag mk)) (hT : Tab w) :
    Calls Tryd.prog 34 #[u] w fun x w' => ∃ v, x = .returned (.tuple #[.agg (hv k n c l e t).toArray, v, .int .i64 0]) ∧ Byt w' v tag ∧ Below w.heap.size w w' := by
  have z := read_yes u _ w hb' (hend_len (hb_len _ _ _ _ _ _) h1 h2) hT (hend_tl h tag mk h1)
  obtain ⟨q1, q2, q3, q4, q5, q6⟩ := q_hb (k := k) (n := n) (c := c) (l := l) (e := e) (t := t) (inv (hb k n c l e t) ++ (tag ++ mk)) hf.1 hf.2.1 hf.2.2
  have s := (hend_sub (mark := mk) (hb_len k n c l e t) h1).2.2.1
  rw [s] at z
  unfold hend at z
  rw [q1, q2, q3, q4, q5, q6] at z
  exact z
/-- is an end committed? -/
theorem comm_end {k n c l e t : Int} {tag mk : List Int} (h1 : tag.length = 32) (h2 : mk.length = 8) (b : Bool) (hm : decide (mk = List.replicate 8 0) = b) (w : World) (u : Value) (hb' : Byt w u (hend (hb k n c l e t) tag mk)) :
    Calls Tryd.prog 36 #[u] w fun x w' => x = .returned (.bool b) ∧ Below w.heap.size w w' := by
  have z := comm_yes u _ w hb' (hend_len (hb_len _ _ _ _ _ _) h1 h2)
  rw [(hend_sub (mark := mk) (hb_len k n c l e t) h1).2.2.2, hm] at z
  exact z
end Go.Proofs.YtpmakkjcpoillaaDoor.he
