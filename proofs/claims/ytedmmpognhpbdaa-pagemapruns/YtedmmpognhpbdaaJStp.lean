/- One law a kind of operation on maps, in a region that draws its order. No claim of its own. -/
import Derived.Test.YtedmmpognhpbdaaJAsk
import Derived.Deep.RegionHeld3
namespace Go.Proofs.Ytedmmpognhpbdaa.pm
open Go.RowKit Go.Proofs.Ytedmmpognhpbdaa.he
set_option maxRecDepth 20000

theorem exec_loadN {ev : Operand → Value} {o : Oper} (t : TypeId) (x : Operand) (hop : o.op = Op.load t x) (p : Value) (hx : ev x = p) (v : Value) (w : World) (hr : (Instr.loadAt t p).run Try.prog w = .ok v w) : (execOp ev o).run Try.prog w = .ok (.value v) w := by
  unfold execOp
  simp only [hop, hx, Sem.run_bind, Result.andThen_ok, hr]
  rfl
theorem load_map {w : World} {c q : Nat} {rb : Option Nat} (h : w.cell? ⟨c, q, none⟩ = some (.map rb)) : (Instr.loadAt 69 (pq c q)).run Try.prog w = .ok (.map rb) w := by
  have : (loadVar 69 ⟨c, q, none⟩).run Try.prog w = .ok (.map rb) w := by
    simp [loadVar, isAgg, run_underlying Try.underlying69, h]
  simp only [Instr.loadAt, Instr.sureAddr, Sem.run_bind, Sem.run_pure, Result.andThen_ok, this]
theorem exec_add {ev : Operand → Value} {o : Oper} {w : World} (x y : Operand) (hop : o.op = Op.binOp .add 3 x y 3) (A B q : Int) (hx : ev x = .int .i64 A) (hy : ev y = .int .i64 B) (hq : IntKind.i64.wrap (A + B) = q) : (execOp ev o).run Try.prog w = .ok (.value (.int .i64 q)) w := by
  subst hq
  unfold execOp
  simp only [hop, hx, hy]
  rfl
theorem exec_sub {ev : Operand → Value} {o : Oper} {w : World} (x y : Operand) (hop : o.op = Op.binOp .sub 3 x y 3) (A B q : Int) (hx : ev x = .int .i64 A) (hy : ev y = .int .i64 B) (hq : IntKind.i64.wrap (A - B) = q) : (execOp ev o).run Try.prog w = .ok (.value (.int .i64 q)) w := by
  subst hq
  unfold execOp
  simp only [hop, hx, hy]
  rfl
section
variable {ops : Array Oper} {o : Oper} {a : Act} {Q : Exit → Act → World → Prop} {K : Act → World → Prop} {E : Prop}
theorem step_look (w : World) (hg : o.guard = none) (d : Option Tmp) (hd : o.dst = d) (x y : Operand) (hop : o.op = Op.lookup 69 x y false) (b : Nat) (g : Int × Int → Int) (p : Int × Int) (hx : a.eval x = .map (some b)) (hy : a.eval y = pk p) (h : Mp w b g)
    (hK : K (a.put d (.int .i64 (g p))) w) : if Region.wanted o (yielded ops a.tmps) = true then Oper.wp Try.prog o a w K Q else E := by
  have hw : Region.wanted o (yielded ops a.tmps) = true := by simp [Region.wanted, hg]
  rw [if_pos hw]
  subst hd
  unfold Oper.wp execOp
  simp only [hop, hx, hy, Sem.run_bind, Sem.run_pure, Result.andThen_ok, look_any h p]
  exact hK
theorem step_entry (w : World) (hg : o.guard = none) (d : Option Tmp) (hd : o.dst = d) (x y : Operand) (hop : o.op = Op.mapEntry 69 x y) (b : Nat) (g : Int × Int → Int) (p : Int × Int) (hx : a.eval x = .map (some b)) (hy : a.eval y = pk p) (h : Mp w b g)
    (hK : ∀ v0 st w1, w.grownBy w1 (some b) → Mp w1 b g → Hid (∀ w2 v, w2.heap[b]? = w1.heap[b]? → ∃ w3, (Instr.entryStore 69 (.map (some b)) (.int .i64 st) (.int .i64 v)).run Try.prog w2 = .ok () w3 ∧ w2.grownBy w3 (some b) ∧ Mp w3 b (ud g p v)) → K (a.put d (.tuple #[v0, .int .i64 st])) w1) : if Region.wanted o (yielded ops a.tmps) = true then Oper.wp Try.prog o a w K Q else E := by
  have hw : Region.wanted o (yielded ops a.tmps) = true := by simp [Region.wanted, hg]
  rw [if_pos hw]
  subst hd
  obtain ⟨v0, st, w1, h1, h2, h3, h4⟩ := entry_any h p
  unfold Oper.wp execOp
  simp only [hop, hx, hy, Sem.run_bind, Sem.run_pure, Result.andThen_ok, h1]
  exact hK v0 st w1 h2 h3 h4
theorem step_estore (w : World) (hg : o.guard = none) (d : Option Tmp) (hd : o.dst = d) (x y z : Operand) (hop : o.op = Op.entryStore 69 x y z) (b : Nat) (st v : Int) (R : World → Prop) (hx : a.eval x = .map (some b)) (hy : a.eval y = .int .i64 st) (hz : a.eval z = .int .i64 v)
    (h : ∃ w3, (Instr.entryStore 69 (.map (some b)) (.int .i64 st) (.int .i64 v)).run Try.prog w = .ok () w3 ∧ R w3) (hK : ∀ w3, R w3 → K (a.put d undef) w3) : if Region.wanted o (yielded ops a.tmps) = true then Oper.wp Try.prog o a w K Q else E := by
  have hw : Region.wanted o (yielded ops a.tmps) = true := by simp [Region.wanted, hg]
  rw [if_pos hw]
  subst hd
  obtain ⟨w3, h1, h2⟩ := h
  unfold Oper.wp execOp
  simp only [hop, hx, hy, hz, Sem.run_bind, Sem.run_pure, Result.andThen_ok, h1]
  exact hK w3 h2
theorem step_delete (w : World) (hg : o.guard = none) (d : Option Tmp) (hd : o.dst = d) (x y : Operand) (hop : o.op = .call { callee := .builtin .delete, args := #[x, y], argTypes := #[69, 31] }) (b : Nat) (g : Int × Int → Int) (p : Int × Int) (hx : a.eval x = .map (some b)) (hy : a.eval y = pk p) (h : Mp w b g)
    (hK : ∀ w1, w.grownBy w1 (some b) → Mp w1 b (ud g p 0) → K (a.put d (.tuple #[])) w1) : if Region.wanted o (yielded ops a.tmps) = true then Oper.wp Try.prog o a w K Q else E := by
  have hw : Region.wanted o (yielded ops a.tmps) = true := by simp [Region.wanted, hg]
  rw [if_pos hw]
  subst hd
  obtain ⟨w1, h1, h2, h3⟩ := delete_any h p o.type
  unfold Oper.wp execOp
  simp only [hop, resolve, invoke, builtin, Sem.run_bind, Sem.run_pure, Result.andThen_ok, List.map_toArray, List.map_cons, List.map_nil, hx, hy, h1]
  exact hK w1 h2 h3
end
end Go.Proofs.Ytedmmpognhpbdaa.pm
