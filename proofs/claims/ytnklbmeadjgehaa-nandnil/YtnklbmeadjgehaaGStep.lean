/- One law a kind of operation, in a region that draws its order: a call, a struct that is read, an operation that is not wanted. No claim of its own. -/
import Derived.Test.YtnklbmeadjgehaaGInts
import Derived.Deep.DeepCutAuto
namespace Go.Proofs.Ytnklbmeadjgehaa.ge
open Go.RowKit
set_option maxRecDepth 20000

section
variable {ops : Array Oper} {o : Oper} {a : Act} {Q : Exit → Act → World → Prop} {K : Act → World → Prop} {E : Prop}
/-- a call, guarded or not -/
theorem step_callW (w : World) (hw : Region.wanted o (yielded ops a.tmps) = true) (d : Option Tmp) (hd : o.dst = d) (f : FuncId) (args : Array Operand) (ats : Array TypeId) (hop : o.op = .call { callee := .value (.func f), args := args, argTypes := ats })
    (hcf : ∀ (q : Array Value) (w : World), (callFunc f q).run Try.prog w = .ok (.enter f q) w) (vs : Array Value) (hx : args.map a.eval = vs) (R : Value → World → Prop) (hc : Calls Try.prog f vs w fun e w' => ∃ v, e = .returned v ∧ R v w') (hK : ∀ v w', R v w' → K (a.put d v) w') : if Region.wanted o (yielded ops a.tmps) = true then Oper.wp Try.prog o a w K Q else E := by
  rw [if_pos hw]
  subst hd
  subst hx
  unfold Oper.wp
  simp only [execOp, hop]
  go_simp
  refine hc.mono ?_
  rintro e w' ⟨v, rfl, hr⟩
  exact hK v w' hr
/-- an operation that is not wanted -/
theorem step_skip (w : World) (hw : Region.wanted o (yielded ops a.tmps) = false) (d : Option Tmp) (hd : o.dst = d) (hK : K (a.put d undef) w) : if Region.wanted o (yielded ops a.tmps) = true then Oper.wp Try.prog o a w K Q else K (a.put o.dst undef) w := by
  rw [if_neg (by rw [hw]; simp)]
  subst hd
  exact hK
/-- what reading a struct yields -/
theorem exec_loadS (t : TypeId) (x : Operand) (hop : o.op = Op.load t x) (p : Value) (hx : a.eval x = p) (v : Value) (w : World) (h : (Instr.loadAt t p).run Try.prog w = .ok v w) : (execOp a.eval o).run Try.prog w = .ok (.value v) w := by
  unfold execOp
  simp only [hop, hx, Sem.run_bind, Result.andThen_ok, h]
  rfl
end
/-- what is read of a geometry, in all worlds that come -/
theorem load_class {w1 : World} {c : Nat} {g : List Int} (h : Ar w1 c 0 .i64 g) (hl : g.length = 6) : ∀ w', Below w1.heap.size w1 w' → (Instr.loadAt 23 (.pointer (some ⟨c, 0, none⟩))).run Try.prog w' = .ok (.agg (ints .i64 g)) w' :=
  fun _ hb => load_geo (h.below hb (h.lt (by omega))) hl
end Go.Proofs.Ytnklbmeadjgehaa.ge
