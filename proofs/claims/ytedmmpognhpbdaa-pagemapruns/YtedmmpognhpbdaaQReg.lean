/- A region that draws its order and only reads and calls, in any class of worlds: one law a kind of operation. No claim of its own. -/
import Derived.Test.YtedmmpognhpbdaaArrG
namespace Go.Proofs.Ytedmmpognhpbdaa
open Go.RowKit
set_option maxRecDepth 20000

theorem region_quietC {C : World → Prop} {id : Nat} {Q : Exit → Act → World → Prop} {a : Act} {w : World} {l : List Oper} (hm : Try.prog.follows .mixedOrders = true) (hB : Region.lexB .any l.toArray = true) (hC : C { w with drawn := w.drawn + 1 })
    (h : wpQuiet Try.prog l.toArray C (fun a' => ∀ w', C w' → Q .normal a' w') l a) : (Code.region id l.toArray true).wp Try.prog Q a w :=
  wp_region_quiet hm hB hC (by simpa using h)

theorem run_load1 (w : World) (b p : Nat) (t : TypeId) (k : IntKind) (n : Int) (hu : Try.prog.underlying t = some (.int k)) (h : w.cell? ⟨b, p, none⟩ = some (.int k n)) : (loadVar t ⟨b, p, none⟩).run Try.prog w = .ok (.int k n) w := by
  simp [loadVar, isAgg, run_underlying hu, h]

section
variable {ops : Array Oper} {C : World → Prop} {K : Act → Prop} {o : Oper} {a : Act}

/-- a number is read -/
theorem q_get (hw : Region.wanted o (yielded ops a.tmps) = true) (d : Option Tmp) (hd : o.dst = d) (x : Operand) (t : TypeId) (hop : o.op = Op.load t x) (k : IntKind) (n : Int) (b p : Nat) (hx : a.eval x = .pointer (some ⟨b, p, none⟩)) (hu : Try.prog.underlying t = some (.int k)) (h : ∀ w, C w → w.cell? ⟨b, p, none⟩ = some (.int k n))
    (hK : K (a.put d (.int k n))) :
    if Region.wanted o (yielded ops a.tmps) = true then o.quiet Try.prog a C K else K (a.put o.dst undef) := by
  refine q_val hw d hd _ (fun w hC => ?_) hK
  unfold execOp
  simp only [hop, hx, Instr.loadAt, Instr.sureAddr, Sem.run_bind, Sem.run_pure, Result.andThen_ok, run_load1 w b p t k n hu (h w hC)]
/-- two numbers that are the same are not unlike -/
theorem q_neq (hw : Region.wanted o (yielded ops a.tmps) = true) (d : Option Tmp) (hd : o.dst = d) (x y : Operand) (t t' : TypeId) (hop : o.op = Op.binOp .neq t x y t') (k : IntKind) (n : Int) (hx : a.eval x = .int k n) (hy : a.eval y = .int k n)
    (hK : K (a.put d (.bool false))) :
    if Region.wanted o (yielded ops a.tmps) = true then o.quiet Try.prog a C K else K (a.put o.dst undef) := by
  refine q_val hw d hd _ (fun w _ => ?_) hK
  unfold execOp
  simp only [hop, hx, hy]
  go_simp
end
end Go.Proofs.Ytedmmpognhpbdaa
