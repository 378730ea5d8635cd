/- What ledger's Len, has and At answer; laws of regions that only read and call what is handed over. No claim of its own. -/
import Derived.Test.YtnmofigidlmcaaaEBas
namespace Go.Proofs.Ytnmofigidlmcaaa.le
open Go.RowKit Go.Proofs.Ytnmofigidlmcaaa.he
set_option maxRecDepth 20000

theorem len_any (v : Value) (n : Nat) (f : Nat → Bk) (w : World) (h : Lq w v n f) : Calls Try.prog 9 #[v] w fun e w' => e = .returned (.int .i64 n) ∧ w' = w := by
  rcases h with ⟨rfl, rfl⟩ | ⟨c, d, rfl, hl⟩
  · go_enter Try.func9, Try.ntmps9
    go_wp2
    go_ret
    exact ⟨rfl, rfl⟩
  · have hc := hl.cell
    clear hl
    go_enter Try.func9, Try.ntmps9
    go_wp2
    go_ret
    exact ⟨rfl, rfl⟩

theorem has_any (v : Value) (n : Nat) (f : Nat → Bk) (w : World) (b : Int) (h : Lq w v n f) (q : Bool) (hq : q = decide (0 ≤ b ∧ b < n)) : Calls Try.prog 39 #[v, .int .i64 b] w fun e w' => e = .returned (.bool q) ∧ w' = w := by
  have S : Hid (Calls Try.prog 9 #[v] w fun e w' => e = .returned (.int .i64 n) ∧ w' = w) := len_any v n f w h
  clear h
  by_cases h0 : 0 ≤ b
  · by_cases h1 : b < (n : Int)
    · have e : q = true := by rw [hq]; exact decide_eq_true ⟨h0, h1⟩
      subst e
      clear hq
      go_enter Try.func39, Try.ntmps39
      go_wp2_with (go_at_call 9; refine S.out.mono ?_; rintro e w' ⟨rfl, hw⟩; obtain rfl := hw.symm)
      go_ret
      exact ⟨rfl, rfl⟩
    · have e : q = false := by rw [hq]; exact decide_eq_false (by omega)
      have h2 : (n : Int) ≤ b := by omega
      have h3 : decide (b < (n : Int)) = false := decide_eq_false (by omega)
      subst e
      clear hq h1
      go_enter Try.func39, Try.ntmps39
      go_wp2_with (go_at_call 9; refine S.out.mono ?_; rintro e w' ⟨rfl, hw⟩; obtain rfl := hw.symm)
      go_ret
      exact ⟨rfl, rfl⟩
  · have e : q = false := by rw [hq]; exact decide_eq_false (by omega)
    subst e
    clear hq
    go_enter Try.func39, Try.ntmps39
    go_wp2_with (go_at_call 9; refine S.out.mono ?_; rintro e w' ⟨rfl, hw⟩; obtain rfl := hw.symm)
    go_ret
    exact ⟨rfl, rfl⟩

theorem run_ldS (w : World) (b p : Nat) (ao : Option Addr) (n c : Nat) (h : w.cell? ⟨b, p, none⟩ = some (.slice ao n c)) : (Instr.loadAt 58 (.pointer (some ⟨b, p, none⟩))).run Try.prog w = .ok (.slice ao n c) w := by
  have : (loadVar 58 ⟨b, p, none⟩).run Try.prog w = .ok (.slice ao n c) w := by
    simp [loadVar, isAgg, run_underlying Try.underlying58, h]
  simp only [Instr.loadAt, Instr.sureAddr, Sem.run_bind, Sem.run_pure, Result.andThen_ok, this]
theorem rowy_lblk : Rowy 39 9 := ⟨⟨_, Try.underlying39, rfl⟩, by kernel_rfl⟩
theorem zero_lblk : (Try.prog.info? 39).map (fun i => (i.zero, i.size)) = some (some (.agg b0.cs.toArray), b0.cs.length) := by kernel_rfl
theorem size_lblk : (Try.prog.info? 39).map (·.size) = some 9 := by kernel_rfl
/-- what is left of a quiet region: not laid open by the walk -/
structure Wq (ops : Array Oper) (C : World → Prop) (Q : Act → Prop) (l : List Oper) (a : Act) : Prop where
  out : wpQuiet Try.prog ops C Q l a
theorem wq_step {ops : Array Oper} {C : World → Prop} {Q : Act → Prop} {a : Act} {o : Oper} {rest : List Oper}
    (h : ∀ K : Act → Prop, (∀ a, Wq ops C Q rest a → K a) → if Region.wanted o (yielded ops a.tmps) = true then o.quiet Try.prog a C K else K (a.put o.dst undef)) : Wq ops C Q (o :: rest) a :=
  ⟨wpQuiet_step fun K hK => h K fun a ha => hK a ha.out⟩
theorem wq_nil {ops : Array Oper} {C : World → Prop} {Q : Act → Prop} {a : Act} (h : Q a) : Wq ops C Q [] a := ⟨wpQuiet_nil h⟩
theorem region_quietW {C : World → Prop} {id : Nat} {Q : Exit → Act → World → Prop} {a : Act} {w : World} {l : List Oper} (hm : Try.prog.follows .mixedOrders = true) (hB : Region.lexB .any l.toArray = true) (hC : C { w with drawn := w.drawn + 1 })
    (h : Wq l.toArray C (fun a' => ∀ w', C w' → Q .normal a' w') l a) : (Code.region id l.toArray true).wp Try.prog Q a w :=
  region_quietC hm hB hC h.out
section
variable {ops : Array Oper} {C : World → Prop} {K : Act → Prop} {o : Oper} {a : Act}
/-- an operation that is not wanted -/
theorem q_skip (hw : Region.wanted o (yielded ops a.tmps) = false) (d : Option Tmp) (hd : o.dst = d) (hK : K (a.put d undef)) :
    if Region.wanted o (yielded ops a.tmps) = true then o.quiet Try.prog a C K else K (a.put o.dst undef) := by
  rw [if_neg (by rw [hw]; simp)]
  subst hd
  exact hK
/-- a load -/
theorem q_loadS (hw : Region.wanted o (yielded ops a.tmps) = true) (d : Option Tmp) (hd : o.dst = d) (x : Operand) (t : TypeId) (hop : o.op = Op.load t x) (p v : Value) (hx : a.eval x = p) (h : ∀ w, C w → (Instr.loadAt t p).run Try.prog w = .ok v w) (hK : K (a.put d v)) :
    if Region.wanted o (yielded ops a.tmps) = true then o.quiet Try.prog a C K else K (a.put o.dst undef) := by
  refine q_val hw d hd _ (fun w hC => ?_) hK
  unfold execOp
  simp only [hop, hx, Sem.run_bind, Result.andThen_ok, h w hC]
  rfl
/-- a call of a function that was handed over -/
theorem q_callF (hw : Region.wanted o (yielded ops a.tmps) = true) (d : Option Tmp) (hd : o.dst = d) (x : Nat) (xs : Array Operand) (ats : Array TypeId) (hop : o.op = .call { callee := .value (.tmp x), args := xs, argTypes := ats }) (f : FuncId) (caps : Array Value) (hx0 : a.eval (.tmp x) = .func (.func f) #[] caps)
    (hcf : ∀ (q : Array Value) (w : World), (callFunc f q).run Try.prog w = .ok (.enter f q) w) (vs : Array Value) (hx : xs.map a.eval = vs) (v : Value) (hc : ∀ w, C w → Calls Try.prog f (vs ++ caps) w fun e w' => e = .returned v ∧ C w') (hK : K (a.put d v)) :
    if Region.wanted o (yielded ops a.tmps) = true then o.quiet Try.prog a C K else K (a.put o.dst undef) := by
  rw [if_pos hw]
  subst hd
  refine ⟨v, fun w hC => ?_, hK⟩
  unfold Oper.quietAt
  simp only [execOp, hop, resolve, Deferred.ofValue, invoke, hx0, hx, Sem.run_bind, Sem.run_pure, Result.andThen_ok, hcf, Array.empty_append]
  exact ⟨rfl, hc w hC⟩
/-- the address of a block in a row of them -/
theorem run_idxS (w : World) (d n c i : Nat) (hi : i < n) : (Instr.indexAt 58 (.slice (some ⟨d, 0, none⟩) n c) (.int .i64 (i : Int))).run Try.prog w = .ok (.pointer (some ⟨d, i * 9, none⟩)) w := by
  have hs : (sizeOf 39).run Try.prog w = .ok 9 w := by
    have h := size_lblk
    cases hq : Try.prog.info? 39 with
    | none => simp [hq] at h
    | some i0 =>
      have : i0.size = 9 := by simpa [hq] using h
      simp [sizeOf, typeInfo, hq, this]
  rw [run_indexAt_slice _ _ _ _ _ _ _ Try.underlying58, if_pos (by omega), show Try.prog.elem 58 = 39 by kernel_rfl, hs]
  simp only [Result.andThen_ok, Addr.add_lit, Int.toNat_natCast, Nat.zero_add]
theorem q_idxS (hw : Region.wanted o (yielded ops a.tmps) = true) (e : Option Tmp) (he : o.dst = e) (x y : Operand) (hop : o.op = Op.indexAddr 58 x y) (d n c i : Nat) (hx : a.eval x = .slice (some ⟨d, 0, none⟩) n c) (hy : a.eval y = .int .i64 (i : Int)) (hi : i < n)
    (hK : K (a.put e (.pointer (some ⟨d, i * 9, none⟩)))) :
    if Region.wanted o (yielded ops a.tmps) = true then o.quiet Try.prog a C K else K (a.put o.dst undef) := by
  refine q_val hw e he _ (fun w _ => ?_) hK
  unfold execOp
  simp only [hop, hx, hy, Sem.run_bind, Sem.run_pure, Result.andThen_ok, run_idxS w d n c i hi]
end
end Go.Proofs.Ytnmofigidlmcaaa.le
