/- What ledger's Pick, Victim, Held, Bads, Spread, Leaks and At answer. No claim of its own. -/
import Derived.Test.YtnmofigidlmcaaaEClo
namespace Go.Proofs.Ytnmofigidlmcaaa.le
open Go.RowKit Go.Proofs.Ytnmofigidlmcaaa.he
set_option maxRecDepth 20000

section
variable {ops : Array Oper} {rest : List Oper} {a : Act} {Q : Exit → Act → World → Prop}
/-- a variable of one cell -/
theorem box_law1 {d : Option Tmp} {x : Operand} {t ty : TypeId} {pos : String} {af : Array Edge} (w : World) (v : Value) (hx : a.eval x = v) (hc : v.cells = #[v])
    (hK : ∀ w', Vr w' w.heap.size [v] → Below w.heap.size w w' → w.heap.size < w'.heap.size → wpList Try.prog ops Q rest (a.put d (.pointer (some ⟨w.heap.size, 0, none⟩))) w') :
    wpList Try.prog ops Q (⟨d, Op.box t x, ty, pos, af, none⟩ :: rest) a w := by
  refine wpList_plain rfl fun K hK' => ?_
  unfold Oper.wp
  simp [execOp, hx, Instr.box, newVar, newRow, hc, Result.andThen]
  exact hK' _ _ (hK _ (Vr.new w t [v]) ((Below.refl _ _).alloc (Nat.le_refl _) _) (by simp))
end
def Pf (f : Nat → Bk) (i : Nat) : Bool := !(f i).h && !(f i).b
def Ae (f : Nat → Bk) (i j : Nat) : Bool := decide ((f i).e < (f j).e)
def Hf (f : Nat → Bk) (s : Int) (i : Nat) : Bool := (f i).h && !(f i).b && decide ((f i).o = s)
def Vf (f : Nat → Bk) (s m : Int) (i : Nat) : Bool := decide ((i : Int) ≠ m) && Hf f s i
def Al (f : Nat → Bk) (i j : Nat) : Bool := decide ((f i).l < (f j).l)
def Gd (f : Nat → Bk) (i : Nat) : Bool := !(f i).b
def Ag (f : Nat → Bk) (i j : Nat) : Bool := decide ((f j).e < (f i).e)
def Bf (f : Nat → Bk) (i : Nat) : Bool := (f i).b
def Lf (f : Nat → Bk) (s : Int) (i : Nat) : Bool := (f i).k && (decide ((f i).o = s) || decide ((f i).o = -1))
theorem ah_less (n : Nat) (f : Nat → Bk) (w : World) : Ahd n f 42 #[] (Ae f) w := fun w' _ i j _ _ => less_any (f i) (f j) w'

theorem pick_any (v : Value) (n : Nat) (f : Nat → Bk) (w : World) (h : Lq w v n f) (hn : n ≤ 64) : Calls Try.prog 18 #[v] w fun e w' => e = .returned (.int .i64 (oi (fm (Pf f) (Ae f) n))) ∧ Below w.heap.size w w' := by
  have S : Hid (Calls Try.prog 40 #[v, .func (.func 41) #[] #[], .func (.func 42) #[] #[]] w fun e w' => e = .returned (.int .i64 (oi (fm (Pf f) (Ae f) n))) ∧ Below w.heap.size w w') :=
    fore_any v n f w h hn 41 42 #[] #[] (Pf f) (Ae f) (fun _ _ => rfl) (fun _ _ => rfl) (fun w' _ i _ => pick1_any i (f i) w') (ah_less n f w)
  clear h
  generalize oi (fm (Pf f) (Ae f) n) = z at *
  go_enter Try.func18, Try.ntmps18
  go_wp2_with (go_at_call 40; refine S.out.mono ?_; rintro e w3 ⟨rfl, B3⟩)
  go_ret
  exact ⟨rfl, B3⟩

theorem bads_any (v : Value) (n : Nat) (f : Nat → Bk) (w : World) (h : Lq w v n f) (hn : n ≤ 64) : Calls Try.prog 26 #[v] w fun e w' => e = .returned (.int .i64 (cn (Bf f) n)) ∧ Below w.heap.size w w' := by
  have S : Hid (Calls Try.prog 48 #[v, .func (.func 50) #[] #[]] w fun e w' => e = .returned (.int .i64 (cn (Bf f) n)) ∧ Below w.heap.size w w') :=
    count_any v n f w h hn 50 #[] (Bf f) (fun _ _ => rfl) (fun w' _ i _ => bads1_any (f i) w')
  clear h
  generalize cn (Bf f) n = z at *
  go_enter Try.func26, Try.ntmps26
  go_wp2_with (go_at_call 48; refine S.out.mono ?_; rintro e w3 ⟨rfl, B3⟩)
  go_ret
  exact ⟨rfl, B3⟩

theorem spread_any (v : Value) (n : Nat) (f : Nat → Bk) (w : World) (h : Lq w v n f) (hn : n ≤ 64) : Calls Try.prog 20 #[v] w fun e w' => e = .returned (.tuple #[.int .i64 (oi (fm (Gd f) (Ae f) n)), .int .i64 (oi (fm (Gd f) (Ag f) n))]) ∧ Below w.heap.size w w' := by
  have S1 : Hid (Calls Try.prog 40 #[v, .func (.func 46) #[] #[], .func (.func 42) #[] #[]] w fun e w' => e = .returned (.int .i64 (oi (fm (Gd f) (Ae f) n))) ∧ Below w.heap.size w w') :=
    fore_any v n f w h hn 46 42 #[] #[] (Gd f) (Ae f) (fun _ _ => rfl) (fun _ _ => rfl) (fun w' _ i _ => spread1_any i (f i) w') (ah_less n f w)
  have S2 : Hid (∀ w1, Below w.heap.size w w1 → Calls Try.prog 40 #[v, .func (.func 46) #[] #[], .func (.func 47) #[] #[]] w1 fun e w' => e = .returned (.int .i64 (oi (fm (Gd f) (Ag f) n))) ∧ Below w1.heap.size w1 w') := fun w1 hb =>
    fore_any v n f w1 (h.below hb) hn 46 47 #[] #[] (Gd f) (Ag f) (fun _ _ => rfl) (fun _ _ => rfl) (fun w' _ i _ => spread1_any i (f i) w') (fun w' _ i j _ _ => spread2_any (f i) (f j) w')
  clear h
  generalize oi (fm (Gd f) (Ae f) n) = z1 at *
  generalize oi (fm (Gd f) (Ag f) n) = z2 at *
  have t0 : (0 : Nat) = 0 := rfl
  go_enter Try.func20, Try.ntmps20
  go_wp2_with (first
    | (have qq := t1; go_at_call 40; refine (S2.out _ B3).mono ?_; rintro e w4 ⟨rfl, B4⟩; clear t1)
    | (have qq := t0; go_at_call 40; refine S1.out.mono ?_; rintro e w3 ⟨rfl, B3⟩; clear t0; have t1 : (0 : Nat) = 0 := rfl))
  go_ret2
  exact ⟨rfl, B3.trans (B4.mono B3.size)⟩

theorem held_any (v : Value) (n : Nat) (f : Nat → Bk) (w : World) (s : Int) (h : Lq w v n f) (hn : n ≤ 64) : Calls Try.prog 24 #[v, .int .i64 s] w fun e w' => e = .returned (.int .i64 (cn (Hf f s) n)) ∧ Below w.heap.size w w' := by
  have S : Hid (∀ w1 c, Below w.heap.size w w1 → Vr w1 c [.int .i64 s] → Calls Try.prog 48 #[v, .func (.func 49) #[] #[pt c]] w1 fun e w' => e = .returned (.int .i64 (cn (Hf f s) n)) ∧ Below w1.heap.size w1 w') := fun w1 c hb hc =>
    count_any v n f w1 (h.below hb) hn 49 #[pt c] (Hf f s) (fun _ _ => rfl) (fun w' hw' i _ => held1_any (f i) s c w' ((hc.below hw' (range_lt hc.1 (Nat.succ_pos _))).cell 0 _ rfl))
  clear h
  generalize cn (Hf f s) n = z at *
  have t0 : (0 : Nat) = 0 := rfl
  have hmf : ∀ w1 : World, ∀ c : Value, (Instr.makeFunc (Fn.func 49) #[] #[c]).run Try.prog w1 = .ok (.func (.func 49) #[] #[c]) w1 := fun _ _ => rfl
  go_enter Try.func24, Try.ntmps24
  go_wp2_with (first
    | (have qq := t1; go_at_call 48; refine (S.out w1 w.heap.size B1 V1.out).mono ?_; rintro e w3 ⟨rfl, B3⟩; clear t1)
    | (have qq := t0; refine box_law1 _ (.int .i64 s) rfl rfl ?_; intro w1 X1 B1 l1; have V1 : Hid (Vr w1 w.heap.size [.int .i64 s]) := X1; clear X1 t0; have t1 : (0 : Nat) = 0 := rfl))
  go_ret
  exact ⟨rfl, B1.trans (B3.mono B1.size)⟩

theorem leaks_any (v : Value) (n : Nat) (f : Nat → Bk) (w : World) (s : Int) (h : Lq w v n f) (hn : n ≤ 64) : Calls Try.prog 28 #[v, .int .i64 s] w fun e w' => e = .returned (.bool (decide (0 < cn (Lf f s) n))) ∧ Below w.heap.size w w' := by
  have S : Hid (∀ w1 c, Below w.heap.size w w1 → Vr w1 c [.int .i64 s] → Calls Try.prog 48 #[v, .func (.func 51) #[] #[pt c]] w1 fun e w' => e = .returned (.int .i64 (cn (Lf f s) n)) ∧ Below w1.heap.size w1 w') := fun w1 c hb hc =>
    count_any v n f w1 (h.below hb) hn 51 #[pt c] (Lf f s) (fun _ _ => rfl) (fun w' hw' i _ => leaks1_any (f i) s c w' ((hc.below hw' (range_lt hc.1 (Nat.succ_pos _))).cell 0 _ rfl))
  clear h
  generalize cn (Lf f s) n = z at *
  have t0 : (0 : Nat) = 0 := rfl
  have hmf : ∀ w1 : World, ∀ c : Value, (Instr.makeFunc (Fn.func 51) #[] #[c]).run Try.prog w1 = .ok (.func (.func 51) #[] #[c]) w1 := fun _ _ => rfl
  go_enter Try.func28, Try.ntmps28
  go_wp2_with (first
    | (have qq := t1; go_at_call 48; refine (S.out w1 w.heap.size B1 V1.out).mono ?_; rintro e w3 ⟨rfl, B3⟩; clear t1)
    | (have qq := t0; refine box_law1 _ (.int .i64 s) rfl rfl ?_; intro w1 X1 B1 l1; have V1 : Hid (Vr w1 w.heap.size [.int .i64 s]) := X1; clear X1 t0; have t1 : (0 : Nat) = 0 := rfl))
  go_ret
  exact ⟨by simp, B1.trans (B3.mono B1.size)⟩

theorem victim_any (v : Value) (n : Nat) (f : Nat → Bk) (w : World) (s m : Int) (h : Lq w v n f) (hn : n ≤ 64) : Calls Try.prog 19 #[v, .int .i64 s, .int .i64 m] w fun e w' => e = .returned (.int .i64 (oi (fm (Vf f s m) (Al f) n))) ∧ Below w.heap.size w w' := by
  have S : Hid (∀ w1 c d, Below w.heap.size w w1 → Vr w1 c [.int .i64 m] → Vr w1 d [.int .i64 s] → Calls Try.prog 40 #[v, .func (.func 43) #[] #[pt c, pt d], .func (.func 45) #[] #[]] w1 fun e w' => e = .returned (.int .i64 (oi (fm (Vf f s m) (Al f) n))) ∧ Below w1.heap.size w1 w') := fun w1 c d hb hc hd =>
    fore_any v n f w1 (h.below hb) hn 43 45 #[pt c, pt d] #[] (Vf f s m) (Al f) (fun _ _ => rfl) (fun _ _ => rfl) (fun w' hw' i _ => victim1_any i m (f i) s c d w' ((hc.below hw' (range_lt hc.1 (Nat.succ_pos _))).cell 0 _ rfl) ((hd.below hw' (range_lt hd.1 (Nat.succ_pos _))).cell 0 _ rfl)) (fun w' _ i j _ _ => vlive_any (f i) (f j) w')
  clear h
  generalize oi (fm (Vf f s m) (Al f) n) = z at *
  have t0 : (0 : Nat) = 0 := rfl
  have hmf : ∀ w1 : World, ∀ c d : Value, (Instr.makeFunc (Fn.func 43) #[] #[c, d]).run Try.prog w1 = .ok (.func (.func 43) #[] #[c, d]) w1 := fun _ _ _ => rfl
  go_enter Try.func19, Try.ntmps19
  go_wp2_with (first
    | (have qq := t2; go_at_call 40; refine (S.out w2 w1.heap.size w.heap.size (B1.trans (B2.mono B1.size)) V2.out (V1.out.below B2 l1)).mono ?_; rintro e w3 ⟨rfl, B3⟩; clear t2)
    | (have qq := t1; refine box_law1 _ (.int .i64 m) rfl rfl ?_; intro w2 X2 B2 l2; have V2 : Hid (Vr w2 w1.heap.size [.int .i64 m]) := X2; clear X2 t1; have t2 : (0 : Nat) = 0 := rfl)
    | (have qq := t0; refine box_law1 _ (.int .i64 s) rfl rfl ?_; intro w1 X1 B1 l1; have V1 : Hid (Vr w1 w.heap.size [.int .i64 s]) := X1; clear X1 t0; have t1 : (0 : Nat) = 0 := rfl))
  go_ret
  exact ⟨rfl, B1.trans ((B2.mono B1.size).trans (B3.mono (Nat.le_trans B1.size B2.size)))⟩
end Go.Proofs.Ytnmofigidlmcaaa.le
