/- What geometry's small functions answer, of a geometry in its place. No claim of its own. -/
import Derived.Test.YtpmakkjcpoillaaDoorStepG
import Derived.Test.YtpmakkjcpoillaaDoorGMath
namespace Go.Proofs.YtpmakkjcpoillaaDoor.ge
open Go.RowKit
set_option maxRecDepth 20000

/-- each number of the geometry g (blocks, pages, sector, spare, wear, rounds) is in its range -/
def Kept (g : List Int) : Prop := (7 ≤ gb g 0 ∧ gb g 0 ≤ 64) ∧ (4 ≤ gb g 1 ∧ gb g 1 ≤ 32) ∧ (32 ≤ gb g 2 ∧ gb g 2 ≤ 4096) ∧ (0 ≤ gb g 3 ∧ gb g 3 ≤ 8) ∧ (1 ≤ gb g 4 ∧ gb g 4 ≤ 1000) ∧ (1 ≤ gb g 5 ∧ gb g 5 ≤ 1000)
/-- how many sectors a record takes -/
def rec (g : List Int) : Int := (624 + gb g 2 - 1) / gb g 2
/-- the geometry is right -/
def Rt (g : List Int) : Prop := Kept g ∧ gb g 2 % 16 = 0 ∧ rec g ≤ gb g 1 ∧ gb g 3 + 3 ≤ gb g 0 - 4

theorem und_geo : ∃ d, Tryd.prog.underlying 23 = some d ∧ d.isRow = true := ⟨_, Tryd.underlying23, rfl⟩
theorem size_geo : (Tryd.prog.info? 23).map (·.size) = some 6 := by kernel_rfl
/-- a geometry is read -/
theorem load_geo {w : World} {b : Nat} {g : List Int} (h : Ar w b 0 .i64 g) (hl : g.length = 6) : (Instr.loadAt 23 (.pointer (some ⟨b, 0, none⟩))).run Tryd.prog w = .ok (.agg (ints .i64 g)) w := by
  obtain ⟨d, hu, hd⟩ := und_geo
  have := run_loadVar_mid (P := Tryd.prog) w b 0 23 _ _ h.1 hu hd (by rw [size_geo]; simp [hl])
  simp only [Instr.loadAt, Instr.sureAddr, Sem.run_bind, Sem.run_pure, Result.andThen_ok, this]
  rfl
section
variable {ops : Array Oper} {rest : List Oper} {a : Act} {Q : Exit → Act → World → Prop}
/-- a struct is read -/
theorem load_lawS {d : Option Tmp} {t : TypeId} {x : Operand} {ty : TypeId} {pos : String} {af : Array Edge} {gd : Option (Nat × Bool)} (w : World) (hw : Region.wanted ⟨d, Op.load t x, ty, pos, af, gd⟩ (yielded ops a.tmps) = true) (p v : Value) (hx : a.eval x = p) (h : (Instr.loadAt t p).run Tryd.prog w = .ok v w)
    (hK : wpList Tryd.prog ops Q rest (a.put d v) w) : wpList Tryd.prog ops Q (⟨d, Op.load t x, ty, pos, af, gd⟩ :: rest) a w := by
  refine wpList_step fun K hK' => ?_
  rw [if_pos hw]
  unfold Oper.wp execOp
  simp only [hx, Sem.run_bind, Result.andThen_ok, h]
  exact hK' _ _ hK
end
/-- a geometry's cells, and the whole of it -/
theorem geo_cells {w : World} {b : Nat} {g : List Int} (h : Ar w b 0 .i64 g) (hl : g.length = 6) :
    w.cell? ⟨b, 0, none⟩ = some (.int .i64 (gb g 0)) ∧ w.cell? ⟨b, 1, none⟩ = some (.int .i64 (gb g 1)) ∧ w.cell? ⟨b, 2, none⟩ = some (.int .i64 (gb g 2)) ∧ w.cell? ⟨b, 3, none⟩ = some (.int .i64 (gb g 3)) ∧
    w.cell? ⟨b, 4, none⟩ = some (.int .i64 (gb g 4)) ∧ w.cell? ⟨b, 5, none⟩ = some (.int .i64 (gb g 5)) :=
  ⟨h.cell0 0 (by omega), h.cell0 1 (by omega), h.cell0 2 (by omega), h.cell0 3 (by omega), h.cell0 4 (by omega), h.cell0 5 (by omega)⟩

theorem parts_any (n e : Int) (w : World) (hn : 1 ≤ n ∧ n ≤ 65535) (he : 1 ≤ e ∧ e ≤ 65535) :
    Calls Tryd.prog 55 #[.int .i64 n, .int .i64 e] w fun x w' => x = .returned (.int .i64 ((n + e - 1) / e)) ∧ w' = w := by
  have h0 : 0 ≤ (n + e - 1) / e := Int.ediv_nonneg (by omega) (by omega)
  have h1 : (n + e - 1) / e ≤ n + e - 1 := Int.ediv_le_self _ (by omega)
  have q1 : (n + e - 1).tdiv e = (n + e - 1) / e := Int.tdiv_eq_ediv_of_nonneg (by omega)
  generalize (n + e - 1) / e = z at *
  have q2 : IntKind.i64.wrap (n + e) = n + e := by rw [IntKind.wrap_i64]; omega
  have q3 : IntKind.i64.wrap (n + e - 1) = n + e - 1 := by rw [IntKind.wrap_i64]; omega
  have q4 : IntKind.i64.wrap z = z := by rw [IntKind.wrap_i64]; omega
  have q5 : e ≠ 0 := by omega
  go_enter Tryd.func55, Tryd.ntmps55
  go_wp2
  go_ret
  exact ⟨rfl, rfl⟩

theorem in_yes (n a b : Int) (w : World) (hn : a ≤ n ∧ n ≤ b) :
    Calls Tryd.prog 29 #[.int .i64 n, .int .i64 a, .int .i64 b] w fun x w' => x = .returned (.bool true) ∧ w' = w := by
  obtain ⟨h1, h2⟩ := hn
  go_enter Tryd.func29, Tryd.ntmps29
  go_wp2
  go_ret
  exact ⟨rfl, rfl⟩
theorem in_no (n a b : Int) (w : World) (hn : ¬ (a ≤ n ∧ n ≤ b)) :
    Calls Tryd.prog 29 #[.int .i64 n, .int .i64 a, .int .i64 b] w fun x w' => x = .returned (.bool false) ∧ w' = w := by
  by_cases h1 : a ≤ n
  · have h2 : ¬ n ≤ b := fun h => hn ⟨h1, h⟩
    clear hn
    go_enter Tryd.func29, Tryd.ntmps29
    go_wp2
    go_ret
    exact ⟨rfl, rfl⟩
  · clear hn
    go_enter Tryd.func29, Tryd.ntmps29
    go_wp2
    go_ret
    exact ⟨rfl, rfl⟩

theorem db_any (g : List Int) (w : World) (hl : g.length = 6) (hk : Kept g) :
    Calls Tryd.prog 41 #[.agg (ints .i64 g)] w fun x w' => x = .returned (.int .i64 (gb g 0 - 4)) ∧ Below w.heap.size w w' := by
  have q1 : IntKind.i64.wrap (gb g 0 - 4) = gb g 0 - 4 := by obtain ⟨h, -⟩ := hk; rw [IntKind.wrap_i64]; omega
  clear hk
  generalize hq : gb g 0 - 4 = z at *
  go_enter Tryd.func41, Tryd.ntmps41
  go_wp2_with (refine box_lawF _ rfl (.tmp 0) 23 rfl .i64 g rfl ?_; intro w1 X1 B1 L1; obtain ⟨f0, f1, f2, f3, f4, f5⟩ := geo_cells X1 hl)
  go_ret
  exact ⟨rfl, B1⟩

theorem rec_any (g : List Int) (w : World) (hl : g.length = 6) (hk : Kept g) :
    Calls Tryd.prog 40 #[.agg (ints .i64 g)] w fun x w' => x = .returned (.int .i64 (rec g)) ∧ Below w.heap.size w w' := by
  have S : Hid (∀ w, Calls Tryd.prog 55 #[.int .i64 624, .int .i64 (gb g 2)] w fun x w' => x = .returned (.int .i64 (rec g)) ∧ w' = w) := fun w => parts_any 624 (gb g 2) w (by omega) (by obtain ⟨-, -, h, -⟩ := hk; omega)
  clear hk
  generalize rec g = z at *
  go_enter Tryd.func40, Tryd.ntmps40
  go_wp2_with (first
    | (go_at_call 55; refine (S.out _).mono ?_; rintro e wx ⟨rfl, hw⟩; obtain rfl := hw.symm)
    | (refine box_lawF _ rfl (.tmp 0) 23 rfl .i64 g rfl ?_; intro w1 X1 B1 L1; obtain ⟨f0, f1, f2, f3, f4, f5⟩ := geo_cells X1 hl))
  go_ret
  exact ⟨rfl, B1⟩
end Go.Proofs.YtpmakkjcpoillaaDoor.ge
