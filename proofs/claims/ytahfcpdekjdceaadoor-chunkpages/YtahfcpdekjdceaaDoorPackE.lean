/- Texts put together (a claim holds few files). No claim of its own. -/
import Derived.Test.YtahfcpdekjdceaaDoorPackA
import Derived.Test.YtahfcpdekjdceaaDoorPackD
/- What geometry's small functions answer, of a geometry in its place. No claim of its own. -/
namespace Go.Proofs.YtahfcpdekjdceaaDoor.ge
open Go.RowKit
set_option maxRecDepth 20000

/-- each number of the geometry g (blocks, pages, sector, spare, wear, rounds) is in its range -/
def Kept (g : List Int) : Prop := (7 ≤ gb g 0 ∧ gb g 0 ≤ 64) ∧ (4 ≤ gb g 1 ∧ gb g 1 ≤ 32) ∧ (32 ≤ gb g 2 ∧ gb g 2 ≤ 4096) ∧ (0 ≤ gb g 3 ∧ gb g 3 ≤ 8) ∧ (1 ≤ gb g 4 ∧ gb g 4 ≤ 1000) ∧ (1 ≤ gb g 5 ∧ gb g 5 ≤ 1000)
/-- how many sectors a record takes -/
def rec (g : List Int) : Int := (624 + gb g 2 - 1) / gb g 2
/-- the geometry is right -/
def Rt (g : List Int) : Prop := Kept g ∧ gb g 2 % 16 = 0 ∧ rec g ≤ gb g 1 ∧ gb g 3 + 3 ≤ gb g 0 - 4

theorem und_geo : ∃ d, Tryd.prog.underlying 23 = some d ∧ d.isRow = true := ⟨_, Tryd.underlying23, rfl⟩
theorem size_geo : (Tryd.prog.info? 23).map (·.size) = some 6 := by kernel_rfl
/-- a geometry is read -/
theorem load_geo {w : World} {b : Nat} {g : List Int} (h : Ar w b 0 .i64 g) (hl : g.length = 6) : (Instr.loadAt 23 (.pointer (some ⟨b, 0, none⟩))).run Tryd.prog w = .ok (.agg (ints .i64 g)) w := by
  obtain ⟨d, hu, hd⟩ := und_geo
  have := run_loadVar_mid (P := Tryd.prog) w b 0 23 _ _ h.1 hu hd (by rw [size_geo]; simp [hl])
  simp only [Instr.loadAt, Instr.sureAddr, Sem.run_bind, Sem.run_pure, Result.andThen_ok, this]
  rfl
section
variable {ops : Array Oper} {rest : List Oper} {a : Act} {Q : Exit → Act → World → Prop}
/-- a struct is read -/
theorem load_lawS {d : Option Tmp} {t : TypeId} {x : Operand} {ty : TypeId} {pos : String} {af : Array Edge} {gd : Option (Nat × Bool)} (w : World) (hw : Region.wanted ⟨d, Op.load t x, ty, pos, af, gd⟩ (yielded ops a.tmps) = true) (p v : Value) (hx : a.eval x = p) (h : (Instr.loadAt t p).run Tryd.prog w = .ok v w)
    (hK : wpList Tryd.prog ops Q rest (a.put d v) w) : wpList Tryd.prog ops Q (⟨d, Op.load t x, ty, pos, af, gd⟩ :: rest) a w := by
  refine wpList_step fun K hK' => ?_
  rw [if_pos hw]
  unfold Oper.wp execOp
  simp only [hx, Sem.run_bind, Result.andThen_ok, h]
  exact hK' _ _ hK
end
/-- a geometry's cells, and the whole of it -/
theorem geo_cells {w : World} {b : Nat} {g : List Int} (h : Ar w b 0 .i64 g) (hl : g.length = 6) :
    w.cell? ⟨b, 0, none⟩ = some (.int .i64 (gb g 0)) ∧ w.cell? ⟨b, 1, none⟩ = some (.int .i64 (gb g 1)) ∧ w.cell? ⟨b, 2, none⟩ = some (.int .i64 (gb g 2)) ∧ w.cell? ⟨b, 3, none⟩ = some (.int .i64 (gb g 3)) ∧
    w.cell? ⟨b, 4, none⟩ = some (.int .i64 (gb g 4)) ∧ w.cell? ⟨b, 5, none⟩ = some (.int .i64 (gb g 5)) :=
  ⟨h.cell0 0 (by omega), h.cell0 1 (by omega), h.cell0 2 (by omega), h.cell0 3 (by omega), h.cell0 4 (by omega), h.cell0 5 (by omega)⟩

theorem parts_any (n e : Int) (w : World) (hn : 1 ≤ n ∧ n ≤ 65535) (he : 1 ≤ e ∧ e ≤ 65535) :
    Calls Tryd.prog 49 #[.int .i64 n, .int .i64 e] w fun x w' => x = .returned (.int .i64 ((n + e - 1) / e)) ∧ w' = w := by
  have h0 : 0 ≤ (n + e - 1) / e := Int.ediv_nonneg (by omega) (by omega)
  have h1 : (n + e - 1) / e ≤ n + e - 1 := Int.ediv_le_self _ (by omega)
  have q1 : (n + e - 1).tdiv e = (n + e - 1) / e := Int.tdiv_eq_ediv_of_nonneg (by omega)
  generalize (n + e - 1) / e = z at *
  have q2 : IntKind.i64.wrap (n + e) = n + e := by rw [IntKind.wrap_i64]; omega
  have q3 : IntKind.i64.wrap (n + e - 1) = n + e - 1 := by rw [IntKind.wrap_i64]; omega
  have q4 : IntKind.i64.wrap z = z := by rw [IntKind.wrap_i64]; omega
  have q5 : e ≠ 0 := by omega
  go_enter Tryd.func49, Tryd.ntmps49
  go_wp2
  go_ret
  exact ⟨rfl, rfl⟩

theorem in_yes (n a b : Int) (w : World) (hn : a ≤ n ∧ n ≤ b) :
    Calls Tryd.prog 24 #[.int .i64 n, .int .i64 a, .int .i64 b] w fun x w' => x = .returned (.bool true) ∧ w' = w := by
  obtain ⟨h1, h2⟩ := hn
  go_enter Tryd.func24, Tryd.ntmps24
  go_wp2
  go_ret
  exact ⟨rfl, rfl⟩
theorem in_no (n a b : Int) (w : World) (hn : ¬ (a ≤ n ∧ n ≤ b)) :
    Calls Tryd.prog 24 #[.int .i64 n, .int .i64 a, .int .i64 b] w fun x w' => x = .returned (.bool false) ∧ w' = w := by
  by_cases h1 : a ≤ n
  · have h2 : ¬ n ≤ b := fun h => hn ⟨h1, h⟩
    clear hn
    go_enter Tryd.func24, Tryd.ntmps24
    go_wp2
    go_ret
    exact ⟨rfl, rfl⟩
  · clear hn
    go_enter Tryd.func24, Tryd.ntmps24
    go_wp2
    go_ret
    exact ⟨rfl, rfl⟩

theorem db_any (g : List Int) (w : World) (hl : g.length = 6) (hk : Kept g) :
    Calls Tryd.prog 35 #[.agg (ints .i64 g)] w fun x w' => x = .returned (.int .i64 (gb g 0 - 4)) ∧ Below w.heap.size w w' := by
  have q1 : IntKind.i64.wrap (gb g 0 - 4) = gb g 0 - 4 := by obtain ⟨h, -⟩ := hk; rw [IntKind.wrap_i64]; omega
  clear hk
  generalize hq : gb g 0 - 4 = z at *
  go_enter Tryd.func35, Tryd.ntmps35
  go_wp2_with (refine box_lawF _ rfl (.tmp 0) 23 rfl .i64 g rfl ?_; intro w1 X1 B1 L1; obtain ⟨f0, f1, f2, f3, f4, f5⟩ := geo_cells X1 hl)
  go_ret
  exact ⟨rfl, B1⟩

theorem rec_any (g : List Int) (w : World) (hl : g.length = 6) (hk : Kept g) :
    Calls Tryd.prog 34 #[.agg (ints .i64 g)] w fun x w' => x = .returned (.int .i64 (rec g)) ∧ Below w.heap.size w w' := by
  have S : Hid (∀ w, Calls Tryd.prog 49 #[.int .i64 624, .int .i64 (gb g 2)] w fun x w' => x = .returned (.int .i64 (rec g)) ∧ w' = w) := fun w => parts_any 624 (gb g 2) w (by omega) (by obtain ⟨-, -, h, -⟩ := hk; omega)
  clear hk
  generalize rec g = z at *
  go_enter Tryd.func34, Tryd.ntmps34
  go_wp2_with (first
    | (go_at_call 49; refine (S.out _).mono ?_; rintro e wx ⟨rfl, hw⟩; obtain rfl := hw.symm)
    | (refine box_lawF _ rfl (.tmp 0) 23 rfl .i64 g rfl ?_; intro w1 X1 B1 L1; obtain ⟨f0, f1, f2, f3, f4, f5⟩ := geo_cells X1 hl))
  go_ret
  exact ⟨rfl, B1⟩
end Go.Proofs.YtahfcpdekjdceaaDoor.ge

/- Whether a geometry's numbers are in their ranges. No claim of its own. -/
namespace Go.Proofs.YtahfcpdekjdceaaDoor.ge
open Go.RowKit
set_option maxRecDepth 20000

/-- the row of the ranges: number, least, most -/
def spl (g : List Int) : List Int := [gb g 0, 7, 64, gb g 1, 4, 32, gb g 2, 32, 4096, gb g 3, 0, 8, gb g 4, 1, 1000, gb g 5, 1, 1000]
/-- the i-th range is kept -/
def kp (g : List Int) (i : Nat) : Bool := decide (gb (spl g) (i * 3 + 1) ≤ gb (spl g) (i * 3)) && decide (gb (spl g) (i * 3) ≤ gb (spl g) (i * 3 + 2))
theorem kept_iff (g : List Int) : Kept g ↔ ∀ i, i < 6 → kp g i = true := by
  constructor
  · rintro ⟨h0, h1, h2, h3, h4, h5⟩ i hi
    have : i = 0 ∨ i = 1 ∨ i = 2 ∨ i = 3 ∨ i = 4 ∨ i = 5 := by omega
    rcases this with rfl | rfl | rfl | rfl | rfl | rfl
    · exact Bool.and_eq_true_iff.2 ⟨decide_eq_true h0.1, decide_eq_true h0.2⟩
    · exact Bool.and_eq_true_iff.2 ⟨decide_eq_true h1.1, decide_eq_true h1.2⟩
    · exact Bool.and_eq_true_iff.2 ⟨decide_eq_true h2.1, decide_eq_true h2.2⟩
    · exact Bool.and_eq_true_iff.2 ⟨decide_eq_true h3.1, decide_eq_true h3.2⟩
    · exact Bool.and_eq_true_iff.2 ⟨decide_eq_true h4.1, decide_eq_true h4.2⟩
    · exact Bool.and_eq_true_iff.2 ⟨decide_eq_true h5.1, decide_eq_true h5.2⟩
  · intro h
    have f : ∀ i, i < 6 → gb (spl g) (i * 3 + 1) ≤ gb (spl g) (i * 3) ∧ gb (spl g) (i * 3) ≤ gb (spl g) (i * 3 + 2) := fun i hi => by
      have := Bool.and_eq_true_iff.1 (h i hi)
      exact ⟨of_decide_eq_true this.1, of_decide_eq_true this.2⟩
    exact ⟨f 0 (by omega), f 1 (by omega), f 2 (by omega), f 3 (by omega), f 4 (by omega), f 5 (by omega)⟩

set_option maxHeartbeats 1000000 in
theorem kept1_any (i b : Nat) (L : List Int) (w : World) (hA : Ar w b 0 .i64 L) (hl : L.length = 18) (hi : i < 6) (t : Bool) (ht : t = (decide (gb L (i * 3 + 1) ≤ gb L (i * 3)) && decide (gb L (i * 3) ≤ gb L (i * 3 + 2)))) :
    Calls Tryd.prog 48 #[.int .i64 i, .pointer (some ⟨b, 0, none⟩)] w fun e w' => e = .returned (.bool t) ∧ ∃ n, w' = w.drewN n := by
  have c0 := hA.cell0 (i * 3) (by omega)
  have c1 := hA.cell0 (i * 3 + 1) (by omega)
  have c2 := hA.cell0 (i * 3 + 2) (by omega)
  have i0 : (0 : Int) ≤ (i : Int) := by omega
  have i1 : (i : Int) < 6 := by omega
  have q1 : IntKind.i64.wrap (i : Int) = i := by rw [IntKind.wrap_i64]; omega
  clear hA hl hi
  generalize gb L (i * 3) = x0 at *
  generalize gb L (i * 3 + 1) = x1 at *
  generalize gb L (i * 3 + 2) = x2 at *
  by_cases h : x1 ≤ x0
  · have hd : decide (x1 ≤ x0) = true := decide_eq_true h
    rw [hd, Bool.true_and] at ht
    subst ht
    clear h
    go_enter Tryd.func48, Tryd.ntmps48
    go_wp2
    go_quiet (fail)
    go_wp2
    go_ret
    exact ⟨rfl, _, rfl⟩
  · have hd : decide (x1 ≤ x0) = false := decide_eq_false h
    rw [hd, Bool.false_and] at ht
    subst ht
    clear h
    go_enter Tryd.func48, Tryd.ntmps48
    go_wp2
    go_quiet (fail)
    go_wp2
    go_ret
    exact ⟨rfl, _, rfl⟩

theorem spl_len (g : List Int) : (spl g).length = 18 := rfl
theorem zero_spans : (Tryd.prog.info? 87).map (fun i => (i.zero, i.size)) = some (some (.agg (ints .i64 (List.replicate 18 0))), (List.replicate 18 (0 : Int)).length) := by kernel_rfl
theorem size_spans : (Tryd.prog.info? 87).map (·.size) = some 18 := by kernel_rfl

theorem kp_more {g : List Int} {k : Nat} (h : ∀ j, j < k → kp g j = true) (h' : kp g k = true) : ∀ j, j < k + 1 → kp g j = true := fun j hj => by
  by_cases e : j < k
  · exact h j e
  · have : j = k := by omega
    subst this; exact h'

set_option maxHeartbeats 2000000 in
theorem kept_any (g : List Int) (w : World) (hl : g.length = 6) (t : Bool) (ht : t = true ↔ Kept g) :
    Calls Tryd.prog 33 #[.agg (ints .i64 g)] w fun x w' => x = .returned (.bool t) ∧ Below w.heap.size w w' := by
  have HT : Hid (t = true ↔ ∀ i, i < 6 → kp g i = true) := ht.trans (kept_iff g)
  have S : Hid (∀ (i b : Nat) (w : World), Ar w b 0 .i64 (spl g) → i < 6 → Calls Tryd.prog 48 #[.int .i64 i, .pointer (some ⟨b, 0, none⟩)] w fun e w' => e = .returned (.bool (kp g i)) ∧ ∃ n, w' = w.drewN n) := fun i b w hA hi => kept1_any i b (spl g) w hA rfl hi _ rfl
  have hmf : ∀ (fn : Fn) (first cap : Array Value) (w : World), (Instr.makeFunc fn first cap).run Tryd.prog w = .ok (.func fn first cap) w := fun _ _ _ _ => rfl
  clear ht
  go_enter Tryd.func33, Tryd.ntmps33
  go_wp2_with (first
    | (refine store_lawF _ rfl (.tmp 3) (.tmp 24) 87 rfl .i64 (List.replicate 18 0) (spl g) _ rfl rfl X2 18 size_spans rfl rfl ?_; intro w3 X3 B3)
    | (refine new_lawF _ rfl 87 rfl .i64 (List.replicate 18 0) zero_spans ?_; intro w2 X2 B2 L2)
    | (refine box_lawF _ rfl (.tmp 0) 23 rfl .i64 g rfl ?_; intro w1 X1 B1 L1; obtain ⟨f0, f1, f2, f3, f4, f5⟩ := geo_cells X1 hl))
  have HB : Hid (Below w.heap.size w w3) := B1.trans ((B2.trans B3).mono (by omega))
  generalize hq : w1.heap.size = c at *
  have hcw : w.heap.size ≤ c := by omega
  clear X1 X2 B1 B2 B3 L1 L2 f0 f1 f2 f3 f4 f5 hq
  go_loopw [26] (fun i wr => ∃ k : Nat, k ≤ 6 ∧ i = .int .i64 k ∧ Hid (∀ j, j < k → kp g j = true) ∧ Hid (Ar wr c 0 .i64 (spl g)) ∧ Hid (Below w.heap.size w wr)) (fun i _ => 6 - (intOf i).toNat)
  case atStart => exact ⟨0, Nat.zero_le _, rfl, (fun j hj => by omega), X3, HB⟩
  case round =>
    obtain ⟨k, hk, rfl, HK, HX, HW⟩ := hrel
    obtain ⟨wa, rfl⟩ : ∃ wx, wx = wr := ⟨_, rfl⟩
    have k0 : (0 : Int) ≤ (k : Int) := by omega
    have q1 : IntKind.i64.wrap (k : Int) = k := by rw [IntKind.wrap_i64]; omega
    by_cases hlt : k < 6
    · have k1 : (k : Int) < 6 := by omega
      by_cases hp : kp g k = true
      · have S1 : Hid (Calls Tryd.prog 48 #[.int .i64 k, .pointer (some ⟨c, 0, none⟩)] wa fun e w' => e = .returned (.bool true) ∧ ∃ n, w' = wa.drewN n) := by
          have := S.out k c wa HX.out hlt
          rwa [hp] at this
        have HP : Hid (kp g k = true) := hp
        clear hp
        go_wp2_with (go_at_call 48; refine S1.out.mono ?_; rintro e wx ⟨rfl, n, hw⟩; obtain rfl := hw.symm)
        go_roundw
        case rel => exact ⟨k + 1, by omega, by go_num, kp_more HK.out HP.out, HX.out.drewN n, below_drewN HW.out n⟩
        case measure => simp [intOf]; omega
      · have S1 : Hid (Calls Tryd.prog 48 #[.int .i64 k, .pointer (some ⟨c, 0, none⟩)] wa fun e w' => e = .returned (.bool false) ∧ ∃ n, w' = wa.drewN n) := by
          have := S.out k c wa HX.out hlt
          rwa [Bool.eq_false_iff.2 hp] at this
        have ht : t = false := Bool.eq_false_iff.2 fun h => hp (HT.out.1 h k hlt)
        subst ht
        clear hp
        go_wp2_with (go_at_call 48; refine S1.out.mono ?_; rintro e wx ⟨rfl, n, hw⟩; obtain rfl := hw.symm)
        go_ret
        exact ⟨rfl, below_drewN HW.out n⟩
    · have hk6 : k = 6 := by omega
      subst hk6
      have ht : t = true := HT.out.2 HK.out
      subst ht
      go_wp2
      go_ret
      exact ⟨rfl, HW.out⟩
end Go.Proofs.YtahfcpdekjdceaaDoor.ge

/- Whether a geometry is right. No claim of its own. -/
namespace Go.Proofs.YtahfcpdekjdceaaDoor.ge
open Go.RowKit
set_option maxRecDepth 20000

section
variable {ops : Array Oper} {C : World → Prop} {K : Act → Prop} {o : Oper} {a : Act}
/-- an operation that is not wanted -/
theorem q_skip (hw : Region.wanted o (yielded ops a.tmps) = false) (d : Option Tmp) (hd : o.dst = d) (hK : K (a.put d undef)) :
    if Region.wanted o (yielded ops a.tmps) = true then o.quiet Tryd.prog a C K else K (a.put o.dst undef) := by
  rw [if_neg (by rw [hw]; simp)]
  subst hd
  exact hK
/-- a struct is read -/
theorem q_loadS (hw : Region.wanted o (yielded ops a.tmps) = true) (d : Option Tmp) (hd : o.dst = d) (x : Operand) (t : TypeId) (hop : o.op = Op.load t x) (p v : Value) (hx : a.eval x = p) (h : ∀ w, C w → (Instr.loadAt t p).run Tryd.prog w = .ok v w) (hK : K (a.put d v)) :
    if Region.wanted o (yielded ops a.tmps) = true then o.quiet Tryd.prog a C K else K (a.put o.dst undef) := by
  refine q_val hw d hd _ (fun w hC => ?_) hK
  unfold execOp
  simp only [hop, hx, Sem.run_bind, Result.andThen_ok, h w hC]
  rfl
end
theorem Hid.mk' {p : Prop} (h : p) : Hid p := h
/-- a geometry's cells in all worlds that come -/
theorem geo_class {w1 : World} {c : Nat} {g : List Int} (h : Ar w1 c 0 .i64 g) (hl : g.length = 6) : ∀ w', Below w1.heap.size w1 w' →
    w'.cell? ⟨c, 0, none⟩ = some (.int .i64 (gb g 0)) ∧ w'.cell? ⟨c, 1, none⟩ = some (.int .i64 (gb g 1)) ∧ w'.cell? ⟨c, 2, none⟩ = some (.int .i64 (gb g 2)) ∧ w'.cell? ⟨c, 3, none⟩ = some (.int .i64 (gb g 3)) ∧
    w'.cell? ⟨c, 4, none⟩ = some (.int .i64 (gb g 4)) ∧ w'.cell? ⟨c, 5, none⟩ = some (.int .i64 (gb g 5)) ∧ (Instr.loadAt 23 (.pointer (some ⟨c, 0, none⟩))).run Tryd.prog w' = .ok (.agg (ints .i64 g)) w' :=
  fun _ hb => by
    have a := h.below hb (h.lt (by omega))
    obtain ⟨f0, f1, f2, f3, f4, f5⟩ := geo_cells a hl
    exact ⟨f0, f1, f2, f3, f4, f5, load_geo a hl⟩
/-- a call that only makes memory, in all worlds that come -/
theorem call_class {f : FuncId} {vs : Array Value} {v : Value} (h : ∀ w, Calls Tryd.prog f vs w fun e w' => e = .returned v ∧ Below w.heap.size w w') (w1 : World) : ∀ w', Below w1.heap.size w1 w' → Calls Tryd.prog f vs w' fun e w'' => e = .returned v ∧ Below w1.heap.size w1 w'' :=
  fun w' hb => (h w').mono fun _ _ h' => ⟨h'.1, hb.trans (h'.2.mono hb.size)⟩

set_option maxHeartbeats 2000000 in
theorem check_k (g : List Int) (w : World) (hl : g.length = 6) (hk : ¬ Kept g) :
    Calls Tryd.prog 20 #[.agg (ints .i64 g)] w fun x w' => x = .returned (.int .i64 2) ∧ Below w.heap.size w w' := by
  have S : Hid (∀ w, Calls Tryd.prog 33 #[.agg (ints .i64 g)] w fun x w' => x = .returned (.bool false) ∧ Below w.heap.size w w') := fun w => kept_any g w hl false (iff_of_false Bool.false_ne_true hk)
  have t0 : (0 : Nat) = 0 := rfl
  clear hk
  go_enter Tryd.func20, Tryd.ntmps20
  go_wp2_with (first
    | (go_at_call 33; refine (S.out _).mono ?_; rintro e w2 ⟨rfl, B2⟩; have HX : Hid (Ar w2 w.heap.size 0 .i64 g) := HX.out.below B2 (by omega); obtain ⟨e0, e1, e2, e3, e4, e5⟩ := geo_cells HX.out hl)
    | (have q1 := HX; refine load_lawS _ (by rfl) _ _ rfl (load_geo HX.out hl) ?_)
    | (have q0 := t0; refine box_lawF _ rfl (.tmp 0) 23 rfl .i64 g rfl ?_; intro w1 X1 B1 L1; have HX : Hid (Ar w1 w.heap.size 0 .i64 g) := X1; obtain ⟨f0, f1, f2, f3, f4, f5⟩ := geo_cells X1 hl; clear X1 t0))
  go_ret
  exact ⟨rfl, B1.trans (B2.mono (by omega))⟩

set_option maxHeartbeats 2000000 in
theorem check_m (g : List Int) (w : World) (hl : g.length = 6) (hk : Kept g) (h16 : gb g 2 % 16 ≠ 0) :
    Calls Tryd.prog 20 #[.agg (ints .i64 g)] w fun x w' => x = .returned (.int .i64 2) ∧ Below w.heap.size w w' := by
  have S : Hid (∀ w, Calls Tryd.prog 33 #[.agg (ints .i64 g)] w fun x w' => x = .returned (.bool true) ∧ Below w.heap.size w w') := fun w => kept_any g w hl true (iff_of_true rfl hk)
  obtain ⟨m, hm⟩ : ∃ m, m = gb g 2 % 16 := ⟨_, rfl⟩
  have q1 : (gb g 2).tmod 16 = m := by rw [hm]; exact Int.tmod_eq_emod_of_nonneg (by obtain ⟨-, -, h, -⟩ := hk; omega)
  have m0 : m ≠ 0 := by omega
  have m1 : IntKind.i64.wrap m = m := by rw [IntKind.wrap_i64]; omega
  have t0 : (0 : Nat) = 0 := rfl
  clear hk h16 hm
  go_enter Tryd.func20, Tryd.ntmps20
  go_wp2_with (first
    | (go_at_call 33; refine (S.out _).mono ?_; rintro e w2 ⟨rfl, B2⟩; have HX : Hid (Ar w2 w.heap.size 0 .i64 g) := HX.out.below B2 (by omega); obtain ⟨e0, e1, e2, e3, e4, e5⟩ := geo_cells HX.out hl)
    | (have q1 := HX; refine load_lawS _ (by rfl) _ _ rfl (load_geo HX.out hl) ?_)
    | (have q0 := t0; refine box_lawF _ rfl (.tmp 0) 23 rfl .i64 g rfl ?_; intro w1 X1 B1 L1; have HX : Hid (Ar w1 w.heap.size 0 .i64 g) := X1; obtain ⟨f0, f1, f2, f3, f4, f5⟩ := geo_cells X1 hl; clear X1 t0))
  go_ret
  exact ⟨rfl, B1.trans (B2.mono (by omega))⟩

set_option maxHeartbeats 2000000 in
theorem check_r (g : List Int) (w : World) (hl : g.length = 6) (hk : Kept g) (h16 : gb g 2 % 16 = 0) (hr : gb g 1 < rec g) :
    Calls Tryd.prog 20 #[.agg (ints .i64 g)] w fun x w' => x = .returned (.int .i64 2) ∧ Below w.heap.size w w' := by
  have S : Hid (∀ w, Calls Tryd.prog 33 #[.agg (ints .i64 g)] w fun x w' => x = .returned (.bool true) ∧ Below w.heap.size w w') := fun w => kept_any g w hl true (iff_of_true rfl hk)
  obtain ⟨m, hm⟩ : ∃ m, m = gb g 2 % 16 := ⟨_, rfl⟩
  have q1 : (gb g 2).tmod 16 = m := by rw [hm]; exact Int.tmod_eq_emod_of_nonneg (by obtain ⟨-, -, h, -⟩ := hk; omega)
  have m0 : m = 0 := by omega
  subst m0
  have SR' : Hid (∀ w, Calls Tryd.prog 34 #[.agg (ints .i64 g)] w fun x w' => x = .returned (.int .i64 (rec g)) ∧ Below w.heap.size w w') := fun w => rec_any g w hl hk
  have SD' : Hid (∀ w, Calls Tryd.prog 35 #[.agg (ints .i64 g)] w fun x w' => x = .returned (.int .i64 (gb g 0 - 4)) ∧ Below w.heap.size w w') := fun w => db_any g w hl hk
  have q2 : IntKind.i64.wrap (gb g 3 + 3) = gb g 3 + 3 := by obtain ⟨-, -, -, h, -⟩ := hk; rw [IntKind.wrap_i64]; omega
  have t0 : (0 : Nat) = 0 := rfl
  clear hk h16 hm
  generalize rec g = z at *
  generalize gb g 0 - 4 = y at *
  go_enter Tryd.func20, Tryd.ntmps20
  go_wp2_with (first
    | (go_at_call 33; refine (S.out _).mono ?_; rintro e w2 ⟨rfl, B2⟩; have HX : Hid (Ar w2 w.heap.size 0 .i64 g) := HX.out.below B2 (by omega); obtain ⟨e0, e1, e2, e3, e4, e5⟩ := geo_cells HX.out hl)
    | (have q1 := HX; refine load_lawS _ (by rfl) _ _ rfl (load_geo HX.out hl) ?_)
    | (have q0 := t0; refine box_lawF _ rfl (.tmp 0) 23 rfl .i64 g rfl ?_; intro w1 X1 B1 L1; have HX : Hid (Ar w1 w.heap.size 0 .i64 g) := X1; obtain ⟨f0, f1, f2, f3, f4, f5⟩ := geo_cells X1 hl; clear X1 t0))
  have SR : Hid (∀ w', Below w2.heap.size w2 w' → Calls Tryd.prog 34 #[.agg (ints .i64 g)] w' fun x w'' => x = .returned (.int .i64 z) ∧ Below w2.heap.size w2 w'') := call_class SR'.out w2
  have SD : Hid (∀ w', Below w2.heap.size w2 w' → Calls Tryd.prog 35 #[.agg (ints .i64 g)] w' fun x w'' => x = .returned (.int .i64 y) ∧ Below w2.heap.size w2 w'') := call_class SD'.out w2
  have GC := Hid.mk' (geo_class HX.out hl)
  refine region_quietC (C := fun w' => Below w2.heap.size w2 w') (by kernel_rfl) (by kernel_rfl) (Below.refl _ _).drew ?_
  refine wpQuiet_step (fun K hK => ?_)
  refine q_loadS (by rfl) (some 12) rfl (.tmp 1) 23 rfl (.pointer (some ⟨w.heap.size, 0, none⟩)) (.agg (ints .i64 g)) rfl (fun w' h => (GC.out w' h).2.2.2.2.2.2) (hK _ ?_)
  simp only [Act.put, List.setIfInBounds_toArray, List.set_cons_zero, List.set_cons_succ]
  clear hK K
  refine wpQuiet_step (fun K hK => ?_)
  refine q_call (by rfl) (some 13) rfl 34 #[.tmp 12] #[23] rfl (fun q w' => by rfl) #[.agg (ints .i64 g)] (by simp only [List.map_toArray, List.map_cons, List.map_nil]; rfl) (.int .i64 z) SR.out (hK _ ?_)
  simp only [Act.put, List.setIfInBounds_toArray, List.set_cons_zero, List.set_cons_succ]
  clear hK K
  refine wpQuiet_step (fun K hK => ?_)
  refine q_val (by rfl) (some 14) rfl (.pointer (some ⟨w.heap.size, 1, none⟩)) (fun w' _ => by go_simp) (hK _ ?_)
  simp only [Act.put, List.setIfInBounds_toArray, List.set_cons_zero, List.set_cons_succ]
  clear hK K
  refine wpQuiet_step (fun K hK => ?_)
  refine q_get (by rfl) (some 15) rfl (.tmp 14) 3 rfl .i64 (gb g 1) w.heap.size (1) rfl Tryd.underlying3 (fun w' h => (GC.out w' h).2.1) (hK _ ?_)
  simp only [Act.put, List.setIfInBounds_toArray, List.set_cons_zero, List.set_cons_succ]
  clear hK K
  refine wpQuiet_step (fun K hK => ?_)
  refine q_val (by rfl) (some 16) rfl (.bool true) (fun w' _ => by go_simp) (hK _ ?_)
  simp only [Act.put, List.setIfInBounds_toArray, List.set_cons_zero, List.set_cons_succ]
  clear hK K
  refine wpQuiet_step (fun K hK => ?_)
  refine q_val (by rfl) (some 17) rfl (.bool true) (fun w' _ => by rfl) (hK _ ?_)
  simp only [Act.put, List.setIfInBounds_toArray, List.set_cons_zero, List.set_cons_succ]
  clear hK K
  refine wpQuiet_step (fun K hK => ?_)
  refine q_skip (by rfl) (some 18) rfl (hK _ ?_)
  simp only [Act.put, List.setIfInBounds_toArray, List.set_cons_zero, List.set_cons_succ]
  clear hK K
  refine wpQuiet_step (fun K hK => ?_)
  refine q_skip (by rfl) (some 19) rfl (hK _ ?_)
  simp only [Act.put, List.setIfInBounds_toArray, List.set_cons_zero, List.set_cons_succ]
  clear hK K
  refine wpQuiet_step (fun K hK => ?_)
  refine q_skip (by rfl) (some 20) rfl (hK _ ?_)
  simp only [Act.put, List.setIfInBounds_toArray, List.set_cons_zero, List.set_cons_succ]
  clear hK K
  refine wpQuiet_step (fun K hK => ?_)
  refine q_skip (by rfl) (some 21) rfl (hK _ ?_)
  simp only [Act.put, List.setIfInBounds_toArray, List.set_cons_zero, List.set_cons_succ]
  clear hK K
  refine wpQuiet_step (fun K hK => ?_)
  refine q_skip (by rfl) (some 22) rfl (hK _ ?_)
  simp only [Act.put, List.setIfInBounds_toArray, List.set_cons_zero, List.set_cons_succ]
  clear hK K
  refine wpQuiet_step (fun K hK => ?_)
  refine q_skip (by rfl) (some 23) rfl (hK _ ?_)
  simp only [Act.put, List.setIfInBounds_toArray, List.set_cons_zero, List.set_cons_succ]
  clear hK K
  refine wpQuiet_step (fun K hK => ?_)
  refine q_val (by rfl) (some 24) rfl (.bool true) (fun w' _ => by rfl) (hK _ ?_)
  simp only [Act.put, List.setIfInBounds_toArray, List.set_cons_zero, List.set_cons_succ]
  clear hK K
  refine wpQuiet_nil ?_
  intro w3 B3
  go_wp2
  go_ret
  exact ⟨rfl, B1.trans ((B2.mono (by omega)).trans (B3.mono (by have := B2.size; omega)))⟩

set_option maxHeartbeats 2000000 in
theorem check_s (g : List Int) (w : World) (hl : g.length = 6) (hk : Kept g) (h16 : gb g 2 % 16 = 0) (hr : rec g ≤ gb g 1) (hs : gb g 0 - 4 < gb g 3 + 3) :
    Calls Tryd.prog 20 #[.agg (ints .i64 g)] w fun x w' => x = .returned (.int .i64 2) ∧ Below w.heap.size w w' := by
  have S : Hid (∀ w, Calls Tryd.prog 33 #[.agg (ints .i64 g)] w fun x w' => x = .returned (.bool true) ∧ Below w.heap.size w w') := fun w => kept_any g w hl true (iff_of_true rfl hk)
  obtain ⟨m, hm⟩ : ∃ m, m = gb g 2 % 16 := ⟨_, rfl⟩
  have q1 : (gb g 2).tmod 16 = m := by rw [hm]; exact Int.tmod_eq_emod_of_nonneg (by obtain ⟨-, -, h, -⟩ := hk; omega)
  have m0 : m = 0 := by omega
  subst m0
  have SR' : Hid (∀ w, Calls Tryd.prog 34 #[.agg (ints .i64 g)] w fun x w' => x = .returned (.int .i64 (rec g)) ∧ Below w.heap.size w w') := fun w => rec_any g w hl hk
  have SD' : Hid (∀ w, Calls Tryd.prog 35 #[.agg (ints .i64 g)] w fun x w' => x = .returned (.int .i64 (gb g 0 - 4)) ∧ Below w.heap.size w w') := fun w => db_any g w hl hk
  have q2 : IntKind.i64.wrap (gb g 3 + 3) = gb g 3 + 3 := by obtain ⟨-, -, -, h, -⟩ := hk; rw [IntKind.wrap_i64]; omega
  have t0 : (0 : Nat) = 0 := rfl
  clear hk h16 hm
  generalize rec g = z at *
  generalize gb g 0 - 4 = y at *
  go_enter Tryd.func20, Tryd.ntmps20
  go_wp2_with (first
    | (go_at_call 33; refine (S.out _).mono ?_; rintro e w2 ⟨rfl, B2⟩; have HX : Hid (Ar w2 w.heap.size 0 .i64 g) := HX.out.below B2 (by omega); obtain ⟨e0, e1, e2, e3, e4, e5⟩ := geo_cells HX.out hl)
    | (have q1 := HX; refine load_lawS _ (by rfl) _ _ rfl (load_geo HX.out hl) ?_)
    | (have q0 := t0; refine box_lawF _ rfl (.tmp 0) 23 rfl .i64 g rfl ?_; intro w1 X1 B1 L1; have HX : Hid (Ar w1 w.heap.size 0 .i64 g) := X1; obtain ⟨f0, f1, f2, f3, f4, f5⟩ := geo_cells X1 hl; clear X1 t0))
  have SR : Hid (∀ w', Below w2.heap.size w2 w' → Calls Tryd.prog 34 #[.agg (ints .i64 g)] w' fun x w'' => x = .returned (.int .i64 z) ∧ Below w2.heap.size w2 w'') := call_class SR'.out w2
  have SD : Hid (∀ w', Below w2.heap.size w2 w' → Calls Tryd.prog 35 #[.agg (ints .i64 g)] w' fun x w'' => x = .returned (.int .i64 y) ∧ Below w2.heap.size w2 w'') := call_class SD'.out w2
  have GC := Hid.mk' (geo_class HX.out hl)
  refine region_quietC (C := fun w' => Below w2.heap.size w2 w') (by kernel_rfl) (by kernel_rfl) (Below.refl _ _).drew ?_
  refine wpQuiet_step (fun K hK => ?_)
  refine q_loadS (by rfl) (some 12) rfl (.tmp 1) 23 rfl (.pointer (some ⟨w.heap.size, 0, none⟩)) (.agg (ints .i64 g)) rfl (fun w' h => (GC.out w' h).2.2.2.2.2.2) (hK _ ?_)
  simp only [Act.put, List.setIfInBounds_toArray, List.set_cons_zero, List.set_cons_succ]
  clear hK K
  refine wpQuiet_step (fun K hK => ?_)
  refine q_call (by rfl) (some 13) rfl 34 #[.tmp 12] #[23] rfl (fun q w' => by rfl) #[.agg (ints .i64 g)] (by simp only [List.map_toArray, List.map_cons, List.map_nil]; rfl) (.int .i64 z) SR.out (hK _ ?_)
  simp only [Act.put, List.setIfInBounds_toArray, List.set_cons_zero, List.set_cons_succ]
  clear hK K
  refine wpQuiet_step (fun K hK => ?_)
  refine q_val (by rfl) (some 14) rfl (.pointer (some ⟨w.heap.size, 1, none⟩)) (fun w' _ => by go_simp) (hK _ ?_)
  simp only [Act.put, List.setIfInBounds_toArray, List.set_cons_zero, List.set_cons_succ]
  clear hK K
  refine wpQuiet_step (fun K hK => ?_)
  refine q_get (by rfl) (some 15) rfl (.tmp 14) 3 rfl .i64 (gb g 1) w.heap.size (1) rfl Tryd.underlying3 (fun w' h => (GC.out w' h).2.1) (hK _ ?_)
  simp only [Act.put, List.setIfInBounds_toArray, List.set_cons_zero, List.set_cons_succ]
  clear hK K
  refine wpQuiet_step (fun K hK => ?_)
  refine q_val (by rfl) (some 16) rfl (.bool false) (fun w' _ => by go_simp) (hK _ ?_)
  simp only [Act.put, List.setIfInBounds_toArray, List.set_cons_zero, List.set_cons_succ]
  clear hK K
  refine wpQuiet_step (fun K hK => ?_)
  refine q_val (by rfl) (some 17) rfl (.bool false) (fun w' _ => by rfl) (hK _ ?_)
  simp only [Act.put, List.setIfInBounds_toArray, List.set_cons_zero, List.set_cons_succ]
  clear hK K
  refine wpQuiet_step (fun K hK => ?_)
  refine q_loadS (by rfl) (some 18) rfl (.tmp 1) 23 rfl (.pointer (some ⟨w.heap.size, 0, none⟩)) (.agg (ints .i64 g)) rfl (fun w' h => (GC.out w' h).2.2.2.2.2.2) (hK _ ?_)
  simp only [Act.put, List.setIfInBounds_toArray, List.set_cons_zero, List.set_cons_succ]
  clear hK K
  refine wpQuiet_step (fun K hK => ?_)
  refine q_call (by rfl) (some 19) rfl 35 #[.tmp 18] #[23] rfl (fun q w' => by rfl) #[.agg (ints .i64 g)] (by simp only [List.map_toArray, List.map_cons, List.map_nil]; rfl) (.int .i64 y) SD.out (hK _ ?_)
  simp only [Act.put, List.setIfInBounds_toArray, List.set_cons_zero, List.set_cons_succ]
  clear hK K
  refine wpQuiet_step (fun K hK => ?_)
  refine q_val (by rfl) (some 20) rfl (.pointer (some ⟨w.heap.size, 3, none⟩)) (fun w' _ => by go_simp) (hK _ ?_)
  simp only [Act.put, List.setIfInBounds_toArray, List.set_cons_zero, List.set_cons_succ]
  clear hK K
  refine wpQuiet_step (fun K hK => ?_)
  refine q_get (by rfl) (some 21) rfl (.tmp 20) 3 rfl .i64 (gb g 3) w.heap.size (3) rfl Tryd.underlying3 (fun w' h => (GC.out w' h).2.2.2.1) (hK _ ?_)
  simp only [Act.put, List.setIfInBounds_toArray, List.set_cons_zero, List.set_cons_succ]
  clear hK K
  refine wpQuiet_step (fun K hK => ?_)
  refine q_val (by rfl) (some 22) rfl (.int .i64 (gb g 3 + 3)) (fun w' _ => by go_simp) (hK _ ?_)
  simp only [Act.put, List.setIfInBounds_toArray, List.set_cons_zero, List.set_cons_succ]
  clear hK K
  refine wpQuiet_step (fun K hK => ?_)
  refine q_val (by rfl) (some 23) rfl (.bool true) (fun w' _ => by go_simp) (hK _ ?_)
  simp only [Act.put, List.setIfInBounds_toArray, List.set_cons_zero, List.set_cons_succ]
  clear hK K
  refine wpQuiet_step (fun K hK => ?_)
  refine q_val (by rfl) (some 24) rfl (.bool true) (fun w' _ => by rfl) (hK _ ?_)
  simp only [Act.put, List.setIfInBounds_toArray, List.set_cons_zero, List.set_cons_succ]
  clear hK K
  refine wpQuiet_nil ?_
  intro w3 B3
  go_wp2
  go_ret
  exact ⟨rfl, B1.trans ((B2.mono (by omega)).trans (B3.mono (by have := B2.size; omega)))⟩

set_option maxHeartbeats 2000000 in
theorem check_o (g : List Int) (w : World) (hl : g.length = 6) (hk : Kept g) (h16 : gb g 2 % 16 = 0) (hr : rec g ≤ gb g 1) (hs : gb g 3 + 3 ≤ gb g 0 - 4) :
    Calls Tryd.prog 20 #[.agg (ints .i64 g)] w fun x w' => x = .returned (.int .i64 0) ∧ Below w.heap.size w w' := by
  have S : Hid (∀ w, Calls Tryd.prog 33 #[.agg (ints .i64 g)] w fun x w' => x = .returned (.bool true) ∧ Below w.heap.size w w') := fun w => kept_any g w hl true (iff_of_true rfl hk)
  obtain ⟨m, hm⟩ : ∃ m, m = gb g 2 % 16 := ⟨_, rfl⟩
  have q1 : (gb g 2).tmod 16 = m := by rw [hm]; exact Int.tmod_eq_emod_of_nonneg (by obtain ⟨-, -, h, -⟩ := hk; omega)
  have m0 : m = 0 := by omega
  subst m0
  have SR' : Hid (∀ w, Calls Tryd.prog 34 #[.agg (ints .i64 g)] w fun x w' => x = .returned (.int .i64 (rec g)) ∧ Below w.heap.size w w') := fun w => rec_any g w hl hk
  have SD' : Hid (∀ w, Calls Tryd.prog 35 #[.agg (ints .i64 g)] w fun x w' => x = .returned (.int .i64 (gb g 0 - 4)) ∧ Below w.heap.size w w') := fun w => db_any g w hl hk
  have q2 : IntKind.i64.wrap (gb g 3 + 3) = gb g 3 + 3 := by obtain ⟨-, -, -, h, -⟩ := hk; rw [IntKind.wrap_i64]; omega
  have t0 : (0 : Nat) = 0 := rfl
  clear hk h16 hm
  generalize rec g = z at *
  generalize gb g 0 - 4 = y at *
  go_enter Tryd.func20, Tryd.ntmps20
  go_wp2_with (first
    | (go_at_call 33; refine (S.out _).mono ?_; rintro e w2 ⟨rfl, B2⟩; have HX : Hid (Ar w2 w.heap.size 0 .i64 g) := HX.out.below B2 (by omega); obtain ⟨e0, e1, e2, e3, e4, e5⟩ := geo_cells HX.out hl)
    | (have q1 := HX; refine load_lawS _ (by rfl) _ _ rfl (load_geo HX.out hl) ?_)
    | (have q0 := t0; refine box_lawF _ rfl (.tmp 0) 23 rfl .i64 g rfl ?_; intro w1 X1 B1 L1; have HX : Hid (Ar w1 w.heap.size 0 .i64 g) := X1; obtain ⟨f0, f1, f2, f3, f4, f5⟩ := geo_cells X1 hl; clear X1 t0))
  have SR : Hid (∀ w', Below w2.heap.size w2 w' → Calls Tryd.prog 34 #[.agg (ints .i64 g)] w' fun x w'' => x = .returned (.int .i64 z) ∧ Below w2.heap.size w2 w'') := call_class SR'.out w2
  have SD : Hid (∀ w', Below w2.heap.size w2 w' → Calls Tryd.prog 35 #[.agg (ints .i64 g)] w' fun x w'' => x = .returned (.int .i64 y) ∧ Below w2.heap.size w2 w'') := call_class SD'.out w2
  have GC := Hid.mk' (geo_class HX.out hl)
  refine region_quietC (C := fun w' => Below w2.heap.size w2 w') (by kernel_rfl) (by kernel_rfl) (Below.refl _ _).drew ?_
  refine wpQuiet_step (fun K hK => ?_)
  refine q_loadS (by rfl) (some 12) rfl (.tmp 1) 23 rfl (.pointer (some ⟨w.heap.size, 0, none⟩)) (.agg (ints .i64 g)) rfl (fun w' h => (GC.out w' h).2.2.2.2.2.2) (hK _ ?_)
  simp only [Act.put, List.setIfInBounds_toArray, List.set_cons_zero, List.set_cons_succ]
  clear hK K
  refine wpQuiet_step (fun K hK => ?_)
  refine q_call (by rfl) (some 13) rfl 34 #[.tmp 12] #[23] rfl (fun q w' => by rfl) #[.agg (ints .i64 g)] (by simp only [List.map_toArray, List.map_cons, List.map_nil]; rfl) (.int .i64 z) SR.out (hK _ ?_)
  simp only [Act.put, List.setIfInBounds_toArray, List.set_cons_zero, List.set_cons_succ]
  clear hK K
  refine wpQuiet_step (fun K hK => ?_)
  refine q_val (by rfl) (some 14) rfl (.pointer (some ⟨w.heap.size, 1, none⟩)) (fun w' _ => by go_simp) (hK _ ?_)
  simp only [Act.put, List.setIfInBounds_toArray, List.set_cons_zero, List.set_cons_succ]
  clear hK K
  refine wpQuiet_step (fun K hK => ?_)
  refine q_get (by rfl) (some 15) rfl (.tmp 14) 3 rfl .i64 (gb g 1) w.heap.size (1) rfl Tryd.underlying3 (fun w' h => (GC.out w' h).2.1) (hK _ ?_)
  simp only [Act.put, List.setIfInBounds_toArray, List.set_cons_zero, List.set_cons_succ]
  clear hK K
  refine wpQuiet_step (fun K hK => ?_)
  refine q_val (by rfl) (some 16) rfl (.bool false) (fun w' _ => by go_simp) (hK _ ?_)
  simp only [Act.put, List.setIfInBounds_toArray, List.set_cons_zero, List.set_cons_succ]
  clear hK K
  refine wpQuiet_step (fun K hK => ?_)
  refine q_val (by rfl) (some 17) rfl (.bool false) (fun w' _ => by rfl) (hK _ ?_)
  simp only [Act.put, List.setIfInBounds_toArray, List.set_cons_zero, List.set_cons_succ]
  clear hK K
  refine wpQuiet_step (fun K hK => ?_)
  refine q_loadS (by rfl) (some 18) rfl (.tmp 1) 23 rfl (.pointer (some ⟨w.heap.size, 0, none⟩)) (.agg (ints .i64 g)) rfl (fun w' h => (GC.out w' h).2.2.2.2.2.2) (hK _ ?_)
  simp only [Act.put, List.setIfInBounds_toArray, List.set_cons_zero, List.set_cons_succ]
  clear hK K
  refine wpQuiet_step (fun K hK => ?_)
  refine q_call (by rfl) (some 19) rfl 35 #[.tmp 18] #[23] rfl (fun q w' => by rfl) #[.agg (ints .i64 g)] (by simp only [List.map_toArray, List.map_cons, List.map_nil]; rfl) (.int .i64 y) SD.out (hK _ ?_)
  simp only [Act.put, List.setIfInBounds_toArray, List.set_cons_zero, List.set_cons_succ]
  clear hK K
  refine wpQuiet_step (fun K hK => ?_)
  refine q_val (by rfl) (some 20) rfl (.pointer (some ⟨w.heap.size, 3, none⟩)) (fun w' _ => by go_simp) (hK _ ?_)
  simp only [Act.put, List.setIfInBounds_toArray, List.set_cons_zero, List.set_cons_succ]
  clear hK K
  refine wpQuiet_step (fun K hK => ?_)
  refine q_get (by rfl) (some 21) rfl (.tmp 20) 3 rfl .i64 (gb g 3) w.heap.size (3) rfl Tryd.underlying3 (fun w' h => (GC.out w' h).2.2.2.1) (hK _ ?_)
  simp only [Act.put, List.setIfInBounds_toArray, List.set_cons_zero, List.set_cons_succ]
  clear hK K
  refine wpQuiet_step (fun K hK => ?_)
  refine q_val (by rfl) (some 22) rfl (.int .i64 (gb g 3 + 3)) (fun w' _ => by go_simp) (hK _ ?_)
  simp only [Act.put, List.setIfInBounds_toArray, List.set_cons_zero, List.set_cons_succ]
  clear hK K
  refine wpQuiet_step (fun K hK => ?_)
  refine q_val (by rfl) (some 23) rfl (.bool false) (fun w' _ => by go_simp) (hK _ ?_)
  simp only [Act.put, List.setIfInBounds_toArray, List.set_cons_zero, List.set_cons_succ]
  clear hK K
  refine wpQuiet_step (fun K hK => ?_)
  refine q_val (by rfl) (some 24) rfl (.bool false) (fun w' _ => by rfl) (hK _ ?_)
  simp only [Act.put, List.setIfInBounds_toArray, List.set_cons_zero, List.set_cons_succ]
  clear hK K
  refine wpQuiet_nil ?_
  intro w3 B3
  go_wp2
  go_ret
  exact ⟨rfl, B1.trans ((B2.mono (by omega)).trans (B3.mono (by have := B2.size; omega)))⟩

theorem check_yes (g : List Int) (hl : g.length = 6) (h : Rt g) (w : World) :
    Calls Tryd.prog 20 #[.agg (ints .i64 g)] w fun x w' => x = .returned (.int .i64 0) ∧ Below w.heap.size w w' := check_o g w hl h.1 h.2.1 h.2.2.1 h.2.2.2
theorem check_no (g : List Int) (hl : g.length = 6) (h : ¬ Rt g) (w : World) :
    Calls Tryd.prog 20 #[.agg (ints .i64 g)] w fun x w' => x = .returned (.int .i64 2) ∧ Below w.heap.size w w' := by
  by_cases hk : Kept g
  · by_cases h1 : gb g 2 % 16 = 0
    · by_cases h2 : rec g ≤ gb g 1
      · exact check_s g w hl hk h1 h2 (Int.not_le.1 fun h3 => h ⟨hk, h1, h2, h3⟩)
      · exact check_r g w hl hk h1 (Int.not_le.1 h2)
    · exact check_m g w hl hk h1
  · exact check_k g w hl hk
end Go.Proofs.YtahfcpdekjdceaaDoor.ge

/- What geometry's calls answer, of a geometry that is right and of one that is not. No claim of its own. -/
namespace Go.Proofs.YtahfcpdekjdceaaDoor.ge
open Go.RowKit
set_option maxRecDepth 20000

set_option maxHeartbeats 1000000 in
theorem psize_no (g : List Int) (hl : g.length = 6) (h : ¬ Rt g) (w : World) :
    Calls Tryd.prog 41 #[.agg (ints .i64 g)] w fun x w' => x = .returned (.int .i64 0) ∧ Below w.heap.size w w' := by
  have S : Hid (∀ w, Calls Tryd.prog 20 #[.agg (ints .i64 g)] w fun x w' => x = .returned (.int .i64 2) ∧ Below w.heap.size w w') := check_no g hl h
  clear h
  have t0 : (0 : Nat) = 0 := rfl
  go_enter Tryd.func41, Tryd.ntmps41
  go_wp2_with (first
    | (have q1 := t1; go_at_call 20; refine (S.out _).mono ?_; rintro e w2 ⟨rfl, B2⟩; have HX : Hid (Ar w2 w.heap.size 0 .i64 g) := HX.out.below B2 (HX.out.lt (by omega)); obtain ⟨e0, e1, e2, e3, e4, e5⟩ := geo_cells HX.out hl; have BB : Hid (Below w.heap.size w w2) := BB.out.trans (B2.mono BB.out.size); have t2 : (0 : Nat) = 0 := rfl; clear B2 t1)
    | (have q1 := HX; refine load_lawS _ (by rfl) _ _ rfl (load_geo HX.out hl) ?_)
    | (have q0 := t0; refine box_lawF _ rfl (.tmp 0) 23 rfl .i64 g rfl ?_; intro w1 X1 B1 L1; have HX : Hid (Ar w1 w.heap.size 0 .i64 g) := X1; obtain ⟨f0, f1, f2, f3, f4, f5⟩ := geo_cells X1 hl; have BB : Hid (Below w.heap.size w w1) := B1; have t1 : (0 : Nat) = 0 := rfl; clear X1 t0 B1))
  go_ret
  exact ⟨rfl, BB.out⟩

set_option maxHeartbeats 1000000 in
theorem psize_yes (g : List Int) (hl : g.length = 6) (h : Rt g) (w : World) :
    Calls Tryd.prog 41 #[.agg (ints .i64 g)] w fun x w' => x = .returned (.int .i64 (gb g 2 + 88)) ∧ Below w.heap.size w w' := by
  have S : Hid (∀ w, Calls Tryd.prog 20 #[.agg (ints .i64 g)] w fun x w' => x = .returned (.int .i64 0) ∧ Below w.heap.size w w') := check_yes g hl h
  have q1 : IntKind.i64.wrap (gb g 2 + 88) = gb g 2 + 88 := by obtain ⟨⟨-, -, h, -⟩, -⟩ := h; rw [IntKind.wrap_i64]; omega
  clear h
  have t0 : (0 : Nat) = 0 := rfl
  go_enter Tryd.func41, Tryd.ntmps41
  go_wp2_with (first
    | (have q1 := t1; go_at_call 20; refine (S.out _).mono ?_; rintro e w2 ⟨rfl, B2⟩; have HX : Hid (Ar w2 w.heap.size 0 .i64 g) := HX.out.below B2 (HX.out.lt (by omega)); obtain ⟨e0, e1, e2, e3, e4, e5⟩ := geo_cells HX.out hl; have BB : Hid (Below w.heap.size w w2) := BB.out.trans (B2.mono BB.out.size); have t2 : (0 : Nat) = 0 := rfl; clear B2 t1)
    | (have q1 := HX; refine load_lawS _ (by rfl) _ _ rfl (load_geo HX.out hl) ?_)
    | (have q0 := t0; refine box_lawF _ rfl (.tmp 0) 23 rfl .i64 g rfl ?_; intro w1 X1 B1 L1; have HX : Hid (Ar w1 w.heap.size 0 .i64 g) := X1; obtain ⟨f0, f1, f2, f3, f4, f5⟩ := geo_cells X1 hl; have BB : Hid (Below w.heap.size w w1) := B1; have t1 : (0 : Nat) = 0 := rfl; clear X1 t0 B1))
  go_ret
  exact ⟨rfl, BB.out⟩

set_option maxHeartbeats 1000000 in
theorem chunks_no (g : List Int) (hl : g.length = 6) (h : ¬ Rt g) (w : World) :
    Calls Tryd.prog 29 #[.agg (ints .i64 g)] w fun x w' => x = .returned (.int .i64 0) ∧ Below w.heap.size w w' := by
  have S : Hid (∀ w, Calls Tryd.prog 20 #[.agg (ints .i64 g)] w fun x w' => x = .returned (.int .i64 2) ∧ Below w.heap.size w w') := check_no g hl h
  clear h
  have t0 : (0 : Nat) = 0 := rfl
  go_enter Tryd.func29, Tryd.ntmps29
  go_wp2_with (first
    | (have q1 := t1; go_at_call 20; refine (S.out _).mono ?_; rintro e w2 ⟨rfl, B2⟩; have HX : Hid (Ar w2 w.heap.size 0 .i64 g) := HX.out.below B2 (HX.out.lt (by omega)); obtain ⟨e0, e1, e2, e3, e4, e5⟩ := geo_cells HX.out hl; have BB : Hid (Below w.heap.size w w2) := BB.out.trans (B2.mono BB.out.size); have t2 : (0 : Nat) = 0 := rfl; clear B2 t1)
    | (have q1 := HX; refine load_lawS _ (by rfl) _ _ rfl (load_geo HX.out hl) ?_)
    | (have q0 := t0; refine box_lawF _ rfl (.tmp 0) 23 rfl .i64 g rfl ?_; intro w1 X1 B1 L1; have HX : Hid (Ar w1 w.heap.size 0 .i64 g) := X1; obtain ⟨f0, f1, f2, f3, f4, f5⟩ := geo_cells X1 hl; have BB : Hid (Below w.heap.size w w1) := B1; have t1 : (0 : Nat) = 0 := rfl; clear X1 t0 B1))
  go_ret
  exact ⟨rfl, BB.out⟩

set_option maxHeartbeats 1000000 in
theorem chunks_yes (g : List Int) (hl : g.length = 6) (h : Rt g) (w : World) :
    Calls Tryd.prog 29 #[.agg (ints .i64 g)] w fun x w' => x = .returned (.int .i64 (rec g)) ∧ Below w.heap.size w w' := by
  have S : Hid (∀ w, Calls Tryd.prog 20 #[.agg (ints .i64 g)] w fun x w' => x = .returned (.int .i64 0) ∧ Below w.heap.size w w') := check_yes g hl h
  have S2 : Hid (∀ w, Calls Tryd.prog 34 #[.agg (ints .i64 g)] w fun x w' => x = .returned (.int .i64 (rec g)) ∧ Below w.heap.size w w') := fun w => rec_any g w hl h.1
  generalize rec g = z at *
  clear h
  have t0 : (0 : Nat) = 0 := rfl
  go_enter Tryd.func29, Tryd.ntmps29
  go_wp2_with (first
    | (have q2 := t2; go_at_call 34; refine (S2.out _).mono ?_; rintro e w3 ⟨rfl, B3⟩; have HX : Hid (Ar w3 w.heap.size 0 .i64 g) := HX.out.below B3 (HX.out.lt (by omega)); obtain ⟨e0, e1, e2, e3, e4, e5⟩ := geo_cells HX.out hl; have BB : Hid (Below w.heap.size w w3) := BB.out.trans (B3.mono BB.out.size); have t3 : (0 : Nat) = 0 := rfl; clear B3 t2)
    | (have q1 := t1; go_at_call 20; refine (S.out _).mono ?_; rintro e w2 ⟨rfl, B2⟩; have HX : Hid (Ar w2 w.heap.size 0 .i64 g) := HX.out.below B2 (HX.out.lt (by omega)); obtain ⟨e0, e1, e2, e3, e4, e5⟩ := geo_cells HX.out hl; have BB : Hid (Below w.heap.size w w2) := BB.out.trans (B2.mono BB.out.size); have t2 : (0 : Nat) = 0 := rfl; clear B2 t1)
    | (have q1 := HX; refine load_lawS _ (by rfl) _ _ rfl (load_geo HX.out hl) ?_)
    | (have q0 := t0; refine box_lawF _ rfl (.tmp 0) 23 rfl .i64 g rfl ?_; intro w1 X1 B1 L1; have HX : Hid (Ar w1 w.heap.size 0 .i64 g) := X1; obtain ⟨f0, f1, f2, f3, f4, f5⟩ := geo_cells X1 hl; have BB : Hid (Below w.heap.size w w1) := B1; have t1 : (0 : Nat) = 0 := rfl; clear X1 t0 B1))
  go_ret
  exact ⟨rfl, BB.out⟩

theorem bound_wraps {g : List Int} (h : Rt g) : wrap64 (wrap64 (wrap64 (wrap64 (40 * gb g 0) * gb g 0) * gb g 1) * gb g 1) = 40 * gb g 0 * gb g 0 * gb g 1 * gb g 1 := by
  obtain ⟨⟨h0, h1, -⟩, -⟩ := h
  generalize gb g 0 = b at *
  generalize gb g 1 = p at *
  have a0 : 0 ≤ 40 * b * b := Int.mul_nonneg (by omega) (by omega)
  have a1 : 40 * b * b ≤ 40 * 64 * 64 := Int.mul_le_mul (by omega) (by omega) (by omega) (by omega)
  have b0 : 0 ≤ 40 * b * b * p := Int.mul_nonneg (by omega) (by omega)
  have b1 : 40 * b * b * p ≤ 40 * 64 * 64 * 32 := Int.mul_le_mul a1 (by omega) (by omega) (by omega)
  have c0 : 0 ≤ 40 * b * b * p * p := Int.mul_nonneg (by omega) (by omega)
  have c1 : 40 * b * b * p * p ≤ 40 * 64 * 64 * 32 * 32 := Int.mul_le_mul b1 (by omega) (by omega) (by omega)
  have W : ∀ x : Int, 0 ≤ x → x ≤ 40 * 64 * 64 * 32 * 32 → wrap64 x = x := fun x h1 h2 => by
    unfold wrap64
    omega
  rw [W (40 * b) (by omega) (by omega), W (40 * b * b) a0 (by omega), W (40 * b * b * p) b0 (by omega), W _ c0 c1]
end Go.Proofs.YtahfcpdekjdceaaDoor.ge

/- What the reference's counts answer: how many sectors a record takes, a quota. No claim of its own. -/
namespace Go.Proofs.YtahfcpdekjdceaaDoor.ge
open Go.RowKit
set_option maxRecDepth 20000

theorem div_count (u s n : Nat) (hu : 0 < u) (h1 : s ≤ n * u) (h2 : ∀ m, m < n → m * u < s) : ((s : Int) + (u : Int) - 1) / (u : Int) = (n : Int) := by
  have := qt_count u s n hu h1 h2
  unfold qt at this
  have e : ((s : Int) + (u : Int) - 1) = ((s + u - 1 : Nat) : Int) := by omega
  rw [e, ← Int.natCast_ediv]
  omega
/-- a quota, as geometry reckons it -/
theorem qt_int (u s : Nat) (hu : 0 < u) : ((s : Int) + (u : Int) - 1) / (u : Int) + 2 = ((qt u s : Nat) : Int) := by
  unfold qt
  have e : ((s : Int) + (u : Int) - 1) = ((s + u - 1 : Nat) : Int) := by omega
  rw [e, ← Int.natCast_ediv]
  omega
theorem qt_small (u s : Nat) (hu : 0 < u) (hs : s ≤ 65535) : qt u s ≤ 65537 := (qt_le u s 65535 hu).2 (Nat.le_trans hs (Nat.le_mul_of_pos_right _ hu))
theorem more_count {u s k : Nat} (h : ∀ m, m < k → m * u < s) (h' : k * u < s) : ∀ m, m < k + 1 → m * u < s := fun m hm => by
  by_cases e : m < k
  · exact h m e
  · have : m = k := by omega
    subst this; exact h'

set_option maxHeartbeats 2000000 in
theorem rchunks_any (g : List Int) (hl : g.length = 6) (hk : Kept g) (w : World) :
    Calls Tryd.prog 25 #[.agg (ints .i64 g)] w fun x w' => x = .returned (.int .i64 (rec g)) ∧ Below w.heap.size w w' := by
  obtain ⟨u, hu⟩ : ∃ u : Nat, gb g 2 = (u : Int) := ⟨(gb g 2).toNat, by obtain ⟨-, -, h, -⟩ := hk; omega⟩
  have hu1 : 32 ≤ u ∧ u ≤ 4096 := by obtain ⟨-, -, h, -⟩ := hk; omega
  have HR : Hid (∀ n : Nat, 624 ≤ n * u → (∀ m, m < n → m * u < 624) → rec g = (n : Int)) := fun n h1 h2 => by
    unfold rec; rw [hu]; exact div_count u 624 n (by omega) h1 h2
  clear hk
  generalize rec g = z at *
  go_enter Tryd.func25, Tryd.ntmps25
  go_wp2_with (refine box_lawF _ rfl (.tmp 0) 23 rfl .i64 g rfl ?_; intro w1 X1 B1 L1; obtain ⟨f0, f1, f2, f3, f4, f5⟩ := geo_cells X1 hl)
  have c2 : w1.cell? ⟨w.heap.size, 2, none⟩ = some (.int .i64 (u : Int)) := by rw [f2, hu]
  clear f0 f1 f2 f3 f4 f5 X1 hu
  go_loopw [3] (fun i wr => ∃ k : Nat, k ≤ 20 ∧ i = .int .i64 k ∧ Hid (∀ m, m < k → m * u < 624) ∧ wr = w1) (fun i _ => 20 - (intOf i).toNat)
  case atStart => exact ⟨0, Nat.zero_le _, rfl, (fun j hj => by omega), rfl⟩
  case round =>
    obtain ⟨k, hk, rfl, HK, rfl⟩ := hrel
    have k0 : (0 : Int) ≤ (k : Int) := by omega
    have q1 : IntKind.i64.wrap (k : Int) = k := by rw [IntKind.wrap_i64]; omega
    obtain ⟨m, hm⟩ : ∃ m : Nat, m = k * u := ⟨_, rfl⟩
    have hm1 : m ≤ 81920 := by rw [hm]; exact Nat.le_trans (Nat.mul_le_mul hk hu1.2) (by omega)
    have qm : (k : Int) * (u : Int) = (m : Int) := by rw [hm]; simp
    have HM : Hid (m = k * u) := hm
    have h20 : Hid (640 ≤ 20 * u) := by show _ ≤ _; omega
    clear hm
    by_cases hlt : m < 624
    · have k1 : (m : Int) < 624 := by omega
      have hk20 : k < 20 := by
        rcases Nat.lt_or_ge k 20 with h | h
        · exact h
        · have : k = 20 := by omega
          subst this
          have := HM.out; have := h20.out; omega
      have HN : Hid (∀ m, m < k + 1 → m * u < 624) := more_count HK.out (by rw [← HM.out]; exact hlt)
      go_wp2
      go_roundw
      case rel => exact ⟨k + 1, by omega, by go_num, HN, by simp⟩
      case measure => simp [intOf]; omega
    · have k1 : ¬ (m : Int) < 624 := by omega
      have hz := HR.out k (by rw [← HM.out]; omega) HK.out
      subst hz
      go_wp2
      go_ret
      exact ⟨rfl, B1⟩
end Go.Proofs.YtahfcpdekjdceaaDoor.ge

